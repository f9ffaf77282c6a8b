/- Laying a list into an Enc. -/
import Derived.Test.YtjcfndiceinkjabDoorOL1
namespace Go.Proofs.YtjcfndiceinkjabDoor
set_option linter.unusedVariables false
set_option linter.unusedSimpArgs false
open Go.RowKit

theorem wrapu_nat (n : Nat) (h : n ≤ 9223372036854775807) : IntKind.u64.wrap (n : Int) = (n : Int) := by rw [IntKind.wrap_u64]; omega
theorem flat_succ {α : Type} (f : α → List UInt8) (L : List α) (k : Nat) (h : k < L.length) : ((L.take (k + 1)).map f).flatten = ((L.take k).map f).flatten ++ f L[k] := by
  rw [List.take_succ_eq_append_getElem h, List.map_append, List.flatten_append]
  simp
theorem flat_le {α : Type} (f : α → List UInt8) (c : Nat) (L : List α) (hf : ∀ a ∈ L, (f a).length ≤ c) : (L.map f).flatten.length ≤ L.length * c := by
  induction L with
  | nil => simp
  | cons a L ih =>
    have h1 := hf a (by simp)
    have h2 := ih (fun b hb => hf b (by simp [hb]))
    simp only [List.map_cons, List.flatten_cons, List.length_append, List.length_cons]
    rw [Nat.succ_mul]; omega
theorem flat_take_le {α : Type} (f : α → List UInt8) (c : Nat) (L : List α) (hf : ∀ a ∈ L, (f a).length ≤ c) (k : Nat) (hk : k ≤ 128) : ((L.take k).map f).flatten.length ≤ 128 * c := by
  have := flat_le f c (L.take k) (fun a ha => hf a (List.mem_of_mem_take ha))
  refine Nat.le_trans this (Nat.mul_le_mul_right c ?_)
  rw [List.length_take]; omega
theorem partC_cells {w : World} {b : Nat} {p : PartR} {t : TypeId} (hp : okP p) (h : Blk w b (partC p).toArray t) : w.rangeAt b 0 (p.1.map u8c) ∧ w.cell? ⟨b, 32, none⟩ = some (.int .u64 (p.2 : Int)) := by
  have hr := range_blk h
  refine ⟨rangeAt_left hr, ?_⟩
  have := rangeAt_right hr 0 (.int .u64 (p.2 : Int)) rfl
  unfold okP at hp
  rw [List.length_map, hp] at this
  exact this
set_option maxRecDepth 20000 in
set_option maxHeartbeats 4000000 in
theorem lay_2 {w0 w : World} {X : Nat → Prop} {z : Nat} {o : ObjR} {v : ObjV} (h : LayIn w0 w X z [] o v) (hkd : o.kind = 2) (hs : TxtSz o) (hn : o.parts.length ≤ 128) : Calls Tryd.prog 40 #[.pointer (some ⟨z, 0, none⟩), .agg (objL o v).toArray] w (RawE w X z (layO o)) := by
  have hA0 : ObjAt (w.alloc (.cells (objL o v).toArray 30)) w.heap.size o v := Blk.made w _ _
  have HI := hide (h.below (below_alloc w (.cells (objL o v).toArray 30)))
  have HZ := hide h.zlt
  have HA := hide hA0
  have c0 := hA0.cKind
  have HS := hide hs
  have hzp := zero_part
  have HE : Hid (layO o = fixB 1 o.kind ++ (varB o.parts.length ++ (o.parts.map partB).flatten)) := hide (by unfold layO; rw [if_neg (by omega), if_pos hkd])
  have b1 : ((o.kind : Int) == 1) = false := by simp; omega
  have b2 : ((o.kind : Int) == 2) = true := by simp; omega
  have hk : o.kind ≤ 255 := by omega
  have HG : Hid (w.grownBy (w.alloc (.cells (objL o v).toArray 30)) (some z)) := hide (World.grownBy_alloc _ _ _)
  have RR := hide h.rd
  obtain ⟨ao, c, ev, hpl⟩ := h.rd.p.slice
  rw [List.length_map] at ev hpl
  obtain ⟨n, hnn⟩ : ∃ n, n = o.parts.length := ⟨_, rfl⟩
  rw [← hnn] at ev hpl HE hn
  have HN := hide hnn
  have EV := hide ev
  have hwn := wrapu_nat n hpl
  have FL : Hid (∀ k, k ≤ n → ((o.parts.take k).map partB).flatten.length ≤ 128 * 42) := hide (fun k hk => flat_take_le partB 42 o.parts (fun p hp => by
    have := varB_len p.2; have e : p.1.length = 32 := h.rd.ok.p p hp
    unfold partB; rw [List.length_append]; omega) k (by omega))
  clear h hA0 hkd hs hnn ev
  go_enter Tryd.func40, Tryd.ntmps40
  go_wp2_with fail
  refine (put_kind _ X z [] o.kind hk HI.out.enc (by simp)).mono ?_
  rintro e w1 ⟨rfl, h1, h2⟩
  have HI1 := hide (HI.out.raw h1 h2)
  have hA1 := Blk.grown HA.out h2 (fun e => by have := Option.some.inj e; have := HZ.out; omega)
  have HA1 := hide hA1
  have HG1 := hide (grownBy_trans HG.out h2)
  have c0 := ObjAt.cKind hA1
  have c2 := ObjAt.cP hA1
  rw [EV.out] at c2
  clear HI HG HA h1 h2 hA1
  go_wp2_with fail
  have hvl := varB_len n
  refine (evar_enc w1 X z _ n (by omega) HI1.out.enc (by simp [fixB])).mono ?_
  rintro e w2 ⟨rfl, h1, h2⟩
  have HI2 := hide (HI1.out.raw h1 h2)
  have hA2 := Blk.grown HA1.out h2 (fun e => by have := Option.some.inj e; have := HZ.out; omega)
  have HG2 := hide (grownBy_trans HG1.out h2)
  have c2 := ObjAt.cP hA2
  rw [EV.out] at c2
  have HZ2 : Hid (z < w2.heap.size) := hide HI2.out.zlt
  clear HI1 HG1 HA1 h1 h2 hA2 c0
  obtain ⟨pre, hpre⟩ : ∃ x, x = ([] ++ fixB 1 o.kind) ++ varB n := ⟨_, rfl⟩
  rw [← hpre] at HI2
  have HPL : Hid (pre.length ≤ 20) := hide (by rw [hpre]; simp [fixB]; omega)
  have HPE : Hid (layO o = pre ++ (o.parts.map partB).flatten) := hide (by rw [HE.out, hpre]; simp)
  clear hpre HE hvl
  go_wp2_with fail
  clear c2 b1 b2
  go_loopw [33] (fun sk wr => ∃ (k : Nat), sk = .int .i64 k ∧ k ≤ n ∧ LayIn w0 wr X z (pre ++ ((o.parts.take k).map partB).flatten) o v ∧ w.grownBy wr (some z)) (fun sk _ => n - (intOf sk).toNat)
  case atStart => exact ⟨0, rfl, by omega, by simpa using HI2.out, HG2.out⟩
  case round =>
    obtain ⟨k, rfl, hk2, hL, hGr⟩ := hrel
    have HL := hide hL
    have HGr := hide hGr
    clear HI2 HG2 hGr
    by_cases hlt : k < n
    · have hki : (k : Int) < (n : Int) := by omega
      have k1 : k < o.parts.length := by rw [← HN.out]; exact hlt
      obtain ⟨b, s, d, f1, r1⟩ := hL.here.p.at k (by rw [List.length_map]; exact k1)
      obtain ⟨g1, -, -⟩ := slice_of EV.out f1
      subst g1
      rw [List.getElem_map] at r1
      obtain ⟨p, hp⟩ : ∃ p, p = o.parts[k] := ⟨_, rfl⟩
      have op : okP p := by rw [hp]; exact RR.out.ok.p _ (List.getElem_mem _)
      have HQ : Hid (p.2 ≤ 18446744073709551615) := hide (by rw [hp]; exact HS.out.q _ (List.getElem_mem _))
      rw [← hp] at r1
      have R1 := hide r1
      have OPp := hide op
      have OKl : Hid (p.1.length = 32) := hide op
      have HFl : Hid (((o.parts.take (k + 1)).map partB).flatten = ((o.parts.take k).map partB).flatten ++ (p.1 ++ varB p.2)) := hide (by rw [flat_succ partB _ k k1, ← hp]; rfl)
      have PS : Hid ((partC p).toArray.size = 33) := hide (by simp [partC_len p op])
      have ZS : Hid (zP.size = 33) := hide rfl
      have P1 := hide (all_oneCell_toArray (partC_one p))
      have ZB : Hid (Blk (wr.alloc (.cells zP 49)) wr.heap.size zP 49) := hide (Blk.made wr _ _)
      obtain ⟨xs, hxs⟩ : ∃ x, x = pre ++ ((o.parts.take k).map partB).flatten := ⟨_, rfl⟩
      rw [← hxs] at HL
      have HXL : Hid (xs.length ≤ 20 + 5376) := hide (by have := FL.out k (by omega); have := HPL.out; rw [hxs, List.length_append]; omega)
      have HXE : Hid (pre ++ ((o.parts.take (k + 1)).map partB).flatten = xs ++ p.1 ++ varB p.2) := hide (by rw [HFl.out, hxs]; simp)
      clear hL r1 f1 hp op hxs
      go_wp2_with (first
        | ((with_reducible refine wpList_load_partAt (.tmp 35) b (s + k * 33) p OPp.out R1.out ?_ ?_ ?_ ?_); rfl; rfl; rfl)
        | ((with_reducible refine wpList_store_blk ?_ 49 (.tmp 5) (.tmp 36) ?_ wr.heap.size 33 zP (partC p).toArray 49 PS.out ZS.out ?_ ?_ ZB.out infoPart P1.out ?_); rfl; rfl; rfl; rfl; intro w3 hk3 hg3; have RK : Hid (w3.rangeAt wr.heap.size 0 (p.1.map u8c)) := (hide (partC_cells OPp.out hk3).1); have HB3 : Hid (Below wr.heap.size wr w3) := (hide ((below_alloc wr _).trans (below_grownBy hg3 (Nat.le_refl _) (below_alloc wr _).size))))
        | ((with_reducible refine wpList_load_keyAt (.tmp 38) wr.heap.size 0 p.1 OKl.out RK.out ?_ ?_ ?_ ?_); rfl; rfl; rfl))
      have HL3 := hide (HL.out.below HB3.out)
      have HG3 := hide (grownBy_trans HGr.out (grownBy_below HB3.out))
      refine (ekey_enc w3 X z xs p.1 OKl.out HL3.out.enc (by have := HXL.out; omega)).mono ?_
      rintro e w4 ⟨rfl, h1, h2⟩
      have HL4 := hide (HL3.out.raw h1 h2)
      have HG4 := hide (grownBy_trans HG3.out h2)
      have hk4 := hk3.grown h2 (fun e => by have := Option.some.inj e; have := HL.out.zlt; omega)
      have cs := (partC_cells OPp.out hk4).2
      clear HL3 HG3 h1 h2 hk3 hk4 hg3 RK HB3
      go_wp2_with fail
      refine (evar_enc w4 X z _ p.2 HQ.out HL4.out.enc (by have := HXL.out; have := OKl.out; rw [List.length_append]; omega)).mono ?_
      rintro e w5 ⟨rfl, h1, h2⟩
      have HL5 := hide (HL4.out.raw h1 h2)
      have HG5 := hide (grownBy_trans HG4.out h2)
      clear HL4 HG4 h1 h2 cs
      go_wp2
      exact ⟨⟨k + 1, by go_num, by omega, by rw [HXE.out]; exact HL5.out, HG5.out⟩, by simp [intOf]; omega⟩
    · have hki : ¬ (k : Int) < (n : Int) := by omega
      have HE2 : Hid (layO o = pre ++ ((o.parts.take k).map partB).flatten) := hide (by rw [HPE.out, List.take_of_length_le (by rw [← HN.out]; omega)])
      clear hL
      go_wp2
      go_returns
      exact ⟨rfl, by rw [HE2.out]; exact HL.out.enc, HGr.out⟩
end Go.Proofs.YtjcfndiceinkjabDoor

/- Laying a tree into an Enc. -/
namespace Go.Proofs.YtjcfndiceinkjabDoor
set_option linter.unusedVariables false
set_option linter.unusedSimpArgs false
open Go.RowKit

theorem itemC_keyR {w : World} {b o : Nat} {i : ItemR} (h : w.rangeAt b o (itemC i)) : w.rangeAt b (o + 3) (keyC i.2.2.2) := by
  have e : itemC i = [.string ⟨i.1.toArray⟩, .int .u8 (i.2.1 : Int), .int .u64 (i.2.2.1 : Int)] ++ keyC i.2.2.2 := rfl
  rw [e] at h
  exact rangeAt_right h
set_option maxRecDepth 20000 in
set_option maxHeartbeats 4000000 in
theorem lay_3 {w0 w : World} {X : Nat → Prop} {z : Nat} {o : ObjR} {v : ObjV} (h : LayIn w0 w X z [] o v) (hkd : o.kind = 3) (hs : TxtSz o) (hn : o.items.length ≤ 128) (hnm : ∀ p ∈ o.items, p.1.length ≤ 64) : Calls Tryd.prog 40 #[.pointer (some ⟨z, 0, none⟩), .agg (objL o v).toArray] w (RawE w X z (layO o)) := by
  have hA0 : ObjAt (w.alloc (.cells (objL o v).toArray 30)) w.heap.size o v := Blk.made w _ _
  have HI := hide (h.below (below_alloc w (.cells (objL o v).toArray 30)))
  have HZ := hide h.zlt
  have HA := hide hA0
  have c0 := hA0.cKind
  have HS := hide hs
  have hzp := zero_item
  have HE : Hid (layO o = fixB 1 o.kind ++ (varB o.items.length ++ (o.items.map itemB).flatten)) := hide (by unfold layO; rw [if_neg (by omega), if_neg (by omega), if_pos hkd])
  have b1 : ((o.kind : Int) == 1) = false := by simp; omega
  have b2 : ((o.kind : Int) == 2) = false := by simp; omega
  have b3 : ((o.kind : Int) == 3) = true := by simp; omega
  have hk : o.kind ≤ 255 := by omega
  have HG : Hid (w.grownBy (w.alloc (.cells (objL o v).toArray 30)) (some z)) := hide (World.grownBy_alloc _ _ _)
  have RR := hide h.rd
  obtain ⟨ao, c, ev, hpl⟩ := h.rd.i.slice
  rw [List.length_map] at ev hpl
  obtain ⟨n, hnn⟩ : ∃ n, n = o.items.length := ⟨_, rfl⟩
  rw [← hnn] at ev hpl HE hn
  have HN := hide hnn
  have EV := hide ev
  have hwn := wrapu_nat n hpl
  have FL : Hid (∀ k, k ≤ n → ((o.items.take k).map itemB).flatten.length ≤ 128 * 117) := hide (fun k hk => flat_take_le itemB 117 o.items (fun p hp => by
    have := varB_len p.1.length; have := varB_len p.2.2.1; have e : p.2.2.2.length = 32 := h.rd.ok.i p hp; have := hnm p hp; have := fixB_len 1 p.2.1
    unfold itemB; simp only [List.length_append]; omega) k (by omega))
  have HNM := hide hnm
  clear h hA0 hkd hs hnn ev hnm
  go_enter Tryd.func40, Tryd.ntmps40
  go_wp2_with fail
  refine (put_kind _ X z [] o.kind hk HI.out.enc (by simp)).mono ?_
  rintro e w1 ⟨rfl, h1, h2⟩
  have HI1 := hide (HI.out.raw h1 h2)
  have hA1 := Blk.grown HA.out h2 (fun e => by have := Option.some.inj e; have := HZ.out; omega)
  have HA1 := hide hA1
  have HG1 := hide (grownBy_trans HG.out h2)
  have c0 := ObjAt.cKind hA1
  have c2 := ObjAt.cI hA1
  rw [EV.out] at c2
  clear HI HG HA h1 h2 hA1
  go_wp2_with fail
  have hvl := varB_len n
  refine (evar_enc w1 X z _ n (by omega) HI1.out.enc (by simp [fixB])).mono ?_
  rintro e w2 ⟨rfl, h1, h2⟩
  have HI2 := hide (HI1.out.raw h1 h2)
  have hA2 := Blk.grown HA1.out h2 (fun e => by have := Option.some.inj e; have := HZ.out; omega)
  have HG2 := hide (grownBy_trans HG1.out h2)
  have c2 := ObjAt.cI hA2
  rw [EV.out] at c2
  have HZ2 : Hid (z < w2.heap.size) := hide HI2.out.zlt
  clear HI1 HG1 HA1 h1 h2 hA2 c0
  obtain ⟨pre, hpre⟩ : ∃ x, x = ([] ++ fixB 1 o.kind) ++ varB n := ⟨_, rfl⟩
  rw [← hpre] at HI2
  have HPL : Hid (pre.length ≤ 20) := hide (by rw [hpre]; simp [fixB]; omega)
  have HPE : Hid (layO o = pre ++ (o.items.map itemB).flatten) := hide (by rw [HE.out, hpre]; simp)
  clear hpre HE hvl
  go_wp2_with fail
  clear c2 b1 b2 b3
  go_loopw [57] (fun sk wr => ∃ (k : Nat), sk = .int .i64 k ∧ k ≤ n ∧ LayIn w0 wr X z (pre ++ ((o.items.take k).map itemB).flatten) o v ∧ w.grownBy wr (some z)) (fun sk _ => n - (intOf sk).toNat)
  case atStart => exact ⟨0, rfl, by omega, by simpa using HI2.out, HG2.out⟩
  case round =>
    obtain ⟨k, rfl, hk2, hL, hGr⟩ := hrel
    have HL := hide hL
    have HGr := hide hGr
    clear HI2 HG2 hGr
    by_cases hlt : k < n
    · have hki : (k : Int) < (n : Int) := by omega
      have k1 : k < o.items.length := by rw [← HN.out]; exact hlt
      obtain ⟨b, s, d, f1, r1⟩ := hL.here.i.at k (by rw [List.length_map]; exact k1)
      obtain ⟨g1, -, -⟩ := slice_of EV.out f1
      subst g1
      rw [List.getElem_map] at r1
      obtain ⟨p, hp⟩ : ∃ p, p = o.items[k] := ⟨_, rfl⟩
      have op : okI p := by rw [hp]; exact RR.out.ok.i _ (List.getElem_mem _)
      have HQ : Hid (p.2.2.1 ≤ 18446744073709551615) := hide (by rw [hp]; exact HS.out.s _ (List.getElem_mem _))
      have HM : Hid (p.2.1 ≤ 255) := hide (by rw [hp]; exact HS.out.m _ (List.getElem_mem _))
      have HNl : Hid (p.1.length ≤ 64) := hide (by rw [hp]; exact HNM.out _ (List.getElem_mem _))
      rw [← hp] at r1
      have R1 := hide r1
      have OPp := hide op
      have OKl : Hid (p.2.2.2.length = 32) := hide op
      have HFl : Hid (((o.items.take (k + 1)).map itemB).flatten = ((o.items.take k).map itemB).flatten ++ itemB p) := hide (by rw [flat_succ itemB _ k k1, ← hp])
      have PS : Hid ((itemC p).toArray.size = 35) := hide (by simp [itemC_len p op])
      have ZS : Hid (zI.size = 35) := hide rfl
      have P1 := hide (all_oneCell_toArray (itemC_one p))
      have ZB : Hid (Blk (wr.alloc (.cells zI 52)) wr.heap.size zI 52) := hide (Blk.made wr _ _)
      obtain ⟨xs, hxs⟩ : ∃ x, x = pre ++ ((o.items.take k).map itemB).flatten := ⟨_, rfl⟩
      rw [← hxs] at HL
      have HXL : Hid (xs.length ≤ 20 + 14976) := hide (by have := FL.out k (by omega); have := HPL.out; rw [hxs, List.length_append]; omega)
      have HXE : Hid (pre ++ ((o.items.take (k + 1)).map itemB).flatten = xs ++ varB p.1.length ++ p.1 ++ fixB 1 p.2.1 ++ varB p.2.2.1 ++ p.2.2.2) := hide (by rw [HFl.out, hxs]; unfold itemB; simp)
      obtain ⟨nm, mo, sz, ky⟩ := p
      simp only at HQ HM HNl OKl HXE
      clear hL r1 f1 hp op hxs HFl
      have hvn := varB_len nm.length
      have hvs := varB_len sz
      have hfm := fixB_len 1 mo
      go_wp2_with (first
        | ((with_reducible refine wpList_load_itemAt (.tmp 59) b (s + k * 35) (nm, mo, sz, ky) OPp.out R1.out ?_ ?_ ?_ ?_); rfl; rfl; rfl)
        | ((with_reducible refine wpList_store_blk ?_ 52 (.tmp 7) (.tmp 60) ?_ wr.heap.size 35 zI (itemC (nm, mo, sz, ky)).toArray 52 PS.out ZS.out ?_ ?_ ZB.out infoItem P1.out ?_); rfl; rfl; rfl; rfl; intro w3 hk3 hg3; have c0 := (itemC_name hk3).1; have HB3 : Hid (Below wr.heap.size wr w3) := (hide ((below_alloc wr _).trans (below_grownBy hg3 (Nat.le_refl _) (below_alloc wr _).size)))))
      have HL3 := hide (HL.out.below HB3.out)
      have HG3 := hide (grownBy_trans HGr.out (grownBy_below HB3.out))
      refine (etext_enc w3 X z xs nm HL3.out.enc (by have := HXL.out; have := HNl.out; omega)).mono ?_
      rintro e w4 ⟨rfl, h1, h2⟩
      have HL4 := hide (HL3.out.raw h1 h2)
      have HG4 := hide (grownBy_trans HG3.out h2)
      have hk4 := hk3.grown h2 (fun e => by have := Option.some.inj e; have := HL.out.zlt; omega)
      have cs := (itemC_name hk4).2.1
      clear HL3 HG3 h1 h2 hk3 hg3 HB3 c0
      go_wp2_with fail
      refine (put_mode w4 X z _ mo HM.out HL4.out.enc (by have := HXL.out; have := HNl.out; simp only [List.length_append]; omega)).mono ?_
      rintro e w5 ⟨rfl, h1, h2⟩
      have HL5 := hide (HL4.out.raw h1 h2)
      have HG5 := hide (grownBy_trans HG4.out h2)
      have hk5 := hk4.grown h2 (fun e => by have := Option.some.inj e; have := HL.out.zlt; omega)
      clear HL4 HG4 h1 h2 hk4 cs
      have cs := (itemC_name hk5).2.2
      go_wp2_with fail
      refine (evar_enc w5 X z _ sz HQ.out HL5.out.enc (by have := HXL.out; have := HNl.out; simp only [List.length_append]; omega)).mono ?_
      rintro e w6 ⟨rfl, h1, h2⟩
      have HL6 := hide (HL5.out.raw h1 h2)
      have HG6 := hide (grownBy_trans HG5.out h2)
      have hk6 := hk5.grown h2 (fun e => by have := Option.some.inj e; have := HL.out.zlt; omega)
      clear HL5 HG5 h1 h2 hk5 cs
      have RK : Hid (w6.rangeAt wr.heap.size 3 (ky.map u8c)) := hide (by have := itemC_keyR (range_blk hk6); rw [Nat.zero_add] at this; exact this)
      clear hk6
      go_wp2_with (first
        | ((with_reducible refine wpList_load_keyAt (.tmp 74) wr.heap.size 3 ky OKl.out RK.out ?_ ?_ ?_ ?_); rfl; rfl; rfl))
      refine (ekey_enc w6 X z _ ky OKl.out HL6.out.enc (by have := HXL.out; have := HNl.out; simp only [List.length_append]; omega)).mono ?_
      rintro e w7 ⟨rfl, h1, h2⟩
      have HL7 := hide (HL6.out.raw h1 h2)
      have HG7 := hide (grownBy_trans HG6.out h2)
      clear HL6 HG6 h1 h2 RK
      go_wp2
      exact ⟨⟨k + 1, by go_num, by omega, by rw [HXE.out]; exact HL7.out, HG7.out⟩, by simp [intOf]; omega⟩
    · have hki : ¬ (k : Int) < (n : Int) := by omega
      have HE2 : Hid (layO o = pre ++ ((o.items.take k).map itemB).flatten) := hide (by rw [HPE.out, List.take_of_length_le (by rw [← HN.out]; omega)])
      clear hL
      go_wp2
      go_returns
      exact ⟨rfl, by rw [HE2.out]; exact HL.out.enc, HGr.out⟩
end Go.Proofs.YtjcfndiceinkjabDoor

/- Laying a snapshot into an Enc. -/
namespace Go.Proofs.YtjcfndiceinkjabDoor
set_option linter.unusedVariables false
set_option linter.unusedSimpArgs false
open Go.RowKit

set_option maxRecDepth 20000 in
set_option maxHeartbeats 4000000 in
theorem lay_4 {w0 w : World} {X : Nat → Prop} {z : Nat} {o : ObjR} {v : ObjV} (h : LayIn w0 w X z [] o v) (hkd : o.kind = 4) (hs : TxtSz o) (hn : o.parents.length ≤ 128) (hnt : o.note.length ≤ 1024) : Calls Tryd.prog 40 #[.pointer (some ⟨z, 0, none⟩), .agg (objL o v).toArray] w (RawE w X z (layO o)) := by
  have hA0 : ObjAt (w.alloc (.cells (objL o v).toArray 30)) w.heap.size o v := Blk.made w _ _
  have HI := hide (h.below (below_alloc w (.cells (objL o v).toArray 30)))
  have HZ := hide h.zlt
  have HA := hide hA0
  have c0 := hA0.cKind
  have HS := hide hs
  have hzp := zero_key
  have HE : Hid (layO o = fixB 1 o.kind ++ (o.tree ++ varB o.parents.length ++ o.parents.flatten ++ fixB 8 (timeN o) ++ (varB o.note.length ++ o.note))) := hide (by unfold layO; rw [if_neg (by omega), if_neg (by omega), if_neg (by omega), if_pos hkd])
  have b1 : ((o.kind : Int) == 1) = false := by simp; omega
  have b2 : ((o.kind : Int) == 2) = false := by simp; omega
  have b3 : ((o.kind : Int) == 3) = false := by simp; omega
  have b4 : ((o.kind : Int) == 4) = true := by simp; omega
  have hk : o.kind ≤ 255 := by omega
  have HG : Hid (w.grownBy (w.alloc (.cells (objL o v).toArray 30)) (some z)) := hide (World.grownBy_alloc _ _ _)
  have RR := hide h.rd
  obtain ⟨ao, c, ev, hpl⟩ := h.rd.k.slice
  rw [List.length_map] at ev hpl
  obtain ⟨n, hnn⟩ : ∃ n, n = o.parents.length := ⟨_, rfl⟩
  rw [← hnn] at ev hpl HE hn
  have HN := hide hnn
  have EV := hide ev
  have hwn := wrapu_nat n hpl
  have FL : Hid (∀ k, k ≤ n → (o.parents.take k).flatten.length ≤ 128 * 32) := hide (fun k hk => by
    have := flat_take_le (fun x : List UInt8 => x) 32 o.parents (fun p hp => by have e : p.length = 32 := h.rd.ok.k p hp; omega) k (by omega)
    rw [List.map_id'] at this
    exact this)
  have OKt : Hid (o.tree.length = 32) := hide h.rd.ok.t
  clear h hA0 hkd hs hnn ev
  go_enter Tryd.func40, Tryd.ntmps40
  go_wp2_with fail
  refine (put_kind _ X z [] o.kind hk HI.out.enc (by simp)).mono ?_
  rintro e w1 ⟨rfl, h1, h2⟩
  have HI1 := hide (HI.out.raw h1 h2)
  have hA1 := Blk.grown HA.out h2 (fun e => by have := Option.some.inj e; have := HZ.out; omega)
  have HA1 := hide hA1
  have HG1 := hide (grownBy_trans HG.out h2)
  have RT : Hid (w1.rangeAt w.heap.size 4 (o.tree.map u8c)) := hide (ObjAt.tree hA1)
  have c0 := ObjAt.cKind hA1
  clear HI HG HA h1 h2 hA1
  go_wp2_with (first
    | ((with_reducible refine wpList_load_keyAt (.tmp 81) w.heap.size 4 o.tree OKt.out RT.out ?_ ?_ ?_ ?_); rfl; rfl; rfl))
  refine (ekey_enc w1 X z _ o.tree OKt.out HI1.out.enc (by simp [fixB])).mono ?_
  rintro e w1' ⟨rfl, h1, h2⟩
  have HI1' := hide (HI1.out.raw h1 h2)
  have hA1' := Blk.grown HA1.out h2 (fun e => by have := Option.some.inj e; have := HZ.out; omega)
  have HA1' := hide hA1'
  have HG1' := hide (grownBy_trans HG1.out h2)
  have c2 := ObjAt.cK hA1' OKt.out
  rw [EV.out] at c2
  clear HI1 HG1 HA1 h1 h2 hA1' RT c0
  go_wp2_with fail
  have hvl := varB_len n
  refine (evar_enc w1' X z _ n (by omega) HI1'.out.enc (by have := OKt.out; simp [fixB]; omega)).mono ?_
  rintro e w2 ⟨rfl, h1, h2⟩
  have HI2 := hide (HI1'.out.raw h1 h2)
  have hA2 := Blk.grown HA1'.out h2 (fun e => by have := Option.some.inj e; have := HZ.out; omega)
  have HA2 : Hid (ObjAt w2 w.heap.size o v) := hide hA2
  have HG2 := hide (grownBy_trans HG1'.out h2)
  have c2 := ObjAt.cK hA2 OKt.out
  rw [EV.out] at c2
  have HZ2 : Hid (z < w2.heap.size) := hide HI2.out.zlt
  clear HI1' HG1' HA1' h1 h2 hA2
  obtain ⟨pre, hpre⟩ : ∃ x, x = ([] ++ fixB 1 o.kind) ++ o.tree ++ varB n := ⟨_, rfl⟩
  rw [← hpre] at HI2
  have HPL : Hid (pre.length ≤ 60) := hide (by have := OKt.out; rw [hpre]; simp [fixB]; omega)
  have HPE : Hid (layO o = pre ++ o.parents.flatten ++ fixB 8 (timeN o) ++ varB o.note.length ++ o.note) := hide (by rw [HE.out, hpre]; simp)
  clear hpre HE hvl
  go_wp2_with fail
  clear c2 b1 b2 b3 b4
  go_loopw [93] (fun sk wr => ∃ (k : Nat), sk = .int .i64 k ∧ k ≤ n ∧ LayIn w0 wr X z (pre ++ (o.parents.take k).flatten) o v ∧ w.grownBy wr (some z) ∧ ObjAt wr w.heap.size o v) (fun sk _ => n - (intOf sk).toNat)
  case atStart => exact ⟨0, rfl, by omega, by simpa using HI2.out, HG2.out, HA2.out⟩
  case round =>
    obtain ⟨k, rfl, hk2, hL, hGr, hAr⟩ := hrel
    have HL := hide hL
    have HGr := hide hGr
    have HAr := hide hAr
    clear HI2 HG2 HA2 hGr hAr
    by_cases hlt : k < n
    · have hki : (k : Int) < (n : Int) := by omega
      have k1 : k < o.parents.length := by rw [← HN.out]; exact hlt
      obtain ⟨b, s, d, f1, r1⟩ := hL.here.k.at k (by rw [List.length_map]; exact k1)
      obtain ⟨g1, -, -⟩ := slice_of EV.out f1
      subst g1
      rw [List.getElem_map] at r1
      obtain ⟨p, hp⟩ : ∃ p, p = o.parents[k] := ⟨_, rfl⟩
      have op : okK p := by rw [hp]; exact RR.out.ok.k _ (List.getElem_mem _)
      rw [← hp] at r1
      have R1 : Hid (wr.rangeAt b (s + k * 32) (p.map u8c)) := hide r1
      have OKl : Hid (p.length = 32) := hide op
      have HFl : Hid ((o.parents.take (k + 1)).flatten = (o.parents.take k).flatten ++ p) := hide (by have := flat_succ (fun x : List UInt8 => x) o.parents k k1; rw [List.map_id', List.map_id'] at this; rw [this, ← hp])
      have PS : Hid ((keyC p).toArray.size = 32) := hide (by simp [keyC_len p op])
      have ZS : Hid (keyZ.size = 32) := hide rfl
      have P1 := hide (all_oneCell_toArray (keyC_one p))
      have ZB : Hid (Blk (wr.alloc (.cells keyZ 27)) wr.heap.size keyZ 27) := hide (Blk.made wr _ _)
      obtain ⟨xs, hxs⟩ : ∃ x, x = pre ++ (o.parents.take k).flatten := ⟨_, rfl⟩
      rw [← hxs] at HL
      have HXL : Hid (xs.length ≤ 60 + 4096) := hide (by have := FL.out k (by omega); have := HPL.out; rw [hxs, List.length_append]; omega)
      have HXE : Hid (pre ++ (o.parents.take (k + 1)).flatten = xs ++ p) := hide (by rw [HFl.out, hxs]; simp)
      clear hL r1 f1 hp op hxs
      go_wp2_with (first
        | ((with_reducible refine wpList_load_keyAt (.tmp 95) b (s + k * 32) p OKl.out R1.out ?_ ?_ ?_ ?_); rfl; rfl; rfl)
        | ((with_reducible refine wpList_store_blk ?_ 27 (.tmp 9) (.tmp 96) ?_ wr.heap.size 32 keyZ (keyC p).toArray 27 PS.out ZS.out ?_ ?_ ZB.out infoKey P1.out ?_); rfl; rfl; rfl; rfl; intro w3 hk3 hg3; have RK : Hid (w3.rangeAt wr.heap.size 0 (p.map u8c)) := (hide (range_blk (cs := (keyC p).toArray) hk3)); have HB3 : Hid (Below wr.heap.size wr w3) := (hide ((below_alloc wr _).trans (below_grownBy hg3 (Nat.le_refl _) (below_alloc wr _).size))))
        | ((with_reducible refine wpList_load_keyAt (.tmp 9) wr.heap.size 0 p OKl.out RK.out ?_ ?_ ?_ ?_); rfl; rfl; rfl))
      have HL3 := hide (HL.out.below HB3.out)
      have HG3 := hide (grownBy_trans HGr.out (grownBy_below HB3.out))
      refine (ekey_enc w3 X z xs p OKl.out HL3.out.enc (by have := HXL.out; omega)).mono ?_
      rintro e w4 ⟨rfl, h1, h2⟩
      have HL4 := hide (HL3.out.raw h1 h2)
      have HG4 := hide (grownBy_trans HG3.out h2)
      have HA4 : Hid (ObjAt w4 w.heap.size o v) := hide (Blk.grown (HAr.out.below HB3.out) h2 (fun e => by have := Option.some.inj e; have := HZ.out; omega))
      clear HL3 HG3 h1 h2 hk3 hg3 RK HB3
      go_wp2
      exact ⟨⟨k + 1, by go_num, by omega, by rw [HXE.out]; exact HL4.out, HG4.out, HA4.out⟩, by simp [intOf]; omega⟩
    · have hki : ¬ (k : Int) < (n : Int) := by omega
      have HL2 : Hid (LayIn w0 wr X z (pre ++ o.parents.flatten) o v) := hide (by have := HL.out; rw [List.take_of_length_le (by rw [← HN.out]; omega)] at this; exact this)
      have HXL : Hid ((pre ++ o.parents.flatten).length ≤ 60 + 4096) := hide (by have := FL.out n (Nat.le_refl _); rw [List.take_of_length_le (by rw [← HN.out]; omega)] at this; have := HPL.out; rw [List.length_append]; omega)
      have ct := ObjAt.cTime HAr.out OKt.out
      obtain ⟨tm, htm⟩ : ∃ x, x = o.time := ⟨_, rfl⟩
      have HTM := hide htm
      rw [← htm] at ct
      have hwt : IntKind.u64.wrap tm = ((timeN o : Nat) : Int) := by unfold timeN; rw [htm]; exact (Int.toNat_of_nonneg (by rw [IntKind.wrap_u64]; omega)).symm
      have HWT := hide hwt
      have HWF : Hid ((Lit.int .i64 tm).wf = true) := hide (by rw [htm]; exact HS.out.w)
      clear hL htm hwt
      go_wp2_with fail
      refine (put_int64 wr X z _ tm (timeN o) HWT.out HWF.out HL2.out.enc (by have := HXL.out; omega)).mono ?_
      rintro e w4 ⟨rfl, h1, h2⟩
      have HL4 := hide (HL2.out.raw h1 h2)
      have HG4 := hide (grownBy_trans HGr.out h2)
      have hA4 := Blk.grown HAr.out h2 (fun e => by have := Option.some.inj e; have := HZ.out; omega)
      have cn := ObjAt.cNote hA4 OKt.out
      clear h1 h2 hA4 ct
      go_wp2_with fail
      refine (etext_enc w4 X z _ o.note HL4.out.enc (by have := HXL.out; have := fixB_len 8 (timeN o); rw [List.length_append]; omega)).mono ?_
      rintro e w5 ⟨rfl, h1, h2⟩
      have HL5 := hide (HL4.out.raw h1 h2)
      have HG5 := hide (grownBy_trans HG4.out h2)
      clear h1 h2
      go_wp2
      go_returns
      exact ⟨rfl, by rw [HPE.out]; exact HL5.out.enc, HG5.out⟩
end Go.Proofs.YtjcfndiceinkjabDoor
