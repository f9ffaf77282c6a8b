/- Laying a tree into an Enc. -/
import Derived.Test.YtjcfndiceinkjabDoorOL2
namespace Go.Proofs.YtjcfndiceinkjabDoor
set_option linter.unusedVariables false
set_option linter.unusedSimpArgs false
open Go.RowKit

theorem itemC_keyR {w : World} {b o : Nat} {i : ItemR} (h : w.rangeAt b o (itemC i)) : w.rangeAt b (o + 3) (keyC i.2.2.2) := by
  have e : itemC i = [.string ⟨i.1.toArray⟩, .int .u8 (i.2.1 : Int), .int .u64 (i.2.2.1 : Int)] ++ keyC i.2.2.2 := rfl
  rw [e] at h
  exact rangeAt_right h
set_option maxRecDepth 20000 in
set_option maxHeartbeats 4000000 in
theorem lay_3 {w0 w : World} {X : Nat → Prop} {z : Nat} {o : ObjR} {v : ObjV} (h : LayIn w0 w X z [] o v) (hkd : o.kind = 3) (hs : TxtSz o) (hn : o.items.length ≤ 128) (hnm : ∀ p ∈ o.items, p.1.length ≤ 64) : Calls Tryd.prog 40 #[.pointer (some ⟨z, 0, none⟩), .agg (objL o v).toArray] w (RawE w X z (layO o)) := by
  have hA0 : ObjAt (w.alloc (.cells (objL o v).toArray 30)) w.heap.size o v := Blk.made w _ _
  have HI := hide (h.below (below_alloc w (.cells (objL o v).toArray 30)))
  have HZ := hide h.zlt
  have HA := hide hA0
  have c0 := hA0.cKind
  have HS := hide hs
  have hzp := zero_item
  have HE : Hid (layO o = fixB 1 o.kind ++ (varB o.items.length ++ (o.items.map itemB).flatten)) := hide (by unfold layO; rw [if_neg (by omega), if_neg (by omega), if_pos hkd])
  have b1 : ((o.kind : Int) == 1) = false := by simp; omega
  have b2 : ((o.kind : Int) == 2) = false := by simp; omega
  have b3 : ((o.kind : Int) == 3) = true := by simp; omega
  have hk : o.kind ≤ 255 := by omega
  have HG : Hid (w.grownBy (w.alloc (.cells (objL o v).toArray 30)) (some z)) := hide (World.grownBy_alloc _ _ _)
  have RR := hide h.rd
  obtain ⟨ao, c, ev, hpl⟩ := h.rd.i.slice
  rw [List.length_map] at ev hpl
  obtain ⟨n, hnn⟩ : ∃ n, n = o.items.length := ⟨_, rfl⟩
  rw [← hnn] at ev hpl HE hn
  have HN := hide hnn
  have EV := hide ev
  have hwn := wrapu_nat n hpl
  have FL : Hid (∀ k, k ≤ n → ((o.items.take k).map itemB).flatten.length ≤ 128 * 117) := hide (fun k hk => flat_take_le itemB 117 o.items (fun p hp => by
    have := varB_len p.1.length; have := varB_len p.2.2.1; have e : p.2.2.2.length = 32 := h.rd.ok.i p hp; have := hnm p hp; have := fixB_len 1 p.2.1
    unfold itemB; simp only [List.length_append]; omega) k (by omega))
  have HNM := hide hnm
  clear h hA0 hkd hs hnn ev hnm
  go_enter Tryd.func40, Tryd.ntmps40
  go_wp2_with fail
  refine (put_kind _ X z [] o.kind hk HI.out.enc (by simp)).mono ?_
  rintro e w1 ⟨rfl, h1, h2⟩
  have HI1 := hide (HI.out.raw h1 h2)
  have hA1 := Blk.grown HA.out h2 (fun e => by have := Option.some.inj e; have := HZ.out; omega)
  have HA1 := hide hA1
  have HG1 := hide (grownBy_trans HG.out h2)
  have c0 := ObjAt.cKind hA1
  have c2 := ObjAt.cI hA1
  rw [EV.out] at c2
  clear HI HG HA h1 h2 hA1
  go_wp2_with fail
  have hvl := varB_len n
  refine (evar_enc w1 X z _ n (by omega) HI1.out.enc (by simp [fixB])).mono ?_
  rintro e w2 ⟨rfl, h1, h2⟩
  have HI2 := hide (HI1.out.raw h1 h2)
  have hA2 := Blk.grown HA1.out h2 (fun e => by have := Option.some.inj e; have := HZ.out; omega)
  have HG2 := hide (grownBy_trans HG1.out h2)
  have c2 := ObjAt.cI hA2
  rw [EV.out] at c2
  have HZ2 : Hid (z < w2.heap.size) := hide HI2.out.zlt
  clear HI1 HG1 HA1 h1 h2 hA2 c0
  obtain ⟨pre, hpre⟩ : ∃ x, x = ([] ++ fixB 1 o.kind) ++ varB n := ⟨_, rfl⟩
  rw [← hpre] at HI2
  have HPL : Hid (pre.length ≤ 20) := hide (by rw [hpre]; simp [fixB]; omega)
  have HPE : Hid (layO o = pre ++ (o.items.map itemB).flatten) := hide (by rw [HE.out, hpre]; simp)
  clear hpre HE hvl
  go_wp2_with fail
  clear c2 b1 b2 b3
  go_loopw [57] (fun sk wr => ∃ (k : Nat), sk = .int .i64 k ∧ k ≤ n ∧ LayIn w0 wr X z (pre ++ ((o.items.take k).map itemB).flatten) o v ∧ w.grownBy wr (some z)) (fun sk _ => n - (intOf sk).toNat)
  case atStart => exact ⟨0, rfl, by omega, by simpa using HI2.out, HG2.out⟩
  case round =>
    obtain ⟨k, rfl, hk2, hL, hGr⟩ := hrel
    have HL := hide hL
    have HGr := hide hGr
    clear HI2 HG2 hGr
    by_cases hlt : k < n
    · have hki : (k : Int) < (n : Int) := by omega
      have k1 : k < o.items.length := by rw [← HN.out]; exact hlt
      obtain ⟨b, s, d, f1, r1⟩ := hL.here.i.at k (by rw [List.length_map]; exact k1)
      obtain ⟨g1, -, -⟩ := slice_of EV.out f1
      subst g1
      rw [List.getElem_map] at r1
      obtain ⟨p, hp⟩ : ∃ p, p = o.items[k] := ⟨_, rfl⟩
      have op : okI p := by rw [hp]; exact RR.out.ok.i _ (List.getElem_mem _)
      have HQ : Hid (p.2.2.1 ≤ 18446744073709551615) := hide (by rw [hp]; exact HS.out.s _ (List.getElem_mem _))
      have HM : Hid (p.2.1 ≤ 255) := hide (by rw [hp]; exact HS.out.m _ (List.getElem_mem _))
      have HNl : Hid (p.1.length ≤ 64) := hide (by rw [hp]; exact HNM.out _ (List.getElem_mem _))
      rw [← hp] at r1
      have R1 := hide r1
      have OPp := hide op
      have OKl : Hid (p.2.2.2.length = 32) := hide op
      have HFl : Hid (((o.items.take (k + 1)).map itemB).flatten = ((o.items.take k).map itemB).flatten ++ itemB p) := hide (by rw [flat_succ itemB _ k k1, ← hp])
      have PS : Hid ((itemC p).toArray.size = 35) := hide (by simp [itemC_len p op])
      have ZS : Hid (zI.size = 35) := hide rfl
      have P1 := hide (all_oneCell_toArray (itemC_one p))
      have ZB : Hid (Blk (wr.alloc (.cells zI 52)) wr.heap.size zI 52) := hide (Blk.made wr _ _)
      obtain ⟨xs, hxs⟩ : ∃ x, x = pre ++ ((o.items.take k).map itemB).flatten := ⟨_, rfl⟩
      rw [← hxs] at HL
      have HXL : Hid (xs.length ≤ 20 + 14976) := hide (by have := FL.out k (by omega); have := HPL.out; rw [hxs, List.length_append]; omega)
      have HXE : Hid (pre ++ ((o.items.take (k + 1)).map itemB).flatten = xs ++ varB p.1.length ++ p.1 ++ fixB 1 p.2.1 ++ varB p.2.2.1 ++ p.2.2.2) := hide (by rw [HFl.out, hxs]; unfold itemB; simp)
      obtain ⟨nm, mo, sz, ky⟩ := p
      simp only at HQ HM HNl OKl HXE
      clear hL r1 f1 hp op hxs HFl
      have hvn := varB_len nm.length
      have hvs := varB_len sz
      have hfm := fixB_len 1 mo
      go_wp2_with (first
        | ((with_reducible refine wpList_load_itemAt (.tmp 59) b (s + k * 35) (nm, mo, sz, ky) OPp.out R1.out ?_ ?_ ?_ ?_); rfl; rfl; rfl)
        | ((with_reducible refine wpList_store_blk ?_ 52 (.tmp 7) (.tmp 60) ?_ wr.heap.size 35 zI (itemC (nm, mo, sz, ky)).toArray 52 PS.out ZS.out ?_ ?_ ZB.out infoItem P1.out ?_); rfl; rfl; rfl; rfl; intro w3 hk3 hg3; have c0 := (itemC_name hk3).1; have HB3 : Hid (Below wr.heap.size wr w3) := (hide ((below_alloc wr _).trans (below_grownBy hg3 (Nat.le_refl _) (below_alloc wr _).size)))))
      have HL3 := hide (HL.out.below HB3.out)
      have HG3 := hide (grownBy_trans HGr.out (grownBy_below HB3.out))
      refine (etext_enc w3 X z xs nm HL3.out.enc (by have := HXL.out; have := HNl.out; omega)).mono ?_
      rintro e w4 ⟨rfl, h1, h2⟩
      have HL4 := hide (HL3.out.raw h1 h2)
      have HG4 := hide (grownBy_trans HG3.out h2)
      have hk4 := hk3.grown h2 (fun e => by have := Option.some.inj e; have := HL.out.zlt; omega)
      have cs := (itemC_name hk4).2.1
      clear HL3 HG3 h1 h2 hk3 hg3 HB3 c0
      go_wp2_with fail
      refine (put_mode w4 X z _ mo HM.out HL4.out.enc (by have := HXL.out; have := HNl.out; simp only [List.length_append]; omega)).mono ?_
      rintro e w5 ⟨rfl, h1, h2⟩
      have HL5 := hide (HL4.out.raw h1 h2)
      have HG5 := hide (grownBy_trans HG4.out h2)
      have hk5 := hk4.grown h2 (fun e => by have := Option.some.inj e; have := HL.out.zlt; omega)
      clear HL4 HG4 h1 h2 hk4 cs
      have cs := (itemC_name hk5).2.2
      go_wp2_with fail
      refine (evar_enc w5 X z _ sz HQ.out HL5.out.enc (by have := HXL.out; have := HNl.out; simp only [List.length_append]; omega)).mono ?_
      rintro e w6 ⟨rfl, h1, h2⟩
      have HL6 := hide (HL5.out.raw h1 h2)
      have HG6 := hide (grownBy_trans HG5.out h2)
      have hk6 := hk5.grown h2 (fun e => by have := Option.some.inj e; have := HL.out.zlt; omega)
      clear HL5 HG5 h1 h2 hk5 cs
      have RK : Hid (w6.rangeAt wr.heap.size 3 (ky.map u8c)) := hide (by have := itemC_keyR (range_blk hk6); rw [Nat.zero_add] at this; exact this)
      clear hk6
      go_wp2_with (first
        | ((with_reducible refine wpList_load_keyAt (.tmp 74) wr.heap.size 3 ky OKl.out RK.out ?_ ?_ ?_ ?_); rfl; rfl; rfl))
      refine (ekey_enc w6 X z _ ky OKl.out HL6.out.enc (by have := HXL.out; have := HNl.out; simp only [List.length_append]; omega)).mono ?_
      rintro e w7 ⟨rfl, h1, h2⟩
      have HL7 := hide (HL6.out.raw h1 h2)
      have HG7 := hide (grownBy_trans HG6.out h2)
      clear HL6 HG6 h1 h2 RK
      go_wp2
      exact ⟨⟨k + 1, by go_num, by omega, by rw [HXE.out]; exact HL7.out, HG7.out⟩, by simp [intOf]; omega⟩
    · have hki : ¬ (k : Int) < (n : Int) := by omega
      have HE2 : Hid (layO o = pre ++ ((o.items.take k).map itemB).flatten) := hide (by rw [HPE.out, List.take_of_length_le (by rw [← HN.out]; omega)])
      clear hL
      go_wp2
      go_returns
      exact ⟨rfl, by rw [HE2.out]; exact HL.out.enc, HGr.out⟩
end Go.Proofs.YtjcfndiceinkjabDoor
