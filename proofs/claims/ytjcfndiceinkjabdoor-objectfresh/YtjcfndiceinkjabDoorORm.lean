/- The document's bytes of an object: a blob. -/
import Derived.Test.YtjcfndiceinkjabDoorOL5
import Derived.Test.YtjcfndiceinkjabDoorOJ1
import Derived.Test.YtjcfndiceinkjabDoorOC7
namespace Go.Proofs.YtjcfndiceinkjabDoor
set_option linter.unusedVariables false
set_option linter.unusedSimpArgs false
open Go.RowKit

theorem sliceKey (b o : Nat) (W : World) : (Instr.sliceAt 27 (.pointer (some ⟨b, o, none⟩)) none none none).run Tryd.prog W = .ok (.slice (some ⟨b, o, none⟩) 32 32) W := by
  have ha : Tryd.prog.arrayLen 27 = 32 := by kernel_rfl
  have hs : (sizeOf (Tryd.prog.elem 27)).run Tryd.prog W = .ok 1 W := by kernel_rfl
  rw [run_sliceAt_array_all W 27 ⟨b, o, none⟩ (by kernel_rfl), hs, ha]
  simp [Result.andThen, slicedAt, Addr.add_mid]
theorem rdA_key {w : World} {b o : Nat} {k : List UInt8} (hk : k.length = 32) (h : w.rangeAt b o (k.map u8c)) : RdA w (.slice (some ⟨b, o, none⟩) 32 32) k := by
  refine .inl ⟨_, 32, by rw [hk], by omega, by decide, .inr ⟨b, o, rfl, fun i hi => h i _ ?_⟩⟩
  rw [List.getElem?_eq_getElem (by simpa using hi), List.getElem_map]
theorem rd_one (u : Nat) (hu : u ≤ 255) (w : World) : RdA (w.alloc (.cells #[.int .u8 (u : Int)] 5)) (.slice (some ⟨w.heap.size, 0, none⟩) 1 1) (fixB 1 u) := by
  refine .inl ⟨_, 1, rfl, Nat.le_refl _, by decide, .inr ⟨_, 0, rfl, fun i hi => ?_⟩⟩
  have hi0 : i = 0 := by have : i < 1 := hi; omega
  subst hi0
  have hB : Blk (w.alloc (.cells #[.int .u8 (u : Int)] 5)) w.heap.size #[.int .u8 (u : Int)] 5 := Blk.made w _ _
  rw [hB.cell]
  show some (Value.int .u8 (u : Int)) = some (u8c (UInt8.ofNat u))
  unfold u8c
  have e : (UInt8.ofNat u).toNat = u := by simp; omega
  rw [e]
theorem own_baseB {w : World} {base base' n : Nat} {v : Value} {xs : List Value} {e : TypeId} (h : w.ownsRow base e 1 v n xs) (hb : base' ≤ base) : w.ownsRow base' e 1 v n xs := by
  obtain ⟨h0, h1 | ⟨g, cap, cur, e1, hg, hr⟩⟩ := h
  · exact ⟨h0, .inl h1⟩
  · exact ⟨h0, .inr ⟨g, cap, cur, e1, Nat.le_trans hb hg, hr⟩⟩
/-- The row that grows, beside the object. -/
structure RL (w wr : World) (o : ObjR) (v : ObjV) (va : Value) (xs : List UInt8) : Prop where
  own : wr.ownsRow (w.heap.size + 1) 5 1 va xs.length (xs.map u8c)
  obj : ObjAt wr w.heap.size o v
  old : Below w.heap.size w wr
theorem RL.size {w wr : World} {o : ObjR} {v : ObjV} {va : Value} {xs : List UInt8} (h : RL w wr o v va xs) : w.heap.size + 1 ≤ wr.heap.size := Blk.lt h.obj
theorem RL.below {w wr w' : World} {o : ObjR} {v : ObjV} {va : Value} {xs : List UInt8} (h : RL w wr o v va xs) (hb : Below wr.heap.size wr w') : RL w w' o v va xs :=
  ⟨owns_below h.own hb, h.obj.below hb, h.old.trans (hb.mono h.old.size)⟩
theorem RL.app {w wr w' : World} {o : ObjR} {v : ObjV} {va v' : Value} {xs ys : List UInt8} (h : RL w wr o v va xs) (h1 : OwnsB w' (w.heap.size + 1) v' ys) (h2 : wr.grownBy w' va.ownBlock) : RL w w' o v v' ys := by
  have hne : ∀ g, va.ownBlock = some g → w.heap.size + 1 ≤ g := fun g hg => (owns_lt h.own g hg).1
  exact ⟨h1, Blk.grown h.obj h2 (fun e => by have := hne w.heap.size e.symm; omega), h.old.grown h2 h.old.size (fun j hj => by have := hne j hj; omega)⟩
set_option maxRecDepth 20000 in
set_option maxHeartbeats 4000000 in
theorem rlaid_1 (w : World) (o : ObjR) (v : ObjV) (hr : ObjRd w o v) (hkd : o.kind = 1) (hd : o.data.length ≤ 8192) : Calls Tryd.prog 39 #[.agg (objL o v).toArray] w (OwnC w (layO o)) := by
  have hA0 : ObjAt (w.alloc (.cells (objL o v).toArray 30)) w.heap.size o v := Blk.made w _ _
  have c0 := hA0.cKind
  have hk : o.kind ≤ 255 := by omega
  have RR := hide hr
  have b1 : ((o.kind : Int) == 1) = true := by simp; omega
  have HE : Hid (layO o = fixB 1 o.kind ++ o.data) := hide (by unfold layO; rw [if_pos hkd])
  obtain ⟨W0, hW0⟩ : ∃ W, W = w.alloc (.cells (objL o v).toArray 30) := ⟨_, rfl⟩
  have HR0 : Hid (RL w (W0.alloc (.cells #[.int .u8 (o.kind : Int)] 5)) o v (.slice none 0 0) []) := hide (by
    have h0 : RL w W0 o v (.slice none 0 0) [] := by rw [hW0]; exact ⟨World.ownsRow_nil _ _ _ _, hA0, below_alloc w _⟩
    exact h0.below (below_alloc _ _))
  have RD0 := hide (rd_one o.kind hk W0)
  have RD0 : Hid (RdA ((w.alloc (.cells (objL o v).toArray 30)).alloc (.cells #[.int .u8 (o.kind : Int)] 5)) (.slice (some ⟨w.heap.size + 1, 0, none⟩) 1 1) (fixB 1 o.kind)) := hide (by have := RD0.out; rw [hW0] at this; simpa using this)
  have OW0 : Hid (((w.alloc (.cells (objL o v).toArray 30)).alloc (.cells #[.int .u8 (o.kind : Int)] 5)).ownsRow (w.heap.size + 1) 5 1 (.slice none 0 0) ([] : List UInt8).length (([] : List UInt8).map u8c)) := hide (World.ownsRow_nil _ _ _ _)
  have BS0 : Hid (w.heap.size + 1 ≤ ((w.alloc (.cells (objL o v).toArray 30)).alloc (.cells #[.int .u8 (o.kind : Int)] 5)).heap.size) := hide (by simp)
  have LN0 : Hid (([] : List UInt8).length + (fixB 1 o.kind).length ≤ 140737488355000) := hide (by rw [fixB_len]; simp)
  clear hr hA0 hkd
  go_enter Tryd.func39, Tryd.ntmps39
  go_wp2_with (first
    | ((with_reducible refine wpList_append_rdX ?_ (.tmp 7) (.tmp 10) ?_ (w.heap.size + 1) (.slice none 0 0) (.slice (some ⟨w.heap.size + 1, 0, none⟩) 1 1) [] (fixB 1 o.kind) ?_ OW0.out ?_ RD0.out LN0.out BS0.out ?_); rfl; rfl; rfl; rfl; intro va1 w1 O1 G1 E1; generalize hG : wpList _ _ _ _ _ _ = G))
  have HL1 : Hid (RL w w1 o v va1 (fixB 1 o.kind)) := hide (by rw [hW0] at HR0; exact HR0.out.app (by simpa using O1.out) G1.out)
  have hA1 := HL1.out.obj
  have c0 := hA1.cKind
  clear HR0 RD0 OW0 BS0 O1 G1 E1 hW0 hA1
  have c1 := HL1.out.obj.cD
  have RD2 : Hid (RdA w1 v.d o.data) := hide (RR.out.d.below HL1.out.old)
  have LN2 : Hid ((fixB 1 o.kind).length + o.data.length ≤ 140737488355000) := hide (by rw [fixB_len]; omega)
  obtain ⟨xs, hxs⟩ : ∃ x, x = fixB 1 o.kind := ⟨_, rfl⟩
  rw [← hxs] at HL1 LN2 HE
  clear hxs
  subst hG
  go_wp2_with (first
    | ((with_reducible refine wpList_append_rdX ?_ (.tmp 16) (.tmp 18) ?_ (w.heap.size + 1) va1 v.d xs o.data ?_ HL1.out.own ?_ RD2.out LN2.out HL1.out.size ?_); rfl; rfl; rfl; rfl; intro va2 w2 O2 G2 E2; generalize hG : wpList _ _ _ _ _ _ = G))
  have HL2 := hide (HL1.out.app O2.out G2.out)
  clear HL1 O2 G2 E2 RD2
  subst hG
  go_wp2
  go_ret
  exact ⟨va2, rfl, by rw [HE.out]; exact own_baseB HL2.out.own (by omega), HL2.out.old⟩
end Go.Proofs.YtjcfndiceinkjabDoor

/- The document's bytes of an object: a list. -/
namespace Go.Proofs.YtjcfndiceinkjabDoor
set_option linter.unusedVariables false
set_option linter.unusedSimpArgs false
open Go.RowKit

set_option maxRecDepth 20000 in
set_option maxHeartbeats 4000000 in
theorem rlaid_2 (w : World) (o : ObjR) (v : ObjV) (hr : ObjRd w o v) (hkd : o.kind = 2) (hs : TxtSz o) (hn : o.parts.length ≤ 128) : Calls Tryd.prog 39 #[.agg (objL o v).toArray] w (OwnC w (layO o)) := by
  have hA0 : ObjAt (w.alloc (.cells (objL o v).toArray 30)) w.heap.size o v := Blk.made w _ _
  have c0 := hA0.cKind
  have hk : o.kind ≤ 255 := by omega
  have RR := hide hr
  have b1 : ((o.kind : Int) == 1) = false := by simp; omega
  have b2 : ((o.kind : Int) == 2) = true := by simp; omega
  have HE : Hid (layO o = fixB 1 o.kind ++ (varB o.parts.length ++ (o.parts.map partB).flatten)) := hide (by unfold layO; rw [if_neg (by omega), if_pos hkd])
  have HS := hide hs
  obtain ⟨ao, c, ev, hpl⟩ := hr.p.slice
  rw [List.length_map] at ev hpl
  obtain ⟨n, hnn⟩ : ∃ n, n = o.parts.length := ⟨_, rfl⟩
  rw [← hnn] at ev hpl HE hn
  have HN := hide hnn
  have EV := hide ev
  have hwn := wrapu_nat n hpl
  have FL : Hid (∀ k, k ≤ n → ((o.parts.take k).map partB).flatten.length ≤ 128 * 42) := hide (fun k hk => flat_take_le partB 42 o.parts (fun p hp => by
    have := varB_len p.2; have e : p.1.length = 32 := hr.ok.p p hp
    unfold partB; rw [List.length_append]; omega) k (by omega))
  clear hs hnn ev
  obtain ⟨W0, hW0⟩ : ∃ W, W = w.alloc (.cells (objL o v).toArray 30) := ⟨_, rfl⟩
  have HR0 : Hid (RL w (W0.alloc (.cells #[.int .u8 (o.kind : Int)] 5)) o v (.slice none 0 0) []) := hide (by
    have h0 : RL w W0 o v (.slice none 0 0) [] := by rw [hW0]; exact ⟨World.ownsRow_nil _ _ _ _, hA0, below_alloc w _⟩
    exact h0.below (below_alloc _ _))
  have RD0 := hide (rd_one o.kind hk W0)
  have RD0 : Hid (RdA ((w.alloc (.cells (objL o v).toArray 30)).alloc (.cells #[.int .u8 (o.kind : Int)] 5)) (.slice (some ⟨w.heap.size + 1, 0, none⟩) 1 1) (fixB 1 o.kind)) := hide (by have := RD0.out; rw [hW0] at this; simpa using this)
  have OW0 : Hid (((w.alloc (.cells (objL o v).toArray 30)).alloc (.cells #[.int .u8 (o.kind : Int)] 5)).ownsRow (w.heap.size + 1) 5 1 (.slice none 0 0) ([] : List UInt8).length (([] : List UInt8).map u8c)) := hide (World.ownsRow_nil _ _ _ _)
  have BS0 : Hid (w.heap.size + 1 ≤ ((w.alloc (.cells (objL o v).toArray 30)).alloc (.cells #[.int .u8 (o.kind : Int)] 5)).heap.size) := hide (by simp)
  have LN0 : Hid (([] : List UInt8).length + (fixB 1 o.kind).length ≤ 140737488355000) := hide (by rw [fixB_len]; simp)
  clear hr hA0 hkd
  go_enter Tryd.func39, Tryd.ntmps39
  go_wp2_with (first
    | ((with_reducible refine wpList_append_rdX ?_ (.tmp 7) (.tmp 10) ?_ (w.heap.size + 1) (.slice none 0 0) (.slice (some ⟨w.heap.size + 1, 0, none⟩) 1 1) [] (fixB 1 o.kind) ?_ OW0.out ?_ RD0.out LN0.out BS0.out ?_); rfl; rfl; rfl; rfl; intro va1 w1 O1 G1 E1; generalize hG : wpList _ _ _ _ _ _ = G))
  have HL1 : Hid (RL w w1 o v va1 (fixB 1 o.kind)) := hide (by rw [hW0] at HR0; exact HR0.out.app (by simpa using O1.out) G1.out)
  have hA1 := HL1.out.obj
  have c0 := hA1.cKind
  clear HR0 RD0 OW0 BS0 O1 G1 E1 hW0 hA1
  have c2 := HL1.out.obj.cP
  rw [EV.out] at c2
  obtain ⟨xs, hxs⟩ : ∃ x, x = fixB 1 o.kind := ⟨_, rfl⟩
  have HXL : Hid (xs.length = 1) := hide (by rw [hxs, fixB_len])
  have hvl := varB_len n
  rw [← hxs] at HL1 HE
  clear hxs
  subst hG
  go_wp2_with fail
  refine (rvarb w1 n (by omega)).mono ?_
  rintro e w2 ⟨vv2, rfl, o2, hb2⟩
  have HL2 := hide (HL1.out.below hb2)
  have RD3 : Hid (RdA w2 vv2 (varB n)) := hide (.inl (Rd_owned o2))
  clear o2 hb2
  have LN3 : Hid (xs.length + (varB n).length ≤ 140737488355000) := hide (by rw [HXL.out]; omega)
  go_wp2_with (first
    | ((with_reducible refine wpList_append_rdX ?_ (.tmp 22) (.tmp 27) ?_ (w.heap.size + 1) va1 vv2 xs (varB n) ?_ HL2.out.own ?_ RD3.out LN3.out HL2.out.size ?_); rfl; rfl; rfl; rfl; intro va3 w3 O3 G3 E3; generalize hG : wpList _ _ _ _ _ _ = G))
  have HL3 := hide (HL2.out.app O3.out G3.out)
  clear HL1 HL2 O3 G3 E3 RD3 LN3 c2
  have c2 := HL3.out.obj.cP
  rw [EV.out] at c2
  obtain ⟨pre, hpre⟩ : ∃ x, x = xs ++ varB n := ⟨_, rfl⟩
  rw [← hpre] at HL3
  have HPL : Hid (pre.length ≤ 11) := hide (by rw [hpre, List.length_append, HXL.out]; omega)
  have HPE : Hid (layO o = pre ++ (o.parts.map partB).flatten) := hide (by rw [HE.out, hpre]; simp)
  clear hpre HE hvl HXL
  subst hG
  go_wp2_with fail
  clear c2 b1 b2 c0
  go_loopw [3, 4] (fun s3 sk wr => ∃ (k : Nat) (va : Value), va = s3 ∧ sk = .int .i64 k ∧ k ≤ n ∧ RL w wr o v va (pre ++ ((o.parts.take k).map partB).flatten)) (fun _ sk _ => n - (intOf sk).toNat)
  case atStart => exact ⟨0, _, rfl, rfl, by omega, by simpa using HL3.out⟩
  case round =>
    obtain ⟨k, va, hva, rfl, hk2, hL⟩ := hrel
    have HL := hide hL
    have c2 := hL.obj.cP
    rw [EV.out] at c2
    clear HL3
    by_cases hlt : k < n
    · have hki : (k : Int) < (n : Int) := by omega
      have k1 : k < o.parts.length := by rw [← HN.out]; exact hlt
      obtain ⟨b, s, d, f1, r1⟩ := RR.out.p.at k (by rw [List.length_map]; exact k1)
      obtain ⟨g1, -, -⟩ := slice_of EV.out f1
      subst g1
      rw [List.getElem_map] at r1
      obtain ⟨p, hp⟩ : ∃ p, p = o.parts[k] := ⟨_, rfl⟩
      have op : okP p := by rw [hp]; exact RR.out.ok.p _ (List.getElem_mem _)
      have HQ : Hid (p.2 ≤ 18446744073709551615) := hide (by rw [hp]; exact HS.out.q _ (List.getElem_mem _))
      rw [← hp] at r1
      have R0 := hide r1
      have OKl : Hid (p.1.length = 32) := hide op
      have HFl : Hid (((o.parts.take (k + 1)).map partB).flatten = ((o.parts.take k).map partB).flatten ++ (p.1 ++ varB p.2)) := hide (by rw [flat_succ partB _ k k1, ← hp]; rfl)
      obtain ⟨xs, hxs⟩ : ∃ x, x = pre ++ ((o.parts.take k).map partB).flatten := ⟨_, rfl⟩
      rw [← hxs] at HL
      have HXL : Hid (xs.length ≤ 11 + 5376) := hide (by have := FL.out k (by omega); have := HPL.out; rw [hxs, List.length_append]; omega)
      have HXE : Hid (pre ++ ((o.parts.take (k + 1)).map partB).flatten = xs ++ p.1 ++ varB p.2) := hide (by rw [HFl.out, hxs]; simp)
      have RD4 : Hid (RdA wr (.slice (some ⟨b, s + k * 33, none⟩) 32 32) p.1) := hide (rdA_key OKl.out (rangeAt_left (rangeAt_below r1 hL.old)))
      have LN4 : Hid (xs.length + p.1.length ≤ 140737488355000) := hide (by have := HXL.out; have := OKl.out; omega)
      have hsk := sliceKey
      clear hL r1 f1 hp op hxs HFl
      subst hva
      go_wp2_with (first
        | ((with_reducible refine wpList_append_rdX ?_ (.tmp 36) (.tmp 42) ?_ (w.heap.size + 1) _ (.slice (some ⟨b, s + k * 33, none⟩) 32 32) xs p.1 ?_ HL.out.own ?_ RD4.out LN4.out HL.out.size ?_); rfl; rfl; rfl; rfl; intro va4 w4 O4 G4 E4; generalize hG : wpList _ _ _ _ _ _ = G))
      have HL4 := hide (HL.out.app O4.out G4.out)
      have r4 := rangeAt_below R0.out HL4.out.old
      have cs : w4.cell? ⟨b, s + k * 33 + 32, none⟩ = some (.int .u64 (p.2 : Int)) := by
        have := rangeAt_right r4 0 (.int .u64 (p.2 : Int)) rfl
        rw [List.length_map, OKl.out] at this
        exact this
      have c2 := HL4.out.obj.cP
      rw [EV.out] at c2
      clear HL O4 G4 E4 RD4 LN4 r4 hsk
      subst hG
      go_wp2_with fail
      refine (rvarb w4 p.2 HQ.out).mono ?_
      rintro e w5 ⟨vv5, rfl, o5, hb5⟩
      have HL5 := hide (HL4.out.below hb5)
      have RD6 : Hid (RdA w5 vv5 (varB p.2)) := hide (.inl (Rd_owned o5))
      clear o5 hb5
      have hvl := varB_len p.2
      have LN6 : Hid ((xs ++ p.1).length + (varB p.2).length ≤ 140737488355000) := hide (by have := HXL.out; have := OKl.out; rw [List.length_append]; omega)
      clear hvl
      go_wp2_with (first
        | ((with_reducible refine wpList_append_rdX ?_ (.tmp 44) (.tmp 51) ?_ (w.heap.size + 1) va4 vv5 (xs ++ p.1) (varB p.2) ?_ HL5.out.own ?_ RD6.out LN6.out HL5.out.size ?_); rfl; rfl; rfl; rfl; intro va6 w6 O6 G6 E6; generalize hG : wpList _ _ _ _ _ _ = G))
      have HL6 := hide (HL5.out.app O6.out G6.out)
      clear HL4 HL5 O6 G6 E6 RD6 LN6 cs c2
      subst hG
      go_wp2
      exact ⟨⟨k + 1, va6, rfl, by go_num, by omega, by rw [HXE.out]; exact HL6.out⟩, by simp [intOf]; omega⟩
    · have hki : ¬ (k : Int) < (n : Int) := by omega
      have HE2 : Hid (layO o = pre ++ ((o.parts.take k).map partB).flatten) := hide (by rw [HPE.out, List.take_of_length_le (by rw [← HN.out]; omega)])
      clear hL
      subst hva
      go_wp2
      go_ret
      exact ⟨_, rfl, by rw [HE2.out]; exact own_baseB HL.out.own (by omega), HL.out.old⟩
end Go.Proofs.YtjcfndiceinkjabDoor

/- The document's bytes of an object: a tree. -/
namespace Go.Proofs.YtjcfndiceinkjabDoor
set_option linter.unusedVariables false
set_option linter.unusedSimpArgs false
open Go.RowKit

set_option maxRecDepth 20000 in
set_option maxHeartbeats 4000000 in
theorem rlaid_3 (w : World) (o : ObjR) (v : ObjV) (hr : ObjRd w o v) (hkd : o.kind = 3) (hs : TxtSz o) (hn : o.items.length ≤ 128) (hnm : ∀ p ∈ o.items, p.1.length ≤ 64) : Calls Tryd.prog 39 #[.agg (objL o v).toArray] w (OwnC w (layO o)) := by
  have hA0 : ObjAt (w.alloc (.cells (objL o v).toArray 30)) w.heap.size o v := Blk.made w _ _
  have c0 := hA0.cKind
  have hk : o.kind ≤ 255 := by omega
  have RR := hide hr
  have b1 : ((o.kind : Int) == 1) = false := by simp; omega
  have b2 : ((o.kind : Int) == 2) = false := by simp; omega
  have b3 : ((o.kind : Int) == 3) = true := by simp; omega
  have HE : Hid (layO o = fixB 1 o.kind ++ (varB o.items.length ++ (o.items.map itemB).flatten)) := hide (by unfold layO; rw [if_neg (by omega), if_neg (by omega), if_pos hkd])
  have HS := hide hs
  obtain ⟨ao, c, ev, hpl⟩ := hr.i.slice
  rw [List.length_map] at ev hpl
  obtain ⟨n, hnn⟩ : ∃ n, n = o.items.length := ⟨_, rfl⟩
  rw [← hnn] at ev hpl HE hn
  have HN := hide hnn
  have EV := hide ev
  have hwn := wrapu_nat n hpl
  have FL : Hid (∀ k, k ≤ n → ((o.items.take k).map itemB).flatten.length ≤ 128 * 117) := hide (fun k hk => flat_take_le itemB 117 o.items (fun p hp => by
    have := varB_len p.1.length; have := varB_len p.2.2.1; have e : p.2.2.2.length = 32 := hr.ok.i p hp; have := hnm p hp; have := fixB_len 1 p.2.1
    unfold itemB; simp only [List.length_append]; omega) k (by omega))
  have HNM := hide hnm
  clear hs hnn ev hnm
  obtain ⟨W0, hW0⟩ : ∃ W, W = w.alloc (.cells (objL o v).toArray 30) := ⟨_, rfl⟩
  have HR0 : Hid (RL w (W0.alloc (.cells #[.int .u8 (o.kind : Int)] 5)) o v (.slice none 0 0) []) := hide (by
    have h0 : RL w W0 o v (.slice none 0 0) [] := by rw [hW0]; exact ⟨World.ownsRow_nil _ _ _ _, hA0, below_alloc w _⟩
    exact h0.below (below_alloc _ _))
  have RD0 := hide (rd_one o.kind hk W0)
  have RD0 : Hid (RdA ((w.alloc (.cells (objL o v).toArray 30)).alloc (.cells #[.int .u8 (o.kind : Int)] 5)) (.slice (some ⟨w.heap.size + 1, 0, none⟩) 1 1) (fixB 1 o.kind)) := hide (by have := RD0.out; rw [hW0] at this; simpa using this)
  have OW0 : Hid (((w.alloc (.cells (objL o v).toArray 30)).alloc (.cells #[.int .u8 (o.kind : Int)] 5)).ownsRow (w.heap.size + 1) 5 1 (.slice none 0 0) ([] : List UInt8).length (([] : List UInt8).map u8c)) := hide (World.ownsRow_nil _ _ _ _)
  have BS0 : Hid (w.heap.size + 1 ≤ ((w.alloc (.cells (objL o v).toArray 30)).alloc (.cells #[.int .u8 (o.kind : Int)] 5)).heap.size) := hide (by simp)
  have LN0 : Hid (([] : List UInt8).length + (fixB 1 o.kind).length ≤ 140737488355000) := hide (by rw [fixB_len]; simp)
  clear hr hA0 hkd
  go_enter Tryd.func39, Tryd.ntmps39
  go_wp2_with (first
    | ((with_reducible refine wpList_append_rdX ?_ (.tmp 7) (.tmp 10) ?_ (w.heap.size + 1) (.slice none 0 0) (.slice (some ⟨w.heap.size + 1, 0, none⟩) 1 1) [] (fixB 1 o.kind) ?_ OW0.out ?_ RD0.out LN0.out BS0.out ?_); rfl; rfl; rfl; rfl; intro va1 w1 O1 G1 E1; generalize hG : wpList _ _ _ _ _ _ = G))
  have HL1 : Hid (RL w w1 o v va1 (fixB 1 o.kind)) := hide (by rw [hW0] at HR0; exact HR0.out.app (by simpa using O1.out) G1.out)
  have hA1 := HL1.out.obj
  have c0 := hA1.cKind
  clear HR0 RD0 OW0 BS0 O1 G1 E1 hW0 hA1
  have c2 := HL1.out.obj.cI
  rw [EV.out] at c2
  obtain ⟨xs, hxs⟩ : ∃ x, x = fixB 1 o.kind := ⟨_, rfl⟩
  have HXL : Hid (xs.length = 1) := hide (by rw [hxs, fixB_len])
  have hvl := varB_len n
  rw [← hxs] at HL1 HE
  clear hxs
  subst hG
  go_wp2_with fail
  refine (rvarb w1 n (by omega)).mono ?_
  rintro e w2 ⟨vv2, rfl, o2, hb2⟩
  have HL2 := hide (HL1.out.below hb2)
  have RD3 : Hid (RdA w2 vv2 (varB n)) := hide (.inl (Rd_owned o2))
  clear o2 hb2
  have LN3 : Hid (xs.length + (varB n).length ≤ 140737488355000) := hide (by rw [HXL.out]; omega)
  go_wp2_with (first
    | ((with_reducible refine wpList_append_rdX ?_ (.tmp 55) (.tmp 60) ?_ (w.heap.size + 1) va1 vv2 xs (varB n) ?_ HL2.out.own ?_ RD3.out LN3.out HL2.out.size ?_); rfl; rfl; rfl; rfl; intro va3 w3 O3 G3 E3; generalize hG : wpList _ _ _ _ _ _ = G))
  have HL3 := hide (HL2.out.app O3.out G3.out)
  clear HL1 HL2 O3 G3 E3 RD3 LN3 c2
  have c2 := HL3.out.obj.cI
  rw [EV.out] at c2
  obtain ⟨pre, hpre⟩ : ∃ x, x = xs ++ varB n := ⟨_, rfl⟩
  rw [← hpre] at HL3
  have HPL : Hid (pre.length ≤ 11) := hide (by rw [hpre, List.length_append, HXL.out]; omega)
  have HPE : Hid (layO o = pre ++ (o.items.map itemB).flatten) := hide (by rw [HE.out, hpre]; simp)
  clear hpre HE hvl HXL
  subst hG
  go_wp2_with fail
  clear c2 b1 b2 b3 c0
  go_loopw [3, 5] (fun s3 sk wr => ∃ (k : Nat) (va : Value), va = s3 ∧ sk = .int .i64 k ∧ k ≤ n ∧ RL w wr o v va (pre ++ ((o.items.take k).map itemB).flatten)) (fun _ sk _ => n - (intOf sk).toNat)
  case atStart => exact ⟨0, _, rfl, rfl, by omega, by simpa using HL3.out⟩
  case round =>
    obtain ⟨k, va, hva, rfl, hk2, hL⟩ := hrel
    have HL := hide hL
    have c2 := hL.obj.cI
    rw [EV.out] at c2
    clear HL3
    by_cases hlt : k < n
    · have hki : (k : Int) < (n : Int) := by omega
      have k1 : k < o.items.length := by rw [← HN.out]; exact hlt
      obtain ⟨b, s, d, f1, r1⟩ := RR.out.i.at k (by rw [List.length_map]; exact k1)
      obtain ⟨g1, -, -⟩ := slice_of EV.out f1
      subst g1
      rw [List.getElem_map] at r1
      obtain ⟨p, hp⟩ : ∃ p, p = o.items[k] := ⟨_, rfl⟩
      have op : okI p := by rw [hp]; exact RR.out.ok.i _ (List.getElem_mem _)
      have HQ : Hid (p.2.2.1 ≤ 18446744073709551615) := hide (by rw [hp]; exact HS.out.s _ (List.getElem_mem _))
      have HM : Hid (p.2.1 ≤ 255) := hide (by rw [hp]; exact HS.out.m _ (List.getElem_mem _))
      have HNl : Hid (p.1.length ≤ 64) := hide (by rw [hp]; exact HNM.out _ (List.getElem_mem _))
      rw [← hp] at r1
      have HFl : Hid (((o.items.take (k + 1)).map itemB).flatten = ((o.items.take k).map itemB).flatten ++ itemB p) := hide (by rw [flat_succ itemB _ k k1, ← hp])
      obtain ⟨nm, mo, sz, ky⟩ := p
      have R0 := hide r1
      have OKl : Hid (ky.length = 32) := hide op
      simp only at HQ HM HNl
      obtain ⟨xs, hxs⟩ : ∃ x, x = pre ++ ((o.items.take k).map itemB).flatten := ⟨_, rfl⟩
      rw [← hxs] at HL
      have HXL : Hid (xs.length ≤ 11 + 14976) := hide (by have := FL.out k (by omega); have := HPL.out; rw [hxs, List.length_append]; omega)
      have HXE : Hid (pre ++ ((o.items.take (k + 1)).map itemB).flatten = xs ++ (varB nm.length ++ nm) ++ fixB 1 mo ++ varB sz ++ ky) := hide (by rw [HFl.out, hxs]; unfold itemB; simp)
      have HV1 : Hid ((varB nm.length).length ≤ 10) := hide (varB_len _)
      have HV2 : Hid ((varB sz).length ≤ 10) := hide (varB_len _)
      have HV3 : Hid ((fixB 1 mo).length = 1) := hide (fixB_len _ _)
      obtain ⟨d0, d1, d2⟩ := itemC_cells (rangeAt_below r1 hL.old)
      simp only at d0 d1 d2
      clear hL r1 f1 hp op hxs HFl
      subst hva
      go_wp2_with fail
      refine (rtextb wr nm (by have := HNl.out; omega)).mono ?_
      rintro e w4 ⟨vv4, rfl, o4, hb4⟩
      have HL4 := hide (HL.out.below hb4)
      have RD5 : Hid (RdA w4 vv4 (varB nm.length ++ nm)) := hide (.inl (Rd_owned o4))
      clear o4 hb4
      have LN5 : Hid (xs.length + (varB nm.length ++ nm).length ≤ 140737488355000) := hide (by have := HXL.out; have := HNl.out; have := HV1.out; rw [List.length_append]; omega)
      clear d0 d1 d2 c2
      go_wp2_with (first
        | ((with_reducible refine wpList_append_rdX ?_ (.tmp 69) (.tmp 76) ?_ (w.heap.size + 1) _ vv4 xs (varB nm.length ++ nm) ?_ HL4.out.own ?_ RD5.out LN5.out HL4.out.size ?_); rfl; rfl; rfl; rfl; intro va5 w5 O5 G5 E5; generalize hG : wpList _ _ _ _ _ _ = G))
      have HL5 := hide (HL4.out.app O5.out G5.out)
      obtain ⟨d0, d1, d2⟩ := itemC_cells (rangeAt_below R0.out HL5.out.old)
      simp only at d0 d1 d2
      have c2 := HL5.out.obj.cI
      rw [EV.out] at c2
      clear HL HL4 O5 G5 E5 RD5 LN5
      have HL6 : Hid (RL w (w5.alloc (.cells #[.int .u8 (mo : Int)] 5)) o v va5 (xs ++ (varB nm.length ++ nm))) := hide (HL5.out.below (below_alloc _ _))
      have RD7 := hide (rd_one mo HM.out w5)
      have LN7 : Hid ((xs ++ (varB nm.length ++ nm)).length + (fixB 1 mo).length ≤ 140737488355000) := hide (by have := HXL.out; have := HNl.out; have := HV1.out; have := HV3.out; simp only [List.length_append]; omega)
      subst hG
      go_wp2_with (first
        | ((with_reducible refine wpList_append_rdX ?_ (.tmp 78) (.tmp 85) ?_ (w.heap.size + 1) va5 (.slice (some ⟨w5.heap.size, 0, none⟩) 1 1) (xs ++ (varB nm.length ++ nm)) (fixB 1 mo) ?_ HL6.out.own ?_ RD7.out LN7.out HL6.out.size ?_); rfl; rfl; rfl; rfl; intro va7 w7 O7 G7 E7; generalize hG : wpList _ _ _ _ _ _ = G))
      have HL7 := hide (HL6.out.app O7.out G7.out)
      clear d0 d1 d2 c2
      obtain ⟨d0, d1, d2⟩ := itemC_cells (rangeAt_below R0.out HL7.out.old)
      simp only at d0 d1 d2
      have c2 := HL7.out.obj.cI
      rw [EV.out] at c2
      clear HL5 HL6 O7 G7 E7 RD7 LN7
      subst hG
      go_wp2_with fail
      refine (rvarb w7 sz HQ.out).mono ?_
      rintro e w8 ⟨vv8, rfl, o8, hb8⟩
      have HL8 := hide (HL7.out.below hb8)
      have RD9 : Hid (RdA w8 vv8 (varB sz)) := hide (.inl (Rd_owned o8))
      clear o8 hb8
      have LN9 : Hid ((xs ++ (varB nm.length ++ nm) ++ fixB 1 mo).length + (varB sz).length ≤ 140737488355000) := hide (by have := HXL.out; have := HNl.out; have := HV1.out; have := HV3.out; have := HV2.out; simp only [List.length_append]; omega)
      clear d0 d1 d2 c2
      go_wp2_with (first
        | ((with_reducible refine wpList_append_rdX ?_ (.tmp 87) (.tmp 94) ?_ (w.heap.size + 1) va7 vv8 (xs ++ (varB nm.length ++ nm) ++ fixB 1 mo) (varB sz) ?_ HL8.out.own ?_ RD9.out LN9.out HL8.out.size ?_); rfl; rfl; rfl; rfl; intro va9 w9 O9 G9 E9; generalize hG : wpList _ _ _ _ _ _ = G))
      have HL9 := hide (HL8.out.app O9.out G9.out)
      have c2 := HL9.out.obj.cI
      rw [EV.out] at c2
      have RD10 : Hid (RdA w9 (.slice (some ⟨b, s + k * 35 + 3, none⟩) 32 32) ky) := hide (rdA_key OKl.out (itemC_keyR (rangeAt_below R0.out HL9.out.old)))
      have LN10 : Hid ((xs ++ (varB nm.length ++ nm) ++ fixB 1 mo ++ varB sz).length + ky.length ≤ 140737488355000) := hide (by have := HXL.out; have := HNl.out; have := HV1.out; have := HV3.out; have := HV2.out; have := OKl.out; simp only [List.length_append]; omega)
      have hsk := sliceKey
      clear HL7 HL8 O9 G9 E9 RD9 LN9
      subst hG
      go_wp2_with (first
        | ((with_reducible refine wpList_append_rdX ?_ (.tmp 96) (.tmp 102) ?_ (w.heap.size + 1) va9 (.slice (some ⟨b, s + k * 35 + 3, none⟩) 32 32) (xs ++ (varB nm.length ++ nm) ++ fixB 1 mo ++ varB sz) ky ?_ HL9.out.own ?_ RD10.out LN10.out HL9.out.size ?_); rfl; rfl; rfl; rfl; intro va10 w10 O10 G10 E10; generalize hG : wpList _ _ _ _ _ _ = G))
      have HL10 := hide (HL9.out.app O10.out G10.out)
      clear HL9 O10 G10 E10 RD10 LN10 c2 hsk
      subst hG
      go_wp2
      exact ⟨⟨k + 1, va10, rfl, by go_num, by omega, by rw [HXE.out]; exact HL10.out⟩, by simp [intOf]; omega⟩
    · have hki : ¬ (k : Int) < (n : Int) := by omega
      have HE2 : Hid (layO o = pre ++ ((o.items.take k).map itemB).flatten) := hide (by rw [HPE.out, List.take_of_length_le (by rw [← HN.out]; omega)])
      clear hL
      subst hva
      go_wp2
      go_ret
      exact ⟨_, rfl, by rw [HE2.out]; exact own_baseB HL.out.own (by omega), HL.out.old⟩
end Go.Proofs.YtjcfndiceinkjabDoor

/- The document's bytes of an object: a snapshot. -/
namespace Go.Proofs.YtjcfndiceinkjabDoor
set_option linter.unusedVariables false
set_option linter.unusedSimpArgs false
open Go.RowKit

set_option maxRecDepth 20000 in
set_option maxHeartbeats 4000000 in
theorem rlaid_4 (w : World) (o : ObjR) (v : ObjV) (hr : ObjRd w o v) (hkd : o.kind = 4) (hs : TxtSz o) (hn : o.parents.length ≤ 128) (hnt : o.note.length ≤ 1024) : Calls Tryd.prog 39 #[.agg (objL o v).toArray] w (OwnC w (layO o)) := by
  have hA0 : ObjAt (w.alloc (.cells (objL o v).toArray 30)) w.heap.size o v := Blk.made w _ _
  have c0 := hA0.cKind
  have hk : o.kind ≤ 255 := by omega
  have RR := hide hr
  have b1 : ((o.kind : Int) == 1) = false := by simp; omega
  have b2 : ((o.kind : Int) == 2) = false := by simp; omega
  have b3 : ((o.kind : Int) == 3) = false := by simp; omega
  have b4 : ((o.kind : Int) == 4) = true := by simp; omega
  have HE : Hid (layO o = fixB 1 o.kind ++ (o.tree ++ varB o.parents.length ++ o.parents.flatten ++ fixB 8 (timeN o) ++ (varB o.note.length ++ o.note))) := hide (by unfold layO; rw [if_neg (by omega), if_neg (by omega), if_neg (by omega), if_pos hkd])
  have HS := hide hs
  obtain ⟨ao, c, ev, hpl⟩ := hr.k.slice
  rw [List.length_map] at ev hpl
  obtain ⟨n, hnn⟩ : ∃ n, n = o.parents.length := ⟨_, rfl⟩
  rw [← hnn] at ev hpl HE hn
  have HN := hide hnn
  have EV := hide ev
  have hwn := wrapu_nat n hpl
  have OKt : Hid (o.tree.length = 32) := hide hr.ok.t
  have HNT := hide hnt
  have FL : Hid (∀ k, k ≤ n → (o.parents.take k).flatten.length ≤ 128 * 32) := hide (fun k hk => by
    have := flat_take_le (fun x : List UInt8 => x) 32 o.parents (fun p hp => by have e : p.length = 32 := hr.ok.k p hp; omega) k (by omega)
    rw [List.map_id'] at this
    exact this)
  clear hs hnn ev hnt
  obtain ⟨W0, hW0⟩ : ∃ W, W = w.alloc (.cells (objL o v).toArray 30) := ⟨_, rfl⟩
  have HR0 : Hid (RL w (W0.alloc (.cells #[.int .u8 (o.kind : Int)] 5)) o v (.slice none 0 0) []) := hide (by
    have h0 : RL w W0 o v (.slice none 0 0) [] := by rw [hW0]; exact ⟨World.ownsRow_nil _ _ _ _, hA0, below_alloc w _⟩
    exact h0.below (below_alloc _ _))
  have RD0 := hide (rd_one o.kind hk W0)
  have RD0 : Hid (RdA ((w.alloc (.cells (objL o v).toArray 30)).alloc (.cells #[.int .u8 (o.kind : Int)] 5)) (.slice (some ⟨w.heap.size + 1, 0, none⟩) 1 1) (fixB 1 o.kind)) := hide (by have := RD0.out; rw [hW0] at this; simpa using this)
  have OW0 : Hid (((w.alloc (.cells (objL o v).toArray 30)).alloc (.cells #[.int .u8 (o.kind : Int)] 5)).ownsRow (w.heap.size + 1) 5 1 (.slice none 0 0) ([] : List UInt8).length (([] : List UInt8).map u8c)) := hide (World.ownsRow_nil _ _ _ _)
  have BS0 : Hid (w.heap.size + 1 ≤ ((w.alloc (.cells (objL o v).toArray 30)).alloc (.cells #[.int .u8 (o.kind : Int)] 5)).heap.size) := hide (by simp)
  have LN0 : Hid (([] : List UInt8).length + (fixB 1 o.kind).length ≤ 140737488355000) := hide (by rw [fixB_len]; simp)
  clear hr hA0 hkd
  go_enter Tryd.func39, Tryd.ntmps39
  go_wp2_with (first
    | ((with_reducible refine wpList_append_rdX ?_ (.tmp 7) (.tmp 10) ?_ (w.heap.size + 1) (.slice none 0 0) (.slice (some ⟨w.heap.size + 1, 0, none⟩) 1 1) [] (fixB 1 o.kind) ?_ OW0.out ?_ RD0.out LN0.out BS0.out ?_); rfl; rfl; rfl; rfl; intro va1 w1 O1 G1 E1; generalize hG : wpList _ _ _ _ _ _ = G))
  have HL1 : Hid (RL w w1 o v va1 (fixB 1 o.kind)) := hide (by rw [hW0] at HR0; exact HR0.out.app (by simpa using O1.out) G1.out)
  have hA1 := HL1.out.obj
  have c0 := hA1.cKind
  clear HR0 RD0 OW0 BS0 O1 G1 E1 hW0 hA1
  obtain ⟨xs, hxs⟩ : ∃ x, x = fixB 1 o.kind := ⟨_, rfl⟩
  have HXL : Hid (xs.length = 1) := hide (by rw [hxs, fixB_len])
  have hvl := varB_len n
  rw [← hxs] at HL1 HE
  have RD2 : Hid (RdA w1 (.slice (some ⟨w.heap.size, 4, none⟩) 32 32) o.tree) := hide (rdA_key OKt.out (ObjAt.tree HL1.out.obj))
  have LN2 : Hid (xs.length + o.tree.length ≤ 140737488355000) := hide (by rw [HXL.out, OKt.out]; omega)
  have hsk := sliceKey
  clear hxs
  subst hG
  go_wp2_with (first
    | ((with_reducible refine wpList_append_rdX ?_ (.tmp 106) (.tmp 108) ?_ (w.heap.size + 1) va1 (.slice (some ⟨w.heap.size, 4, none⟩) 32 32) xs o.tree ?_ HL1.out.own ?_ RD2.out LN2.out HL1.out.size ?_); rfl; rfl; rfl; rfl; intro va2 w2 O2 G2 E2; generalize hG : wpList _ _ _ _ _ _ = G))
  have HL2 := hide (HL1.out.app O2.out G2.out)
  clear HL1 O2 G2 E2 RD2 LN2
  have c2 := HL2.out.obj.cK OKt.out
  rw [EV.out] at c2
  subst hG
  go_wp2_with fail
  refine (rvarb w2 n (by omega)).mono ?_
  rintro e w3 ⟨vv3, rfl, o3, hb3⟩
  have HL3 := hide (HL2.out.below hb3)
  have RD4 : Hid (RdA w3 vv3 (varB n)) := hide (.inl (Rd_owned o3))
  clear o3 hb3
  have LN4 : Hid ((xs ++ o.tree).length + (varB n).length ≤ 140737488355000) := hide (by rw [List.length_append, HXL.out, OKt.out]; omega)
  go_wp2_with (first
    | ((with_reducible refine wpList_append_rdX ?_ (.tmp 110) (.tmp 115) ?_ (w.heap.size + 1) va2 vv3 (xs ++ o.tree) (varB n) ?_ HL3.out.own ?_ RD4.out LN4.out HL3.out.size ?_); rfl; rfl; rfl; rfl; intro va4 w4 O4 G4 E4; generalize hG : wpList _ _ _ _ _ _ = G))
  have HL4 := hide (HL3.out.app O4.out G4.out)
  clear HL2 HL3 O4 G4 E4 RD4 LN4 c2
  have c2 := HL4.out.obj.cK OKt.out
  rw [EV.out] at c2
  obtain ⟨pre, hpre⟩ : ∃ x, x = xs ++ o.tree ++ varB n := ⟨_, rfl⟩
  rw [← hpre] at HL4
  have HPL : Hid (pre.length ≤ 43) := hide (by rw [hpre, List.length_append, List.length_append, HXL.out, OKt.out]; omega)
  have HPE : Hid (layO o = pre ++ o.parents.flatten ++ fixB 8 (timeN o) ++ (varB o.note.length ++ o.note)) := hide (by rw [HE.out, hpre]; simp)
  clear hpre HE hvl HXL
  subst hG
  go_wp2_with fail
  clear c2 b1 b2 b3 b4 c0
  go_loopw [3, 6] (fun s3 sk wr => ∃ (k : Nat) (va : Value), va = s3 ∧ sk = .int .i64 k ∧ k ≤ n ∧ RL w wr o v va (pre ++ (o.parents.take k).flatten)) (fun _ sk _ => n - (intOf sk).toNat)
  case atStart => exact ⟨0, _, rfl, rfl, by omega, by simpa using HL4.out⟩
  case round =>
    obtain ⟨k, va, hva, rfl, hk2, hL⟩ := hrel
    have HL := hide hL
    have c2 := hL.obj.cK OKt.out
    rw [EV.out] at c2
    clear HL4
    by_cases hlt : k < n
    · have hki : (k : Int) < (n : Int) := by omega
      have k1 : k < o.parents.length := by rw [← HN.out]; exact hlt
      obtain ⟨b, s, d, f1, r1⟩ := RR.out.k.at k (by rw [List.length_map]; exact k1)
      obtain ⟨g1, -, -⟩ := slice_of EV.out f1
      subst g1
      rw [List.getElem_map] at r1
      obtain ⟨p, hp⟩ : ∃ p, p = o.parents[k] := ⟨_, rfl⟩
      have op : okK p := by rw [hp]; exact RR.out.ok.k _ (List.getElem_mem _)
      rw [← hp] at r1
      have OKl : Hid (p.length = 32) := hide op
      have HFl : Hid ((o.parents.take (k + 1)).flatten = (o.parents.take k).flatten ++ p) := hide (by have := flat_succ (fun x : List UInt8 => x) o.parents k k1; rw [List.map_id', List.map_id'] at this; rw [this, ← hp])
      obtain ⟨xs, hxs⟩ : ∃ x, x = pre ++ (o.parents.take k).flatten := ⟨_, rfl⟩
      rw [← hxs] at HL
      have HXL : Hid (xs.length ≤ 43 + 4096) := hide (by have := FL.out k (by omega); have := HPL.out; rw [hxs, List.length_append]; omega)
      have HXE : Hid (pre ++ (o.parents.take (k + 1)).flatten = xs ++ p) := hide (by rw [HFl.out, hxs]; simp)
      have RD5 : Hid (RdA wr (.slice (some ⟨b, s + k * 32, none⟩) 32 32) p) := hide (rdA_key OKl.out (rangeAt_below r1 hL.old))
      have LN5 : Hid (xs.length + p.length ≤ 140737488355000) := hide (by have := HXL.out; have := OKl.out; omega)
      clear hL r1 f1 hp op hxs HFl
      subst hva
      go_wp2_with (first
        | ((with_reducible refine wpList_append_rdX ?_ (.tmp 124) (.tmp 129) ?_ (w.heap.size + 1) _ (.slice (some ⟨b, s + k * 32, none⟩) 32 32) xs p ?_ HL.out.own ?_ RD5.out LN5.out HL.out.size ?_); rfl; rfl; rfl; rfl; intro va5 w5 O5 G5 E5; generalize hG : wpList _ _ _ _ _ _ = G))
      have HL5 := hide (HL.out.app O5.out G5.out)
      clear HL O5 G5 E5 RD5 LN5 c2
      subst hG
      go_wp2
      exact ⟨⟨k + 1, va5, rfl, by go_num, by omega, by rw [HXE.out]; exact HL5.out⟩, by simp [intOf]; omega⟩
    · have hki : ¬ (k : Int) < (n : Int) := by omega
      obtain ⟨xs, hxs⟩ : ∃ x, x = pre ++ o.parents.flatten := ⟨_, rfl⟩
      have HL6 : Hid (RL w wr o v va xs) := hide (by have := HL.out; rw [List.take_of_length_le (by rw [← HN.out]; omega)] at this; rw [hxs]; exact this)
      have HXL : Hid (xs.length ≤ 43 + 4096) := hide (by have := FL.out n (Nat.le_refl _); rw [List.take_of_length_le (by rw [← HN.out]; omega)] at this; have := HPL.out; rw [hxs, List.length_append]; omega)
      rw [← hxs] at HPE
      have ct := HL6.out.obj.cTime OKt.out
      have cn := HL6.out.obj.cNote OKt.out
      obtain ⟨tm, htm⟩ : ∃ x, x = o.time := ⟨_, rfl⟩
      rw [← htm] at ct
      have hwt : IntKind.u64.wrap tm = ((timeN o : Nat) : Int) := by unfold timeN; rw [htm]; exact (Int.toNat_of_nonneg (by rw [IntKind.wrap_u64]; omega)).symm
      have HTB : Hid (timeN o ≤ 18446744073709551615) := hide (by have := hwt; rw [IntKind.wrap_u64] at this; omega)
      obtain ⟨tn, htn⟩ : ∃ x, x = timeN o := ⟨_, rfl⟩
      rw [← htn] at hwt HTB HPE
      have HF8 : Hid ((fixB 8 tn).length = 8) := hide (fixB_len _ _)
      clear hL HL htm hxs htn
      subst hva
      go_wp2_with fail
      refine (rfixedb wr tn 8 HTB.out (by omega)).mono ?_
      rintro e w7 ⟨vv7, rfl, o7, hb7⟩
      have HL7 := hide (HL6.out.below hb7)
      have RD8 : Hid (RdA w7 vv7 (fixB 8 tn)) := hide (.inl (Rd_owned o7))
      clear o7 hb7
      have LN8 : Hid (xs.length + (fixB 8 tn).length ≤ 140737488355000) := hide (by have := HXL.out; have := HF8.out; omega)
      go_wp2_with (first
        | ((with_reducible refine wpList_append_rdX ?_ (.tmp 131) (.tmp 135) ?_ (w.heap.size + 1) _ vv7 xs (fixB 8 tn) ?_ HL7.out.own ?_ RD8.out LN8.out HL7.out.size ?_); rfl; rfl; rfl; rfl; intro va8 w8 O8 G8 E8; generalize hG : wpList _ _ _ _ _ _ = G))
      have HL8 := hide (HL7.out.app O8.out G8.out)
      clear HL6 HL7 O8 G8 E8 RD8 LN8 ct cn c2
      have cn := HL8.out.obj.cNote OKt.out
      subst hG
      go_wp2_with fail
      refine (rtextb w8 o.note (by have := HNT.out; omega)).mono ?_
      rintro e w9 ⟨vv9, rfl, o9, hb9⟩
      have HL9 := hide (HL8.out.below hb9)
      have RD10 : Hid (RdA w9 vv9 (varB o.note.length ++ o.note)) := hide (.inl (Rd_owned o9))
      clear o9 hb9
      have hvn := varB_len o.note.length
      have LN10 : Hid ((xs ++ fixB 8 tn).length + (varB o.note.length ++ o.note).length ≤ 140737488355000) := hide (by have := HXL.out; have := HF8.out; have := HNT.out; simp only [List.length_append]; omega)
      clear hvn
      go_wp2_with (first
        | ((with_reducible refine wpList_append_rdX ?_ (.tmp 137) (.tmp 140) ?_ (w.heap.size + 1) va8 vv9 (xs ++ fixB 8 tn) (varB o.note.length ++ o.note) ?_ HL9.out.own ?_ RD10.out LN10.out HL9.out.size ?_); rfl; rfl; rfl; rfl; intro va10 w10 O10 G10 E10; generalize hG : wpList _ _ _ _ _ _ = G))
      have HL10 := hide (HL9.out.app O10.out G10.out)
      clear HL8 HL9 O10 G10 E10 RD10 LN10 cn
      subst hG
      go_wp2
      go_ret
      exact ⟨va10, rfl, by rw [HPE.out]; exact own_baseB HL10.out.own (by omega), HL10.out.old⟩
end Go.Proofs.YtjcfndiceinkjabDoor
