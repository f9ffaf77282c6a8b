/- The document's Has and Next. -/
import Derived.Test.YtagnglkkmdeicaaPA5
namespace Go.Proofs.Ytagnglkkmdeicaa
set_option linter.unusedVariables false
set_option linter.unusedSimpArgs false
open Go.RowKit
set_option maxRecDepth 100000

def keysD (D : List RfV) (s : Int) : List (List UInt8) := if opD D s = true then ((D[s.toNat]?).map (·.L)).getD [] else []
theorem keysD_no {D : List RfV} {s : Int} (h : opD D s = false) : keysD D s = [] := by unfold keysD; rw [h]; rfl
theorem keysD_yes {D : List RfV} {k : Nat} {d : RfV} (hk : k < 16) (hd : D[k]? = some d) (ho : d.op = true) : keysD D (k : Int) = d.L := by
  unfold keysD
  rw [opD_in hk hd, ho, if_pos rfl, Int.toNat_natCast, hd]; rfl
/-- What a walk over the row of an open session leans on. -/
structure Rw (w : World) (zr : Nat) (D : List RfV) (zx : Nat) (x : List UInt8) (W : World) : Prop where
  rf : RfAt W zr D
  key : KeyAt W zx x
  bel : Below w.heap.size w W
theorem Rw.below {w W W' : World} {zr zx : Nat} {D : List RfV} {x : List UInt8} (h : Rw w zr D zx x W) (hb : Below W.heap.size W W') : Rw w zr D zx x W' := ⟨h.rf.below hb, h.key.below hb, h.bel.trans (hb.mono h.bel.size)⟩
theorem Rw.at' {w W : World} {zr zx : Nat} {D : List RfV} {x : List UInt8} (h : Rw w zr D zx x W) {k : Nat} {d : RfV} (hd : D[k]? = some d) {i : Nat} (hi : i < d.L.length) {y : List UInt8} (hy : y = d.L[i]) : ∃ g o, d.ao = some ⟨g, o, none⟩ ∧ ∀ w', Below W.heap.size W w' → w'.cell? ⟨zr, 32 + k, none⟩ = some (.slice (some ⟨g, o, none⟩) d.L.length d.cap) ∧ w'.rangeAt g (o + i * 32) (y.map u8c) ∧ KeyAt w' zx x := by
  obtain ⟨g, o, e, _⟩ := (h.rf.row k d hd).at' i hi
  refine ⟨g, o, e, fun w' hb => ⟨?_, ?_, h.key.below hb⟩⟩
  · have := (h.rf.below hb).cK hd
    rw [e] at this
    exact this
  · obtain ⟨g', o', e', h2⟩ := ((h.rf.below hb).row k d hd).at' i hi
    rw [e] at e'
    cases e'
    rw [hy]; exact h2
set_option maxHeartbeats 1000000 in
theorem rhas_no (w : World) (zr : Nat) (D : List RfV) (s : Int) (x : List UInt8) (h : RfAt w zr D) (ho : opD D s = false) : Calls Try.prog 38 #[.pointer (some ⟨zr, 0, none⟩), .int .i64 s, keyV x] w fun e w' => e = .returned (.bool false) ∧ Below w.heap.size w w' := by
  have hB : Below w.heap.size w (w.alloc (.cells (x.map u8c).toArray 30)) := (Below.refl _ _).alloc (Nat.le_refl _) _
  have HI := hide (risNo (h.below hB) ho)
  have HB := hide hB
  clear h ho hB
  show Calls Try.prog 38 #[.pointer (some ⟨zr, 0, none⟩), .int .i64 s, .agg (x.map u8c).toArray] w _
  go_enter Try.func38, Try.ntmps38
  go_wp2_with (go_at_call 37; (with_reducible refine HI.out.mono ?_); rintro e w' ⟨rfl, rfl⟩)
  go_ret
  exact ⟨rfl, HB.out⟩
set_option maxHeartbeats 2000000 in
theorem rhas_yes (w : World) (zr : Nat) (D : List RfV) (k : Nat) (d : RfV) (x : List UInt8) (hk : k < 16) (hx : x.length = 32) (h : RfAt w zr D) (hd : D[k]? = some d) (ho : d.op = true) (hl : d.L.length ≤ 4398046511104) : Calls Try.prog 38 #[.pointer (some ⟨zr, 0, none⟩), .int .i64 (k : Int), keyV x] w fun e w' => e = .returned (.bool (decide (x ∈ d.L))) ∧ Below w.heap.size w w' := by
  obtain ⟨W, hW⟩ : ∃ W, W = w.alloc (.cells (x.map u8c).toArray 30) := ⟨_, rfl⟩
  have hB : Below w.heap.size w W := by rw [hW]; exact (Below.refl _ _).alloc (Nat.le_refl _) _
  have HI := hide (risYes (h.below hB) hk hd ho)
  have HR : Hid (Rw w zr D w.heap.size x W) := hide ⟨h.below hB, by rw [hW]; exact ⟨Blk.made w _ _, hx⟩, hB⟩
  have HX := hide hx
  have HK := hide hk
  have HD := hide hd
  obtain ⟨m, hm⟩ : ∃ m, m = d.L.length := ⟨_, rfl⟩
  have HM := hide hm
  rw [← hm] at hl
  have h2 : (k : Int) < 16 := by omega
  clear h ho hB hx hm hk hd
  show Calls Try.prog 38 #[.pointer (some ⟨zr, 0, none⟩), .int .i64 (k : Int), .agg (x.map u8c).toArray] w _
  go_enter Try.func38, Try.ntmps38
  go_upto_region 1 with fail
  rw [← hW]
  clear hW
  go_upto_region 3 with (go_at_call 37; (with_reducible refine HI.out.mono ?_); rintro e w' ⟨rfl, rfl⟩)
  clear HI
  go_wp2
  go_loopw [7] (fun t wr => ∃ i : Nat, t = .int .i64 i ∧ i ≤ m ∧ (∀ j (h : j < d.L.length), j < i → d.L[j] ≠ x) ∧ Rw w zr D w.heap.size x wr) (fun t _ => m - (intOf t).toNat)
  case atStart => exact ⟨0, rfl, by omega, fun j _ hj => by omega, HR.out⟩
  case round =>
    clear HR
    obtain ⟨i, rfl, hi, hno, hR⟩ := hrel
    have hck := hR.rf.cK HD.out
    rw [← HM.out] at hck
    by_cases hlt : i < m
    · have hii : (i : Int) < (m : Int) := by omega
      have hil : i < d.L.length := by rw [← HM.out]; exact hlt
      obtain ⟨y, hy⟩ : ∃ y, y = d.L[i] := ⟨_, rfl⟩
      obtain ⟨g, o, hao, hrd⟩ := hR.at' HD.out hil hy
      have hyl : y.length = 32 := by rw [hy]; exact (hR.rf.row k d HD.out).len _ (List.getElem_mem _)
      rw [hao] at hck
      rw [← HM.out] at hrd
      have HRD := hide (hrd _ (below_d wr))
      have HRn := hide (hR.below (below_d wr))
      have HY := hide hyl
      have HNO := hide hno
      have HYE := hide hy
      clear hR hrd hyl hno hao hy
      go_upto_region 6 with fail
      refine rh_walk _ (fun _ _ _ _ _ h => h) wr zr k g o m d.cap i w.heap.size x y HX.out HY.out HK.out hlt HRD.out _ (Nat.lt_of_sub_pos (by exact Nat.succ_pos _)) rfl rfl rfl rfl ?_
      simp only [Act.put, List.setIfInBounds_toArray, List.set_cons_zero, List.set_cons_succ]
      obtain ⟨wd, hwd⟩ : ∃ wd, wd = wr.drew := ⟨_, rfl⟩
      rw [← hwd] at HRn ⊢
      clear hwd HRD hck
      by_cases hyx : y = x
      · have hb : (y == x) = true := by simpa using hyx
        have HE : Hid (decide (x ∈ d.L) = true) := hide (by rw [decide_eq_true_eq, ← hyx, HYE.out]; exact List.getElem_mem _)
        rw [hb]
        clear hb hyx
        go_wp2
        go_ret
        exact ⟨by rw [HE.out]; rfl, HRn.out.bel⟩
      · have hb : (y == x) = false := by simpa using hyx
        have HYX := hide hyx
        rw [hb]
        clear hb hyx
        go_wp2
        refine ⟨⟨i + 1, by go_num, by omega, fun j hj hji => ?_, HRn.out⟩, by simp [intOf]; omega⟩
        by_cases e : j = i
        · subst e; rw [← HYE.out]; exact HYX.out
        · exact HNO.out j hj (by omega)
    · have hii : ¬ (i : Int) < (m : Int) := by omega
      have HE : Hid (decide (x ∈ d.L) = false) := hide (by
        rw [decide_eq_false_iff_not]
        intro hx
        obtain ⟨j, hj, e⟩ := List.getElem_of_mem hx
        exact hno j hj (by rw [← HM.out] at hj; omega) e)
      have HBE := hide hR.bel
      clear hno hR
      go_wp2
      go_ret
      exact ⟨by rw [HE.out]; rfl, HBE.out⟩
/-- Next told by a rising list: its first key that fits. -/
theorem least_first {L : List (List UInt8)} {after : List UInt8} {any : Bool} (hr : L.Pairwise (fun a b => cmpK a b < 0)) {i : Nat} (hi : i < L.length) (hno : ∀ j (h : j < L.length), j < i → ¬ FitsN after any L[j]) (hf : FitsN after any L[i]) : LeastN (fun x => x ∈ L) after any L[i] true := by
  refine .inl ⟨rfl, List.getElem_mem _, hf, fun x hx hfx => ?_⟩
  obtain ⟨j, hj, rfl⟩ := List.getElem_of_mem hx
  rcases Nat.lt_trichotomy j i with h | h | h
  · exact absurd hfx (hno j hj h)
  · subst h; rw [cmpK_self]; decide
  · have := List.pairwise_iff_getElem.1 hr i j hi hj h
    omega
def RNextC (w : World) (L : List (List UInt8)) (after : List UInt8) (any : Bool) (e : Ending) (w' : World) : Prop := ∃ k ok, e = .returned (.tuple #[keyV k, .bool ok]) ∧ k.length = 32 ∧ LeastN (fun x => x ∈ L) after any k ok ∧ Below w.heap.size w w'
theorem two_blocks (w : World) (a : List UInt8) (ha : a.length = 32) : KeyAt ((w.alloc (.cells (a.map u8c).toArray 30)).alloc (.cells keyZ 30)) w.heap.size a ∧ Blk ((w.alloc (.cells (a.map u8c).toArray 30)).alloc (.cells keyZ 30)) (w.heap.size + 1) keyZ 30 ∧ Below w.heap.size w ((w.alloc (.cells (a.map u8c).toArray 30)).alloc (.cells keyZ 30)) := ⟨⟨(Blk.made w _ _).alloc _, ha⟩, blk_made1 w _ _ _ _, ((Below.refl _ _).alloc (Nat.le_refl _) _).alloc (by simp) _⟩
set_option maxHeartbeats 2000000 in
theorem rnext_no (w : World) (zr : Nat) (D : List RfV) (s : Int) (after : List UInt8) (any : Bool) (ha : after.length = 32) (h : RfAt w zr D) (ho : opD D s = false) : Calls Try.prog 40 #[.pointer (some ⟨zr, 0, none⟩), .int .i64 s, keyV after, .bool any] w (RNextC w [] after any) := by
  have hz := zero_key
  obtain ⟨W, hW⟩ : ∃ W, W = (w.alloc (.cells (after.map u8c).toArray 30)).alloc (.cells keyZ 30) := ⟨_, rfl⟩
  obtain ⟨hKA, hKZ, hB⟩ := two_blocks w after ha
  rw [← hW] at hKA hKZ hB
  have HI := hide (risNo (h.below hB) ho)
  have HKZ := hide hKZ
  have HB := hide hB
  have HZS : Hid (keyZ.size = 32) := hide rfl
  have HU1 : Hid (keyZ.all (·.oneCell') = true) := hide (all_oneCell_toArray (u8c_one _))
  clear h ho hKA hKZ hB ha
  show Calls Try.prog 40 #[.pointer (some ⟨zr, 0, none⟩), .int .i64 s, .agg (after.map u8c).toArray, .bool any] w _
  go_enter Try.func40, Try.ntmps40
  go_upto_region 1 with fail
  rw [← hW]
  clear hW
  go_wp2_with (first | (go_at_call 37; (with_reducible refine HI.out.mono ?_); rintro e w' ⟨rfl, rfl⟩) | ((with_reducible refine wpList_store_blk ?_ 30 (.tmp 8) (.tmp 48) ?_ (w.heap.size + 1) 32 keyZ keyZ 30 HZS.out HZS.out ?_ ?_ HKZ.out infoKey HU1.out ?_); rfl; rfl; rfl; rfl; intro w9 hk9 hg9; have HK9 := hide hk9; have HG9 := hide hg9; clear hk9 hg9))
  refine bodyPost_ret (results_cell2 rfl _ _ _ rfl _ (loadBlkT HK9.out 30 _ Try.underlying30 rfl 32 infoKey HZS.out)) rfl ?_
  exact ⟨List.replicate 32 0, false, rfl, by simp, .inr ⟨rfl, rfl, fun x hx => by cases hx⟩, HB.out.trans (below_grownBy HG9.out (by omega) HB.out.size)⟩
set_option maxHeartbeats 4000000 in
theorem rnext_yes (w : World) (zr : Nat) (D : List RfV) (k : Nat) (d : RfV) (x : List UInt8) (any : Bool) (hk : k < 16) (hx : x.length = 32) (h : RfAt w zr D) (hd : D[k]? = some d) (ho : d.op = true) (hl : d.L.length ≤ 4398046511104) (hrise : d.L.Pairwise (fun a b => cmpK a b < 0)) : Calls Try.prog 40 #[.pointer (some ⟨zr, 0, none⟩), .int .i64 (k : Int), keyV x, .bool any] w (RNextC w d.L x any) := by
  have hz := zero_key
  obtain ⟨W, hW⟩ : ∃ W, W = (w.alloc (.cells (x.map u8c).toArray 30)).alloc (.cells keyZ 30) := ⟨_, rfl⟩
  obtain ⟨hKA, hKZ, hB⟩ := two_blocks w x hx
  rw [← hW] at hKA hKZ hB
  have HI := hide (risYes (h.below hB) hk hd ho)
  have HR : Hid (Rw w zr D w.heap.size x W) := hide ⟨h.below hB, hKA, hB⟩
  have HKZ := hide hKZ
  have HX := hide hx
  have HK := hide hk
  have HD := hide hd
  have HRI := hide hrise
  have HZS : Hid (keyZ.size = 32) := hide rfl
  have HU1 : Hid (keyZ.all (·.oneCell') = true) := hide (all_oneCell_toArray (u8c_one _))
  obtain ⟨m, hm⟩ : ∃ m, m = d.L.length := ⟨_, rfl⟩
  have HM := hide hm
  rw [← hm] at hl
  have h2 : (k : Int) < 16 := by omega
  clear h ho hB hx hm hk hd hKA hKZ hrise
  show Calls Try.prog 40 #[.pointer (some ⟨zr, 0, none⟩), .int .i64 (k : Int), .agg (x.map u8c).toArray, .bool any] w _
  go_enter Try.func40, Try.ntmps40
  go_upto_region 1 with fail
  rw [← hW]
  clear hW
  go_upto_region 2 with (go_at_call 37; (with_reducible refine HI.out.mono ?_); rintro e w' ⟨rfl, rfl⟩)
  clear HI
  go_wp2
  go_loopw [10] (fun t wr => ∃ i : Nat, t = .int .i64 i ∧ i ≤ m ∧ (∀ j (h : j < d.L.length), j < i → ¬ FitsN x any d.L[j]) ∧ Rw w zr D w.heap.size x wr ∧ Blk wr (w.heap.size + 1) keyZ 30) (fun t _ => m - (intOf t).toNat)
  case atStart => exact ⟨0, rfl, by omega, fun j _ hj => by omega, HR.out, HKZ.out⟩
  case round =>
    clear HR HKZ
    obtain ⟨i, rfl, hi, hno, hR, hKZ⟩ := hrel
    have hck := hR.rf.cK HD.out
    rw [← HM.out] at hck
    by_cases hlt : i < m
    · have hii : (i : Int) < (m : Int) := by omega
      have hil : i < d.L.length := by rw [← HM.out]; exact hlt
      obtain ⟨y, hy⟩ : ∃ y, y = d.L[i] := ⟨_, rfl⟩
      obtain ⟨g, o, hao, hrd⟩ := hR.at' HD.out hil hy
      have hyl : y.length = 32 := by rw [hy]; exact (hR.rf.row k d HD.out).len _ (List.getElem_mem _)
      rw [hao] at hck
      rw [← HM.out] at hrd
      have HRD := hide hrd
      have HR := hide hR
      have HKZ := hide hKZ
      have HY := hide hyl
      have HNO := hide hno
      have HYE : Hid (∀ h : i < d.L.length, y = d.L[i]) := hide (fun _ => hy)
      have HIL := hide hil
      have HLS := hide (less_any x y HX.out hyl wr.drew)
      have HFT : Hid (FitsN x any y ↔ (any = true ∨ cmpK x y < 0)) := hide (by
        unfold FitsN
        have := cmpK_neg x y
        exact ⟨fun h => h.imp id (fun h => by omega), fun h => h.imp id (fun h => by omega)⟩)
      clear hR hrd hyl hno hao hy hKZ hil
      go_upto_region 5 with fail
      cases any with
      | true =>
        refine rn_walk _ (fun _ _ _ _ _ h => h) wr _ (Nat.lt_of_sub_pos (by exact Nat.succ_pos _)) rfl ?_
        simp only [Act.put, List.setIfInBounds_toArray, List.set_cons_zero, List.set_cons_succ]
        have HB1 := hide (below_d wr)
        obtain ⟨w1, hw1⟩ : ∃ w1, w1 = wr.drew := ⟨_, rfl⟩
        rw [← hw1] at HB1 ⊢
        clear hw1 HLS
        have HRn := hide (HR.out.below HB1.out)
        have HKn := hide (HKZ.out.below HB1.out HKZ.out.lt)
        have HRr := hide (HRD.out _ HB1.out).2.1
        have hck1 := (HRD.out _ HB1.out).1
        have HE : Hid (LeastN (fun y => y ∈ d.L) x true y true) := hide (by
          rw [HYE.out HIL.out]
          exact least_first HRI.out HIL.out HNO.out (by rw [← HYE.out HIL.out]; exact HFT.out.2 (.inl rfl)))
        have HUS : Hid ((y.map u8c).toArray.size = 32) := hide (by simp [HY.out])
        have HU2 := hide (all_oneCell_toArray (u8c_one y))
        clear HR HKZ HRD HB1 HNO hck
        go_wp2_with (first | ((with_reducible refine wpList_load_keyAt (.tmp 46) g (o + i * 32) y HY.out HRr.out ?_ ?_ ?_ ?_); rfl; rfl; rfl) | ((with_reducible refine wpList_store_blk ?_ 30 (.tmp 8) (.tmp 47) ?_ (w.heap.size + 1) 32 keyZ (y.map u8c).toArray 30 HUS.out HZS.out ?_ ?_ HKn.out infoKey HU2.out ?_); rfl; rfl; rfl; rfl; intro w9 hk9 hg9; have HK9 := hide hk9; have HG9 := hide hg9; clear hk9 hg9))
        refine bodyPost_ret (results_cell2 rfl _ _ _ rfl _ (loadBlkT HK9.out 30 _ Try.underlying30 rfl 32 infoKey HUS.out)) rfl ?_
        exact ⟨y, true, rfl, HY.out, HE.out, HRn.out.bel.trans (below_grownBy HG9.out (by omega) HRn.out.bel.size)⟩
      | false =>
        by_cases hlc : cmpK x y < 0
        · rw [decide_eq_true hlc] at HLS
          have HLC : Hid (cmpK x y < 0) := hide hlc
          clear hlc
          refine rm_walk _ (fun _ _ _ _ _ h => h) wr zr k g o m d.cap i w.heap.size x y HX.out HY.out HK.out hlt HRD.out true HLS.out _ (Nat.lt_of_sub_pos (by exact Nat.succ_pos _)) rfl rfl rfl rfl rfl ?_
          intro w1 hb1
          have HB1 := hide hb1
          simp only [Act.put, List.setIfInBounds_toArray, List.set_cons_zero, List.set_cons_succ]
          clear hb1 HLS
          have HRn := hide (HR.out.below HB1.out)
          have HKn := hide (HKZ.out.below HB1.out HKZ.out.lt)
          have HRr := hide (HRD.out _ HB1.out).2.1
          have hck1 := (HRD.out _ HB1.out).1
          have HE : Hid (LeastN (fun y => y ∈ d.L) x false y true) := hide (by
            rw [HYE.out HIL.out]
            exact least_first HRI.out HIL.out HNO.out (by rw [← HYE.out HIL.out]; exact HFT.out.2 (.inr HLC.out)))
          have HUS : Hid ((y.map u8c).toArray.size = 32) := hide (by simp [HY.out])
          have HU2 := hide (all_oneCell_toArray (u8c_one y))
          clear HR HKZ HRD HB1 HNO hck
          go_wp2_with (first | ((with_reducible refine wpList_load_keyAt (.tmp 46) g (o + i * 32) y HY.out HRr.out ?_ ?_ ?_ ?_); rfl; rfl; rfl) | ((with_reducible refine wpList_store_blk ?_ 30 (.tmp 8) (.tmp 47) ?_ (w.heap.size + 1) 32 keyZ (y.map u8c).toArray 30 HUS.out HZS.out ?_ ?_ HKn.out infoKey HU2.out ?_); rfl; rfl; rfl; rfl; intro w9 hk9 hg9; have HK9 := hide hk9; have HG9 := hide hg9; clear hk9 hg9))
          refine bodyPost_ret (results_cell2 rfl _ _ _ rfl _ (loadBlkT HK9.out 30 _ Try.underlying30 rfl 32 infoKey HUS.out)) rfl ?_
          exact ⟨y, true, rfl, HY.out, HE.out, HRn.out.bel.trans (below_grownBy HG9.out (by omega) HRn.out.bel.size)⟩
        · rw [decide_eq_false hlc] at HLS
          have HLC : Hid (¬ cmpK x y < 0) := hide hlc
          clear hlc
          refine rm_walk _ (fun _ _ _ _ _ h => h) wr zr k g o m d.cap i w.heap.size x y HX.out HY.out HK.out hlt HRD.out false HLS.out _ (Nat.lt_of_sub_pos (by exact Nat.succ_pos _)) rfl rfl rfl rfl rfl ?_
          intro w1 hb1
          simp only [Act.put, List.setIfInBounds_toArray, List.set_cons_zero, List.set_cons_succ]
          have HRn := hide (HR.out.below hb1)
          have HKn := hide (HKZ.out.below hb1 HKZ.out.lt)
          clear HLS HR HKZ HRD hb1 hck
          go_wp2
          refine ⟨⟨i + 1, by go_num, by omega, fun j hj hji => ?_, HRn.out, HKn.out⟩, by simp [intOf]; omega⟩
          by_cases e : j = i
          · subst e
            rw [← HYE.out hj]
            intro hf
            rcases HFT.out.1 hf with h | h
            · cases h
            · exact HLC.out h
          · exact HNO.out j hj (by omega)
    · have hii : ¬ (i : Int) < (m : Int) := by omega
      have HE : Hid (LeastN (fun y => y ∈ d.L) x any (List.replicate 32 0) false) := hide (.inr ⟨rfl, rfl, fun y hy hf => by
        obtain ⟨j, hj, rfl⟩ := List.getElem_of_mem hy
        exact hno j hj (by rw [← HM.out] at hj; omega) hf⟩)
      have HBE := hide hR.bel
      have HKZ := hide hKZ
      clear hno hR hKZ
      go_wp2_with ((with_reducible refine wpList_store_blk ?_ 30 (.tmp 8) (.tmp 48) ?_ (w.heap.size + 1) 32 keyZ keyZ 30 HZS.out HZS.out ?_ ?_ HKZ.out infoKey HU1.out ?_); rfl; rfl; rfl; rfl; intro w9 hk9 hg9; have HK9 := hide hk9; have HG9 := hide hg9; clear hk9 hg9)
      refine bodyPost_ret (results_cell2 rfl _ _ _ rfl _ (loadBlkT HK9.out 30 _ Try.underlying30 rfl 32 infoKey HZS.out)) rfl ?_
      exact ⟨List.replicate 32 0, false, rfl, by simp, HE.out, HBE.out.trans (below_grownBy HG9.out (by omega) HBE.out.size)⟩
end Go.Proofs.Ytagnglkkmdeicaa
