/- The document's set: Next; begins. -/
import Derived.Test.YtnloglecfbhpcaaKS4
import Derived.Test.YtnloglecfbhpcaaKB4
namespace Go.Proofs.Ytnloglecfbhpcaa
set_option linter.unusedVariables false
set_option linter.unusedSimpArgs false
open Go.RowKit Go.Sort
set_option maxRecDepth 100000
set_option maxHeartbeats 8000000

theorem least_first {L : List (List UInt8)} {after : List UInt8} {any : Bool} (hr : L.Pairwise (fun a b => cmpK a b < 0)) {i : Nat} (hi : i < L.length) (hno : ∀ j (h : j < L.length), j < i → ¬ FitsN after any L[j]) (hf : FitsN after any L[i]) : LeastN (fun x => x ∈ L) after any L[i] true := by
  refine .inl ⟨rfl, List.getElem_mem _, hf, fun x hx hfx => ?_⟩
  obtain ⟨j, hj, rfl⟩ := List.getElem_of_mem hx
  rcases Nat.lt_trichotomy j i with h | h | h
  · exact absurd hfx (hno j hj h)
  · subst h; rw [cmpK_self]; decide
  · have := List.pairwise_iff_getElem.1 hr i j hi hj h
    omega
def RnextC (w : World) (L : List (List UInt8)) (after : List UInt8) (any : Bool) (e : Ending) (w' : World) : Prop := ∃ k ok, e = .returned (.tuple #[keyV k, .bool ok]) ∧ k.length = 32 ∧ LeastN (fun x => x ∈ L) after any k ok ∧ Below w.heap.size w w'
theorem two_blocks (w : World) (a : List UInt8) (ha : a.length = 32) : KeyAt ((w.alloc (.cells (a.map u8c).toArray 38)).alloc (.cells keyZ 38)) w.heap.size a ∧ Blk ((w.alloc (.cells (a.map u8c).toArray 38)).alloc (.cells keyZ 38)) (w.heap.size + 1) keyZ 38 ∧ Below w.heap.size w ((w.alloc (.cells (a.map u8c).toArray 38)).alloc (.cells keyZ 38)) := ⟨⟨(Blk.made w _ _).alloc _, ha⟩, blk_made1 w _ _ _ _, ((Below.refl _ _).alloc (Nat.le_refl _) _).alloc (by simp) _⟩
theorem rnext_any (w : World) (z : Nat) (R : List (List UInt8)) (x : List UInt8) (any : Bool) (hx : x.length = 32) (h : RsB w z R) (hl : R.length ≤ 4398046511104) (hrise : R.Pairwise (fun a b => cmpK a b < 0)) : Calls Try.prog 20 #[.pointer (some ⟨z, 0, none⟩), keyV x, .bool any] w (RnextC w R x any) := by
  obtain ⟨ao, n, c, h⟩ := h
  have hz := zero_key
  obtain ⟨W, hW⟩ : ∃ W, W = (w.alloc (.cells (x.map u8c).toArray 38)).alloc (.cells keyZ 38) := ⟨_, rfl⟩
  obtain ⟨hKA, hKZ, hB⟩ := two_blocks w x hx
  rw [← hW] at hKA hKZ hB
  have HR : Hid (RwS w z w.heap.size ao n c R x W) := hide ⟨h.below hB, hKA, hB⟩
  have HKZ := hide hKZ
  have HX := hide hx
  have HN := hide h.len
  have HRI := hide hrise
  have HZS : Hid (keyZ.size = 32) := hide rfl
  have HU1 : Hid (keyZ.all (·.oneCell') = true) := hide (all_oneCell_toArray (u8c_one _))
  have hnl : n ≤ 4398046511104 := by have := h.len; omega
  clear h hB hx hKA hKZ hrise hl
  show Calls Try.prog 20 #[.pointer (some ⟨z, 0, none⟩), .agg (x.map u8c).toArray, .bool any] w _
  go_enter Try.func20, Try.ntmps20
  go_upto_region 1 with fail
  rw [← hW]
  clear hW
  go_upto_region 2 with fail
  go_loopw [8] (fun t wr => ∃ i : Nat, t = .int .i64 i ∧ i ≤ n ∧ (∀ j (h : j < R.length), j < i → ¬ FitsN x any R[j]) ∧ RwS w z w.heap.size ao n c R x wr ∧ Blk wr (w.heap.size + 1) keyZ 38) (fun t _ => n - (intOf t).toNat)
  case atStart => exact ⟨0, rfl, by omega, fun j _ hj => by omega, HR.out, HKZ.out⟩
  case round =>
    clear HR HKZ
    obtain ⟨i, rfl, hi, hno, hR, hKZ⟩ := hrel
    have HR := hide hR
    have HKZ := hide hKZ
    have HNO := hide hno
    have cz : wr.cell? ⟨z, 0, none⟩ = some (.slice ao n c) := by rw [hR.rs.blk.cell]; rfl
    clear hR hKZ hno
    by_cases hlt : i < n
    · have hii : (i : Int) < (n : Int) := by omega
      have hil : i < R.length := by rw [← HN.out]; exact hlt
      obtain ⟨y, hy⟩ : ∃ y, y = R[i] := ⟨_, rfl⟩
      obtain ⟨g, o, rfl, hrd⟩ := HR.out.rs.row.at' i hil
      have hyl : y.length = 32 := by rw [hy]; exact HR.out.rs.row.len _ (List.getElem_mem _)
      have HRD : Hid (∀ w', Below wr.heap.size wr w' → w'.rangeAt g (o + i * 32) (y.map u8c) ∧ w'.cell? ⟨z, 0, none⟩ = some (.slice (some ⟨g, o, none⟩) n c)) := hide (fun w' hb => by
        have h1 := (HR.out.below hb).rs
        obtain ⟨g', o', e', h2⟩ := h1.row.at' i hil
        cases e'
        exact ⟨by rw [hy]; exact h2, by rw [h1.blk.cell]; rfl⟩)
      have HY := hide hyl
      have HYE : Hid (∀ h : i < R.length, y = R[i]) := hide (fun _ => hy)
      have HIL := hide hil
      clear hrd hyl hy hil
      cases any with
      | true =>
        go_upto_region 4 with fail
        clear cz
        refine wp_region_quiet_below (by kernel_rfl) (by kernel_rfl) ?_
        quiet_step (fail)
        refine wpQuiet_move_nos 19 1 false 10 rfl (fun _ _ => rfl) rfl rfl ((by decide : (19 : Nat) < 39)) ?_ ?_
        · intro x hx
          simp only [List.take_succ_cons, List.take_zero, List.mem_cons, List.not_mem_nil, or_false] at hx
          rcases hx with rfl | rfl | rfl | rfl | rfl | rfl | rfl | rfl | rfl | rfl <;> exact ⟨rfl, _, rfl, by decide⟩
        simp only [List.take_succ_cons, List.take_zero, List.drop_succ_cons, List.drop_zero, List.foldl_cons, List.foldl_nil, Act.put, List.setIfInBounds_toArray, List.set_cons_zero, List.set_cons_succ]
        quiet_step (fail)
        refine wpQuiet_nil ?_
        intro w1 hw1
        have hb1 : RowKit.Below wr.heap.size wr w1 := below_of hw1
        have HB1 := hide hb1
        clear hb1 hw1
        have HRn := hide (HR.out.below HB1.out)
        have HKn := hide (HKZ.out.below HB1.out HKZ.out.lt)
        have HRr := hide (HRD.out _ HB1.out).1
        have cz := (HRD.out _ HB1.out).2
        have HE : Hid (LeastN (fun y => y ∈ R) x true y true) := hide (by
          rw [HYE.out HIL.out]
          exact least_first HRI.out HIL.out HNO.out (by rw [← HYE.out HIL.out]; exact .inl rfl))
        have HUS : Hid ((y.map u8c).toArray.size = 32) := hide (by simp [HY.out])
        have HU2 := hide (all_oneCell_toArray (u8c_one y))
        clear HR HKZ HRD HB1 HNO
        go_wp2_with (first | ((with_reducible refine wpList_load_keyAt (.tmp 36) g (o + i * 32) y HY.out HRr.out ?_ ?_ ?_ ?_); rfl; rfl; rfl) | ((with_reducible refine wpList_store_blk ?_ 38 (.tmp 6) (.tmp 37) ?_ (w.heap.size + 1) 32 keyZ (y.map u8c).toArray 38 HUS.out HZS.out ?_ ?_ HKn.out infoKey HU2.out ?_); rfl; rfl; rfl; rfl; intro w9 hk9 hg9; have HK9 := hide hk9; have HG9 := hide hg9; clear hk9 hg9))
        refine bodyPost_ret (results_cell2 rfl _ _ _ rfl _ (loadBlkT HK9.out 38 _ Try.underlying38 rfl 32 infoKey HUS.out)) rfl ?_
        exact ⟨y, true, rfl, HY.out, HE.out, HRn.out.bel.trans (below_grownBy HG9.out (by omega) HRn.out.bel.size)⟩
      | false =>
        have HCm : Hid (∀ d os, Calls Try.prog 38 #[keyV y, keyV x] (grow (redrawn wr d) os) fun e w'' => e = .returned (.int .i64 (cmpK y x)) ∧ ∃ p : Regrown, w'' = grow (redrawn wr p.d) p.os) := hide (fun d os => Calls.regrown_of (rcompare_any y x HY.out HX.out _))
        have HRG := hide (range_regrown (HRD.out _ (Below.refl _ _)).1)
        have HKG := hide (range_regrown (range_blk HR.out.key.1))
        have czr := fun d os => cell_regrown cz d os
        go_upto_region 4 with fail
        clear cz
        refine wp_region_quiet_below (by kernel_rfl) (by kernel_rfl) ?_
        iterate 8 quiet_step (fail)
        refine wpQuiet_val (keyV y) rfl (fun w0 hw => ?_) ?_
        · obtain ⟨p0, rfl⟩ := hw
          exact run_loadK rfl rfl HY.out (HRG.out _ _)
        refine wpQuiet_val (keyV x) rfl (fun w0 hw => ?_) ?_
        · obtain ⟨p0, rfl⟩ := hw
          refine run_loadK rfl rfl HX.out ?_
          have := HKG.out p0.d p0.os
          rwa [List.toList_toArray] at this
        quiet_step (exact HCm.out _ _)
        quiet_step (fail)
        quiet_step (fail)
        refine wpQuiet_nil ?_
        intro w1 hw1
        have hb1 : RowKit.Below wr.heap.size wr w1 := below_of hw1
        clear HCm HRG HKG czr
        by_cases hlc : 0 < cmpK y x
        · rw [show decide (0 < cmpK y x) = true from decide_eq_true hlc]
          have HLC := hide hlc
          clear hlc
          have HB1 := hide hb1
          clear hb1 hw1
          have HRn := hide (HR.out.below HB1.out)
          have HKn := hide (HKZ.out.below HB1.out HKZ.out.lt)
          have HRr := hide (HRD.out _ HB1.out).1
          have cz := (HRD.out _ HB1.out).2
          have HE : Hid (LeastN (fun y => y ∈ R) x false y true) := hide (by
            rw [HYE.out HIL.out]
            exact least_first HRI.out HIL.out HNO.out (by rw [← HYE.out HIL.out]; exact .inr HLC.out))
          have HUS : Hid ((y.map u8c).toArray.size = 32) := hide (by simp [HY.out])
          have HU2 := hide (all_oneCell_toArray (u8c_one y))
          clear HR HKZ HRD HB1 HNO
          go_wp2_with (first | ((with_reducible refine wpList_load_keyAt (.tmp 36) g (o + i * 32) y HY.out HRr.out ?_ ?_ ?_ ?_); rfl; rfl; rfl) | ((with_reducible refine wpList_store_blk ?_ 38 (.tmp 6) (.tmp 37) ?_ (w.heap.size + 1) 32 keyZ (y.map u8c).toArray 38 HUS.out HZS.out ?_ ?_ HKn.out infoKey HU2.out ?_); rfl; rfl; rfl; rfl; intro w9 hk9 hg9; have HK9 := hide hk9; have HG9 := hide hg9; clear hk9 hg9))
          refine bodyPost_ret (results_cell2 rfl _ _ _ rfl _ (loadBlkT HK9.out 38 _ Try.underlying38 rfl 32 infoKey HUS.out)) rfl ?_
          exact ⟨y, true, rfl, HY.out, HE.out, HRn.out.bel.trans (below_grownBy HG9.out (by omega) HRn.out.bel.size)⟩
        · rw [show decide (0 < cmpK y x) = false from decide_eq_false hlc]
          have HLC := hide hlc
          clear hlc
          have HRn := hide (HR.out.below hb1)
          have HKn := hide (HKZ.out.below hb1 HKZ.out.lt)
          clear HR HKZ HRD hb1 hw1
          go_wp2
          refine ⟨⟨i + 1, by go_num, by omega, fun j hj hji => ?_, HRn.out, HKn.out⟩, by simp [intOf]; omega⟩
          by_cases e : j = i
          · subst e
            rw [← HYE.out hj]
            intro hf
            rcases hf with h | h
            · cases h
            · exact HLC.out h
          · exact HNO.out j hj (by omega)
    · have hii : ¬ (i : Int) < (n : Int) := by omega
      have HE : Hid (LeastN (fun y => y ∈ R) x any (List.replicate 32 0) false) := hide (.inr ⟨rfl, rfl, fun y hy hf => by
        obtain ⟨j, hj, rfl⟩ := List.getElem_of_mem hy
        exact HNO.out j hj (by have := HN.out; omega) hf⟩)
      have HBE := hide HR.out.bel
      clear HNO HR
      go_wp2_with ((with_reducible refine wpList_store_blk ?_ 38 (.tmp 6) (.tmp 38) ?_ (w.heap.size + 1) 32 keyZ keyZ 38 HZS.out HZS.out ?_ ?_ HKZ.out infoKey HU1.out ?_); rfl; rfl; rfl; rfl; intro w9 hk9 hg9; have HK9 := hide hk9; have HG9 := hide hg9; clear hk9 hg9)
      refine bodyPost_ret (results_cell2 rfl _ _ _ rfl _ (loadBlkT HK9.out 38 _ Try.underlying38 rfl 32 infoKey HZS.out)) rfl ?_
      exact ⟨List.replicate 32 0, false, rfl, by simp, HE.out, HBE.out.trans (below_grownBy HG9.out (by omega) HBE.out.size)⟩
theorem rbegins_any (k : List UInt8) (hk : k.length = 32) (s : List UInt8) (hs : s.length ≤ 64) (w : World) : Calls Try.prog 43 #[keyV k, .string ⟨s.toArray⟩] w fun e w' => e = .returned (.bool (begK k s)) ∧ Below w.heap.size w w' := by
  have hB : Below w.heap.size w (w.alloc (.cells (k.map u8c).toArray 38)) := (Below.refl _ _).alloc (Nat.le_refl _) _
  have HKX : Hid (KeyAt (w.alloc (.cells (k.map u8c).toArray 38)) w.heap.size k) := hide ⟨Blk.made w _ _, hk⟩
  have HHx := hide (fun w => rhex_any k hk w)
  have HB := hide hB
  have hlen : (hexOf k).length = 64 := by rw [hexOf_len, hk]
  clear hB
  show Calls Try.prog 43 #[.agg (k.map u8c).toArray, .string ⟨s.toArray⟩] w _
  go_enter Try.func43, Try.ntmps43
  go_upto_region 2 with (first | ((with_reducible refine wpList_key (.tmp 2) w.heap.size k HKX.out ?_ ?_ ?_ ?_); rfl; rfl; rfl) | (go_at_call 45; (with_reducible refine (HHx.out _).mono ?_); rintro e w2 ⟨rfl, hb2⟩))
  have HB2 := hide (HB.out.trans (hb2.mono HB.out.size))
  have h1 : (s.length : Int) ≤ (hexOf k).length := by omega
  clear hb2 HB HKX HHx
  have HCut := hide (cut_bytes (hexOf k) s.length)
  have hz1 : (⟨(hexOf k).toArray⟩ : ByteArray).size = (hexOf k).length := rfl
  have hz2 : (⟨s.toArray⟩ : ByteArray).size = s.length := rfl
  have h64 : (s.length : Int) ≤ 64 := by omega
  go_wp2
  go_ret
  refine ⟨?_, HB2.out⟩
  rw [HCut.out]
  unfold begK
  simp
end Go.Proofs.Ytnloglecfbhpcaa
