/- Compare, with the world behind it told; the order of keys as a strict weak order. -/
import Derived.Test.YtnloglecfbhpcaaKN2
import Derived.Shelf.SlSortCmp.WholeK
namespace Go.Proofs.Ytnloglecfbhpcaa
set_option linter.unusedVariables false
set_option linter.unusedSimpArgs false
open Go.RowKit Go.Sort
set_option maxRecDepth 100000

theorem alloc2_grow (w : World) (a b : Obj) : (w.alloc a).alloc b = grow w #[a, b] := by
  rw [alloc_eq_grow, alloc_eq_grow, grow_grow]
  rfl
set_option maxHeartbeats 1000000 in
theorem compare_grown (a b : List UInt8) (ha : a.length = 32) (hb : b.length = 32) (w : World) : Calls Try.prog 39 #[keyV a, keyV b] w fun e w' => e = .returned (.int .i64 (cmpK a b)) ∧ ∃ q os', w' = grow (w.drewN q) os' := by
  have hg1 := keysGuard .eql a b
  have hn1 := keysEql a b ha hb
  have hsk := slice_key
  have HA : Hid (KeyAt ((w.alloc (.cells (a.map u8c).toArray 38)).alloc (.cells (b.map u8c).toArray 38)) w.heap.size a) := hide ⟨(Blk.made w _ _).alloc _, ha⟩
  have HB : Hid (KeyAt ((w.alloc (.cells (a.map u8c).toArray 38)).alloc (.cells (b.map u8c).toArray 38)) (w.heap.size + 1) b) := hide ⟨blk_made1 w _ _ _ _, hb⟩
  by_cases heq : a = b
  · have HQ : Hid (cmpK a b = 0) := hide (by rw [heq]; exact cmpK_self b)
    have hab : (a == b) = true := by rw [heq]; exact beq_self_eq_true b
    rw [hab] at hn1
    clear hab heq
    show Calls Try.prog 39 #[.agg (a.map u8c).toArray, .agg (b.map u8c).toArray] w _
    go_enter Try.func39, Try.ntmps39
    go_wp2_with (first | ((with_reducible refine wpList_key (.tmp 2) w.heap.size a HA.out ?_ ?_ ?_ ?_); rfl; rfl; rfl) | ((with_reducible refine wpList_key (.tmp 3) (w.heap.size + 1) b HB.out ?_ ?_ ?_ ?_); rfl; rfl; rfl))
    go_ret
    exact ⟨by rw [HQ.out]; rfl, 0, _, alloc2_grow w _ _⟩
  · have hab : (a == b) = false := by simpa using heq
    rw [hab] at hn1
    clear hab heq
    show Calls Try.prog 39 #[.agg (a.map u8c).toArray, .agg (b.map u8c).toArray] w _
    go_enter Try.func39, Try.ntmps39
    go_wp2_with (first | ((with_reducible refine wpList_key (.tmp 2) w.heap.size a HA.out ?_ ?_ ?_ ?_); rfl; rfl; rfl) | ((with_reducible refine wpList_key (.tmp 3) (w.heap.size + 1) b HB.out ?_ ?_ ?_ ?_); rfl; rfl; rfl))
    have HC := hide (fun n => bCompare_any (((w.alloc (.cells (a.map u8c).toArray 38)).alloc (.cells (b.map u8c).toArray 38)).drewN n) w.heap.size (w.heap.size + 1) 32 32 a b (HA.out) (HB.out))
    go_quiet ((go_at_call 48; exact Calls.quiet_of_same (HC.out _)))
    go_wp2
    go_ret
    exact ⟨rfl, nq, _, (congrArg (fun W => World.drewN W nq) (alloc2_grow w _ _)).trans rfl⟩
theorem cmpSWO : SWO (ltOf fun x y : K32 => cmpK x.1 y.1) where
  irrefl x := by
    show decide (cmpK x.1 x.1 < 0) = false
    rw [cmpK_self]
    rfl
  trans x y z h1 h2 := by
    unfold ltOf at *
    have a1 : cmpK x.1 y.1 < 0 := by simpa using h1
    have a2 : cmpK y.1 z.1 < 0 := by simpa using h2
    have a3 : cmpK x.1 z.1 < 0 := cmpK_lt_le a1 (by omega)
    simpa using a3
  ntrans x y z h1 h2 := by
    unfold ltOf at *
    have h1' : ¬ cmpK x.1 y.1 < 0 := by simpa using h1
    have h2' : ¬ cmpK y.1 z.1 < 0 := by simpa using h2
    have e1 := cmpK_neg x.1 y.1
    have e2 := cmpK_neg y.1 z.1
    have e3 := cmpK_neg x.1 z.1
    have := cmpK_le_trans z.1 y.1 x.1 (by omega) (by omega)
    have : ¬ cmpK x.1 z.1 < 0 := by omega
    simpa using this
end Go.Proofs.Ytnloglecfbhpcaa
