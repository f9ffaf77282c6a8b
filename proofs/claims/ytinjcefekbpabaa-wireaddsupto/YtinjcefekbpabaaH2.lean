/- back and same, whole. -/
import Derived.Test.YtinjcefekbpabaaH1
namespace Go.Proofs.Ytinjcefekbpabaa
set_option linter.unusedVariables false
set_option linter.unusedSimpArgs false
open Go.RowKit
set_option maxRecDepth 20000 in
set_option maxHeartbeats 800000 in
theorem same_9 (w : World) (cs : Array Value) (bv : Value) (a : AddR) (hk : a.kind = 9) (ha : AddIs w cs bv a) :
    Calls Try.prog 21 #[.agg cs, .agg #[.int .u64 (IntKind.u64.wrap (IntKind.i32.wrap (a.N : Int))), .string ⟨#[]⟩]] w (SameC w) := by
  have g0 := ha.c0
  rw [hk] at g0
  have g1 := ha.c1
  have g2 := ha.c2
  have g3 := ha.c3
  have hN := ha.hN
  clear ha
  rw [IntWalk.i32_left]
  obtain ⟨Y, hY⟩ : ∃ Y, wrap32 (a.N : Int) = Y := ⟨_, rfl⟩
  obtain ⟨Q, hQ⟩ : ∃ Q, IntKind.u64.wrap Y = Q := ⟨_, rfl⟩
  rw [hY, hQ]
  clear hN
  go_enter Try.func21, Try.ntmps21
  go_wp2
  go_ret
  exact ⟨rfl, below2 _ _ _⟩

theorem Rd.drew {w : World} {v : Value} {xs : List UInt8} (h : Rd w v xs) : Rd w.drew v xs := h
set_option maxRecDepth 20000 in
set_option maxHeartbeats 800000 in
theorem same_4 (w : World) (cs : Array Value) (bv : Value) (a : AddR) (hk : a.kind = 4) (ha : AddIs w cs bv a) :
    Calls Try.prog 21 #[.agg cs, .agg #[.int .u64 0, .string ⟨a.K.toArray⟩]] w (SameC w) := by
  have g0 := ha.c0
  rw [hk] at g0
  have g1 := ha.c1
  have g2 := ha.c2
  have g3 := ha.c3
  have hrd : Rd ((w.alloc (.cells cs 37)).alloc (.cells #[.int .u64 0, .string ⟨a.K.toArray⟩] 50)) (.slice (some ⟨w.heap.size, 4, none⟩) 32 32) a.K := by
    have hkl := ha.kl
    refine ⟨some ⟨w.heap.size, 4, none⟩, 32, by rw [hkl], Nat.le_of_eq hkl, by decide, .inr ⟨w.heap.size, 4, rfl, fun i hi => ?_⟩⟩
    have h1 := ha.key w i (u8c a.K[i]) (by simp [List.getElem?_eq_getElem hi])
    rw [World.cell?_alloc_lt _ _ _ (by rw [World.size_alloc]; exact Nat.lt_succ_self _)]
    exact h1
  have hcv := conv_rd _ _ _ (Rd.drew hrd)
  obtain ⟨s, hs⟩ : ∃ s : ByteArray, s = ⟨a.K.toArray⟩ := ⟨_, rfl⟩
  rw [← hs] at hcv ⊢
  clear ha hs hrd
  go_enter Try.func21, Try.ntmps21
  go_wp2
  go_region
  go_wp2
  go_ret
  exact ⟨rfl, ⟨rfl, rfl, rfl, (below2 w _ _).size, (below2 w _ _).block⟩⟩

theorem back_st (w : World) (cs : Array Value) (bv : Value) (a : AddR) (ha : AddIs w cs bv a) (hS : a.S.length ≤ 9223372036854775807) :
    Calls Try.prog 20 #[.agg cs] w (BackC w a.kind (backM a) (backN a)) := by
  unfold backM backN
  by_cases k2 : a.kind = 2
  · rw [if_pos (.inl k2), if_pos k2, k2]; exact back_2 w cs bv a k2 ha hS
  by_cases k3 : a.kind = 3
  · rw [if_pos (.inr (.inl k3)), if_neg k2, if_pos (.inl k3), k3]; exact back_3 w cs bv a k3 ha hS
  by_cases k13 : a.kind = 13
  · rw [if_pos (.inr (.inr k13)), if_neg k2, if_pos (.inr k13), k13]; exact back_13 w cs bv a k13 ha hS
  rw [if_neg (by omega), if_neg k2, if_neg (by omega)]
  exact back_0 w cs bv a (beq_eq_false_iff_ne.2 k2) (beq_eq_false_iff_ne.2 k3) (beq_eq_false_iff_ne.2 k13) ha hS
theorem same_st (w : World) (cs : Array Value) (bv : Value) (a : AddR) (ha : AddIs w cs bv a) :
    Calls Try.prog 21 #[.agg cs, .agg #[.int .u64 (sameN a), .string ⟨(sameB a).toArray⟩]] w (SameC w) := by
  by_cases k1 : a.kind = 1
  · have e1 : sameN a = (a.N : Int) := by unfold sameN; simp [k1]
    have e2 : sameB a = [] := by unfold sameB; simp [k1]
    rw [e1, e2]
    exact same_1 w cs bv a k1 ha
  by_cases k2 : a.kind = 2
  · have e1 : sameN a = 0 := by unfold sameN; simp [k2]
    have e2 : sameB a = a.S := by unfold sameB; simp [k2]
    rw [e1, e2]
    exact same_2 w cs bv a k2 ha
  by_cases k3 : a.kind = 3
  · have e1 : sameN a = 0 := by unfold sameN; simp [k3]
    have e2 : sameB a = a.B := by unfold sameB; simp [k3]
    rw [e1, e2]
    exact same_3 w cs bv a k3 ha
  by_cases k4 : a.kind = 4
  · have e1 : sameN a = 0 := by unfold sameN; simp [k4]
    have e2 : sameB a = a.K := by unfold sameB; simp [k4]
    rw [e1, e2]
    exact same_4 w cs bv a k4 ha
  by_cases k5 : a.kind = 5
  · have e1 : sameN a = IntKind.u64.wrap (IntKind.i8.wrap a.N) := by unfold sameN; simp [k5]
    have e2 : sameB a = [] := by unfold sameB; simp [k5]
    rw [e1, e2]
    exact same_5 w cs bv a k5 ha
  by_cases k6 : a.kind = 6
  · have e1 : sameN a = ((a.N % 256 : Nat) : Int) := by unfold sameN; simp [k6]
    have e2 : sameB a = [] := by unfold sameB; simp [k6]
    rw [e1, e2]
    exact same_6 w cs bv a k6 ha
  by_cases k7 : a.kind = 7
  · have e1 : sameN a = IntKind.u64.wrap (IntKind.i16.wrap a.N) := by unfold sameN; simp [k7]
    have e2 : sameB a = [] := by unfold sameB; simp [k7]
    rw [e1, e2]
    exact same_7 w cs bv a k7 ha
  by_cases k8 : a.kind = 8
  · have e1 : sameN a = ((a.N % 65536 : Nat) : Int) := by unfold sameN; simp [k8]
    have e2 : sameB a = [] := by unfold sameB; simp [k8]
    rw [e1, e2]
    exact same_8 w cs bv a k8 ha
  by_cases k9 : a.kind = 9
  · have e1 : sameN a = IntKind.u64.wrap (IntKind.i32.wrap a.N) := by unfold sameN; simp [k9]
    have e2 : sameB a = [] := by unfold sameB; simp [k9]
    rw [e1, e2]
    exact same_9 w cs bv a k9 ha
  by_cases k10 : a.kind = 10
  · have e1 : sameN a = ((a.N % 4294967296 : Nat) : Int) := by unfold sameN; simp [k10]
    have e2 : sameB a = [] := by unfold sameB; simp [k10]
    rw [e1, e2]
    exact same_10 w cs bv a k10 ha
  by_cases k11 : a.kind = 11
  · have e1 : sameN a = (a.N : Int) := by unfold sameN; simp [k11]
    have e2 : sameB a = [] := by unfold sameB; simp [k11]
    rw [e1, e2]
    exact same_11 w cs bv a k11 ha
  by_cases k12 : a.kind = 12
  · have e1 : sameN a = (a.N : Int) := by unfold sameN; simp [k12]
    have e2 : sameB a = [] := by unfold sameB; simp [k12]
    rw [e1, e2]
    exact same_12 w cs bv a k12 ha
  by_cases k13 : a.kind = 13
  · have e1 : sameN a = 0 := by unfold sameN; simp [k13]
    have e2 : sameB a = a.B := by unfold sameB; simp [k13]
    rw [e1, e2]
    exact same_13 w cs bv a k13 ha
  have e1 : sameN a = 0 := by unfold sameN; simp [k1, k5, k6, k7, k8, k9, k10, k11, k12]
  have e2 : sameB a = [] := by unfold sameB; simp [k2, k3, k4, k13]
  rw [e1, e2]
  exact same_0 w cs bv a (beq_eq_false_iff_ne.2 k1) (beq_eq_false_iff_ne.2 k2) (beq_eq_false_iff_ne.2 k3) (beq_eq_false_iff_ne.2 k4) (beq_eq_false_iff_ne.2 k5) (beq_eq_false_iff_ne.2 k6) (beq_eq_false_iff_ne.2 k7) (beq_eq_false_iff_ne.2 k8) (beq_eq_false_iff_ne.2 k9) (beq_eq_false_iff_ne.2 k10) (beq_eq_false_iff_ne.2 k11) (beq_eq_false_iff_ne.2 k12) (beq_eq_false_iff_ne.2 k13) ha
end Go.Proofs.Ytinjcefekbpabaa
