/- back and same. -/
import Derived.Test.YtinjcefekbpabaaH0
namespace Go.Proofs.Ytinjcefekbpabaa
set_option linter.unusedVariables false
set_option linter.unusedSimpArgs false
open Go.RowKit

theorem conv_rdA (w : World) (v : Value) (xs : List UInt8) (h : RdA w v xs) : (convert 28 9 v).run Try.prog w = .ok (.string ⟨xs.toArray⟩) w := by
  rcases h with h | ⟨a, rfl, rfl⟩
  · exact conv_rd w v xs h
  · kernel_rfl
def BackC (w : World) (kind : Int) (m n : Nat) (e : Ending) (w' : World) : Prop := e = .returned (.agg #[.int .i64 kind, .int .u64 m, .int .i64 n]) ∧ Below w.heap.size w w'
def SameC (w : World) (e : Ending) (w' : World) : Prop := e = .returned (.bool true) ∧ Below w.heap.size w w'
theorem below2 (w : World) (o1 o2 : Obj) : Below w.heap.size w ((w.alloc o1).alloc o2) := ((Below.refl _ _).alloc (Nat.le_refl _) _).alloc (by simp) _
set_option maxRecDepth 20000 in
set_option maxHeartbeats 800000 in
theorem back_2 (w : World) (cs : Array Value) (bv : Value) (a : AddR) (hk : a.kind = 2) (ha : AddIs w cs bv a) (hS : a.S.length ≤ 9223372036854775807) :
    Calls Try.prog 20 #[.agg cs] w (BackC w 2 0 a.S.length) := by
  have g0 := ha.c0
  rw [hk] at g0
  have g1 := ha.c1
  have g2 := ha.c2
  have g3 := ha.c3
  have hN := ha.hN
  have hl : (⟨a.S.toArray⟩ : ByteArray).size = a.S.length := by simp [ByteArray.size]
  obtain ⟨s, hs⟩ : ∃ s : ByteArray, s = ⟨a.S.toArray⟩ := ⟨_, rfl⟩
  rw [← hs] at g2 hl
  clear ha hs
  go_enter Try.func20, Try.ntmps20
  go_wp2
  refine bodyPost_ret (v := .agg #[.int .i64 2, .int .u64 (0 : Nat), .int .i64 (a.S.length : Nat)]) (by simp [results, Try.results20, go_sem]) rfl ⟨rfl, below2 _ _ _⟩
set_option maxRecDepth 20000 in
set_option maxHeartbeats 800000 in
theorem back_3 (w : World) (cs : Array Value) (bv : Value) (a : AddR) (hk : a.kind = 3) (ha : AddIs w cs bv a) (hS : a.S.length ≤ 9223372036854775807) :
    Calls Try.prog 20 #[.agg cs] w (BackC w 3 0 a.B.length) := by
  have g0 := ha.c0
  rw [hk] at g0
  have g1 := ha.c1
  have g2 := ha.c2
  have g3 := ha.c3
  have hN := ha.hN
  obtain ⟨ao, cap, rfl, hl⟩ := ha.rd.slice
  clear ha
  go_enter Try.func20, Try.ntmps20
  go_wp2
  refine bodyPost_ret (v := .agg #[.int .i64 3, .int .u64 (0 : Nat), .int .i64 (a.B.length : Nat)]) (by simp [results, Try.results20, go_sem]) rfl ⟨rfl, below2 _ _ _⟩
set_option maxRecDepth 20000 in
set_option maxHeartbeats 800000 in
theorem back_13 (w : World) (cs : Array Value) (bv : Value) (a : AddR) (hk : a.kind = 13) (ha : AddIs w cs bv a) (hS : a.S.length ≤ 9223372036854775807) :
    Calls Try.prog 20 #[.agg cs] w (BackC w 13 0 a.B.length) := by
  have g0 := ha.c0
  rw [hk] at g0
  have g1 := ha.c1
  have g2 := ha.c2
  have g3 := ha.c3
  have hN := ha.hN
  obtain ⟨ao, cap, rfl, hl⟩ := ha.rd.slice
  clear ha
  go_enter Try.func20, Try.ntmps20
  go_wp2
  refine bodyPost_ret (v := .agg #[.int .i64 13, .int .u64 (0 : Nat), .int .i64 (a.B.length : Nat)]) (by simp [results, Try.results20, go_sem]) rfl ⟨rfl, below2 _ _ _⟩
set_option maxRecDepth 20000 in
set_option maxHeartbeats 800000 in
theorem back_0 (w : World) (cs : Array Value) (bv : Value) (a : AddR) (n2 : (a.kind == 2) = false) (n3 : (a.kind == 3) = false) (n13 : (a.kind == 13) = false) (ha : AddIs w cs bv a) (hS : a.S.length ≤ 9223372036854775807) :
    Calls Try.prog 20 #[.agg cs] w (BackC w a.kind a.N 0) := by
  have g0 := ha.c0
  have g1 := ha.c1
  have g2 := ha.c2
  have g3 := ha.c3
  have hN := ha.hN
  clear ha
  generalize a.kind = kd at *
  go_enter Try.func20, Try.ntmps20
  go_wp2
  refine bodyPost_ret (v := .agg #[.int .i64 kd, .int .u64 (a.N : Nat), .int .i64 (0 : Nat)]) (by simp [results, Try.results20, go_sem]) rfl ⟨rfl, below2 _ _ _⟩
set_option maxRecDepth 20000 in
set_option maxHeartbeats 800000 in
theorem same_1 (w : World) (cs : Array Value) (bv : Value) (a : AddR) (hk : a.kind = 1) (ha : AddIs w cs bv a) :
    Calls Try.prog 21 #[.agg cs, .agg #[.int .u64 (a.N : Int), .string ⟨#[]⟩]] w (SameC w) := by
  have g0 := ha.c0
  rw [hk] at g0
  have g1 := ha.c1
  have g2 := ha.c2
  have g3 := ha.c3
  have hN := ha.hN
  clear ha
  go_enter Try.func21, Try.ntmps21
  go_wp2
  go_ret
  exact ⟨rfl, below2 _ _ _⟩
set_option maxRecDepth 20000 in
set_option maxHeartbeats 800000 in
theorem same_11 (w : World) (cs : Array Value) (bv : Value) (a : AddR) (hk : a.kind = 11) (ha : AddIs w cs bv a) :
    Calls Try.prog 21 #[.agg cs, .agg #[.int .u64 (a.N : Int), .string ⟨#[]⟩]] w (SameC w) := by
  have g0 := ha.c0
  rw [hk] at g0
  have g1 := ha.c1
  have g2 := ha.c2
  have g3 := ha.c3
  have hN := ha.hN
  clear ha
  go_enter Try.func21, Try.ntmps21
  go_wp2
  go_ret
  exact ⟨rfl, below2 _ _ _⟩
set_option maxRecDepth 20000 in
set_option maxHeartbeats 800000 in
theorem same_12 (w : World) (cs : Array Value) (bv : Value) (a : AddR) (hk : a.kind = 12) (ha : AddIs w cs bv a) :
    Calls Try.prog 21 #[.agg cs, .agg #[.int .u64 (a.N : Int), .string ⟨#[]⟩]] w (SameC w) := by
  have g0 := ha.c0
  rw [hk] at g0
  have g1 := ha.c1
  have g2 := ha.c2
  have g3 := ha.c3
  have hN := ha.hN
  clear ha
  go_enter Try.func21, Try.ntmps21
  go_wp2
  go_ret
  exact ⟨rfl, below2 _ _ _⟩
set_option maxRecDepth 20000 in
set_option maxHeartbeats 800000 in
theorem same_2 (w : World) (cs : Array Value) (bv : Value) (a : AddR) (hk : a.kind = 2) (ha : AddIs w cs bv a) :
    Calls Try.prog 21 #[.agg cs, .agg #[.int .u64 0, .string ⟨a.S.toArray⟩]] w (SameC w) := by
  have g0 := ha.c0
  rw [hk] at g0
  have g1 := ha.c1
  have g2 := ha.c2
  have g3 := ha.c3
  have hN := ha.hN
  obtain ⟨s, hs⟩ : ∃ s : ByteArray, s = ⟨a.S.toArray⟩ := ⟨_, rfl⟩
  rw [← hs] at g2 ⊢
  clear ha hs
  go_enter Try.func21, Try.ntmps21
  go_wp2
  go_ret
  exact ⟨rfl, below2 _ _ _⟩
set_option maxRecDepth 20000 in
set_option maxHeartbeats 800000 in
theorem same_3 (w : World) (cs : Array Value) (bv : Value) (a : AddR) (hk : a.kind = 3) (ha : AddIs w cs bv a) :
    Calls Try.prog 21 #[.agg cs, .agg #[.int .u64 0, .string ⟨a.B.toArray⟩]] w (SameC w) := by
  have g0 := ha.c0
  rw [hk] at g0
  have g1 := ha.c1
  have g2 := ha.c2
  have g3 := ha.c3
  have hN := ha.hN
  have hcv := conv_rdA _ _ _ (ha.rd.below (below2 w (.cells cs 37) (.cells #[.int .u64 0, .string ⟨a.B.toArray⟩] 50)))
  obtain ⟨ao, cap, rfl, hl⟩ := ha.rd.slice
  obtain ⟨s, hs⟩ : ∃ s : ByteArray, s = ⟨a.B.toArray⟩ := ⟨_, rfl⟩
  rw [← hs] at hcv ⊢
  clear ha hs
  go_enter Try.func21, Try.ntmps21
  go_wp2
  go_ret
  exact ⟨rfl, below2 _ _ _⟩
set_option maxRecDepth 20000 in
set_option maxHeartbeats 800000 in
theorem same_13 (w : World) (cs : Array Value) (bv : Value) (a : AddR) (hk : a.kind = 13) (ha : AddIs w cs bv a) :
    Calls Try.prog 21 #[.agg cs, .agg #[.int .u64 0, .string ⟨a.B.toArray⟩]] w (SameC w) := by
  have g0 := ha.c0
  rw [hk] at g0
  have g1 := ha.c1
  have g2 := ha.c2
  have g3 := ha.c3
  have hN := ha.hN
  have hcv := conv_rdA _ _ _ (ha.rd.below (below2 w (.cells cs 37) (.cells #[.int .u64 0, .string ⟨a.B.toArray⟩] 50)))
  obtain ⟨ao, cap, rfl, hl⟩ := ha.rd.slice
  obtain ⟨s, hs⟩ : ∃ s : ByteArray, s = ⟨a.B.toArray⟩ := ⟨_, rfl⟩
  rw [← hs] at hcv ⊢
  clear ha hs
  go_enter Try.func21, Try.ntmps21
  go_wp2
  go_ret
  exact ⟨rfl, below2 _ _ _⟩
set_option maxRecDepth 20000 in
set_option maxHeartbeats 800000 in
theorem same_6 (w : World) (cs : Array Value) (bv : Value) (a : AddR) (hk : a.kind = 6) (ha : AddIs w cs bv a) :
    Calls Try.prog 21 #[.agg cs, .agg #[.int .u64 ((a.N % 256 : Nat) : Int), .string ⟨#[]⟩]] w (SameC w) := by
  have g0 := ha.c0
  rw [hk] at g0
  have g1 := ha.c1
  have g2 := ha.c2
  have g3 := ha.c3
  have hN := ha.hN
  clear ha
  go_enter Try.func21, Try.ntmps21
  go_wp2
  go_ret
  exact ⟨rfl, below2 _ _ _⟩
set_option maxRecDepth 20000 in
set_option maxHeartbeats 800000 in
theorem same_8 (w : World) (cs : Array Value) (bv : Value) (a : AddR) (hk : a.kind = 8) (ha : AddIs w cs bv a) :
    Calls Try.prog 21 #[.agg cs, .agg #[.int .u64 ((a.N % 65536 : Nat) : Int), .string ⟨#[]⟩]] w (SameC w) := by
  have g0 := ha.c0
  rw [hk] at g0
  have g1 := ha.c1
  have g2 := ha.c2
  have g3 := ha.c3
  have hN := ha.hN
  clear ha
  have hw : IntKind.u16.wrap (a.N : Int) = (a.N : Int) % 65536 := IntKind.wrap_u16 _
  go_enter Try.func21, Try.ntmps21
  go_wp2
  go_ret
  exact ⟨rfl, below2 _ _ _⟩
set_option maxRecDepth 20000 in
set_option maxHeartbeats 800000 in
theorem same_10 (w : World) (cs : Array Value) (bv : Value) (a : AddR) (hk : a.kind = 10) (ha : AddIs w cs bv a) :
    Calls Try.prog 21 #[.agg cs, .agg #[.int .u64 ((a.N % 4294967296 : Nat) : Int), .string ⟨#[]⟩]] w (SameC w) := by
  have g0 := ha.c0
  rw [hk] at g0
  have g1 := ha.c1
  have g2 := ha.c2
  have g3 := ha.c3
  have hN := ha.hN
  clear ha
  go_enter Try.func21, Try.ntmps21
  go_wp2
  go_ret
  exact ⟨rfl, below2 _ _ _⟩
set_option maxRecDepth 20000 in
set_option maxHeartbeats 800000 in
theorem same_5 (w : World) (cs : Array Value) (bv : Value) (a : AddR) (hk : a.kind = 5) (ha : AddIs w cs bv a) :
    Calls Try.prog 21 #[.agg cs, .agg #[.int .u64 (IntKind.u64.wrap (IntKind.i8.wrap (a.N : Int))), .string ⟨#[]⟩]] w (SameC w) := by
  have g0 := ha.c0
  rw [hk] at g0
  have g1 := ha.c1
  have g2 := ha.c2
  have g3 := ha.c3
  have hN := ha.hN
  clear ha
  go_enter Try.func21, Try.ntmps21
  go_wp2
  go_ret
  exact ⟨rfl, below2 _ _ _⟩
set_option maxRecDepth 20000 in
set_option maxHeartbeats 800000 in
theorem same_7 (w : World) (cs : Array Value) (bv : Value) (a : AddR) (hk : a.kind = 7) (ha : AddIs w cs bv a) :
    Calls Try.prog 21 #[.agg cs, .agg #[.int .u64 (IntKind.u64.wrap (IntKind.i16.wrap (a.N : Int))), .string ⟨#[]⟩]] w (SameC w) := by
  have g0 := ha.c0
  rw [hk] at g0
  have g1 := ha.c1
  have g2 := ha.c2
  have g3 := ha.c3
  have hN := ha.hN
  clear ha
  go_enter Try.func21, Try.ntmps21
  go_wp2
  go_ret
  exact ⟨rfl, below2 _ _ _⟩
set_option maxRecDepth 20000 in
set_option maxHeartbeats 800000 in
theorem same_0 (w : World) (cs : Array Value) (bv : Value) (a : AddR) (n1 : (a.kind == 1) = false) (n2 : (a.kind == 2) = false) (n3 : (a.kind == 3) = false) (n4 : (a.kind == 4) = false) (n5 : (a.kind == 5) = false) (n6 : (a.kind == 6) = false) (n7 : (a.kind == 7) = false) (n8 : (a.kind == 8) = false) (n9 : (a.kind == 9) = false) (n10 : (a.kind == 10) = false) (n11 : (a.kind == 11) = false) (n12 : (a.kind == 12) = false) (n13 : (a.kind == 13) = false) (ha : AddIs w cs bv a) :
    Calls Try.prog 21 #[.agg cs, .agg #[.int .u64 0, .string ⟨#[]⟩]] w (SameC w) := by
  have g0 := ha.c0
  have g1 := ha.c1
  have g2 := ha.c2
  have g3 := ha.c3
  have hN := ha.hN
  clear ha
  generalize a.kind = kd at *
  go_enter Try.func21, Try.ntmps21
  go_wp2
  go_ret
  exact ⟨rfl, below2 _ _ _⟩
end Go.Proofs.Ytinjcefekbpabaa
