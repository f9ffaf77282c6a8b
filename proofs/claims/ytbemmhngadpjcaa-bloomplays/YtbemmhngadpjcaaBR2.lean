/- Rate, the program's and the document's. -/
import Derived.Test.YtbemmhngadpjcaaBR1
namespace Go.Proofs.Ytbemmhngadpjcaa
set_option linter.unusedVariables false
set_option linter.unusedSimpArgs false
open Go.RowKit Ieee

/-- The NaN that the program answers. -/
def NAN : Nat := 9221120237041090561
set_option maxRecDepth 20000 in
set_option maxHeartbeats 1000000 in
theorem nan_any (w : World) : Calls Try.prog 40 #[] w (FlC w NAN) := by
  go_enter Try.func40, Try.ntmps40
  go_wp2
  rw [run_callFunc_extern Try.func59 (by kernel_rfl) (by kernel_rfl) (by kernel_rfl) (e := Extern.MathFloatBits.float64frombits) (by kernel_rfl)]
  have hs : (Extern.MathFloatBits.float64frombits #[.int .u64 9221120237041090561]).run Try.prog w = .ok (.float .f64 9221120237041090561) w := by
    have e : Extern.MathFloatBits.float64frombits #[.int .u64 9221120237041090561] = pure (.float .f64 9221120237041090561) := rfl
    rw [e]
    exact Sem.run_pure ..
  rw [hs]
  simp only [Result.andThen]
  rw [Oper.upon_value]
  go_wp2
  go_ret
  exact ⟨rfl, Below.refl _ _⟩
theorem flI (k : Nat) : floatOfInt .f64 (k : Int) = flw k := by
  show double.nearest (decide ((k : Int) < 0)) (k : Int).natAbs 0 = double.nearest false k 0
  rw [decide_eq_false (by omega)]
  rfl
/-- May these numbers be? -/
def RateOk (b h n : Int) : Prop := 1 ≤ b ∧ b ≤ 1048576 ∧ 1 ≤ h ∧ h ≤ 16 ∧ 0 ≤ n ∧ n ≤ 4294967296
set_option maxRecDepth 20000 in
set_option maxHeartbeats 2000000 in
theorem rate_in (k h n : Nat) (hk : 1 ≤ k ∧ k ≤ 1048576) (hh : 1 ≤ h ∧ h ≤ 16) (hn : n ≤ 4294967296) (w : World) : Calls Try.prog 14 #[.int .i64 k, .int .i64 h, .int .i64 n] w (FlC w (rateF k h n)) := by
  obtain ⟨k1, k2⟩ := hk
  obtain ⟨h1, h2⟩ := hh
  have kb : k ≤ 9223372036854775808 := by omega
  have hhn : h * n ≤ 68719476736 := Nat.mul_le_mul h2 hn
  have o1 := invF_ok k kb k1
  have o2 := eF_ok k kb k1
  have o3 := gF_ok k (h * n) kb k1
  have g1 := fdiv o1.1
  have g2 := fsub o2.1
  have g3 := fsub o3.1
  rw [← flI k] at g1
  have c1 := fun W => pow_any (eF k) (h * n) o2.2 (by omega) W
  have c2 := fun W => pow_any (gF k (h * n)) h o3.2 (by omega) W
  obtain ⟨R, hR⟩ : ∃ R, R = rateF k h n := ⟨_, rfl⟩
  have eR : powF ONE (gF k (h * n)) h = R := hR.symm
  have eP : powF ONE (eF k) (h * n) = pF k (h * n) := rfl
  rw [eR] at c2
  rw [eP] at c1
  rw [← hR]
  clear hR eR eP
  obtain ⟨m, hm⟩ : ∃ m, m = h * n := ⟨_, rfl⟩
  rw [← hm] at g3 c1 c2 hhn
  have hmi : (h : Int) * (n : Int) = (m : Int) := by rw [hm]; simp
  generalize invF k = i1 at g1 g2
  generalize eF k = e1 at g2 c1
  generalize pF k m = p1 at g3 c1
  generalize gF k m = q1 at g3 c2
  unfold ONE at g1 g2 g3
  have C1 := hide c1
  have C2 := hide c2
  clear o1 o2 o3 c1 c2 kb hm
  have i1 : ¬ (k : Int) < 1 := by omega
  have i2 : ¬ (1048576 : Int) < k := by omega
  have i3 : ¬ (h : Int) < 1 := by omega
  have i4 : ¬ (16 : Int) < h := by omega
  have i5 : ¬ (n : Int) < 0 := by omega
  have i6 : ¬ (4294967296 : Int) < n := by omega
  go_enter Try.func14, Try.ntmps14
  go_wp2_with (first | simp only [g1, g2, g3])
  refine (C1.out _).mono ?_
  rintro e w1 ⟨rfl, hb1⟩
  go_wp2_with (first | simp only [g1, g2, g3])
  refine (C2.out _).mono ?_
  rintro e w2 ⟨rfl, hb2⟩
  go_wp2
  go_ret
  exact ⟨rfl, hb1.trans (hb2.mono hb1.size)⟩
def FbC (w : World) (r : Nat) (b : Bool) (e : Ending) (w' : World) : Prop := e = .returned (.tuple #[.float .f64 r, .bool b]) ∧ Below w.heap.size w w'
set_option maxRecDepth 20000 in
set_option maxHeartbeats 2000000 in
theorem rrate_in (k h n : Nat) (hk : 1 ≤ k ∧ k ≤ 1048576) (hh : 1 ≤ h ∧ h ≤ 16) (hn : n ≤ 4294967296) (w : World) : Calls Try.prog 13 #[.int .i64 k, .int .i64 h, .int .i64 n] w (FbC w (rateF k h n) true) := by
  obtain ⟨k1, k2⟩ := hk
  obtain ⟨h1, h2⟩ := hh
  have kb : k ≤ 9223372036854775808 := by omega
  have hhn : h * n ≤ 68719476736 := Nat.mul_le_mul h2 hn
  have o1 := invF_ok k kb k1
  have o2 := eF_ok k kb k1
  have o3 := gF_ok k (h * n) kb k1
  have g1 := fdiv o1.1
  have g2 := fsub o2.1
  have g3 := fsub o3.1
  rw [← flI k] at g1
  have c1 := fun W => rpow_any (eF k) (h * n) o2.2 (by omega) W
  have c2 := fun W => rpow_any (gF k (h * n)) h o3.2 (by omega) W
  obtain ⟨R, hR⟩ : ∃ R, R = rateF k h n := ⟨_, rfl⟩
  have eR : powF ONE (gF k (h * n)) h = R := hR.symm
  have eP : powF ONE (eF k) (h * n) = pF k (h * n) := rfl
  rw [eR] at c2
  rw [eP] at c1
  rw [← hR]
  clear hR eR eP
  obtain ⟨m, hm⟩ : ∃ m, m = h * n := ⟨_, rfl⟩
  rw [← hm] at g3 c1 c2 hhn
  have hmi : (h : Int) * (n : Int) = (m : Int) := by rw [hm]; simp
  generalize invF k = i1 at g1 g2
  generalize eF k = e1 at g2 c1
  generalize pF k m = p1 at g3 c1
  generalize gF k m = q1 at g3 c2
  unfold ONE at g1 g2 g3
  have C1 := hide c1
  have C2 := hide c2
  clear o1 o2 o3 c1 c2 kb hm
  have i1 : ¬ (k : Int) < 1 := by omega
  have i2 : ¬ (1048576 : Int) < k := by omega
  have i3 : ¬ (h : Int) < 1 := by omega
  have i4 : ¬ (16 : Int) < h := by omega
  have i5 : ¬ (n : Int) < 0 := by omega
  have i6 : ¬ (4294967296 : Int) < n := by omega
  go_enter Try.func13, Try.ntmps13
  go_wp2_with (first | simp only [g1, g2, g3])
  refine (C1.out _).mono ?_
  rintro e w1 ⟨rfl, hb1⟩
  go_wp2_with (first | simp only [g1, g2, g3])
  refine (C2.out _).mono ?_
  rintro e w2 ⟨rfl, hb2⟩
  go_wp2
  go_ret2
  exact ⟨rfl, hb1.trans (hb2.mono hb1.size)⟩
set_option maxRecDepth 20000 in
set_option maxHeartbeats 2000000 in
theorem rate_out (b h n : Int) (hno : ¬ RateOk b h n) (w : World) : Calls Try.prog 14 #[.int .i64 b, .int .i64 h, .int .i64 n] w (FlC w NAN) := by
  have hc : b < 1 ∨ (¬ b < 1 ∧ (1048576 : Int) < b) ∨ (¬ b < 1 ∧ ¬ (1048576 : Int) < b ∧ h < 1) ∨ (¬ b < 1 ∧ ¬ (1048576 : Int) < b ∧ ¬ h < 1 ∧ (16 : Int) < h) ∨ (¬ b < 1 ∧ ¬ (1048576 : Int) < b ∧ ¬ h < 1 ∧ ¬ (16 : Int) < h ∧ n < 0) ∨ (¬ b < 1 ∧ ¬ (1048576 : Int) < b ∧ ¬ h < 1 ∧ ¬ (16 : Int) < h ∧ ¬ n < 0 ∧ (4294967296 : Int) < n) := by
    unfold RateOk at hno
    omega
  have C := hide (fun W => nan_any W)
  clear hno
  go_enter Try.func14, Try.ntmps14
  rcases hc with a1 | ⟨a1, a2⟩ | ⟨a1, a2, a3⟩ | ⟨a1, a2, a3, a4⟩ | ⟨a1, a2, a3, a4, a5⟩ | ⟨a1, a2, a3, a4, a5, a6⟩
  all_goals
    go_wp2_with fail
    refine (C.out _).mono ?_
    rintro e w1 ⟨rfl, hb1⟩
    go_wp2
    go_ret
    exact ⟨rfl, hb1⟩
set_option maxRecDepth 20000 in
set_option maxHeartbeats 2000000 in
theorem rrate_out (b h n : Int) (hno : ¬ RateOk b h n) (w : World) : Calls Try.prog 13 #[.int .i64 b, .int .i64 h, .int .i64 n] w (FbC w 0 false) := by
  have hc : b < 1 ∨ (¬ b < 1 ∧ (1048576 : Int) < b) ∨ (¬ b < 1 ∧ ¬ (1048576 : Int) < b ∧ h < 1) ∨ (¬ b < 1 ∧ ¬ (1048576 : Int) < b ∧ ¬ h < 1 ∧ (16 : Int) < h) ∨ (¬ b < 1 ∧ ¬ (1048576 : Int) < b ∧ ¬ h < 1 ∧ ¬ (16 : Int) < h ∧ n < 0) ∨ (¬ b < 1 ∧ ¬ (1048576 : Int) < b ∧ ¬ h < 1 ∧ ¬ (16 : Int) < h ∧ ¬ n < 0 ∧ (4294967296 : Int) < n) := by
    unfold RateOk at hno
    omega
  clear hno
  go_enter Try.func13, Try.ntmps13
  rcases hc with a1 | ⟨a1, a2⟩ | ⟨a1, a2, a3⟩ | ⟨a1, a2, a3, a4⟩ | ⟨a1, a2, a3, a4, a5⟩ | ⟨a1, a2, a3, a4, a5, a6⟩
  all_goals
    go_wp2
    go_ret2
    exact ⟨rfl, Below.refl _ _⟩
end Go.Proofs.Ytbemmhngadpjcaa
