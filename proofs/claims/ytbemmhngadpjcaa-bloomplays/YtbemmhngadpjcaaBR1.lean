/- pow, the program's and the document's; NaN. -/
import Derived.Test.YtbemmhngadpjcaaFLm
import Derived.Test.YtbemmhngadpjcaaGE0
import Derived.Laws.FloatArith
import Derived.Laws.Cover2
namespace Go.Proofs.Ytbemmhngadpjcaa
set_option linter.unusedVariables false
set_option linter.unusedSimpArgs false
open Go.RowKit Ieee

theorem fsub {x y r : Nat} (h : double.sub x y = some r) (t : TypeId) (w : World) : (binOp .sub t (.float .f64 x) (.float .f64 y)).run Try.prog w = .ok (.float .f64 r) w := run_float_arith w .sub t .f64 x y r h
theorem fmul {x y r : Nat} (h : double.mul x y = some r) (t : TypeId) (w : World) : (binOp .mul t (.float .f64 x) (.float .f64 y)).run Try.prog w = .ok (.float .f64 r) w := run_float_arith w .mul t .f64 x y r h
theorem fdiv {x y r : Nat} (h : double.div x y = some r) (t : TypeId) (w : World) : (binOp .quo t (.float .f64 x) (.float .f64 y)).run Try.prog w = .ok (.float .f64 r) w := run_float_arith w .quo t .f64 x y r h
def FlC (w : World) (r : Nat) (e : Ending) (w' : World) : Prop := e = .returned (.float .f64 r) ∧ Below w.heap.size w w'
set_option maxRecDepth 20000 in
set_option maxHeartbeats 1000000 in
theorem pow_any (x n : Nat) (hx : x ≤ ONE) (hn : n ≤ 9223372036854775807) (w : World) : Calls Try.prog 41 #[.float .f64 x, .int .i64 n] w (FlC w (powF ONE x n)) := by
  obtain ⟨R, hR⟩ : ∃ R, R = powF ONE x n := ⟨_, rfl⟩
  have HR : Hid (R = powF ONE x n) := hide hR
  rw [← hR]
  clear hR
  have HX : Hid (x ≤ ONE) := hide hx
  clear hx
  go_enter Try.func41, Try.ntmps41
  go_wp2
  go_loopw [1, 5, 6] (fun nv zv bv wr => ∃ k z b : Nat, nv = .int .i64 k ∧ zv = .float .f64 z ∧ bv = .float .f64 b ∧ k ≤ 9223372036854775807 ∧ Hid (z ≤ ONE ∧ b ≤ ONE ∧ R = powF z b k) ∧ Below w.heap.size w wr) (fun nv _ _ _ => (intOf nv).toNat)
  case atStart => exact ⟨n, ONE, x, rfl, rfl, rfl, hn, hide ⟨Nat.le_refl _, HX.out, HR.out⟩, Below.refl _ _⟩
  case round =>
    obtain ⟨k, z, b, rfl, rfl, rfl, hk, HZ, hbel⟩ := hrel
    rcases Nat.eq_zero_or_pos k with h0 | h0
    · have hki : ¬ (0 : Int) < (k : Int) := by omega
      have hz : z = R := by
        obtain ⟨-, -, h⟩ := HZ.out
        rw [h, h0, powF_zero]
      clear HZ h0
      subst hz
      go_wp2
      go_ret
      exact ⟨rfl, hbel⟩
    · have hki : (0 : Int) < (k : Int) := by omega
      have m1 := mulF_ok HZ.out.1 HZ.out.2.1
      have m2 := mulF_ok HZ.out.2.1 HZ.out.2.1
      have g1 := fmul m1.1
      have g2 := fmul m2.1
      have b1 : mulF z b ≤ ONE := by have := HZ.out.1; omega
      have b2 : mulF b b ≤ ONE := by have := HZ.out.2.1; omega
      have HS := hide (powF_succ z b k h0)
      have hq : Int.tdiv (k : Int) 2 = ((k / 2 : Nat) : Int) := (Int.ofNat_tdiv k 2).symm
      obtain ⟨zb, hzb⟩ : ∃ zb, zb = mulF z b := ⟨_, rfl⟩
      obtain ⟨bb, hbb⟩ : ∃ bb, bb = mulF b b := ⟨_, rfl⟩
      rw [← hzb] at g1 b1 HS
      rw [← hbb] at g2 b2 HS
      have B1 := hide b1
      have B2 := hide b2
      clear m1 m2 b1 b2 hzb hbb
      by_cases ho : k % 2 = 1
      · have hoi : Int.tmod (k : Int) 2 = 1 := by
          have := Int.ofNat_tmod k 2
          rw [ho] at this
          exact this.symm
        go_wp2_with (simp only [g1, g2])
        exact ⟨⟨k / 2, zb, bb, by go_num, rfl, rfl, by omega, hide ⟨B1.out, B2.out, by rw [HZ.out.2.2, HS.out, if_pos ho]⟩, hbel⟩, by simp [intOf]; omega⟩
      · have hoi : Int.tmod (k : Int) 2 = 0 := by
          have := Int.ofNat_tmod k 2
          rw [show k % 2 = 0 by omega] at this
          exact this.symm
        go_wp2_with (simp only [g1, g2])
        exact ⟨⟨k / 2, z, bb, by go_num, rfl, rfl, by omega, hide ⟨HZ.out.1, B2.out, by rw [HZ.out.2.2, HS.out, if_neg ho]⟩, hbel⟩, by simp [intOf]; omega⟩
set_option maxRecDepth 20000 in
set_option maxHeartbeats 1000000 in
theorem rpow_any (x n : Nat) (hx : x ≤ ONE) (hn : n ≤ 9223372036854775807) (w : World) : Calls Try.prog 39 #[.float .f64 x, .int .i64 n] w (FlC w (powF ONE x n)) := by
  obtain ⟨R, hR⟩ : ∃ R, R = powF ONE x n := ⟨_, rfl⟩
  have HR : Hid (R = powF ONE x n) := hide hR
  rw [← hR]
  clear hR
  have HX : Hid (x ≤ ONE) := hide hx
  clear hx
  go_enter Try.func39, Try.ntmps39
  go_wp2
  go_loopw [1, 5, 6] (fun nv zv bv wr => ∃ k z b : Nat, nv = .int .i64 k ∧ zv = .float .f64 z ∧ bv = .float .f64 b ∧ k ≤ 9223372036854775807 ∧ Hid (z ≤ ONE ∧ b ≤ ONE ∧ R = powF z b k) ∧ Below w.heap.size w wr) (fun nv _ _ _ => (intOf nv).toNat)
  case atStart => exact ⟨n, ONE, x, rfl, rfl, rfl, hn, hide ⟨Nat.le_refl _, HX.out, HR.out⟩, Below.refl _ _⟩
  case round =>
    obtain ⟨k, z, b, rfl, rfl, rfl, hk, HZ, hbel⟩ := hrel
    rcases Nat.eq_zero_or_pos k with h0 | h0
    · have hki : ¬ (0 : Int) < (k : Int) := by omega
      have hz : z = R := by
        obtain ⟨-, -, h⟩ := HZ.out
        rw [h, h0, powF_zero]
      clear HZ h0
      subst hz
      go_wp2
      go_ret
      exact ⟨rfl, hbel⟩
    · have hki : (0 : Int) < (k : Int) := by omega
      have m1 := mulF_ok HZ.out.1 HZ.out.2.1
      have m2 := mulF_ok HZ.out.2.1 HZ.out.2.1
      have g1 := fmul m1.1
      have g2 := fmul m2.1
      have b1 : mulF z b ≤ ONE := by have := HZ.out.1; omega
      have b2 : mulF b b ≤ ONE := by have := HZ.out.2.1; omega
      have HS := hide (powF_succ z b k h0)
      have hq : Int.tdiv (k : Int) 2 = ((k / 2 : Nat) : Int) := (Int.ofNat_tdiv k 2).symm
      obtain ⟨zb, hzb⟩ : ∃ zb, zb = mulF z b := ⟨_, rfl⟩
      obtain ⟨bb, hbb⟩ : ∃ bb, bb = mulF b b := ⟨_, rfl⟩
      rw [← hzb] at g1 b1 HS
      rw [← hbb] at g2 b2 HS
      have B1 := hide b1
      have B2 := hide b2
      clear m1 m2 b1 b2 hzb hbb
      by_cases ho : k % 2 = 1
      · have hoi : Int.tmod (k : Int) 2 = 1 := by
          have := Int.ofNat_tmod k 2
          rw [ho] at this
          exact this.symm
        go_wp2_with (simp only [g1, g2])
        exact ⟨⟨k / 2, zb, bb, by go_num, rfl, rfl, by omega, hide ⟨B1.out, B2.out, by rw [HZ.out.2.2, HS.out, if_pos ho]⟩, hbel⟩, by simp [intOf]; omega⟩
      · have hoi : Int.tmod (k : Int) 2 = 0 := by
          have := Int.ofNat_tmod k 2
          rw [show k % 2 = 0 by omega] at this
          exact this.symm
        go_wp2_with (simp only [g1, g2])
        exact ⟨⟨k / 2, z, bb, by go_num, rfl, rfl, by omega, hide ⟨HZ.out.1, B2.out, by rw [HZ.out.2.2, HS.out, if_neg ho]⟩, hbel⟩, by simp [intOf]; omega⟩
end Go.Proofs.Ytbemmhngadpjcaa
