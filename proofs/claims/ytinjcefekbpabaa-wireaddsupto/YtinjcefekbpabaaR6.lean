/- width and signed; took, of fixed numbers. -/
import Derived.Test.YtinjcefekbpabaaR5
namespace Go.Proofs.Ytinjcefekbpabaa
set_option linter.unusedVariables false
set_option linter.unusedSimpArgs false
open Go.RowKit

theorem IntKind.wrap_i8x (n : Int) : Go.IntKind.i8.wrap n = (n + 128) % 256 - 128 := by simp [IntKind.wrap, IntKind.bits, IntKind.signed]; omega
theorem IntKind.wrap_i16x (n : Int) : Go.IntKind.i16.wrap n = (n + 32768) % 65536 - 32768 := by simp [IntKind.wrap, IntKind.bits, IntKind.signed]; omega
theorem lwidth_5 (w : World) : Calls Try.prog 41 #[.int .i64 5] w fun e w' => e = .returned (.int .i64 1) ∧ w' = w := by
  go_enter Try.func41, Try.ntmps41
  go_wp2
  go_ret
  exact ⟨rfl, rfl⟩
theorem lwidth_6 (w : World) : Calls Try.prog 41 #[.int .i64 6] w fun e w' => e = .returned (.int .i64 1) ∧ w' = w := by
  go_enter Try.func41, Try.ntmps41
  go_wp2
  go_ret
  exact ⟨rfl, rfl⟩
theorem lwidth_7 (w : World) : Calls Try.prog 41 #[.int .i64 7] w fun e w' => e = .returned (.int .i64 2) ∧ w' = w := by
  go_enter Try.func41, Try.ntmps41
  go_wp2
  go_ret
  exact ⟨rfl, rfl⟩
theorem lwidth_8 (w : World) : Calls Try.prog 41 #[.int .i64 8] w fun e w' => e = .returned (.int .i64 2) ∧ w' = w := by
  go_enter Try.func41, Try.ntmps41
  go_wp2
  go_ret
  exact ⟨rfl, rfl⟩
theorem lwidth_9 (w : World) : Calls Try.prog 41 #[.int .i64 9] w fun e w' => e = .returned (.int .i64 4) ∧ w' = w := by
  go_enter Try.func41, Try.ntmps41
  go_wp2
  go_ret
  exact ⟨rfl, rfl⟩
theorem lwidth_10 (w : World) : Calls Try.prog 41 #[.int .i64 10] w fun e w' => e = .returned (.int .i64 4) ∧ w' = w := by
  go_enter Try.func41, Try.ntmps41
  go_wp2
  go_ret
  exact ⟨rfl, rfl⟩
theorem lwidth_11 (w : World) : Calls Try.prog 41 #[.int .i64 11] w fun e w' => e = .returned (.int .i64 8) ∧ w' = w := by
  go_enter Try.func41, Try.ntmps41
  go_wp2
  go_ret
  exact ⟨rfl, rfl⟩
theorem lwidth_12 (w : World) : Calls Try.prog 41 #[.int .i64 12] w fun e w' => e = .returned (.int .i64 8) ∧ w' = w := by
  go_enter Try.func41, Try.ntmps41
  go_wp2
  go_ret
  exact ⟨rfl, rfl⟩
def hf (j : Nat) : Nat := 128 * 256 ^ (j - 1)
theorem hf_step (j : Nat) (h1 : 1 ≤ j) (h7 : j ≤ 7) : IntKind.u64.wrap ((hf j : Int) * 256) = (hf (j + 1) : Int) := by
  have e : hf (j + 1) = hf j * 256 := by
    unfold hf
    rw [show j + 1 - 1 = (j - 1) + 1 by omega, Nat.pow_succ]
    omega
  have hb : hf (j + 1) ≤ 9223372036854775808 := by
    unfold hf
    have : (256 : Nat) ^ (j + 1 - 1) ≤ 256 ^ 7 := Nat.pow_le_pow_right (by decide) (by omega)
    have h2 : (256 : Nat) ^ 7 = 72057594037927936 := by decide
    omega
  rw [IntKind.wrap_u64]
  omega
theorem hf1 : hf 1 = 128 := by decide
theorem hf2 : hf 2 = 32768 := by decide
theorem hf4 : hf 4 = 2147483648 := by decide
theorem sgn_1 (v : Nat) (hv : v < 256) : (if v < hf 1 ∨ 1 = 8 then (v : Int) else IntKind.u64.wrap ((v : Int) - hf 1 - hf 1)) = IntKind.u64.wrap (IntKind.i8.wrap v) := by
  rw [hf1, IntKind.wrap_u64, IntKind.wrap_u64, IntKind.wrap_i8x]; split <;> omega
theorem sgn_2 (v : Nat) (hv : v < 65536) : (if v < hf 2 ∨ 2 = 8 then (v : Int) else IntKind.u64.wrap ((v : Int) - hf 2 - hf 2)) = IntKind.u64.wrap (IntKind.i16.wrap v) := by
  rw [hf2, IntKind.wrap_u64, IntKind.wrap_u64, IntKind.wrap_i16x]; split <;> omega
theorem sgn_4 (v : Nat) (hv : v < 4294967296) : (if v < hf 4 ∨ 4 = 8 then (v : Int) else IntKind.u64.wrap ((v : Int) - hf 4 - hf 4)) = IntKind.u64.wrap (IntKind.i32.wrap v) := by
  rw [hf4, IntKind.wrap_u64, IntKind.wrap_u64, IntKind.wrap_i32]; split <;> omega
theorem sgn_8 (v : Nat) (hv : v < 18446744073709551616) : (if v < hf 8 ∨ 8 = 8 then (v : Int) else IntKind.u64.wrap ((v : Int) - hf 8 - hf 8)) = IntKind.u64.wrap (IntKind.i64.wrap v) := by
  rw [if_pos (.inr rfl), IntKind.wrap_u64, IntKind.wrap_i64]; omega
theorem wrap_sub2 (v q : Nat) : IntKind.u64.wrap (IntKind.u64.wrap ((v : Int) - q) - q) = IntKind.u64.wrap ((v : Int) - q - q) := by
  rw [IntKind.wrap_u64, IntKind.wrap_u64, IntKind.wrap_u64]; omega

set_option maxHeartbeats 800000 in
theorem signed_any (w : World) (v n : Nat) (R : Int) (hn1 : 1 ≤ n) (hn8 : n ≤ 8) (hR : (if v < hf n ∨ n = 8 then (v : Int) else IntKind.u64.wrap ((v : Int) - hf n - hf n)) = R) :
    Calls Try.prog 63 #[.int .u64 v, .int .i64 n] w fun e w' => e = .returned (.int .u64 R) ∧ w' = w := by
  have HR := hide hR
  clear hR
  go_enter Try.func63, Try.ntmps63
  go_wp2
  go_loop [5, 6] (fun q i => ∃ j : Nat, 1 ≤ j ∧ j ≤ n ∧ i = .int .i64 j ∧ q = .int .u64 (hf j)) (fun _ i => n - (intOf i).toNat)
  case atStart => exact ⟨1, by omega, hn1, rfl, rfl⟩
  case round =>
    obtain ⟨j, hj1, hjn, rfl, rfl⟩ := hrel
    by_cases hlt : j < n
    · have HS := hide (hf_step j hj1 (by omega))
      generalize hf j = q at HS ⊢
      go_wp2
      go_round
      case rel => exact ⟨j + 1, by omega, by omega, by go_num, by rw [HS.out]⟩
      case measure => simp [intOf]; omega
    · obtain rfl : j = n := by omega
      have HR2 := HR
      clear HR
      by_cases hv : v < hf j
      · have hvi : (v : Int) < (hf j : Int) := by omega
        have HF := hide (show R = v by rw [← HR2.out, if_pos (.inl hv)])
        clear HR2 hv
        generalize hf j = q at hvi ⊢
        go_wp2
        go_ret
        rw [HF.out]
        exact ⟨rfl, rfl⟩
      · have hvi : (hf j : Int) ≤ (v : Int) := by omega
        by_cases h8 : j = 8
        · have HF := hide (show R = v by rw [← HR2.out, if_pos (.inr h8)])
          subst h8
          clear HR2 hv
          generalize hf 8 = q at hvi ⊢
          go_wp2
          go_ret
          rw [HF.out]
          exact ⟨rfl, rfl⟩
        · have HF := hide (show R = IntKind.u64.wrap ((v : Int) - hf j - hf j) by rw [← HR2.out, if_neg (by omega)])
          have h8b : ((j : Int) == 8) = false := by rw [beq_eq_false_iff_ne]; omega
          clear HR2 hv
          generalize hf j = q at hvi HF ⊢
          go_wp2
          go_ret
          rw [HF.out, ← wrap_sub2]
          exact ⟨rfl, rfl⟩
end Go.Proofs.Ytinjcefekbpabaa
