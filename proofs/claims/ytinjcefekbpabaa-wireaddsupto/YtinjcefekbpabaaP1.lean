/- Plain arithmetic of numbers at seven bits a byte. -/
import Derived.Laws.BitsAllLaws
import Derived.Laws.Bits128
import Derived.WalkKit
namespace Go.Proofs.Ytinjcefekbpabaa
set_option linter.unusedVariables false
set_option linter.unusedSimpArgs false
open Go.RowKit

theorem hide {p : Prop} (h : p) : Hid p := h

/-- The document's number: the value, how many bytes, the code. -/
def firstGo (v i : Nat) : List UInt8 → Nat × Nat × Nat
  | [] => (0, 0, 10)
  | c :: r =>
    if i = 9 ∧ 1 < c.toNat then (0, 0, 11)
    else if c.toNat < 128 then
      if c.toNat = 0 ∧ 0 < i then (0, 0, 11) else (v + c.toNat % 128 * 128 ^ i, i + 1, 0)
    else firstGo (v + c.toNat % 128 * 128 ^ i) (i + 1) r

theorem pow7 (k : Nat) : (2 : Nat) ^ (7 * k) = 128 ^ k := by rw [Nat.pow_mul]
theorem and127 (y : Nat) (hy : y < 256) : bits .and .u8 (y : Int) 127 = ((y % 128 : Nat) : Int) := by
  rw [show (127 : Int) = ((127 : Nat) : Int) from rfl, u8_and_nat y 127 hy (by decide), show (127 : Nat) = 2 ^ 7 - 1 from rfl, Nat.and_two_pow_sub_one_eq_mod]
theorem pow_le9 (k : Nat) (hk : k ≤ 9) : (128 : Nat) ^ k ≤ 9223372036854775808 := Nat.le_trans (Nat.pow_le_pow_right (by decide) hk) (by decide)
theorem pow_le8 (k : Nat) (hk : k ≤ 8) : (128 : Nat) ^ k ≤ 72057594037927936 := Nat.le_trans (Nat.pow_le_pow_right (by decide) hk) (by decide)
theorem mul_bound (y k : Nat) (hk : k ≤ 9) (h9 : k = 9 → y ≤ 1) : y % 128 * 128 ^ k < 18446744073709551616 := by
  by_cases h : k = 9
  · have h1 := h9 h
    have h2 := pow_le9 k hk
    have h3 : y % 128 ≤ 1 := by omega
    calc y % 128 * 128 ^ k ≤ 1 * 9223372036854775808 := Nat.mul_le_mul h3 h2
      _ < _ := by decide
  · have h2 := pow_le8 k (by omega)
    have h3 : y % 128 ≤ 127 := by omega
    calc y % 128 * 128 ^ k ≤ 127 * 72057594037927936 := Nat.mul_le_mul h3 h2
      _ < _ := by decide
theorem or_step (x y k : Nat) (hx : x < 128 ^ k) (hy : y < 256) (hk : k ≤ 9) (h9 : k = 9 → y ≤ 1) :
    bits .or .u64 (x : Int) (IntKind.u64.wrap (IntKind.u64.wrap (bits .and .u8 (y : Int) 127) * 2 ^ (7 * k))) = ((x + y % 128 * 128 ^ k : Nat) : Int) := by
  have hb := mul_bound y k hk h9
  have hp := pow_le9 k hk
  rw [and127 y hy, IntKind.wrap_u64, IntKind.wrap_u64]
  have e1 : ((y % 128 : Nat) : Int) % 18446744073709551616 = ((y % 128 : Nat) : Int) := by omega
  have e2 : (2 : Int) ^ (7 * k) = ((128 ^ k : Nat) : Int) := by rw [← pow7 k]; simp
  rw [e1, e2, ← Int.natCast_mul]
  have e3 : (((y % 128 * 128 ^ k : Nat) : Int)) % 18446744073709551616 = ((y % 128 * 128 ^ k : Nat) : Int) := by omega
  rw [e3, u64_or_nat x _ (by omega) hb]
  congr 1
  have e4 : x < 2 ^ (7 * k) := by rw [pow7]; exact hx
  have e5 := Nat.two_pow_add_eq_or_of_lt e4 (y % 128)
  rw [pow7] at e5
  rw [Nat.or_comm, Nat.mul_comm, ← e5]; omega
theorem step_lt (x y k : Nat) (hx : x < 128 ^ k) : x + y % 128 * 128 ^ k < 128 ^ (k + 1) := by
  have h3 : y % 128 ≤ 127 := by omega
  have h4 : y % 128 * 128 ^ k ≤ 127 * 128 ^ k := Nat.mul_le_mul_right _ h3
  rw [Nat.pow_succ]; omega

theorem first_form9 (v : Nat) (u : UInt8) (r : List UInt8) (k : Nat) (hk : k = 9) (h : 1 < u.toNat) : firstGo v k (u :: r) = (0, 0, 11) := by
  rw [firstGo, if_pos ⟨hk, h⟩]
theorem first_form0 (v : Nat) (u : UInt8) (r : List UInt8) (k : Nat) (h9 : k = 9 → u.toNat ≤ 1) (h0 : u.toNat = 0) (hk : 0 < k) : firstGo v k (u :: r) = (0, 0, 11) := by
  rw [firstGo, if_neg (by intro h; have := h9 h.1; omega), if_pos (by omega), if_pos ⟨h0, hk⟩]
theorem first_end (v : Nat) (u : UInt8) (r : List UInt8) (k : Nat) (h9 : k = 9 → u.toNat ≤ 1) (h1 : u.toNat < 128) (h0 : ¬ (u.toNat = 0 ∧ 0 < k)) : firstGo v k (u :: r) = (v + u.toNat % 128 * 128 ^ k, k + 1, 0) := by
  rw [firstGo, if_neg (by intro h; have := h9 h.1; omega), if_pos h1, if_neg h0]
theorem first_more (v : Nat) (u : UInt8) (r : List UInt8) (k : Nat) (h9 : k ≠ 9) (h1 : 128 ≤ u.toNat) : firstGo v k (u :: r) = firstGo (v + u.toNat % 128 * 128 ^ k) (k + 1) r := by
  rw [firstGo, if_neg (by intro h; exact h9 h.1), if_neg (by omega)]
end Go.Proofs.Ytinjcefekbpabaa
