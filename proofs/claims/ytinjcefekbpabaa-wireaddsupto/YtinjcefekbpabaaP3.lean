/- Numbers whose lowest byte stands first. -/
import Derived.Test.YtinjcefekbpabaaP2
namespace Go.Proofs.Ytinjcefekbpabaa
set_option linter.unusedVariables false
set_option linter.unusedSimpArgs false
open Go.RowKit

def leNat : List UInt8 → Nat
  | [] => 0
  | c :: r => c.toNat + 256 * leNat r

theorem leNat_lt (xs : List UInt8) : ∀ n, xs.length ≤ n → leNat xs < 256 ^ n := by
  induction xs with
  | nil => intro n _; exact Nat.pow_pos (by decide)
  | cons c r ih =>
    intro n hn
    cases n with
    | zero => simp at hn
    | succ n =>
      have h1 := ih n (by simpa using hn)
      have h2 : c.toNat < 256 := c.toNat_lt
      rw [leNat, Nat.pow_succ]
      omega
theorem leNat_append (xs ys : List UInt8) : leNat (xs ++ ys) = leNat xs + 256 ^ xs.length * leNat ys := by
  induction xs with
  | nil => simp [leNat]
  | cons c r ih =>
    simp only [List.cons_append, leNat, ih, List.length_cons, Nat.pow_succ]
    rw [Nat.mul_add, Nat.add_assoc]
    congr 2
    rw [← Nat.mul_assoc, Nat.mul_comm 256]
theorem leNat_snoc (xs : List UInt8) (k : Nat) (h : k < xs.length) : leNat (xs.take (k + 1)) = leNat (xs.take k) + xs[k].toNat * 256 ^ k := by
  rw [List.take_succ_eq_append_getElem h, leNat_append]
  simp only [leNat, List.length_take, Nat.mul_zero, Nat.add_zero]
  rw [Nat.min_eq_left (by omega), Nat.mul_comm]
theorem pow8 (k : Nat) : (2 : Nat) ^ (8 * k) = 256 ^ k := by rw [Nat.pow_mul]
theorem pow_le7 (k : Nat) (hk : k ≤ 7) : (256 : Nat) ^ k ≤ 72057594037927936 := Nat.le_trans (Nat.pow_le_pow_right (by decide) hk) (by decide)
theorem le_step (xs : List UInt8) (k : Nat) (h : k < xs.length) (h8 : xs.length ≤ 8) :
    bits .or .u64 (leNat (xs.take k) : Nat) (IntKind.u64.wrap ((xs[k].toNat : Int) * 2 ^ (8 * k))) = ((leNat (xs.take (k + 1)) : Nat) : Int) := by
  have hp := pow_le7 k (by omega)
  have hc : xs[k].toNat < 256 := xs[k].toNat_lt
  have hx : leNat (xs.take k) < 256 ^ k := leNat_lt _ k (by simp; omega)
  have hb : xs[k].toNat * 256 ^ k < 18446744073709551616 :=
    Nat.lt_of_le_of_lt (Nat.mul_le_mul (show xs[k].toNat ≤ 255 by omega) hp) (by decide)
  rw [leNat_snoc xs k h, IntKind.wrap_u64]
  generalize xs[k].toNat = y at *
  generalize leNat (xs.take k) = x at *
  have e2 : (2 : Int) ^ (8 * k) = ((256 ^ k : Nat) : Int) := by rw [← pow8 k]; simp
  rw [e2, ← Int.natCast_mul]
  have e3 : (((y * 256 ^ k : Nat) : Int)) % 18446744073709551616 = ((y * 256 ^ k : Nat) : Int) := by omega
  rw [e3, u64_or_nat x _ (by omega) hb]
  congr 1
  have e4 : x < 2 ^ (8 * k) := by rw [pow8]; exact hx
  have e5 := Nat.two_pow_add_eq_or_of_lt e4 y
  rw [pow8] at e5
  rw [Nat.or_comm, Nat.mul_comm, ← e5]; omega

theorem mNext_few (bs : List UInt8) (s : S) (a k : Nat) : ((mNext bs s a k).1.getD []).length ≤ k := by
  unfold mNext
  split
  · simp
  · split
    · simp
    · simp; omega
end Go.Proofs.Ytinjcefekbpabaa
