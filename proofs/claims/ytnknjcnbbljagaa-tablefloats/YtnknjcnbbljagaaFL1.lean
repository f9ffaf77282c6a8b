/- Floats of 64 bits: their values on one scale, and how a number is rounded to the nearest. -/
import Derived.Laws.FloatBits
import Derived.WalkKit
namespace Go.Proofs.Ytnknjcnbbljagaa
set_option linter.unusedVariables false
set_option linter.unusedSimpArgs false
open Ieee

/-- The value of a rung, in units of the least number. -/
def dv (r : Nat) : Nat := if r < 4503599627370496 then r else (4503599627370496 + r % 4503599627370496) * 2 ^ (r / 4503599627370496 - 1)
theorem dv_rep (r : Nat) : ∃ s B : Nat, r = s * 4503599627370496 + B ∧ dv r = B * 2 ^ s ∧ B < 9007199254740992 ∧ (s = 0 ∨ 4503599627370496 ≤ B) := by
  by_cases h : r < 4503599627370496
  · exact ⟨0, r, by omega, by rw [dv, if_pos h]; simp, by omega, .inl rfl⟩
  · refine ⟨r / 4503599627370496 - 1, 4503599627370496 + r % 4503599627370496, by omega, by rw [dv, if_neg h], by omega, .inr (by omega)⟩
theorem dv_of (s B : Nat) (hB : B < 9007199254740992) (h : s = 0 ∨ 4503599627370496 ≤ B) : dv (s * 4503599627370496 + B) = B * 2 ^ s := by
  by_cases hb : B < 4503599627370496
  · have hs : s = 0 := by omega
    subst hs
    rw [dv, if_pos (by omega)]; simp
  · rw [dv, if_neg (by omega), show (s * 4503599627370496 + B) / 4503599627370496 - 1 = s by omega, show 4503599627370496 + (s * 4503599627370496 + B) % 4503599627370496 = B by omega]
theorem pow_split (a b : Nat) (h : a ≤ b) : 2 ^ b = 2 ^ a * 2 ^ (b - a) := by rw [← Nat.pow_add]; congr 1; omega
theorem pow_pos (n : Nat) : 0 < 2 ^ n := Nat.two_pow_pos n
theorem dv_mono (r t : Nat) (h : r ≤ t) : dv r ≤ dv t := by
  obtain ⟨s, B, e1, v1, b1, c1⟩ := dv_rep r
  obtain ⟨u, C, e2, v2, b2, c2⟩ := dv_rep t
  rw [v1, v2]
  rcases Nat.lt_trichotomy s u with hl | he | hg
  · have hC : 4503599627370496 ≤ C := by omega
    rw [pow_split (s + 1) u (by omega), Nat.pow_succ]
    have p1 := pow_pos s
    have p2 := pow_pos (u - (s + 1))
    calc B * 2 ^ s ≤ (2 * C) * 2 ^ s := Nat.mul_le_mul_right _ (by omega)
      _ = C * (2 ^ s * 2) * 1 := by rw [Nat.mul_one, Nat.mul_comm (2 ^ s) 2, ← Nat.mul_assoc, Nat.mul_comm C 2]
      _ ≤ C * (2 ^ s * 2) * 2 ^ (u - (s + 1)) := Nat.mul_le_mul_left _ p2
      _ = C * (2 ^ s * 2 * 2 ^ (u - (s + 1))) := by rw [Nat.mul_assoc]
  · subst he
    exact Nat.mul_le_mul_right _ (by omega)
  · omega
/-- The nearest whole number, between two the even one. -/
theorem cut_le (neg : Bool) (n drop B : Nat) (h : n ≤ B * 2 ^ drop) : Toward.even.cut neg n drop ≤ B := by
  unfold Toward.cut
  simp only [Nat.one_shiftLeft]
  obtain ⟨g, hg⟩ : ∃ g, g = min drop (n.log2 + 2) := ⟨_, rfl⟩
  rw [← hg]
  have pg := pow_pos g
  have h2 : n ≤ B * 2 ^ g ∨ (n < 2 ^ g ∧ 2 * n < 2 ^ g) := by
    by_cases hd : drop ≤ n.log2 + 2
    · left
      rw [hg, Nat.min_eq_left hd]; exact h
    · right
      have hl := Nat.lt_log2_self (n := n)
      rw [hg, Nat.min_eq_right (by omega), Nat.pow_succ]
      omega
  rcases h2 with h2 | ⟨h2, h3⟩
  · have hdm := Nat.div_add_mod n (2 ^ g)
    have hlt : n / 2 ^ g ≤ B := by
      rw [Nat.div_le_iff_le_mul_add_pred pg]
      rw [Nat.mul_comm]; omega
    by_cases hr : n % 2 ^ g = 0
    · rw [hr]
      have e1 : (decide (2 ^ g < 2 * 0) || (2 ^ g == 2 * 0 && n / 2 ^ g % 2 == 1)) = false := by
        have : ¬ 2 ^ g = 0 := by omega
        simp [this]
      rw [e1]
      simpa using hlt
    · have hlt2 : n / 2 ^ g < B := by
        rcases Nat.lt_or_ge (n / 2 ^ g) B with q | q
        · exact q
        · have hm := Nat.mul_le_mul_left (2 ^ g) q
          rw [Nat.mul_comm (2 ^ g) B] at hm
          omega
      have hb : ∀ b : Bool, b.toNat ≤ 1 := fun b => by cases b <;> decide
      exact Nat.le_trans (Nat.add_le_add_left (hb _) _) (by omega)
  · have e0 : n / 2 ^ g = 0 := Nat.div_eq_of_lt h2
    have e1 : n % 2 ^ g = n := Nat.mod_eq_of_lt h2
    rw [e0, e1]
    have e2 : (decide (2 ^ g < 2 * n) || (2 ^ g == 2 * n && 0 % 2 == 1)) = false := by
      simp; omega
    rw [e2]
    simp
theorem le_cut (neg : Bool) (n drop B : Nat) (h : B * 2 ^ drop ≤ n) : B ≤ Toward.even.cut neg n drop := by
  unfold Toward.cut
  simp only [Nat.one_shiftLeft]
  refine Nat.le_trans ?_ (Nat.le_add_right _ _)
  obtain ⟨g, hg⟩ : ∃ g, g = min drop (n.log2 + 2) := ⟨_, rfl⟩
  rw [← hg]
  have hgd : g ≤ drop := by omega
  rw [Nat.le_div_iff_mul_le (pow_pos g)]
  exact Nat.le_trans (Nat.mul_le_mul_left _ (Nat.pow_le_pow_right (by omega) hgd)) h
end Go.Proofs.Ytnknjcnbbljagaa
