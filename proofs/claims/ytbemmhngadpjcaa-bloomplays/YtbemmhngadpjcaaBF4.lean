/- The rate of a filter, as a number. -/
import Derived.Test.YtbemmhngadpjcaaBF3
import Derived.Laws.FloatArith
namespace Go.Proofs.Ytbemmhngadpjcaa
set_option linter.unusedVariables false
set_option linter.unusedSimpArgs false
open Ieee

/-- A whole number as a float. -/
def flw (k : Nat) : Nat := double.nearest false k 0
theorem flw_exa (k : Nat) (h : k ≤ 9223372036854775808) : flw k ≤ R63 ∧ Exa (k * 2 ^ uE) 1 (flw k) := by
  obtain ⟨r, e, h1, -, h2⟩ := nearest_exa false k 0 uE 0 R63 (by unfold uE; omega) (.inr rfl) R63_lt (by
    rw [dv63, Nat.pow_zero, Nat.mul_one, Nat.pow_add]
    exact Nat.mul_le_mul_right _ h)
  unfold flw
  rw [e]
  exact ⟨h1, h2⟩
theorem flw_one (k : Nat) (h : k ≤ 9223372036854775808) (h1 : 1 ≤ k) : 2 ^ uE ≤ dv (flw k) := by
  obtain ⟨r, e, -, h2, -⟩ := float_int false k h
  unfold flw
  rw [e]
  exact h2 h1
theorem flw_mono (k k' : Nat) (h : k ≤ k') (h' : k' ≤ 9223372036854775808) : flw k ≤ flw k' :=
  Exa.mono (by omega) (flw_exa k (by omega)).2 (flw_exa k' h').2 (Nat.mul_le_mul_right _ h)
def invF (k : Nat) : Nat := (double.div ONE (flw k)).getD 0
theorem invF_ok (k : Nat) (h : k ≤ 9223372036854775808) (h1 : 1 ≤ k) : double.div ONE (flw k) = some (invF k) ∧ invF k ≤ ONE ∧ Exa (2 ^ uE * 2 ^ uE) (dv (flw k)) (invF k) := by
  have R := R63_lt
  obtain ⟨r, e, hr, hE⟩ := div_one (flw k) (by have := (flw_exa k h).1; omega) (flw_one k h h1)
  have : invF k = r := by unfold invF; rw [e]; rfl
  rw [this]
  exact ⟨e, hr, hE⟩
theorem invF_anti (k k' : Nat) (h1 : 1 ≤ k) (h : k ≤ k') (h' : k' ≤ 9223372036854775808) : invF k' ≤ invF k := by
  have p := pow_pos uE
  have a := flw_one k (by omega) h1
  have b := flw_one k' h' (by omega)
  exact Exa.mono2 (by omega) (by omega) (invF_ok k' h' (by omega)).2.2 (invF_ok k (by omega) h1).2.2 (Nat.mul_le_mul_left _ (dv_mono _ _ (flw_mono k k' h h')))
def eF (k : Nat) : Nat := subF (invF k)
theorem eF_ok (k : Nat) (h : k ≤ 9223372036854775808) (h1 : 1 ≤ k) : double.sub ONE (invF k) = some (eF k) ∧ eF k ≤ ONE := by
  have := subF_ok (invF_ok k h h1).2.1
  exact ⟨this.1, this.2.1⟩
theorem eF_mono (k k' : Nat) (h1 : 1 ≤ k) (h : k ≤ k') (h' : k' ≤ 9223372036854775808) : eF k ≤ eF k' :=
  subF_anti (invF_anti k k' h1 h h') (invF_ok k (by omega) h1).2.1
def pF (k n : Nat) : Nat := powF ONE (eF k) n
def gF (k n : Nat) : Nat := subF (pF k n)
/-- The rate of k bits, h hashes, n keys. -/
def rateF (k h n : Nat) : Nat := powF ONE (gF k (h * n)) h
theorem pF_le (k n : Nat) (h : k ≤ 9223372036854775808) (h1 : 1 ≤ k) : pF k n ≤ ONE := (pow_stays n ONE (eF k) (Nat.le_refl _) (eF_ok k h h1).2).1
theorem gF_ok (k n : Nat) (h : k ≤ 9223372036854775808) (h1 : 1 ≤ k) : double.sub ONE (pF k n) = some (gF k n) ∧ gF k n ≤ ONE := by
  have := subF_ok (pF_le k n h h1)
  exact ⟨this.1, this.2.1⟩
theorem rateF_le (k h n : Nat) (hk : k ≤ 9223372036854775808) (h1 : 1 ≤ k) : rateF k h n ≤ ONE := (pow_stays h ONE (gF k (h * n)) (Nat.le_refl _) (gF_ok k (h * n) hk h1).2).1
theorem rateF_anti (k k' h n : Nat) (h1 : 1 ≤ k) (hk : k ≤ k') (h' : k' ≤ 9223372036854775808) : rateF k' h n ≤ rateF k h n := by
  have e := eF_mono k k' h1 hk h'
  have p := pow_mono (h * n) ONE (eF k) ONE (eF k') (Nat.le_refl _) (Nat.le_refl _) e (eF_ok k' h' (by omega)).2
  have g : gF k' (h * n) ≤ gF k (h * n) := subF_anti p (pF_le k' (h * n) h' (by omega))
  exact pow_mono h ONE _ ONE _ (Nat.le_refl _) (Nat.le_refl _) g (gF_ok k (h * n) (by omega) h1).2
end Go.Proofs.Ytbemmhngadpjcaa
