/- The alarm of a filter that is not empty. -/
import Derived.Test.YtbemmhngadpjcaaFJ8
namespace Go.Proofs.Ytbemmhngadpjcaa
set_option linter.unusedVariables false
set_option linter.unusedSimpArgs false
open Go.RowKit Go.Sort Ieee

/-- pow, with a bound on how often it halves. -/
def powN : Nat → Nat → Nat → Nat → Nat
  | 0, z, _, _ => z
  | m + 1, z, b, n => if n = 0 then z else powN m (if n % 2 = 1 then mulF z b else z) (mulF b b) (n / 2)
theorem powF_N : ∀ m z b n, n < 2 ^ m → powF z b n = powN m z b n
  | 0, z, b, n, h => by
    obtain rfl : n = 0 := by rw [Nat.pow_zero] at h; omega
    rw [powF_zero, powN]
  | m + 1, z, b, n, h => by
    rw [powN]
    by_cases h0 : n = 0
    · rw [h0, powF_zero, if_pos rfl]
    · rw [if_neg h0, powF_succ z b n (by omega), powF_N m _ _ _ (by rw [Nat.pow_succ] at h; omega)]
theorem least_pos : ∀ h < 17, 0 < powN 5 ONE (fillF 1 1048576) h := by decide +kernel
theorem alarm_pos (o k h : Nat) (hk : 1 ≤ k) (hkb : k ≤ 1048576) (ho : 1 ≤ o) (hok : o ≤ k) (hh : 1 ≤ h) (hhb : h ≤ 16) : 0 < powF ONE (fillF o k) h ∧ powF ONE (fillF o k) h ≤ fillF o k ∧ fillF o k ≤ ONE := by
  have h1 := (fill_ok o k hk (by omega) hok).2
  have h2 := fill_ge o k hk hkb ho (by omega)
  have h3 := pow_mono h ONE (fillF 1 1048576) ONE (fillF o k) (Nat.le_refl _) (Nat.le_refl _) h2 h1
  have h4 := least_pos h (by omega)
  rw [← powF_N 5 ONE _ h (by omega)] at h4
  exact ⟨by omega, (pow_stays h ONE (fillF o k) (Nat.le_refl _) h1).2 (by omega), h1⟩
end Go.Proofs.Ytbemmhngadpjcaa
