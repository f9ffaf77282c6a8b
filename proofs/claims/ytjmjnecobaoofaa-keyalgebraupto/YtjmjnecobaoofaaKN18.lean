/- KeyAlgebra, pure: Next along a rising row. -/
import Derived.Test.YtjmjnecobaoofaaKN17
namespace Go.Proofs.Ytjmjnecobaoofaa
set_option linter.unusedVariables false
set_option linter.unusedSimpArgs false
open Go.RowKit Go.Shelf

theorem rising_lt {ks : List (List UInt8)} (hr : Rising ks) {i j : Nat} (hi : i < ks.length) (hj : j < ks.length) (h : i < j) : cmpK ks[i] ks[j] < 0 := List.pairwise_iff_getElem.1 hr i j hi hj h
/-- Next tells the first of those that fit, which are the ones from a place on. -/
theorem least_at {ks : List (List UInt8)} {V : List UInt8 → Prop} (hr : Rising ks) (hv : ∀ x, V x ↔ x ∈ ks) {after k : List UInt8} {any ok : Bool} {j : Nat} (hf : ∀ i (h : i < ks.length), FitsN after any ks[i] ↔ j ≤ i) (h : LeastN V after any k ok) : (∀ hj : j < ks.length, ok = true ∧ k = ks[j]) ∧ (ks.length ≤ j → ok = false) := by
  rcases h with ⟨h1, h2, h3, h4⟩ | ⟨h1, _, h3⟩
  · obtain ⟨i, hi, rfl⟩ := List.getElem_of_mem ((hv k).1 h2)
    have hij := (hf i hi).1 h3
    refine ⟨fun hj => ⟨h1, ?_⟩, fun hj => by omega⟩
    have hc := h4 ks[j] ((hv _).2 (List.getElem_mem _)) ((hf j hj).2 (Nat.le_refl _))
    by_cases e : i = j
    · subst e; rfl
    · have hl := rising_lt hr hj hi (by omega)
      have := cmpK_neg ks[j] ks[i]
      omega
  · exact ⟨fun hj => absurd ((hf j hj).2 (Nat.le_refl _)) (h3 ks[j] ((hv _).2 (List.getElem_mem _))), fun _ => h1⟩
theorem fits_first {ks : List (List UInt8)} (after : List UInt8) : ∀ i (h : i < ks.length), FitsN after true ks[i] ↔ 0 ≤ i := fun i _ => ⟨fun _ => Nat.zero_le _, fun _ => .inl rfl⟩
theorem fits_after {ks : List (List UInt8)} (hr : Rising ks) {j : Nat} (hj : j < ks.length) : ∀ i (h : i < ks.length), FitsN ks[j] false ks[i] ↔ j + 1 ≤ i := fun i hi => by
  unfold FitsN
  constructor
  · rintro (h | h)
    · cases h
    · rcases Nat.lt_or_ge j i with h1 | h1
      · exact h1
      · exfalso
        rcases Nat.lt_or_ge i j with h2 | h2
        · have := rising_lt hr hi hj h2; omega
        · have e : i = j := by omega
          subst e
          rw [cmpK_self] at h
          exact absurd h (by decide)
  · intro h
    have h1 := rising_lt hr hj hi (by omega)
    have := cmpK_neg ks[j] ks[i]
    exact .inr (by omega)
end Go.Proofs.Ytjmjnecobaoofaa
