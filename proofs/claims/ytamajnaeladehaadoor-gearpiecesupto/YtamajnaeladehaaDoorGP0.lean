/- Pieces one behind the other (pure): where the next one begins. -/
import Derived.Test.YtamajnaeladehaaDoorGW7
namespace Go.Proofs.YtamajnaeladehaaDoor
set_option linter.unusedVariables false
set_option linter.unusedSimpArgs false
open Go.RowKit

/-- Where the k-th piece begins. -/
def posK (mn me mx : Int) (xs : List UInt8) : Nat → Nat
  | 0 => 0
  | k + 1 => posK mn me mx xs k + (firstP mn me mx (xs.drop (posK mn me mx xs k))).1
def lenK (mn me mx : Int) (xs : List UInt8) (k : Nat) : Nat := (firstP mn me mx (xs.drop (posK mn me mx xs k))).1
/-- Is there a k-th piece? -/
def okP (mn me mx : Int) (xs : List UInt8) (k : Nat) : Prop := mayB mn me mx = true ∧ posK mn me mx xs k < xs.length
def pcK (mn me mx : Int) (xs : List UInt8) (k : Nat) : List UInt8 := (xs.drop (posK mn me mx xs k)).take (lenK mn me mx xs k)
theorem posK_le {mn me mx : Int} {xs : List UInt8} : ∀ k, (∀ j, j < k → okP mn me mx xs j) → posK mn me mx xs k ≤ xs.length
  | 0, _ => Nat.zero_le _
  | k + 1, h => by
    obtain ⟨hm, hk⟩ := h k (by omega)
    have := (firstP_bounds hm (xs.drop (posK mn me mx xs k)) (by rw [List.length_drop]; omega)).2
    rw [List.length_drop] at this
    rw [posK]
    omega
theorem lenK_pos {mn me mx : Int} {xs : List UInt8} {k : Nat} (h : okP mn me mx xs k) : 1 ≤ lenK mn me mx xs k ∧ posK mn me mx xs k + lenK mn me mx xs k ≤ xs.length := by
  have := firstP_bounds h.1 (xs.drop (posK mn me mx xs k)) (by have := h.2; rw [List.length_drop]; omega)
  rw [List.length_drop] at this
  unfold lenK
  have := h.2
  omega
theorem pcK_len {mn me mx : Int} {xs : List UInt8} {k : Nat} (h : okP mn me mx xs k) : (pcK mn me mx xs k).length = lenK mn me mx xs k := by
  have := lenK_pos h
  unfold pcK
  rw [List.length_take, List.length_drop]
  omega
theorem cut_drop {mn me mx : Int} (hm : mayB mn me mx = true) (xs : List UInt8) : ∀ k, k ≤ (cutL mn me mx xs).length → (cutL mn me mx xs).drop k = cutL mn me mx (xs.drop (posK mn me mx xs k)) ∧ ∀ j, j < k → okP mn me mx xs j
  | 0, _ => ⟨rfl, fun j hj => by omega⟩
  | k + 1, h => by
    obtain ⟨e, hj⟩ := cut_drop hm xs k (by omega)
    have hpos : posK mn me mx xs k < xs.length := by
      refine Nat.lt_of_not_le fun h2 => ?_
      rw [List.drop_of_length_le h2, cutL_nil] at e
      have := congrArg List.length e
      rw [List.length_drop, List.length_nil] at this
      omega
    refine ⟨?_, fun j hj' => ?_⟩
    · have h1 : (cutL mn me mx xs).drop (k + 1) = ((cutL mn me mx xs).drop k).drop 1 := by rw [List.drop_drop]
      rw [h1, e, cutL_cons hm _ (by rw [List.length_drop]; omega), List.drop_one, List.tail_cons, List.drop_drop]
      rfl
    · rcases Nat.lt_or_ge j k with hlt | hge
      · exact hj j hlt
      · obtain rfl : j = k := by omega
        exact ⟨hm, hpos⟩
/-- How many pieces there are, and how long each is. -/
theorem cut_pieces (mn me mx : Int) (xs : List UInt8) : (∀ j, j < (cutR mn me mx xs).length → okP mn me mx xs j) ∧ ¬ okP mn me mx xs (cutR mn me mx xs).length ∧ ∀ j (h : j < (cutR mn me mx xs).length), (cutR mn me mx xs)[j] = (lenK mn me mx xs j : Int) := by
  by_cases hm : mayB mn me mx = true
  · have e : cutR mn me mx xs = cutL mn me mx xs := by unfold cutR; rw [if_pos hm]
    rw [e]
    obtain ⟨h1, h2⟩ := cut_drop hm xs (cutL mn me mx xs).length (Nat.le_refl _)
    refine ⟨h2, fun h3 => ?_, fun j hj => ?_⟩
    · rw [List.drop_length, cutL_cons hm _ (by have := h3.2; rw [List.length_drop]; omega)] at h1
      cases h1
    · obtain ⟨h4, _⟩ := cut_drop hm xs j (by omega)
      have ok := h2 j hj
      rw [List.drop_eq_getElem_cons hj, cutL_cons hm (xs.drop (posK mn me mx xs j)) (by have := ok.2; rw [List.length_drop]; omega)] at h4
      exact (List.cons.inj h4).1
  · have e : cutR mn me mx xs = [] := by unfold cutR; rw [if_neg hm]
    rw [e]
    exact ⟨fun j hj => by simp at hj, fun h => hm h.1, fun j hj => by simp at hj⟩
end Go.Proofs.YtamajnaeladehaaDoor
