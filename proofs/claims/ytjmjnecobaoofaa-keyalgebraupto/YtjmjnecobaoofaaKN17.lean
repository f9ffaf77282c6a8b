/- KeyAlgebra, pure: how many keys; what Next, Short and Find tell of one another. -/
import Derived.Test.YtjmjnecobaoofaaKN16
namespace Go.Proofs.Ytjmjnecobaoofaa
set_option linter.unusedVariables false
set_option linter.unusedSimpArgs false
open Go.RowKit Go.Shelf
set_option maxRecDepth 100000

theorem same_len {α : Type} {l m : List α} (hl : l.Nodup) (hm : m.Nodup) (h : ∀ x, x ∈ l ↔ x ∈ m) : l.length = m.length :=
  Nat.le_antisymm (List.Nodup.length_le_of_subset hl (fun x hx => (h x).1 hx)) (List.Nodup.length_le_of_subset hm (fun x hx => (h x).2 hx))
theorem filter_both {α : Type} (l : List α) (p : α → Bool) : (l.filter p).length + (l.filter fun x => !p x).length = l.length := by
  induction l with
  | nil => rfl
  | cons a l ih =>
    by_cases h : p a = true
    · simp [List.filter_cons, h]; omega
    · have h' : p a = false := by simpa using h
      simp [List.filter_cons, h']; omega
theorem nodup_filter {α : Type} {l : List α} (p : α → Bool) (h : l.Nodup) : (l.filter p).Nodup := h.sublist List.filter_sublist
/-- How many keys the three sets have. -/
theorem sets_len {A B U V M : List (List UInt8)} (hA : A.Nodup) (hB : B.Nodup) (hU : U.Nodup) (hV : V.Nodup) (hM : M.Nodup) (a32 : ∀ x ∈ A, x.length = 32) (b32 : ∀ x ∈ B, x.length = 32) (u : ∀ x : List UInt8, x ∈ U ↔ (x.length = 32 ∧ (x ∈ A ∨ x ∈ B))) (v : ∀ x : List UInt8, x ∈ V ↔ (x.length = 32 ∧ x ∈ A ∧ x ∈ B)) (m : ∀ x : List UInt8, x ∈ M ↔ (x.length = 32 ∧ x ∈ A ∧ ¬ x ∈ B)) :
    U.length + V.length = A.length + B.length ∧ M.length + V.length = A.length := by
  have h1 := filter_both A (fun x => decide (x ∈ B))
  have h2 := filter_both B (fun x => decide (x ∈ A))
  have e1 : V.length = (A.filter fun x => decide (x ∈ B)).length := same_len hV (nodup_filter _ hA) (fun x => by
    rw [v x, List.mem_filter, decide_eq_true_iff]
    exact ⟨fun h => h.2, fun h => ⟨a32 x h.1, h⟩⟩)
  have e2 : V.length = (B.filter fun x => decide (x ∈ A)).length := same_len hV (nodup_filter _ hB) (fun x => by
    rw [v x, List.mem_filter, decide_eq_true_iff]
    exact ⟨fun h => ⟨h.2.2, h.2.1⟩, fun h => ⟨b32 x h.1, h.2, h.1⟩⟩)
  have e3 : M.length = (A.filter fun x => !decide (x ∈ B)).length := same_len hM (nodup_filter _ hA) (fun x => by
    rw [m x, List.mem_filter]
    simp only [Bool.not_eq_true', decide_eq_false_iff_not]
    exact ⟨fun h => h.2, fun h => ⟨a32 x h.1, h⟩⟩)
  have e4 : U.length = (A ++ B.filter fun x => !decide (x ∈ A)).length := same_len hU (List.nodup_append.2 ⟨hA, nodup_filter _ hB, fun x hx y hy e => by
    have := (List.mem_filter.1 hy).2
    rw [← e] at this
    simp [hx] at this⟩) (fun x => by
    rw [u x, List.mem_append, List.mem_filter]
    simp only [Bool.not_eq_true', decide_eq_false_iff_not]
    constructor
    · rintro ⟨_, h | h⟩
      · exact .inl h
      · by_cases hx : x ∈ A
        · exact .inl hx
        · exact .inr ⟨h, hx⟩
    · rintro (h | h)
      · exact ⟨a32 x h, .inl h⟩
      · exact ⟨b32 x h.1, .inr h.1⟩)
  rw [List.length_append] at e4
  omega
/-- What was told is as long as the set. -/
theorem told_len {S : List (List UInt8)} {xs : List K32} (hS : S.Nodup) (s32 : ∀ x ∈ S, x.length = 32) (hr : Rising (xs.map Subtype.val)) (hm : ∀ x : List UInt8, x ∈ xs.map Subtype.val ↔ (x.length = 32 ∧ x ∈ S)) : xs.length = S.length := by
  have := same_len (rising_nodup hr) hS (fun x => by rw [hm x]; exact ⟨fun h => h.2, fun h => ⟨s32 x h, h⟩⟩)
  simpa using this
theorem addAll_nodup (ks : List (List UInt8)) : (addAll ks).Nodup := by
  have H : ∀ (ks S : List (List UInt8)), S.Nodup → (ks.foldl (fun S k => addK k S) S).Nodup := by
    intro ks
    induction ks with
    | nil => exact fun S h => h
    | cons k ks ih => exact fun S h => ih _ (addK_nodup k S h)
  exact H ks [] List.nodup_nil
theorem mem_addAll (ks : List (List UInt8)) (x : List UInt8) : x ∈ addAll ks ↔ x ∈ ks := by
  have H : ∀ (ks S : List (List UInt8)), x ∈ ks.foldl (fun S k => addK k S) S ↔ x ∈ ks ∨ x ∈ S := by
    intro ks
    induction ks with
    | nil => simp
    | cons k ks ih => exact fun S => by rw [List.foldl_cons, ih, mem_addK, List.mem_cons]; simp only [or_assoc, or_left_comm]
  unfold addAll
  rw [H]; simp
theorem begK_take {k : List UInt8} {m : Nat} (hk : k.length = 32) (hm : m ≤ 64) (x : List UInt8) : begK x ((hexOf k).take m) = true ↔ (hexOf x).take m = (hexOf k).take m := by
  have hl : ((hexOf k).take m).length = m := by rw [List.length_take, hexOf_len]; omega
  unfold begK
  rw [hl]
  exact beq_iff_eq
theorem allDig_take {k : List UInt8} (m : Nat) (h : allDig (hexOf k) = true) : allDig ((hexOf k).take m) = true := by
  unfold allDig at *
  rw [List.all_eq_true] at *
  exact fun x hx => h x (List.mem_of_mem_take hx)
/-- What Short tells Find finds; and with a digit less it doesn't. -/
theorem find_short {S : List (List UInt8)} {k k' : List UInt8} {m : Nat} {e : Int} (hk : k.length = 32) (hin : k ∈ S) (hm : m ≤ 64) (hd : ∀ x ∈ S, x.length = 32 → x ≠ k → (hexOf x).take m ≠ (hexOf k).take m) (h : (e = 0 ∧ ∀ x ∈ S, x.length = 32 → begK x ((hexOf k).take m) = true → x = k') ∨ (e = 32 ∧ ∃ x ∈ S, ∃ y ∈ S, x.length = 32 ∧ y.length = 32 ∧ x ≠ y ∧ begK x ((hexOf k).take m) = true ∧ begK y ((hexOf k).take m) = true)) : e = 0 ∧ k' = k := by
  have one : ∀ x ∈ S, x.length = 32 → begK x ((hexOf k).take m) = true → x = k := fun x hx hl hb => by
    by_cases e : x = k
    · exact e
    · exact absurd ((begK_take hk hm x).1 hb) (hd x hx hl e)
  rcases h with ⟨h1, h2⟩ | ⟨h1, x, hx, y, hy, lx, ly, hne, bx, bY⟩
  · exact ⟨h1, (h2 k hin hk ((begK_take hk hm k).2 rfl)).symm⟩
  · exact absurd ((one x hx lx bx).trans (one y hy ly bY).symm) hne
theorem find_less {S : List (List UInt8)} {k k' : List UInt8} {m : Nat} {e : Int} (hk : k.length = 32) (hin : k ∈ S) (hm : m ≤ 64) (ho : ∃ x ∈ S, x.length = 32 ∧ x ≠ k ∧ (hexOf x).take m = (hexOf k).take m) (h : (e = 0 ∧ ∀ x ∈ S, x.length = 32 → begK x ((hexOf k).take m) = true → x = k') ∨ (e = 32 ∧ ∃ x ∈ S, ∃ y ∈ S, x.length = 32 ∧ y.length = 32 ∧ x ≠ y ∧ begK x ((hexOf k).take m) = true ∧ begK y ((hexOf k).take m) = true)) : e = 32 := by
  obtain ⟨x, h1, h2, h3, h4⟩ := ho
  rcases h with ⟨_, h6⟩ | ⟨h5, _⟩
  · exact absurd ((h6 x h1 h2 ((begK_take hk hm x).2 h4)).trans (h6 k hin hk ((begK_take hk hm k).2 rfl)).symm) h3
  · exact h5
end Go.Proofs.Ytjmjnecobaoofaa
