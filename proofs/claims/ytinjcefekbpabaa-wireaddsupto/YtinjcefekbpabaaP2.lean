/- The document's Dec as a plain machine. -/
import Derived.Test.YtinjcefekbpabaaP1
namespace Go.Proofs.Ytinjcefekbpabaa
set_option linter.unusedVariables false
set_option linter.unusedSimpArgs false
open Go.RowKit

theorem firstGo_len (xs : List UInt8) : ∀ (v i : Nat), (firstGo v i xs).2.2 = 0 → (firstGo v i xs).2.1 ≤ i + xs.length ∧ i < (firstGo v i xs).2.1 := by
  induction xs with
  | nil => intro v i h; simp [firstGo] at h
  | cons c r ih =>
    intro v i h
    rw [firstGo] at h ⊢
    split at h
    · simp at h
    · rename_i h1
      rw [if_neg h1]
      split at h
      · rename_i h2
        rw [if_pos h2]
        split at h
        · simp at h
        · rename_i h3
          rw [if_neg h3]; simp
      · rename_i h2
        rw [if_neg h2]
        have := ih _ _ h
        simp; omega
theorem firstGo_lt (xs : List UInt8) : ∀ (v i : Nat), v < 128 ^ i → i ≤ 9 → (firstGo v i xs).1 < 18446744073709551616 := by
  induction xs with
  | nil => intro v i _ _; simp [firstGo]
  | cons c r ih =>
    intro v i hv hi
    rw [firstGo]
    split
    · simp
    · rename_i h1
      split
      · rename_i h2
        split
        · simp
        · by_cases h9 : i = 9
          · have h3 : c.toNat ≤ 1 := by omega
            subst h9
            have h4 : c.toNat % 128 ≤ 1 := by omega
            have h5 : c.toNat % 128 * 128 ^ 9 ≤ 1 * 128 ^ 9 := Nat.mul_le_mul_right _ h4
            have h6 : (128 : Nat) ^ 9 = 9223372036854775808 := by decide
            simp only []
            omega
          · have h3 := step_lt v c.toNat i hv
            have h4 := pow_le9 (i + 1) (by omega)
            simp only []
            omega
      · rename_i h2
        have h9 : i ≠ 9 := by omega
        exact ih _ _ (step_lt v c.toNat i hv) (by omega)

/-- Where a Dec stands; its fault (code 0: none). -/
structure S where
  p : Nat
  fat : Nat
  code : Nat

def mNum (bs : List UInt8) (s : S) (most : Nat) : Nat × Bool × S :=
  if s.code ≠ 0 then (0, false, s)
  else if (firstGo 0 0 (bs.drop s.p)).2.2 ≠ 0 then (0, false, { s with fat := s.p, code := (firstGo 0 0 (bs.drop s.p)).2.2 })
  else if most < (firstGo 0 0 (bs.drop s.p)).1 then (0, false, { s with fat := s.p, code := 12 })
  else ((firstGo 0 0 (bs.drop s.p)).1, true, { s with p := s.p + (firstGo 0 0 (bs.drop s.p)).2.1 })
def mNext (bs : List UInt8) (s : S) (start k : Nat) : Option (List UInt8) × S :=
  if s.code ≠ 0 then (none, s)
  else if bs.length < s.p + k then (none, { s with fat := start, code := 10 })
  else (some ((bs.drop s.p).take k), { s with p := s.p + k })
def mPlace (s : S) : Nat := if s.code ≠ 0 then s.fat else s.p
def mLeft (bs : List UInt8) (s : S) : Nat := if s.code ≠ 0 then 0 else bs.length - s.p

theorem mNum_le (bs : List UInt8) (s : S) (most : Nat) (h : s.p ≤ bs.length) : (mNum bs s most).2.2.p ≤ bs.length := by
  unfold mNum
  split
  · exact h
  · split
    · exact h
    · rename_i h2
      split
      · exact h
      · have := (firstGo_len (bs.drop s.p) 0 0 (by omega)).1
        rw [List.length_drop] at this
        simp; omega
theorem mNum_ok_le (bs : List UInt8) (s : S) (most : Nat) : (mNum bs s most).1 ≤ most := by
  unfold mNum
  split
  · simp
  · split
    · simp
    · split
      · simp
      · simp; omega
theorem mNext_le (bs : List UInt8) (s : S) (start k : Nat) (h : s.p ≤ bs.length) : (mNext bs s start k).2.p ≤ bs.length := by
  unfold mNext
  split
  · exact h
  · split
    · exact h
    · simp; omega
end Go.Proofs.Ytinjcefekbpabaa
