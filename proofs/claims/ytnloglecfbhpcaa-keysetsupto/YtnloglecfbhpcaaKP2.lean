/- The order of keys, pure: it goes on, it has a least. -/
import Derived.Test.YtnloglecfbhpcaaKP1
namespace Go.Proofs.Ytnloglecfbhpcaa
set_option linter.unusedVariables false
set_option linter.unusedSimpArgs false
open Go.RowKit

theorem cmpK_nil_cons (b : UInt8) (bs : List UInt8) : cmpK [] (b :: bs) = -1 := rfl
theorem cmpK_cons_nil (a : UInt8) (as : List UInt8) : cmpK (a :: as) [] = 1 := rfl
theorem cmpK_le_trans : ∀ a b c : List UInt8, cmpK a b ≤ 0 → cmpK b c ≤ 0 → cmpK a c ≤ 0
  | [], _, [], _, _ => by rw [cmpK_nil]; decide
  | [], _, c :: cs, _, _ => by rw [cmpK_nil_cons]; decide
  | a :: as, [], _, h, _ => by rw [cmpK_cons_nil] at h; exact absurd h (by decide)
  | a :: as, b :: bs, [], _, h => by rw [cmpK_cons_nil] at h; exact absurd h (by decide)
  | a :: as, b :: bs, c :: cs, h1, h2 => by
    rw [cmpK_cons] at h1 h2 ⊢
    have ih := cmpK_le_trans as bs cs
    split at h1
    · rename_i ab
      split at h2
      · rename_i bc
        rw [if_pos (UInt8.lt_trans ab bc)]; decide
      · rename_i bc
        split at h2
        · exact absurd h2 (by decide)
        · rename_i cb
          have e : b = c := by
            apply UInt8.toNat_inj.1
            rw [UInt8.lt_iff_toNat_lt] at bc cb
            omega
          rw [← e, if_pos ab]; decide
    · rename_i ab
      split at h1
      · exact absurd h1 (by decide)
      · rename_i ba
        have e : a = b := by
          apply UInt8.toNat_inj.1
          rw [UInt8.lt_iff_toNat_lt] at ab ba
          omega
        subst e
        split at h2
        · rename_i bc
          rw [if_pos bc]; decide
        · rename_i bc
          split at h2
          · exact absurd h2 (by decide)
          · rename_i cb
            rw [if_neg bc, if_neg cb]
            exact ih h1 h2
theorem cmpK_lt_le {a b c : List UInt8} (h1 : cmpK a b < 0) (h2 : cmpK b c ≤ 0) : cmpK a c < 0 := by
  have h := cmpK_le_trans a b c (by omega) h2
  rcases cmpK_range a c with e | e | e
  · omega
  · exfalso
    have := cmpK_zero a c e
    subst this
    have := cmpK_neg a b
    omega
  · omega
theorem cmpK_le_lt {a b c : List UInt8} (h1 : cmpK a b ≤ 0) (h2 : cmpK b c < 0) : cmpK a c < 0 := by
  have h := cmpK_le_trans a b c h1 (by omega)
  rcases cmpK_range a c with e | e | e
  · omega
  · exfalso
    have := cmpK_zero a c e
    subst this
    have := cmpK_neg a b
    omega
  · omega
/-- What Next answers: the least one that fits. -/
def FitsN (after : List UInt8) (any : Bool) (x : List UInt8) : Prop := any = true ∨ 0 < cmpK x after
def LeastN (V : List UInt8 → Prop) (after : List UInt8) (any : Bool) (k : List UInt8) (ok : Bool) : Prop :=
  (ok = true ∧ V k ∧ FitsN after any k ∧ ∀ x, V x → FitsN after any x → cmpK k x ≤ 0) ∨ (ok = false ∧ k = List.replicate 32 0 ∧ ∀ x, V x → ¬ FitsN after any x)
theorem LeastN.skip {V V' : List UInt8 → Prop} {after k x : List UInt8} {any ok : Bool} (h : LeastN V after any k ok) (hv : ∀ y, V' y ↔ V y ∨ y = x) (hx : ¬ FitsN after any x) : LeastN V' after any k ok := by
  rcases h with ⟨h1, h2, h3, h4⟩ | ⟨h1, h2, h3⟩
  · refine .inl ⟨h1, (hv k).2 (.inl h2), h3, fun y hy hf => ?_⟩
    rcases (hv y).1 hy with e | e
    · exact h4 y e hf
    · subst e; exact absurd hf hx
  · refine .inr ⟨h1, h2, fun y hy => ?_⟩
    rcases (hv y).1 hy with e | e
    · exact h3 y e
    · subst e; exact hx
theorem LeastN.keep {V V' : List UInt8 → Prop} {after k x : List UInt8} {any : Bool} (h : LeastN V after any k true) (hv : ∀ y, V' y ↔ V y ∨ y = x) (hc : ¬ cmpK x k < 0) : LeastN V' after any k true := by
  rcases h with ⟨h1, h2, h3, h4⟩ | ⟨h1, _⟩
  · refine .inl ⟨h1, (hv k).2 (.inl h2), h3, fun y hy hf => ?_⟩
    rcases (hv y).1 hy with e | e
    · exact h4 y e hf
    · subst e
      have := cmpK_neg k y
      omega
  · cases h1
theorem LeastN.take {V V' : List UInt8 → Prop} {after k x : List UInt8} {any ok : Bool} (h : LeastN V after any k ok) (hv : ∀ y, V' y ↔ V y ∨ y = x) (hx : FitsN after any x) (hc : ok = false ∨ cmpK x k < 0) : LeastN V' after any x true := by
  refine .inl ⟨rfl, (hv x).2 (.inr rfl), hx, fun y hy hf => ?_⟩
  rcases (hv y).1 hy with e | e
  · rcases h with ⟨h1, h2, h3, h4⟩ | ⟨_, _, h3⟩
    · rcases hc with hc | hc
      · rw [h1] at hc; cases hc
      · exact cmpK_le_trans x k y (by omega) (h4 y e hf)
    · exact absurd hf (h3 y e)
  · subst e
    rw [cmpK_self]
    decide
theorem LeastN.begin {V : List UInt8 → Prop} (after : List UInt8) (any : Bool) (hv : ∀ y, ¬ V y) : LeastN V after any (List.replicate 32 0) false := .inr ⟨rfl, rfl, fun y hy => absurd hy (hv y)⟩
end Go.Proofs.Ytnloglecfbhpcaa
