/- told: a set's keys as a row of one's own. -/
import Derived.Test.YtnloglecfbhpcaaKN12
namespace Go.Proofs.Ytnloglecfbhpcaa
set_option linter.unusedVariables false
set_option linter.unusedSimpArgs false
open Go.RowKit Go.Shelf
set_option maxRecDepth 100000
attribute [local go_sem] Oper.semAt_some

theorem own_lowerTo {w : World} {B C s n : Nat} {e : TypeId} {v : Value} {ys : List Value} (h : w.ownsRow B e s v n ys) (hc : C ≤ B) : w.ownsRow C e s v n ys := by
  obtain ⟨h0, h1 | ⟨g, cap, cur, rfl, hb, hh, hx⟩⟩ := h
  · exact ⟨h0, .inl h1⟩
  · exact ⟨h0, .inr ⟨g, cap, cur, rfl, by omega, hh, hx⟩⟩
theorem keepsLD_own {w w' : World} {B s n : Nat} {e : TypeId} {v : Value} {ys : List Value} (h : w.ownsRow B e s v n ys) (hg : w.grownBy w' v.ownBlock) : KeepsLD w w' := by
  have hk := own_typeK h
  refine ⟨fun i q e => (hg.block i (Array.getElem?_eq_some_iff.1 e).1 (fun e2 => ?_)).trans e, fun i d e => (hg.block i (Array.getElem?_eq_some_iff.1 e).1 (fun e2 => ?_)).trans e⟩
  · obtain ⟨cs, t, fz, h1, _⟩ := hk i e2.symm
    rw [h1] at e
    cases e
  · obtain ⟨cs, t, fz, h1, _⟩ := hk i e2.symm
    rw [h1] at e
    cases e
theorem own_notBlock {w : World} {B s n g : Nat} {e : TypeId} {v : Value} {ys : List Value} (h : w.ownsRow B e s v n ys) (hg : g < B) : v.ownBlock ≠ some g := fun e => by
  obtain ⟨h0, ⟨h1, h2⟩ | ⟨g', cap, cur, rfl, hb, hh, hx⟩⟩ := h
  · rw [h1] at e; cases e
  · have : g' = g := Option.some.inj e
    omega
end Go.Proofs.Ytnloglecfbhpcaa
