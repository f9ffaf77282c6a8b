/- Rows of elements of one cell each that came in, opened. -/
import Derived.Test.YtbemmhngadpjcaaBO1
import Derived.SizedLaws
import Derived.Deep.Slices
import Derived.Deep.MidRow
namespace Go.Proofs.Ytbemmhngadpjcaa
set_option linter.unusedVariables false
set_option linter.unusedSimpArgs false
open Go.ChangeShapes Go.WideShapes Go.RowKit Go.Deep

theorem own : ownKnob Try.prog.godebug = none := by kernel_rfl
theorem laidOut : laidOutB Try.prog = true := by kernel_rfl
theorem spot_none {w : World} {x : Addr} {v : Value} (h : w.cell? (x.add 0) = some v) : ∃ b o, x = ⟨b, o, none⟩ := by
  obtain ⟨b, o, spot⟩ := x
  have hs : spot = none := by simpa [Addr.add] using World.cell?_spot h
  exact ⟨b, o, by rw [hs]⟩
theorem open_row1 {α : Type} [Inhabited α] {H : Type} {enc : TypeId × Value → H} {W : World} {fuel : Nat} {ts te : TypeId} (hu : Try.prog.underlying ts = some (.slice te)) (hk : Try.prog.cellsOf te = 1) (C : α → Value) (ok : α → Prop)
    (hopen : ∀ (fuel : Nat) (v : Value) (x : DataW H × List MemPlace), DataW.trod enc Try.prog W 0 (fun _ => true) true fuel te [v] = some x → ∃ r, ok r ∧ v = C r) {cs : List Value} {d : DataW H} {p : List MemPlace}
    (h : DataW.trod enc Try.prog W 0 (fun _ => true) true fuel ts cs = some (d, p)) : ∃ (ao : Option Addr) (c : Nat) (L : List α), cs = [.slice ao L.length c] ∧ (∀ r ∈ L, ok r) ∧ L.length ≤ 9223372036854775807 ∧ (0 < L.length → ∃ b o, ao = some ⟨b, o, none⟩ ∧ ∀ k (h : k < L.length), W.cell? ⟨b, o + k, none⟩ = some (C L[k])) ∧ (L.length = 0 ∨ ∃ elems spare, d = .slice elems spare ∧ L.length = elems.length) := by
  rcases open_slice1 hu hk h with ⟨hcs, hx⟩ | ⟨a, len, cap, m, n, V, D, Pl, hcs, hb, hl, hm, hmm, hx, hV⟩
  · exact ⟨none, 0, [], hcs, by simp, by simp, by simp, .inl rfl⟩
  · simp only [if_true] at hmm
    have each : ∀ i, i < len → ∃ r : α, ok r ∧ V i = C r := fun i hi => hopen _ _ _ (hV i (by omega)).2
    obtain ⟨R, hR⟩ := choose_lt each
    refine ⟨some a, cap, (List.range len).map R, by rw [hcs]; simp, ?_, by simp; unfold maxLen at hm; omega, fun h0 => ?_, .inr ⟨_, _, (Prod.mk.inj hx).1, by simp⟩⟩
    · intro r hr
      obtain ⟨i, hi, rfl⟩ := List.mem_map.1 hr
      exact (hR i (List.mem_range.1 hi)).1
    · have h0' : 0 < len := by simpa using h0
      obtain ⟨b, o, rfl⟩ := spot_none (hV 0 (by omega)).1
      refine ⟨b, o, rfl, fun k hk => ?_⟩
      have hk' : k < len := by simpa using hk
      have := (hV k (by omega)).1
      rw [Addr.add_mid] at this
      rw [this, (hR k hk').2]
      simp
end Go.Proofs.Ytbemmhngadpjcaa
