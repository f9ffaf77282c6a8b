/- A way of cutting, opened as an argument. -/
import Derived.Test.YtamajnaeladehaaGE1
import Derived.Test.YtamajnaeladehaaRows
import Derived.ChangeSame
import Derived.ChangeVars
import Derived.JoinedOf
import Derived.RowKit
import Derived.ProofKit
import Derived.OpenShut
import Derived.Deep.Slices
import Derived.Lib.SmallJoins
namespace Go.Proofs.Ytamajnaeladehaa
set_option linter.unusedVariables false
set_option linter.unusedSimpArgs false
open Go.ChangeShapes Go.WideShapes Go.RowKit Go.Deep

theorem cellsInt : Try.prog.cellsOf 3 = 1 := by kernel_rfl
theorem cellsCut : Try.prog.cellsOf 23 = 3 := by kernel_rfl
theorem open_intC {H : Type} {enc : TypeId × Value → H} {W : World} {base : Nat} {spare : Nat → Bool} {held : Bool} {fuel : Nat} {cs : List Value} {x : DataW H × List MemPlace}
    (h : DataW.trod enc Try.prog W base spare held fuel 3 cs = some x) : ∃ n : Int, cs = [.int .i64 n] ∧ I64 n := by
  obtain ⟨n, hn, _, hw⟩ := DataW.trod_int Try.underlying3 h
  exact ⟨n, hn, by simpa [I64, Lit.wf, IntKind.min, IntKind.max, IntKind.signed, IntKind.bits] using hw⟩
theorem open_cut {H : Type} {enc : TypeId × Value → H} {W : World} {base : Nat} {spare : Nat → Bool} {held : Bool} {fuel : Nat} {cs : List Value} {x : DataW H × List MemPlace}
    (h : DataW.trod enc Try.prog W base spare held fuel 23 cs = some x) : ∃ mn me mx : Int, cs = [.int .i64 mn, .int .i64 me, .int .i64 mx] ∧ I64 mn ∧ I64 me ∧ I64 mx := by
  obtain ⟨xs, n, _, rfl, hl, hlen, hf⟩ := DataW.trod_struct Try.underlying23 h
  rw [cellsCut] at hl
  match cs, hl with
  | [a, b, c], _ =>
    match xs, hlen with
    | [y0, y1, y2], _ =>
      have g0 : DataW.trod enc Try.prog W base spare held n 3 (([a, b, c].drop 0).take (Try.prog.cellsOf 3)) = some y0 := hf 0 _ rfl
      have g1 : DataW.trod enc Try.prog W base spare held n 3 (([a, b, c].drop 1).take (Try.prog.cellsOf 3)) = some y1 := hf 1 _ rfl
      have g2 : DataW.trod enc Try.prog W base spare held n 3 (([a, b, c].drop 2).take (Try.prog.cellsOf 3)) = some y2 := hf 2 _ rfl
      rw [cellsInt] at g0 g1 g2
      obtain ⟨mn, e0, h0⟩ := open_intC g0
      obtain ⟨me, e1, h1⟩ := open_intC g1
      obtain ⟨mx, e2, h2⟩ := open_intC g2
      have e0' : a = .int .i64 mn := (List.cons.inj e0).1
      have e1' : b = .int .i64 me := (List.cons.inj e1).1
      have e2' : c = .int .i64 mx := (List.cons.inj e2).1
      exact ⟨mn, me, mx, by rw [e0', e1', e2'], h0, h1, h2⟩
end Go.Proofs.Ytamajnaeladehaa
