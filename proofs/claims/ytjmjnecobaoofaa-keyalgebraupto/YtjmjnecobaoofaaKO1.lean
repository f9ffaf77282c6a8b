/- A key, and what is asked, opened as arguments. -/
import Derived.Test.YtjmjnecobaoofaaKD5
import Derived.Test.YtjmjnecobaoofaaRows
import Derived.ChangeSame
import Derived.ChangeVars
import Derived.JoinedOf
import Derived.RowKit
import Derived.ProofKit
import Derived.OpenShut
import Derived.Deep.Slices
import Derived.Lib.SmallJoins
namespace Go.Proofs.Ytjmjnecobaoofaa
set_option linter.unusedVariables false
set_option linter.unusedSimpArgs false
open Go.ChangeShapes Go.WideShapes Go.RowKit Go.Deep

theorem cellsU8k : Try.prog.cellsOf 5 = 1 := by kernel_rfl
theorem cellsKey : Try.prog.cellsOf 24 = 32 := by kernel_rfl
theorem cellsSlk : Try.prog.cellsOf 22 = 1 := by kernel_rfl
theorem cellsStrk : Try.prog.cellsOf 9 = 1 := by kernel_rfl
theorem cellsAsk : Try.prog.cellsOf 26 = 66 := by kernel_rfl
theorem open_keyC {H : Type} {enc : TypeId × Value → H} {W : World} {base : Nat} {spare : Nat → Bool} {held : Bool} {fuel : Nat} {cs : List Value} {x : DataW H × List MemPlace}
    (h : DataW.trod enc Try.prog W base spare held fuel 24 cs = some x) : ∃ bs : List UInt8, bs.length = 32 ∧ cs = bs.map u8c := by
  obtain ⟨xs, m, _, _, hl, hxl, hx⟩ := DataW.trod_array Try.underlying24 h
  rw [cellsKey] at hl
  have each : ∀ i, i < 32 → ∃ b : UInt8, cs[i]? = some (u8c b) := by
    intro i hi
    have h1 := hx i hi
    rw [cellsU8k, Nat.mul_one, List.getElem?_eq_getElem (by omega)] at h1
    obtain ⟨n, hn, _, hw⟩ := DataW.trod_int Try.underlying5 h1
    have hb : 0 ≤ n ∧ n ≤ 255 := by simpa [Lit.wf, IntKind.min, IntKind.max, IntKind.signed, IntKind.bits] using hw
    refine ⟨UInt8.ofNat n.toNat, ?_⟩
    rw [List.drop_eq_getElem_cons (show i < cs.length by omega)] at hn
    have h2 : cs[i]'(by omega) = .int .u8 n := (List.cons.inj hn).1
    rw [List.getElem?_eq_getElem (by omega), h2]
    unfold u8c
    rw [UInt8.toNat_ofNat']
    congr 2
    omega
  obtain ⟨f, hf⟩ := choose_lt each
  refine ⟨(List.range 32).map f, by simp, ?_⟩
  apply List.ext_getElem?
  intro i
  rcases Nat.lt_or_ge i 32 with hi | hi
  · rw [hf i hi]; simp [hi]
  · rw [List.getElem?_eq_none (by omega), List.getElem?_eq_none (by simpa using hi)]
theorem cut4 (cs : List Value) (h : cs.length = 66) : cs = (cs.drop 0).take 1 ++ ((cs.drop 1).take 1 ++ ((cs.drop 2).take 32 ++ (cs.drop 34).take 32)) := by
  have e3 : (cs.drop 34).take 32 = cs.drop 34 := List.take_of_length_le (by rw [List.length_drop]; omega)
  have e2 : (cs.drop 2).take 32 ++ cs.drop 34 = cs.drop 2 := by
    conv => rhs; rw [← List.take_append_drop 32 (cs.drop 2)]
    rw [List.drop_drop]
  have e1 : (cs.drop 1).take 1 ++ cs.drop 2 = cs.drop 1 := by
    conv => rhs; rw [← List.take_append_drop 1 (cs.drop 1)]
    rw [List.drop_drop]
  rw [e3, e2, e1, List.drop_zero, List.take_append_drop]
theorem open_ask {H : Type} {enc : TypeId × Value → H} {W : World} {fuel : Nat} {cs : List Value} {x : DataW H × List MemPlace}
    (h : DataW.trod enc Try.prog W 0 (fun _ => true) true fuel 26 cs = some x) :
    ∃ (vb : Value) (t a b : List UInt8) (y0 y1 y2 y3 : DataW H × List MemPlace) (n : Nat), cs = askL vb t a b ∧ a.length = 32 ∧ b.length = 32 ∧ t.length ≤ maxLen ∧ x.1 = .agg [y0.1, y1.1, y2.1, y3.1] ∧ DataW.trod enc Try.prog W 0 (fun _ => true) true n 22 [vb] = some y0 := by
  obtain ⟨y0, y1, y2, y3, n, hx, hlen, f0, f1, f2, f3⟩ := Joins.trod_struct4 Try.underlying26 h
  rw [cellsAsk] at hlen
  simp only [cellsSlk, cellsStrk, cellsKey] at f0 f1 f2 f3
  obtain ⟨a, ha, ea⟩ := open_keyC f2
  obtain ⟨b, hb, eb⟩ := open_keyC f3
  obtain ⟨s, es, _, hs⟩ := DataW.trod_string Try.underlying9 f1
  obtain ⟨vb, evb⟩ : ∃ vb, (cs.drop 0).take 1 = [vb] := by
    rw [List.drop_zero]
    match cs, hlen with
    | c :: r, _ => exact ⟨c, rfl⟩
  refine ⟨vb, s.data.toList, a, b, y0, y1, y2, y3, n, ?_, ha, hb, hs, by rw [hx], by rw [← evb]; exact f0⟩
  have e := cut4 cs hlen
  rw [ea, eb, es, evb] at e
  rw [e]
  rfl
end Go.Proofs.Ytjmjnecobaoofaa
