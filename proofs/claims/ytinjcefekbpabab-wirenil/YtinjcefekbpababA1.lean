/- The arguments opened: a slice of adds, a slice of takes. -/
import Derived.Test.YtinjcefekbpababN4
import Derived.ProofKit
import Derived.OpenShut
import Derived.ChangeOld
import Derived.SizedLaws
import Derived.Deep.Slices
import Derived.Deep.Strs
namespace Go.Proofs.Ytinjcefekbpabab
set_option linter.unusedVariables false
set_option linter.unusedSimpArgs false
open Go.ChangeShapes Go.WideShapes Go.ChangeAt Go.RowKit Go.Deep

theorem own : ownKnob Try.prog.godebug = none := by kernel_rfl
theorem laidOut : laidOutB Try.prog = true := by kernel_rfl
theorem cellsTake : Try.prog.cellsOf 61 = 3 := by kernel_rfl
theorem cellsU8 : Try.prog.cellsOf 5 = 1 := by kernel_rfl
theorem cellsInt : Try.prog.cellsOf 3 = 1 := by kernel_rfl
theorem cellsU64 : Try.prog.cellsOf 31 = 1 := by kernel_rfl
theorem bytesU8 : Try.prog.bytesOf 5 = 1 := by kernel_rfl

theorem spot_none {w : World} {x : Addr} {v : Value} (h : w.cell? (x.add 0) = some v) : ∃ b o, x = ⟨b, o, none⟩ := by
  obtain ⟨b, o, spot⟩ := x
  have hs : spot = none := by simpa [Addr.add] using World.cell?_spot h
  exact ⟨b, o, by rw [hs]⟩

set_option maxRecDepth 20000 in
theorem open_takes {H : Type} {enc : TypeId × Value → H} {W : World} {v : Value} {d : DataW H} {p : List MemPlace} {a : Option Addr} {len cap : Nat} (hv : v = .slice a len cap)
    (h : DataW.Trod enc Try.prog W 0 (fun _ => true) true 48 v d p) : TakesAt W a len := by
  subst hv
  obtain ⟨fuel, hf⟩ := h
  rcases open_slice Try.underlying48 hf with ⟨hcs, _⟩ | ⟨x, l, c, m, n, D, Pl, hcs, _, hl, hm, hmm, _, hel⟩
  · simp [Value.cells] at hcs
    obtain ⟨rfl, rfl, rfl⟩ := hcs
    exact ⟨Nat.zero_le _, .inl rfl⟩
  · simp [Value.cells] at hcs
    obtain ⟨rfl, rfl, rfl⟩ := hcs
    refine ⟨by omega, ?_⟩
    rcases Nat.eq_zero_or_pos len with h0 | hpos
    · exact .inl h0
    · right
      have hmc : m = cap := by simpa using hmm
      rw [cellsTake] at hel
      have key : ∀ i, i < len → ∃ c0 c1 c2 : Value, W.cell? (x.add (i * 3)) = some c0 ∧ W.cell? (x.add (i * 3 + 1)) = some c1 ∧ W.cell? (x.add (i * 3 + 2)) = some c2 ∧
          ∃ (kd mo nn : Int), c0 = .int .i64 kd ∧ c1 = .int .u64 mo ∧ c2 = .int .i64 nn ∧ (Lit.int .i64 kd).wf = true ∧ (Lit.int .u64 mo).wf = true ∧ (Lit.int .i64 nn).wf = true := by
        intro i hi
        obtain ⟨cs', h1, h2⟩ := hel i (by omega)
        obtain ⟨_, hlen, hc⟩ := World.cells?_some h1
        obtain ⟨y0, y1, y2, k, _, _, t0, t1, t2⟩ := trod_struct3 Try.underlying61 h2
        match cs', hlen with
        | [c0, c1, c2], _ =>
          have e0 := hc 0 (by omega)
          have e1 := hc 1 (by omega)
          have e2 := hc 2 (by omega)
          rw [add_add] at e0 e1 e2
          simp [cellsInt, cellsU64] at t0 t1 t2
          obtain ⟨kd, f0, _, w0⟩ := DataW.trod_int Try.underlying3 t0
          obtain ⟨mo, f1, _, w1⟩ := DataW.trod_int Try.underlying31 t1
          obtain ⟨nn, f2, _, w2⟩ := DataW.trod_int Try.underlying3 t2
          simp at f0 f1 f2
          exact ⟨c0, c1, c2, by simpa using e0, by simpa using e1, by simpa using e2, kd, mo, nn, f0, f1, f2, w0, w1, w2⟩
      obtain ⟨c0, _, _, hc0, _⟩ := key 0 hpos
      obtain ⟨b, o, rfl⟩ := spot_none (by simpa using hc0)
      refine ⟨b, o, rfl, ?_, fun i hi => ?_⟩
      · rw [Addr.add_mid] at hc0
        exact World.block_lt_of_cell? W _ hc0
      · obtain ⟨c0, c1, c2, e0, e1, e2, kd, mo, nn, rfl, rfl, rfl, w0, w1, w2⟩ := key i hi
        rw [Addr.add_mid] at e0 e1 e2
        have b0 : -9223372036854775808 ≤ kd ∧ kd ≤ 9223372036854775807 := by simpa [Lit.wf, IntKind.min, IntKind.max, IntKind.signed, IntKind.bits] using w0
        have b1 : 0 ≤ mo ∧ mo ≤ 18446744073709551615 := by simpa [Lit.wf, IntKind.min, IntKind.max, IntKind.signed, IntKind.bits] using w1
        have b2 : -9223372036854775808 ≤ nn ∧ nn ≤ 9223372036854775807 := by simpa [Lit.wf, IntKind.min, IntKind.max, IntKind.signed, IntKind.bits] using w2
        obtain ⟨mq, rfl⟩ := Int.eq_ofNat_of_zero_le b1.1
        exact ⟨kd, mq, nn, b0.1, b0.2, by omega, b2.1, b2.2, e0, e1, e2⟩

theorem cellsAdd : Try.prog.cellsOf 54 = 36 := by kernel_rfl
theorem cellsStr : Try.prog.cellsOf 9 = 1 := by kernel_rfl
theorem cellsSl : Try.prog.cellsOf 22 = 1 := by kernel_rfl
theorem one_of {cs : List Value} {k : Nat} {v : Value} (h : (cs.drop k).take 1 = [v]) : cs[k]? = some v := by
  have h0 : ((cs.drop k).take 1)[0]? = some v := by rw [h]; rfl
  simpa using h0
set_option maxRecDepth 20000 in
theorem open_adds {H : Type} {enc : TypeId × Value → H} {W : World} {v : Value} {d : DataW H} {p : List MemPlace} {a : Option Addr} {len cap : Nat} (hv : v = .slice a len cap)
    (h : DataW.Trod enc Try.prog W 0 (fun _ => true) true 47 v d p) : AddsAt W a len := by
  subst hv
  obtain ⟨fuel, hf⟩ := h
  rcases open_slice Try.underlying47 hf with ⟨hcs, _⟩ | ⟨x, l, c, m, n, D, Pl, hcs, _, hl, hm, hmm, _, hel⟩
  · simp [Value.cells] at hcs
    obtain ⟨rfl, rfl, rfl⟩ := hcs
    exact ⟨Nat.zero_le _, .inl rfl⟩
  · simp [Value.cells] at hcs
    obtain ⟨rfl, rfl, rfl⟩ := hcs
    refine ⟨by omega, ?_⟩
    rcases Nat.eq_zero_or_pos len with h0 | hpos
    · exact .inl h0
    · right
      have hmc : m = cap := by simpa using hmm
      rw [cellsAdd] at hel
      have key : ∀ i, i < len → ∃ cs' : List Value, cs'.length = 36 ∧ (∀ j, j < 36 → W.cell? (x.add (i * 36 + j)) = cs'[j]?) ∧
          ∃ kind N s sa ln cp, AddCells cs'.toArray kind N s sa ln cp := by
        intro i hi
        obtain ⟨cs', h1, h2⟩ := hel i (by omega)
        obtain ⟨_, hlen, hc⟩ := World.cells?_some h1
        obtain ⟨ys, k, _, _, _, hyl, hfl⟩ := DataW.trod_struct Try.underlying54 h2
        have t0 : DataW.trod enc Try.prog W 0 (fun _ => true) true k 3 ((cs'.drop 0).take (Try.prog.cellsOf 3)) = ys[0]? := hfl 0 _ rfl
        rw [cellsInt, List.getElem?_eq_getElem (by rw [hyl]; decide)] at t0
        have t1 : DataW.trod enc Try.prog W 0 (fun _ => true) true k 31 ((cs'.drop 1).take (Try.prog.cellsOf 31)) = ys[1]? := hfl 1 _ rfl
        rw [cellsU64, List.getElem?_eq_getElem (by rw [hyl]; decide)] at t1
        have t2 : DataW.trod enc Try.prog W 0 (fun _ => true) true k 9 ((cs'.drop 2).take (Try.prog.cellsOf 9)) = ys[2]? := hfl 2 _ rfl
        rw [cellsStr, List.getElem?_eq_getElem (by rw [hyl]; decide)] at t2
        have t3 : DataW.trod enc Try.prog W 0 (fun _ => true) true k 22 ((cs'.drop 3).take (Try.prog.cellsOf 22)) = ys[3]? := hfl 3 _ rfl
        rw [cellsSl, List.getElem?_eq_getElem (by rw [hyl]; decide)] at t3
        refine ⟨cs', hlen, fun j hj => by have := hc j hj; rwa [add_add] at this, ?_⟩
        obtain ⟨kd, f0, _, w0⟩ := DataW.trod_int Try.underlying3 t0
        obtain ⟨mo, f1, _, w1⟩ := DataW.trod_int Try.underlying31 t1
        obtain ⟨s, f2, _, w2⟩ := DataW.trod_string Try.underlying9 t2
        have w3 : ∃ sa ln cp, (cs'.drop 3).take 1 = [.slice sa ln cp] ∧ ln ≤ maxLen := by
          rcases open_slice Try.underlying22 t3 with ⟨h, _⟩ | ⟨x, l, c, m, n, D, Pl, h, _, hl, hm, _⟩
          · exact ⟨_, _, _, h, Nat.zero_le _⟩
          · exact ⟨_, _, _, h, by omega⟩
        obtain ⟨sa, ln, cp, f3, w3⟩ := w3
        have b1 : 0 ≤ mo ∧ mo ≤ 18446744073709551615 := by simpa [Lit.wf, IntKind.min, IntKind.max, IntKind.signed, IntKind.bits] using w1
        obtain ⟨mq, rfl⟩ := Int.eq_ofNat_of_zero_le b1.1
        have ml : maxLen ≤ 9223372036854775807 := by decide
        exact ⟨kd, mq, s, sa, ln, cp, by simpa using hlen, by simpa using one_of f0, by simpa using one_of f1, by simpa using one_of f2, by simpa using one_of f3, by omega, by omega, by omega⟩
      obtain ⟨cs0, hl0, hc0, _⟩ := key 0 hpos
      have hc00 := hc0 0 (by omega)
      rw [List.getElem?_eq_getElem (by omega)] at hc00
      obtain ⟨b, o, rfl⟩ := spot_none (by simpa using hc00)
      refine ⟨b, o, rfl, ?_, fun i hi => ?_⟩
      · rw [Addr.add_mid] at hc00
        exact World.block_lt_of_cell? W _ hc00
      · obtain ⟨cs', hl', hc', kd, mo, s, sa, ln, cp, hA⟩ := key i hi
        refine ⟨cs'.toArray, kd, mo, s, sa, ln, cp, hA, fun j v hj => ?_⟩
        have hj' : cs'[j]? = some v := by simpa using hj
        have hlt : j < cs'.length := by
          rcases List.getElem?_eq_some_iff.mp hj' with ⟨h, _⟩; exact h
        have := hc' j (by omega)
        rw [Addr.add_mid, hj', ← Nat.add_assoc] at this
        exact this
end Go.Proofs.Ytinjcefekbpabab
