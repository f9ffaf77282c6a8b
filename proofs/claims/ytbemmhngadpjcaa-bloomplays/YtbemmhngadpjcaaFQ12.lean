/- BloomPlays: of any script that came in (two filters' bits and hashes, and any steps) the law answers true, and the script is as it was. No condition: for every input. -/
import Derived.Test.YtbemmhngadpjcaaFQ11
import Derived.Test.YtbemmhngadpjcaaBOm
import Derived.Test.YtbemmhngadpjcaaRows
namespace Go.Proofs.Ytbemmhngadpjcaa
set_option linter.unusedVariables false
set_option linter.unusedSimpArgs false
open Go.ChangeShapes Go.WideShapes Go.ChangeAt Go.RowKit Go.Deep

theorem cellsInt : Try.prog.cellsOf 3 = 1 := by kernel_rfl
theorem cellsA2 : Try.prog.cellsOf 22 = 2 := by kernel_rfl
theorem cellsStep : Try.prog.cellsOf 38 = 36 := by kernel_rfl
theorem cellsSteps : Try.prog.cellsOf 23 = 1 := by kernel_rfl
theorem cellsScript : Try.prog.cellsOf 25 = 5 := by kernel_rfl
theorem open_intC {H : Type} {enc : TypeId × Value → H} {W : World} {base : Nat} {spare : Nat → Bool} {held : Bool} {fuel : Nat} {cs : List Value} {x : DataW H × List MemPlace}
    (h : DataW.trod enc Try.prog W base spare held fuel 3 cs = some x) : ∃ n : Int, cs = [.int .i64 n] := by
  obtain ⟨n, hn, _, hw⟩ := DataW.trod_int Try.underlying3 h
  exact ⟨n, hn⟩
theorem two_of {cs : List Value} (h : cs.length = 2) : ∃ a b, cs = [a, b] := by
  match cs, h with
  | [a, b], _ => exact ⟨a, b, rfl⟩
theorem open_arr2 {H : Type} {enc : TypeId × Value → H} {W : World} {base : Nat} {spare : Nat → Bool} {held : Bool} {fuel : Nat} {cs : List Value} {x : DataW H × List MemPlace}
    (h : DataW.trod enc Try.prog W base spare held fuel 22 cs = some x) : ∃ a b : Int, cs = [.int .i64 a, .int .i64 b] := by
  obtain ⟨xs, m, _, _, hl, hxl, hx⟩ := DataW.trod_array Try.underlying22 h
  rw [cellsA2] at hl
  have each : ∀ i, i < 2 → ∃ n : Int, cs[i]? = some (.int .i64 n) := by
    intro i hi
    have h1 := hx i hi
    rw [cellsInt, Nat.mul_one, List.getElem?_eq_getElem (by omega)] at h1
    obtain ⟨n, hn⟩ := open_intC h1
    rw [List.drop_eq_getElem_cons (show i < cs.length by omega)] at hn
    have h2 : cs[i]'(by omega) = .int .i64 n := (List.cons.inj hn).1
    exact ⟨n, by rw [List.getElem?_eq_getElem (by omega), h2]⟩
  obtain ⟨a, ha⟩ := each 0 (by omega)
  obtain ⟨b, hb⟩ := each 1 (by omega)
  obtain ⟨u, v, rfl⟩ := two_of hl
  cases ha
  cases hb
  exact ⟨a, b, rfl⟩
theorem open_stepC {H : Type} {enc : TypeId × Value → H} {W : World} {base : Nat} {spare : Nat → Bool} {held : Bool} {fuel : Nat} {cs : List Value} {x : DataW H × List MemPlace}
    (h : DataW.trod enc Try.prog W base spare held fuel 38 cs = some x) : cs.length = 36 ∧ ∃ K F B H kb, StepAt cs.toArray K F B H kb := by
  obtain ⟨ys, n, _, _, hl, hlen, hf⟩ := DataW.trod_struct Try.underlying38 h
  rw [cellsStep] at hl
  match ys, hlen with
  | [z0, z1, z2, z3, z4], _ =>
    have g0 : DataW.trod enc Try.prog W base spare held n 3 ((cs.drop 0).take (Try.prog.cellsOf 3)) = some z0 := hf 0 _ rfl
    have g1 : DataW.trod enc Try.prog W base spare held n 3 ((cs.drop 1).take (Try.prog.cellsOf 3)) = some z1 := hf 1 _ rfl
    have g2 : DataW.trod enc Try.prog W base spare held n 36 ((cs.drop 2).take (Try.prog.cellsOf 36)) = some z2 := hf 2 _ rfl
    have g3 : DataW.trod enc Try.prog W base spare held n 3 ((cs.drop 34).take (Try.prog.cellsOf 3)) = some z3 := hf 3 _ rfl
    have g4 : DataW.trod enc Try.prog W base spare held n 3 ((cs.drop 35).take (Try.prog.cellsOf 3)) = some z4 := hf 4 _ rfl
    rw [cellsInt] at g0 g1 g3 g4
    rw [cellsKey] at g2
    obtain ⟨K, e0⟩ := open_intC g0
    obtain ⟨F, e1⟩ := open_intC g1
    obtain ⟨kb, hk32, e2⟩ := open_keyC g2
    obtain ⟨B, e3⟩ := open_intC g3
    obtain ⟨Hh, e4⟩ := open_intC g4
    have one : ∀ (k : Nat) (v : Value), (cs.drop k).take 1 = [v] → cs[k]? = some v := fun k v h => by
      have : ((cs.drop k).take 1)[0]? = some v := by rw [h]; rfl
      rw [List.getElem?_take_of_lt (by omega), List.getElem?_drop, Nat.add_zero] at this
      exact this
    refine ⟨hl, K, F, B, Hh, kb, ⟨by simpa using hl, ?_, ?_, fun i hi => ?_, hk32, ?_, ?_⟩⟩
    · rw [List.getElem?_toArray]; exact one 0 _ e0
    · rw [List.getElem?_toArray]; exact one 1 _ e1
    · rw [List.getElem?_toArray]
      have : ((cs.drop 2).take 32)[i]? = some (u8c kb[i]) := by rw [e2]; simp [List.getElem?_eq_getElem hi]
      rw [List.getElem?_take_of_lt (by omega), List.getElem?_drop] at this
      exact this
    · rw [List.getElem?_toArray]; exact one 34 _ e3
    · rw [List.getElem?_toArray]; exact one 35 _ e4
theorem open_steps {H : Type} {enc : TypeId × Value → H} {W : World} {fuel : Nat} {cs : List Value} {d : DataW H} {p : List MemPlace}
    (h : DataW.trod enc Try.prog W 0 (fun _ => true) true fuel 23 cs = some (d, p)) : ∃ (ao : Option Addr) (n c : Nat) (sts : Nat → Array Value), cs = [.slice ao n c] ∧ n ≤ 9223372036854775807 ∧ StRow W ao n sts := by
  rcases open_slice Try.underlying23 h with ⟨hcs, hx⟩ | ⟨a, len, cap, m, n, D, Pl, hcs, hb, hl, hm, hmm, hx, hxr⟩
  · exact ⟨none, 0, 0, fun _ => #[], hcs, by omega, ⟨fun k hk => by omega, fun h => by omega⟩⟩
  · simp only [if_true] at hmm
    rw [cellsStep] at hxr
    have each : ∀ i, i < len → ∃ r : Array Value, (∃ K F B H kb, StepAt r K F B H kb) ∧ ∀ b o, a = ⟨b, o, none⟩ → W.rangeAt b (o + i * 36) r.toList := by
      intro i hi
      obtain ⟨cs', h1, ht⟩ := hxr i (by omega)
      obtain ⟨_, hl4, hc⟩ := World.cells?_some h1
      obtain ⟨h36, hs⟩ := open_stepC ht
      refine ⟨cs'.toArray, hs, fun b o ha j u hj => ?_⟩
      have hj' : cs'[j]? = some u := by simpa using hj
      have hjl : j < 36 := by rw [← h36]; exact (List.getElem?_eq_some_iff.1 hj').1
      have h2 := hc j hjl
      rw [ha, Addr.add_mid, Addr.add_mid] at h2
      rw [h2]; exact hj'
    obtain ⟨R, hR⟩ := choose_lt each
    refine ⟨some a, len, cap, R, hcs, by unfold maxLen at hm; omega, ⟨fun k hk => (hR k hk).1, fun h0 => ?_⟩⟩
    obtain ⟨cs', h1, ht⟩ := hxr 0 (by omega)
    obtain ⟨_, hl4, hc⟩ := World.cells?_some h1
    have h2 := hc 0 (by omega)
    rw [List.getElem?_eq_getElem (by omega)] at h2
    obtain ⟨b, o, spot⟩ := a
    have hs : spot = none := by simpa [Addr.add] using World.cell?_spot h2
    subst hs
    exact ⟨b, o, rfl, fun i hi => (hR i hi).2 b o rfl⟩
theorem cs5 {cs : List Value} (h : cs.length = 5) : ∃ a b c d e, cs = [a, b, c, d, e] := by
  match cs, h with
  | [a, b, c, d, e], _ => exact ⟨a, b, c, d, e, rfl⟩
set_option maxRecDepth 20000 in
theorem open_script {H : Type} {enc : TypeId × Value → H} {W : World} {fuel : Nat} {cs : List Value} {x : DataW H × List MemPlace}
    (h : DataW.trod enc Try.prog W 0 (fun _ => true) true fuel 25 cs = some x) :
    ∃ (B0 B1 H0 H1 : Int) (ao : Option Addr) (n c : Nat) (sts : Nat → Array Value), cs = [.int .i64 B0, .int .i64 B1, .int .i64 H0, .int .i64 H1, .slice ao n c] ∧ n ≤ 9223372036854775807 ∧ StRow W ao n sts := by
  obtain ⟨ys, n, _, rfl, hl, hlen, hf⟩ := DataW.trod_struct Try.underlying25 h
  rw [cellsScript] at hl
  obtain ⟨a, b, c, d, e, rfl⟩ := cs5 hl
  match ys, hlen with
  | [z0, z1, z2], _ =>
    have g0 : DataW.trod enc Try.prog W 0 (fun _ => true) true n 22 (([a, b, c, d, e].drop 0).take (Try.prog.cellsOf 22)) = some z0 := hf 0 _ rfl
    have g1 : DataW.trod enc Try.prog W 0 (fun _ => true) true n 22 (([a, b, c, d, e].drop 2).take (Try.prog.cellsOf 22)) = some z1 := hf 1 _ rfl
    have g2 : DataW.trod enc Try.prog W 0 (fun _ => true) true n 23 (([a, b, c, d, e].drop 4).take (Try.prog.cellsOf 23)) = some z2 := hf 2 _ rfl
    rw [cellsA2] at g0 g1
    rw [cellsSteps] at g2
    obtain ⟨B0, B1, e0⟩ := open_arr2 g0
    obtain ⟨H0, H1, e1⟩ := open_arr2 g1
    obtain ⟨ao, m, cp, sts, e2, hm, hr⟩ := open_steps (show DataW.trod enc Try.prog W 0 (fun _ => true) true n 23 _ = some (z2.1, z2.2) from g2)
    simp only [List.drop_zero, List.take_succ_cons, List.take_zero, List.drop_succ_cons, List.cons.injEq, and_true] at e0 e1 e2
    refine ⟨B0, B1, H0, H1, ao, m, cp, sts, ?_, hm, hr⟩
    obtain ⟨rfl, rfl⟩ := e0
    obtain ⟨rfl, rfl⟩ := e1
    subst e2
    rfl
def zeroScript : Value := .agg #[.int .i64 0, .int .i64 0, .int .i64 0, .int .i64 0, .slice none 0 0]
set_option maxRecDepth 100000 in
theorem bloomPlays_lifted (os : Os) (started : os.Started) (H : Type) (enc : TypeId × Value → H) :
    ReturnsInHanded {} Try.checked os 3 .any (Rows.bloomPlaysSpec.pre6 enc Try.prog Try.f3 Rows.bloomPlaysRow.domain false) (Rows.bloomPlaysSpec.post enc Try.prog Try.f3 false true false false) := by
  refine returnsInHanded_of_change_sized (C := Try.checked) own started (by kernel_rfl) Try.func3
    (ChangeSpec.witness6 (enc := enc) (C := Try.checked) false ⟨#[], #[zeroScript], []⟩ 8 (by kernel_rfl) (by kernel_rfl) (by kernel_rfl) (by kernel_rfl)) ?_
  intro W base args ds gs before hval0 hW _ hsz0 _
  have hval : ∀ (j : Nat) t v, Try.f3.params[j]? = some t → args[j]? = some v → Value.okWide Try.prog W .any base t v := hval0
  have hW' := hW
  obtain ⟨p, q, hA0, hV, rfl, hfz, hnd⟩ := hW
  have hA : DataW.TrodAll enc Try.prog W 0 (fun _ => true) true Try.f3.params.toList args.toList ds p := hA0
  rw [Try.params3] at hA hval
  obtain ⟨v0, vs0, d0, ds0, p0, q0, hargs, rfl, rfl, h0, r0⟩ := trodAll_cons hA
  obtain ⟨rfl, rfl, rfl⟩ := trodAll_nil r0
  obtain rfl : args = #[v0] := by cases args; simp_all
  obtain ⟨rfl, rfl⟩ := trodVars_none hV
  have k0 := h0
  have lt0 : ∀ x ∈ p0, x.block < W.heap.size := by obtain ⟨m, hm⟩ := k0; exact DataW.trod_lt m _ _ _ hm
  obtain ⟨cs0, rfl, hcs0⟩ := okWide_struct Try.underlying25 (hval 0 25 v0 rfl rfl)
  obtain ⟨fuel0, hf0⟩ := h0
  obtain ⟨B0, B1, H0, H1, ao, n, c, sts, hx, hn, hr⟩ := open_script hf0
  have ex : Value.agg cs0 = .agg #[.int .i64 B0, .int .i64 B1, .int .i64 H0, .int .i64 H1, .slice ao n c] := by
    congr 1
    exact Array.toList_inj.mp hx
  clear hA0 hval0 hsz0
  have hlaw := plays_law W B0 B1 H0 H1 ao n c sts hr hn
  rw [← ex] at hlaw
  refine hlaw.mono fun e W' ⟨he, bel⟩ => ?_
  subst he
  exact ⟨_, rfl, _, _, _, [], _, [], hW', trodAll_mk1 (shut_bool Try.underlying4 _), (trodAll_cons_mk (Below.trod laidOut (by kernel_rfl) (of_decide_eq_true (by kernel_rfl)) k0 bel lt0) trodAll_mk0), rfl, bel.frame _, fun h => by cases h⟩

theorem bloomPlays_holds : Rows.BloomPlaysSaid :=
  OpenClaim.holds_of_wide 3 Try.f3 rfl rfl rfl rfl rfl rfl rfl ⟨rfl, rfl, rfl, rfl, rfl⟩ rfl rfl rfl rfl rfl (by kernel_rfl) Try.func3 (by kernel_rfl)
    (of_decide_eq_true (by kernel_rfl)) (by unfold Func.isWrapper; first | (rw [if_pos (by decide +kernel)]; kernel_rfl) | (rw [if_neg (by decide +kernel)]; exact ⟨rfl, rfl⟩))
    (fun os started H enc _ => bloomPlays_lifted os started H enc)
#print axioms bloomPlays_holds
end Go.Proofs.Ytbemmhngadpjcaa
