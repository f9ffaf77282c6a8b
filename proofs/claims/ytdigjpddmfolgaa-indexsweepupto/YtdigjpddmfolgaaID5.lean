/- IndexSweep: for every input whose bulk is at most 1048576 the call returns true, and the argument reads afterwards as it read before. -/
import Derived.Test.YtdigjpddmfolgaaID4
import Derived.Test.YtdigjpddmfolgaaIK0
namespace Go.Proofs.Ytdigjpddmfolgaa
set_option linter.unusedVariables false
set_option linter.unusedSimpArgs false
open Go.ChangeShapes Go.WideShapes Go.ChangeAt Go.RowKit Go.Deep

theorem cellsSweep : Try.prog.cellsOf 54 = 2 := by kernel_rfl
theorem cellsChs : Try.prog.cellsOf 52 = 1 := by kernel_rfl
set_option maxRecDepth 100000 in
theorem open_sweep {H : Type} {enc : TypeId × Value → H} {W : World} {fuel : Nat} {cs : List Value} {x : DataW H × List MemPlace}
    (h : DataW.trod enc Try.prog W 0 (fun _ => true) true fuel 54 cs = some x) : ∃ (v1 v2 : Value) (F : List TX.KY) (CH : List (List TX.KY)), cs = [v1, v2] ∧ TX.KsR W v1 F ∧ TX.ChR W v2 CH ∧ F.length + CH.flatten.length + CH.length ≤ Rows.uptoBulk x.1 := by
  obtain ⟨ys, m, _, hx, hlen, hyl, hfl⟩ := DataW.trod_struct Try.underlying54 h
  rw [cellsSweep] at hlen
  have hyl2 : ys.length = 2 := hyl
  obtain ⟨a, b, rfl⟩ : ∃ a b, cs = [a, b] := by
    match cs, hlen with
    | [a, b], _ => exact ⟨a, b, rfl⟩
  match ys, hyl2 with
  | [z0, z1], _ =>
    have g0 : DataW.trod enc Try.prog W 0 (fun _ => true) true m 51 (([a, b].drop 0).take (Try.prog.cellsOf 51)) = some z0 := hfl 0 _ rfl
    have g1 : DataW.trod enc Try.prog W 0 (fun _ => true) true m 52 (([a, b].drop 1).take (Try.prog.cellsOf 52)) = some z1 := hfl 1 _ rfl
    rw [TX.cellsKS] at g0
    rw [cellsChs] at g1
    obtain ⟨F, hF, hf⟩ := TX.open_ks (v := a) (d := z0.1) (p := z0.2) g0
    obtain ⟨CH, hC, hc⟩ := TX.open_chs (v := b) (d := z1.1) (p := z1.2) g1
    refine ⟨a, b, F, CH, rfl, hF, hC, ?_⟩
    have e : x.1 = .agg [z0.1, z1.1] := by rw [hx]; rfl
    rw [e]
    simp only [Rows.uptoBulk, Rows.uptoBulkAll]
    omega
set_option maxRecDepth 100000 in
theorem contractS (H : Type) (enc : TypeId × Value → H) (W : World) (base : Nat) (args : Array Value) (ds gs : List (DataW H)) (before : List MemPlace)
    (hval : ∀ (j : Nat) t v, Try.f4.params[j]? = some t → args[j]? = some v → Value.okWide Try.prog W .any base t v)
    (hW : DataW.Whole enc Try.prog Try.f4.params.toList Rows.indexSweepSpec.vars false W args.toList ds gs before) (hk : Rows.uptoSmall H (ds ++ gs) = true) :
    Calls Try.prog 4 args W fun e W' => ∃ v, e = .returned v ∧ Rows.indexSweepSpec.post enc Try.prog Try.f4 false true false false W args v W' := by
  have hW' := hW
  obtain ⟨p, q, hA0, hV, rfl, hfz, hnd⟩ := hW
  have hA : DataW.TrodAll enc Try.prog W 0 (fun _ => true) true Try.f4.params.toList args.toList ds p := hA0
  rw [Try.params4] at hA hval
  obtain ⟨v0, vs0, d0, ds0, p0, q0, hargs, rfl, rfl, h0, r0⟩ := trodAll_cons hA
  obtain ⟨rfl, rfl, rfl⟩ := trodAll_nil r0
  obtain rfl : args = #[v0] := by cases args; simp_all
  obtain ⟨rfl, rfl⟩ := trodVars_none hV
  have k0 := h0
  have lt0 : ∀ x ∈ p0, x.block < W.heap.size := by obtain ⟨m, hm⟩ := k0; exact DataW.trod_lt m _ _ _ hm
  obtain ⟨cs0, rfl, hcs0⟩ := okWide_struct Try.underlying54 (hval 0 54 v0 rfl rfl)
  obtain ⟨fuel0, hf0⟩ := h0
  obtain ⟨v1, v2, F, CH, hx, hF, hC, hbk⟩ := open_sweep hf0
  have hkb := TX.small_leA hk
  have hb : F.length + CH.flatten.length + CH.length ≤ 1048576 := by
    simp only [List.append_nil, Rows.uptoBulkAll] at hkb
    have hbk' : F.length + CH.flatten.length + CH.length ≤ Rows.uptoBulk d0 := hbk
    omega
  have ex : Value.agg cs0 = .agg #[v1, v2] := by
    congr 1
    have : cs0.toList = [v1, v2] := hx
    exact Array.toList_inj.mp this
  clear hA0
  have hlaw := TX.sweep_law W v1 v2 F CH hF hC (by omega) (by omega)
  rw [← ex] at hlaw
  refine hlaw.mono fun e W' ⟨he, bel⟩ => ?_
  subst he
  exact ⟨_, rfl, _, _, _, [], _, [], hW', trodAll_mk1 (shut_bool Try.underlying4 _), (trodAll_cons_mk (Below.trod TX.laidOutA (by kernel_rfl) (of_decide_eq_true (by kernel_rfl)) k0 bel lt0) trodAll_mk0), rfl, bel.frame _, fun h => by cases h⟩

set_option maxRecDepth 100000 in
theorem indexSweep_lifted (os : Os) (started : os.Started) (H : Type) (enc : TypeId × Value → H) (F : Stop.Interp) :
    ReturnsInHanded {} Try.checked os 4 .any ((Rows.OpenSpec.upto Rows.indexSweepSpec).pre6 enc Try.prog Try.f4 Rows.indexSweepUptoRow.domain false) (((Rows.OpenSpec.upto Rows.indexSweepSpec).at F).post enc Try.prog Try.f4 false true false false) := by
  refine returnsInHanded_of_cond (C := Try.checked) (s := Rows.OpenSpec.upto Rows.indexSweepSpec) (k := Rows.uptoSmall) rfl TX.ownA started (by kernel_rfl) Try.func4
    (OpenSpec.witness (enc := enc) (C := Try.checked) (s := Rows.OpenSpec.upto Rows.indexSweepSpec) (k := Rows.uptoSmall) rfl false ⟨#[], #[.agg #[.slice none 0 0, .slice none 0 0]], []⟩ 8 (by kernel_rfl) (by kernel_rfl) (by kernel_rfl)
      (x := ([.agg [.nil, .nil]], [], [])) (by kernel_rfl) rfl (by kernel_rfl)) ?_
  intro W base args ds gs before hval hW _ hk _
  exact contractS H enc W base args ds gs before hval hW hk

theorem indexSweepUpto_holds : Rows.IndexSweepUptoSaid :=
  OpenClaim.holds_of_cond 4 Try.f4 rfl rfl rfl rfl rfl rfl rfl ⟨rfl, rfl, rfl, rfl, rfl⟩ rfl rfl rfl rfl rfl (by kernel_rfl) Try.func4 (by kernel_rfl)
    (of_decide_eq_true (by kernel_rfl)) (by unfold Func.isWrapper; first | (rw [if_pos (by decide +kernel)]; kernel_rfl) | (rw [if_neg (by decide +kernel)]; exact ⟨rfl, rfl⟩))
    (fun os started H enc _ F => indexSweep_lifted os started H enc F)
#print axioms indexSweepUpto_holds
end Go.Proofs.Ytdigjpddmfolgaa
