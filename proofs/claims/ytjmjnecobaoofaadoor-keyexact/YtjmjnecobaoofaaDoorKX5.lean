/- KeyExact: for every input the call returns true, and each argument reads afterwards as it read before: the tied card. Its condition: the three listed variables start as the program's text lays them. -/
import Derived.Test.YtjmjnecobaoofaaDoorKC1
import Derived.Test.YtjmjnecobaoofaaDoorKX4
import Derived.Test.YtjmjnecobaoofaaDoorKO1
import Derived.Lib.SmallJoins
namespace Go.Proofs.YtjmjnecobaoofaaDoor
set_option linter.unusedVariables false
set_option linter.unusedSimpArgs false
open Go.ChangeShapes Go.WideShapes Go.ChangeAt Go.RowKit Go.Deep

theorem bytesU8p : Tryd.prog.bytesOf 5 = 1 := by kernel_rfl
theorem sized_ask {H : Type} {P : Program} {ts : List TypeId} {ds : List (DataW H)} (h : (DataW.weightsEach P ts ds).all (· ≤ reachBytes) = true) {j : Nat} {t q r : TypeId} {fs : Array Field} {e' sp' : List (DataW H)} {rest : List (DataW H)}
    (ht : ts[j]? = some t) (hd : ds[j]? = some (.agg (.slice e' sp' :: rest))) (hu : P.underlying t = some (.struct fs)) (hf : (fs.toList.map (·.type))[0]? = some r) (hu3 : P.underlying r = some (.slice q)) : (e'.length + sp'.length) * P.bytesOf q ≤ reachBytes := by
  refine of_decide_eq_true (List.all_eq_true.1 h _ (DataW.weights_mem_each ht hd _ ?_))
  simp only [DataW.weights, hu]
  refine DataW.weights_mem_each (j := 0) hf rfl _ ?_
  simp [DataW.weights, hu3]
set_option maxRecDepth 100000 in
theorem exact_lifted (os : Os) (started : os.Started) (H : Type) (enc : TypeId × Value → H) :
    ReturnsInHanded {} Tryd.checked os 3 .any (fun w args => (Rows.keyExactSpec.pre enc Tryd.prog Tryd.f3 [] false w args ∧ laidMetH Tryd.prog Rows.keyExactRow.laid w) ∧ sizedMet enc Tryd.prog Tryd.f3 (OpenSpec.ofChange Rows.keyExactSpec) false w args)
      (Rows.keyExactSpec.post enc Tryd.prog Tryd.f3 false true false false) := by
  refine returnsInHanded_of_change_and (C := Tryd.checked) (X := fun w _ => laidMetH Tryd.prog Rows.keyExactRow.laid w) (fun _ _ _ hh h => h.of_heap hh) own started (by kernel_rfl) Tryd.func3
    (ChangeSpec.witness_at (enc := enc) (C := Tryd.checked) (os := os) (X := fun w _ => laidMetH Tryd.prog Rows.keyExactRow.laid w) false (laidWorld os) #[askV (.slice none 0 0) [] (List.replicate 32 0) (List.replicate 32 0)] 8 rfl (by kernel_rfl) (by kernel_rfl) (by kernel_rfl) (by kernel_rfl) (by kernel_rfl) (laidWorld_met os _)) ?_
  intro W base args ds gs before hval0 hW _ hsz0 hL _
  have hsz : (DataW.weightsEach Tryd.prog (Tryd.f3.params.toList ++ Rows.keyExactSpec.plain.varTypes Tryd.prog) (ds ++ gs)).all (· ≤ reachBytes) = true := hsz0
  have hval : ∀ (j : Nat) t v, Tryd.f3.params[j]? = some t → args[j]? = some v → Value.okWide Tryd.prog W .any base t v := hval0
  have hW' := hW
  obtain ⟨p, q, hA0, hV0, rfl, hfz, hnd⟩ := hW
  have hA : DataW.TrodAll enc Tryd.prog W 0 (fun _ => true) true Tryd.f3.params.toList args.toList ds p := hA0
  have hV : DataW.TrodVars enc Tryd.prog W (fun _ => true) [] gs q := hV0
  rw [Tryd.params3] at hA hval hsz
  obtain ⟨v0, vs0, d0, ds0, p0, q0, hargs, rfl, rfl, h0, r0⟩ := trodAll_cons hA
  obtain ⟨rfl, rfl, rfl⟩ := trodAll_nil r0
  obtain rfl : args = #[v0] := by cases args; simp_all
  obtain ⟨rfl, rfl⟩ : gs = [] ∧ q = [] := by
    cases gs with
    | nil => exact ⟨rfl, hV⟩
    | cons g r => exact absurd hV (by intro h; cases h)
  have k0 := h0
  have lt0 : ∀ x ∈ p0, x.block < W.heap.size := by obtain ⟨m, hm⟩ := k0; exact DataW.trod_lt m _ _ _ hm
  obtain ⟨cs, rfl, hcs⟩ := okWide_struct Tryd.underlying26 (hval 0 26 v0 rfl rfl)
  obtain ⟨fuel, hf⟩ := h0
  obtain ⟨vb, t, a, b, y0, y1, y2, y3, n, hcs2, ha, hb, ht, hxd, hfb⟩ := open_ask hf
  have hfb' : DataW.trod enc Tryd.prog W 0 (fun _ => true) true n 22 [vb] = some (y0.1, y0.2) := hfb
  obtain ⟨v, xs, hv, hr, hd⟩ := open_bytesC hfb'
  obtain rfl : vb = v := (List.cons.inj hv).1
  have hxl : xs.length ≤ 140737488353000 := by
    rcases hd with h0 | ⟨e', sp', h3, h4⟩
    · omega
    · have hxd' : d0 = .agg (.slice e' sp' :: [y1.1, y2.1, y3.1]) := by rw [← h3]; exact hxd
      subst hxd'
      have := sized_ask hsz (j := 0) (t := 26) (q := 5) (r := 22) rfl rfl Tryd.underlying26 rfl Tryd.underlying22
      rw [bytesU8p] at this
      simp only [reachBytes] at this
      omega
  have e : Value.agg cs = askV vb t a b := by
    unfold askV
    rw [← hcs2]
    rfl
  clear hA0 hval0 hsz0
  have hlaw := exact_law W (tabs_of_laid hL) vb xs t a b hr hxl ha hb ht
  rw [← e] at hlaw
  refine hlaw.mono fun e W' ⟨he, bel⟩ => ?_
  subst he
  exact ⟨_, rfl, _, _, _, [], _, [], hW', trodAll_mk1 (shut_bool Tryd.underlying4 true), (trodAll_cons_mk (Below.trod laidOut (by kernel_rfl) (of_decide_eq_true (by kernel_rfl)) k0 bel lt0) trodAll_mk0), rfl, bel.frame _, fun h => by cases h⟩
theorem exact_holds : Rows.KeyExactSaid :=
  OpenClaim.holds_of_wide 3 Tryd.f3 rfl rfl rfl rfl rfl rfl rfl ⟨rfl, rfl, rfl, rfl, rfl⟩ rfl rfl rfl rfl rfl (by kernel_rfl) Tryd.func3 (by kernel_rfl)
    (of_decide_eq_true (by kernel_rfl)) (by unfold Func.isWrapper; rw [if_neg (of_decide_eq_false (by kernel_rfl))]; exact ⟨rfl, rfl⟩)
    (fun os started H enc _ => exact_lifted os started H enc)

theorem keyExactCard_holds : Rows.KeyExactCardSaid :=
  Claim7.holds_tied_plain_at .later [] [.data, .data, .data] true (true, "a3bc72fbb752cdaf972b1e78768cc78e1ba5e61252abe1c70132d0b4a28fe48d") false
    exact_holds (fun _ h => by cases h) (by kernel_rfl) (fun _ h => by cases h) keyExact_row_tie rfl ⟨rfl, rfl⟩ (by kernel_rfl) rfl
    (fun f fn hf hfn => by
      obtain rfl : f = 3 := Option.some.inj ((show Tryd.prog.funcNamed "gleaner/gleanerlaw03.KeyExact" = some 3 by kernel_rfl).symm.trans hf) |>.symm
      obtain rfl : fn = Tryd.f3 := (Option.some.inj (Tryd.func3.symm.trans hfn)).symm
      exact ⟨by kernel_rfl, fun j t ht => by
        rw [Tryd.params3] at ht
        have h3 : t = 26 := by
          rcases j with _ | j
          · simpa using ht.symm
          · simp at ht
        subst h3
        exact (show Tryd.prog.wantsStandIn 26 = false by kernel_rfl)⟩)
    (by kernel_rfl)
#print axioms keyExactCard_holds
end Go.Proofs.YtjmjnecobaoofaaDoor
