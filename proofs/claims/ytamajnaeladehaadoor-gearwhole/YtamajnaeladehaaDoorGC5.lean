/- GearWhole: for every input the call returns true, and each argument reads afterwards as it read before: the tied card. Its condition: the two listed variables start as the program's text lays them. -/
import Derived.Test.YtamajnaeladehaaDoorGC0
import Derived.Test.YtamajnaeladehaaDoorGW9
namespace Go.Proofs.YtamajnaeladehaaDoor
set_option linter.unusedVariables false
set_option linter.unusedSimpArgs false
open Go.ChangeShapes Go.WideShapes Go.ChangeAt Go.RowKit Go.Deep

theorem bytesU8p : Tryd.prog.bytesOf 5 = 1 := by kernel_rfl
theorem bytesSlp : Tryd.prog.bytesOf 24 = 24 := by kernel_rfl
theorem cellsSlp : Tryd.prog.cellsOf 24 = 1 := by kernel_rfl
theorem weightsAll_mem {H : Type} {P : Program} {e : TypeId} : ∀ {l : List (DataW H)} {d : DataW H}, d ∈ l → ∀ n ∈ d.weights P e, n ∈ DataW.weightsAll P e l
  | d' :: r, d, hd, n, hn => by
    simp only [DataW.weightsAll, List.mem_append]
    rcases List.mem_cons.1 hd with rfl | h
    · exact Or.inl hn
    · exact Or.inr (weightsAll_mem h n hn)
theorem sized_innerP {H : Type} {P : Program} {ts : List TypeId} {ds : List (DataW H)} (h : (DataW.weightsEach P ts ds).all (· ≤ reachBytes) = true) {j : Nat} {t e q : TypeId} {elems spare e' sp' : List (DataW H)}
    (ht : ts[j]? = some t) (hd : ds[j]? = some (.slice elems spare)) (hu : P.underlying t = some (.slice e)) (hu2 : P.underlying e = some (.slice q)) (hx : DataW.slice e' sp' ∈ elems) : (e'.length + sp'.length) * P.bytesOf q ≤ reachBytes := by
  refine of_decide_eq_true (List.all_eq_true.1 h _ (DataW.weights_mem_each ht hd _ ?_))
  simp only [DataW.weights, hu, List.mem_cons, List.mem_append]
  exact Or.inr (Or.inl (weightsAll_mem hx _ (by simp [DataW.weights, hu2])))
theorem open_partsC {H : Type} {enc : TypeId × Value → H} {W : World} {fuel : Nat} {ap : Option Addr} {n c : Nat} {d : DataW H} {p : List MemPlace}
    (h : DataW.trod enc Tryd.prog W 0 (fun _ => true) true fuel 42 [.slice ap n c] = some (d, p)) :
    ∃ ps : List (List UInt8), n = ps.length ∧ Parts W ap ps ∧ ((ps = []) ∨ ∃ elems spare, d = .slice elems spare ∧ n = elems.length ∧ ∀ x ∈ ps, x.length = 0 ∨ ∃ e' sp', DataW.slice e' sp' ∈ elems ∧ x.length = e'.length) := by
  rcases open_slice1 Tryd.underlying42 cellsSlp h with ⟨hcs, hx⟩ | ⟨a, len, cap, m, k, V, D, Pl, hcs, hb, hl, hm, hmm, hx, hxr⟩
  · obtain ⟨rfl, rfl, rfl⟩ := (Value.slice.injEq ..).mp (List.cons.inj hcs).1
    exact ⟨[], rfl, fun i hi => absurd hi (by simp), .inl rfl⟩
  · obtain ⟨rfl, rfl, rfl⟩ := (Value.slice.injEq ..).mp (List.cons.inj hcs).1
    simp only [if_true] at hmm
    have each : ∀ i, i < n → ∃ bs : List UInt8, RdA W (V i) bs ∧ (bs.length = 0 ∨ ∃ e s, D i = .slice e s ∧ bs.length = e.length) := by
      intro i hi
      obtain ⟨v, bs, hv, hr, hd⟩ := open_bytesC (hxr i (by omega)).2
      obtain rfl : V i = v := (List.cons.inj hv).1
      exact ⟨bs, hr, hd⟩
    obtain ⟨B, hB⟩ := choose_lt each
    refine ⟨(List.range n).map B, by simp, fun i hi => ?_, .inr ⟨_, _, (Prod.mk.inj hx).1, by simp, fun x hx => ?_⟩⟩
    · have hi' : i < n := by simpa using hi
      obtain ⟨b, o, rfl⟩ : ∃ b o, a = ⟨b, o, none⟩ := by
        obtain ⟨b, o, spot⟩ := a
        have hs : spot = none := by simpa [Addr.add] using World.cell?_spot (hxr 0 (by omega)).1
        exact ⟨b, o, by rw [hs]⟩
      refine ⟨b, o, V i, rfl, ?_, ?_⟩
      · have := (hxr i (by omega)).1
        rwa [Addr.add_mid] at this
      · simpa using (hB i hi').1
    · obtain ⟨i, hi, rfl⟩ := List.mem_map.1 hx
      have hi' := List.mem_range.1 hi
      rcases (hB i hi').2 with h0 | ⟨e, s, hD, hl2⟩
      · exact .inl h0
      · exact .inr ⟨e, s, List.mem_map.2 ⟨i, hi, hD⟩, hl2⟩
theorem laidWorld_met (os : Os) (args : Array Value) : laidMetH Tryd.prog Rows.gearWholeRow.laid ((laidWorld os).forCall (fun _ _ => 0) ⟨#[], args, []⟩).memory :=
  show laidMet Tryd.prog [("math/bits.deBruijn32tab", Rows.laid_math_bits_deBruijn32tab), ("math/bits.deBruijn64tab", Rows.laid_math_bits_deBruijn64tab)] _ from laidMet_of_run' 8 (by kernel_rfl) (by kernel_rfl)
set_option maxRecDepth 100000 in
theorem wholec_lifted (os : Os) (started : os.Started) (H : Type) (enc : TypeId × Value → H) :
    ReturnsInHanded {} Tryd.checked os 6 .any (fun w args => (Rows.gearWholeSpec.pre enc Tryd.prog Tryd.f6 [] false w args ∧ laidMetH Tryd.prog Rows.gearWholeRow.laid w) ∧ sizedMet enc Tryd.prog Tryd.f6 (OpenSpec.ofChange Rows.gearWholeSpec) false w args)
      (Rows.gearWholeSpec.post enc Tryd.prog Tryd.f6 false true false false) := by
  refine returnsInHanded_of_change_and (C := Tryd.checked) (X := fun w _ => laidMetH Tryd.prog Rows.gearWholeRow.laid w) (fun _ _ _ hh h => h.of_heap hh) own started (by kernel_rfl) Tryd.func6
    (ChangeSpec.witness_at (enc := enc) (C := Tryd.checked) (os := os) (X := fun w _ => laidMetH Tryd.prog Rows.gearWholeRow.laid w) false (laidWorld os) #[askV 0 0 0 (.slice none 0 0), .slice none 0 0] 8 rfl (by kernel_rfl) (by kernel_rfl) (by kernel_rfl) (by kernel_rfl) (by kernel_rfl) (laidWorld_met os _)) ?_
  intro W base args ds gs before hval0 hW _ hsz0 hL _
  have hsz : (DataW.weightsEach Tryd.prog (Tryd.f6.params.toList ++ Rows.gearWholeSpec.plain.varTypes Tryd.prog) (ds ++ gs)).all (· ≤ reachBytes) = true := hsz0
  have hval : ∀ (j : Nat) t v, Tryd.f6.params[j]? = some t → args[j]? = some v → Value.okWide Tryd.prog W .any base t v := hval0
  have hW' := hW
  obtain ⟨p, q, hA0, hV0, rfl, hfz, hnd⟩ := hW
  have hA : DataW.TrodAll enc Tryd.prog W 0 (fun _ => true) true Tryd.f6.params.toList args.toList ds p := hA0
  have hV : DataW.TrodVars enc Tryd.prog W (fun _ => true) [] gs q := hV0
  rw [Tryd.params6] at hA hval hsz
  obtain ⟨v0, vs0, d0, ds0, p0, q0, hargs, rfl, rfl, h0, r0⟩ := trodAll_cons hA
  obtain ⟨v1, vs1, d1, ds1, p1, q1, rfl, rfl, rfl, h1, r1⟩ := trodAll_cons r0
  obtain ⟨rfl, rfl, rfl⟩ := trodAll_nil r1
  obtain rfl : args = #[v0, v1] := by cases args; simp_all
  obtain ⟨rfl, rfl⟩ : gs = [] ∧ q = [] := by
    cases gs with
    | nil => exact ⟨rfl, hV⟩
    | cons g r => exact absurd hV (by intro h; cases h)
  have k0 := h0
  have k1 := h1
  have lt0 : ∀ x ∈ p0, x.block < W.heap.size := by obtain ⟨m, hm⟩ := k0; exact DataW.trod_lt m _ _ _ hm
  have lt1 : ∀ x ∈ p1, x.block < W.heap.size := by obtain ⟨m, hm⟩ := k1; exact DataW.trod_lt m _ _ _ hm
  obtain ⟨cs, rfl, hcs⟩ := okWide_struct Tryd.underlying26 (hval 0 26 v0 rfl rfl)
  obtain ⟨a0, len0, cap0, rfl⟩ := okWide_slice Tryd.underlying42 (hval 1 42 v1 rfl rfl)
  obtain ⟨fuel0, hf0⟩ := h0
  obtain ⟨fuel, hf⟩ := h1
  obtain ⟨mn, me, mx, dv, X, hcs2, _, _, _, hrX, _⟩ := open_askC hf0
  have e : Value.agg cs = askV mn me mx dv := by
    unfold askV
    congr 1
    apply Array.ext'
    exact hcs2
  have hf' : DataW.trod enc Tryd.prog W 0 (fun _ => true) true fuel 42 [.slice a0 len0 cap0] = some (d1, p1) := hf
  obtain ⟨ps, hn, hP, hbs⟩ := open_partsC hf'
  have hnl : len0 ≤ 5864062014806 := by
    rcases hbs with rfl | ⟨elems, spare, rfl, h, _⟩
    · rw [hn]; exact Nat.zero_le _
    · have := sized_slice hsz (j := 1) (t := 42) (e := 24) rfl rfl Tryd.underlying42
      rw [bytesSlp] at this
      simp only [reachBytes] at this
      omega
  have hps : ∀ x ∈ ps, x.length ≤ 140737488355328 := by
    intro x hx
    rcases hbs with rfl | ⟨elems, spare, rfl, _, h⟩
    · cases hx
    · rcases h x hx with h0 | ⟨e', sp', hm, h1⟩
      · omega
      · have := sized_innerP hsz (j := 1) (t := 42) (e := 24) (q := 5) rfl rfl Tryd.underlying42 Tryd.underlying24 hm
        rw [bytesU8p] at this
        simp only [reachBytes] at this
        omega
  clear hA0 hval0 hsz0
  have hlaw := whole_law W (tabs_of_laid hL) mn me mx dv X hrX a0 len0 cap0 ps hn hP hnl hps
  rw [← e] at hlaw
  refine hlaw.mono fun e W' ⟨he, bel⟩ => ?_
  subst he
  exact ⟨_, rfl, _, _, _, [], _, [], hW', trodAll_mk1 (shut_bool Tryd.underlying4 true), (trodAll_cons_mk (Below.trod laidOut (by kernel_rfl) (of_decide_eq_true (by kernel_rfl)) k0 bel lt0) (trodAll_cons_mk (Below.trod laidOut (by kernel_rfl) (of_decide_eq_true (by kernel_rfl)) k1 bel lt1) trodAll_mk0)), rfl, bel.frame _, fun h => by cases h⟩
theorem wholec_holds : Rows.GearWholeSaid :=
  OpenClaim.holds_of_wide 6 Tryd.f6 rfl rfl rfl rfl rfl rfl rfl ⟨rfl, rfl, rfl, rfl, rfl⟩ rfl rfl rfl rfl rfl (by kernel_rfl) Tryd.func6 (by kernel_rfl)
    (of_decide_eq_true (by kernel_rfl)) (by unfold Func.isWrapper; rw [if_neg (of_decide_eq_false (by kernel_rfl))]; exact ⟨rfl, rfl⟩)
    (fun os started H enc _ => wholec_lifted os started H enc)

theorem whole_plain (f : FuncId) (fn : Func) (hf : Tryd.pinned.checked.prog.funcNamed "gleaner/gleanerlaw05.GearWhole" = some f) (hfn : Tryd.pinned.checked.prog.funcs[f]? = some fn) :
    false = Tryd.pinned.checked.prog.looks [] ∧ ∀ (j : Nat) t, fn.params[j]? = some t → Tryd.pinned.checked.prog.wantsStandIn t = false := by
  obtain rfl : f = 6 := Option.some.inj ((show Tryd.prog.funcNamed "gleaner/gleanerlaw05.GearWhole" = some 6 by kernel_rfl).symm.trans hf) |>.symm
  obtain rfl : fn = Tryd.f6 := (Option.some.inj (Tryd.func6.symm.trans hfn)).symm
  refine ⟨by kernel_rfl, fun j t ht => ?_⟩
  rw [Tryd.params6] at ht
  have ht2 : t = 26 ∨ t = 42 := by
    have := Array.mem_of_getElem? ht
    simp at this
    omega
  rcases ht2 with rfl | rfl
  · exact (show Tryd.prog.wantsStandIn 26 = false by kernel_rfl)
  · exact (show Tryd.prog.wantsStandIn 42 = false by kernel_rfl)
theorem gearWholeCard_holds : Rows.GearWholeCardSaid :=
  Claim7.holds_tied_plain_at .later [] _ _ _ _ wholec_holds (fun _ h => by cases h) (by kernel_rfl) (fun _ h => by cases h) gearWhole_row_tie rfl ⟨rfl, rfl⟩ (by kernel_rfl) rfl whole_plain (by kernel_rfl)
#print axioms gearWholeCard_holds
end Go.Proofs.YtamajnaeladehaaDoor
