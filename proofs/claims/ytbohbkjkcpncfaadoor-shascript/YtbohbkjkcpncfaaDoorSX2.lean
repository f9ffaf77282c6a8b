/- ShaScript: for every input the call returns true, and each argument reads afterwards as it read before: the tied card. Its condition: the three listed variables start as the program's text lays them. -/
import Derived.Test.YtbohbkjkcpncfaaDoorSC1
import Derived.Test.YtbohbkjkcpncfaaDoorSX1
import Derived.Lib.SmallJoins
namespace Go.Proofs.YtbohbkjkcpncfaaDoor
set_option linter.unusedVariables false
set_option linter.unusedSimpArgs false
open Go.ChangeShapes Go.WideShapes Go.ChangeAt Go.RowKit Go.Deep

theorem bytesU8p : Tryd.prog.bytesOf 5 = 1 := by kernel_rfl
theorem bytesSlp : Tryd.prog.bytesOf 22 = 24 := by kernel_rfl
theorem cellsSlp : Tryd.prog.cellsOf 22 = 1 := by kernel_rfl
theorem weightsAll_mem {H : Type} {P : Program} {e : TypeId} : ∀ {l : List (DataW H)} {d : DataW H}, d ∈ l → ∀ n ∈ d.weights P e, n ∈ DataW.weightsAll P e l
  | d' :: r, d, hd, n, hn => by
    simp only [DataW.weightsAll, List.mem_append]
    rcases List.mem_cons.1 hd with rfl | h
    · exact Or.inl hn
    · exact Or.inr (weightsAll_mem h n hn)
theorem bytesStep : Tryd.prog.bytesOf 41 = 48 := by kernel_rfl
theorem cellsStep : Tryd.prog.cellsOf 41 = 4 := by kernel_rfl
theorem cellsIntp : Tryd.prog.cellsOf 3 = 1 := by kernel_rfl
theorem sized_step {H : Type} {P : Program} {ts : List TypeId} {ds : List (DataW H)} (h : (DataW.weightsEach P ts ds).all (· ≤ reachBytes) = true) {j : Nat} {t e q : TypeId} {fs : Array Field} {elems spare e' sp' : List (DataW H)} {y0 y1 y2 : DataW H}
    (ht : ts[j]? = some t) (hd : ds[j]? = some (.slice elems spare)) (hu : P.underlying t = some (.slice e)) (hu2 : P.underlying e = some (.struct fs)) (r : TypeId) (hf : (fs.toList.map (·.type))[3]? = some r) (hu3 : P.underlying r = some (.slice q)) (hx : DataW.agg [y0, y1, y2, .slice e' sp'] ∈ elems) : (e'.length + sp'.length) * P.bytesOf q ≤ reachBytes := by
  refine of_decide_eq_true (List.all_eq_true.1 h _ (DataW.weights_mem_each ht hd _ ?_))
  simp only [DataW.weights, hu, List.mem_cons, List.mem_append]
  refine Or.inr (Or.inl (weightsAll_mem hx _ ?_))
  simp only [DataW.weights, hu2]
  refine DataW.weights_mem_each (j := 3) hf rfl _ ?_
  simp [DataW.weights, hu3]
theorem four_list {α : Type} {cs : List α} (h : cs.length = 4) : ∃ a b c d, cs = [a, b, c, d] := by
  match cs, h with
  | [a, b, c, d], _ => exact ⟨a, b, c, d, rfl⟩
theorem open_stepsC {H : Type} {enc : TypeId × Value → H} {W : World} {fuel : Nat} {ap : Option Addr} {n c : Nat} {d : DataW H} {p : List MemPlace}
    (h : DataW.trod enc Tryd.prog W 0 (fun _ => true) true fuel 39 [.slice ap n c] = some (d, p)) :
    ∃ ss : List StepR, n = ss.length ∧ Scr W ap ss ∧ ((ss = []) ∨ ∃ elems spare, d = .slice elems spare ∧ n = elems.length ∧ ∀ x ∈ ss, x.dat.length = 0 ∨ ∃ y0 y1 y2 e' sp', DataW.agg [y0, y1, y2, .slice e' sp'] ∈ elems ∧ x.dat.length = e'.length) := by
  rcases open_slice Tryd.underlying39 h with ⟨hcs, hx⟩ | ⟨a, len, cap, m, k, D, Pl, hcs, hb, hl, hm, hmm, hx, hxr⟩
  · obtain ⟨rfl, rfl, rfl⟩ := (Value.slice.injEq ..).mp (List.cons.inj hcs).1
    exact ⟨[], rfl, fun i hi => absurd hi (by simp), .inl rfl⟩
  · obtain ⟨rfl, rfl, rfl⟩ := (Value.slice.injEq ..).mp (List.cons.inj hcs).1
    simp only [if_true] at hmm
    rw [cellsStep] at hxr
    have hsp : n = 0 ∨ ∃ b o, a = ⟨b, o, none⟩ := by
      rcases Nat.eq_zero_or_pos n with h0 | hpos
      · exact .inl h0
      · right
        obtain ⟨cs', h1, _⟩ := hxr 0 (by omega)
        obtain ⟨_, hl4, hc⟩ := World.cells?_some h1
        have h2 := hc 0 (by omega)
        rw [List.getElem?_eq_getElem (by omega)] at h2
        obtain ⟨b, o, spot⟩ := a
        have hs : spot = none := by simpa [Addr.add] using World.cell?_spot h2
        exact ⟨b, o, by rw [hs]⟩
    have each : ∀ i, i < n → ∃ x : StepR, (∀ b o, a = ⟨b, o, none⟩ → ∃ v, W.rangeAt b (o + i * 4) [.int .i64 x.dO, .int .i64 x.aT, .int .i64 x.fR, v] ∧ RdA W v x.dat) ∧ (x.dat.length = 0 ∨ ∃ y0 y1 y2 e s, D i = .agg [y0, y1, y2, .slice e s] ∧ x.dat.length = e.length) := by
      intro i hi
      obtain ⟨cs', h1, ht⟩ := hxr i (by omega)
      obtain ⟨_, hl4, hc⟩ := World.cells?_some h1
      obtain ⟨c0, c1, c2, c3, rfl⟩ := four_list hl4
      obtain ⟨y0, y1, y2, y3, q, hD, _, f0, f1, f2, f3⟩ := Joins.trod_struct4 Tryd.underlying41 ht
      simp only [cellsIntp, cellsSlp] at f0 f1 f2 f3
      obtain ⟨n0, e0, _, _⟩ := DataW.trod_int Tryd.underlying3 f0
      obtain ⟨n1, e1, _, _⟩ := DataW.trod_int Tryd.underlying3 f1
      obtain ⟨n2, e2, _, _⟩ := DataW.trod_int Tryd.underlying3 f2
      have f3' : DataW.trod enc Tryd.prog W 0 (fun _ => true) true q 22 [c3] = some (y3.1, y3.2) := f3
      obtain ⟨v, bs, hv, hr, hd⟩ := open_bytesC f3'
      obtain rfl : c3 = v := (List.cons.inj hv).1
      obtain rfl : c0 = .int .i64 n0 := (List.cons.inj e0).1
      obtain rfl : c1 = .int .i64 n1 := (List.cons.inj e1).1
      obtain rfl : c2 = .int .i64 n2 := (List.cons.inj e2).1
      refine ⟨⟨n0, n1, n2, bs⟩, fun b o ha => ⟨c3, fun j u hj => ?_, hr⟩, ?_⟩
      · have hjl : j < 4 := (List.getElem?_eq_some_iff.1 hj).1
        have h2 := hc j hjl
        rw [ha, Addr.add_mid, Addr.add_mid] at h2
        rw [h2]; exact hj
      · rcases hd with h0 | ⟨e, s, h3, h4⟩
        · exact .inl h0
        · refine .inr ⟨y0.1, y1.1, y2.1, e, s, ?_, h4⟩
          have := (Prod.mk.inj hD).1
          rw [this, h3]
    obtain ⟨B, hB⟩ := @choose_lt StepR ⟨⟨0, 0, 0, []⟩⟩ _ _ each
    refine ⟨(List.range n).map B, by simp, fun i hi => ?_, .inr ⟨_, _, (Prod.mk.inj hx).1, by simp, fun x hx => ?_⟩⟩
    · have hi' : i < n := by simpa using hi
      obtain ⟨b, o, rfl⟩ : ∃ b o, a = ⟨b, o, none⟩ := by
        rcases hsp with h0 | h1
        · omega
        · exact h1
      obtain ⟨v, h1, h2⟩ := (hB i hi').1 b o rfl
      refine ⟨b, o, v, rfl, ?_, ?_⟩
      · simpa using h1
      · simpa using h2
    · obtain ⟨i, hi, rfl⟩ := List.mem_map.1 hx
      have hi' := List.mem_range.1 hi
      rcases (hB i hi').2 with h0 | ⟨y0, y1, y2, e, s, hD, hl2⟩
      · exact .inl h0
      · exact .inr ⟨y0, y1, y2, e, s, List.mem_map.2 ⟨i, hi, hD⟩, hl2⟩
set_option maxRecDepth 100000 in
theorem script_lifted (os : Os) (started : os.Started) (H : Type) (enc : TypeId × Value → H) :
    ReturnsInHanded {} Tryd.checked os 5 .any (fun w args => (Rows.shaScriptSpec.pre enc Tryd.prog Tryd.f5 [] false w args ∧ laidMetH Tryd.prog Rows.shaScriptRow.laid w) ∧ sizedMet enc Tryd.prog Tryd.f5 (OpenSpec.ofChange Rows.shaScriptSpec) false w args)
      (Rows.shaScriptSpec.post enc Tryd.prog Tryd.f5 false true false false) := by
  refine returnsInHanded_of_change_and (C := Tryd.checked) (X := fun w _ => laidMetH Tryd.prog Rows.shaScriptRow.laid w) (fun _ _ _ hh h => h.of_heap hh) own started (by kernel_rfl) Tryd.func5
    (ChangeSpec.witness_at (enc := enc) (C := Tryd.checked) (os := os) (X := fun w _ => laidMetH Tryd.prog Rows.shaScriptRow.laid w) false (laidWorld os) #[.slice none 0 0] 8 rfl (by kernel_rfl) (by kernel_rfl) (by kernel_rfl) (by kernel_rfl) (by kernel_rfl) (laidWorld_met os _)) ?_
  intro W base args ds gs before hval0 hW _ hsz0 hL _
  have hsz : (DataW.weightsEach Tryd.prog (Tryd.f5.params.toList ++ Rows.shaScriptSpec.plain.varTypes Tryd.prog) (ds ++ gs)).all (· ≤ reachBytes) = true := hsz0
  have hval : ∀ (j : Nat) t v, Tryd.f5.params[j]? = some t → args[j]? = some v → Value.okWide Tryd.prog W .any base t v := hval0
  have hW' := hW
  obtain ⟨p, q, hA0, hV0, rfl, hfz, hnd⟩ := hW
  have hA : DataW.TrodAll enc Tryd.prog W 0 (fun _ => true) true Tryd.f5.params.toList args.toList ds p := hA0
  have hV : DataW.TrodVars enc Tryd.prog W (fun _ => true) [] gs q := hV0
  rw [Tryd.params5] at hA hval hsz
  obtain ⟨v0, vs0, d0, ds0, p0, q0, hargs, rfl, rfl, h0, r0⟩ := trodAll_cons hA
  obtain ⟨rfl, rfl, rfl⟩ := trodAll_nil r0
  obtain rfl : args = #[v0] := by cases args; simp_all
  obtain ⟨rfl, rfl⟩ : gs = [] ∧ q = [] := by
    cases gs with
    | nil => exact ⟨rfl, hV⟩
    | cons g r => exact absurd hV (by intro h; cases h)
  have k0 := h0
  have lt0 : ∀ x ∈ p0, x.block < W.heap.size := by obtain ⟨m, hm⟩ := k0; exact DataW.trod_lt m _ _ _ hm
  obtain ⟨fuel, hf⟩ := h0
  obtain ⟨a0, len0, cap0, rfl⟩ := okWide_slice Tryd.underlying39 (hval 0 39 v0 rfl rfl)
  have hf' : DataW.trod enc Tryd.prog W 0 (fun _ => true) true fuel 39 [.slice a0 len0 cap0] = some (d0, p0) := hf
  obtain ⟨ps, hn, hP, hbs⟩ := open_stepsC hf'
  have hnl : len0 ≤ 5864062014806 := by
    rcases hbs with rfl | ⟨elems, spare, rfl, h, _⟩
    · rw [hn]; exact Nat.zero_le _
    · have := sized_slice hsz (j := 0) (t := 39) (e := 41) rfl rfl Tryd.underlying39
      rw [bytesStep] at this
      simp only [reachBytes] at this
      omega
  have hps : ∀ x ∈ ps, x.dat.length ≤ 140737488355328 := by
    intro x hx
    rcases hbs with rfl | ⟨elems, spare, rfl, _, h⟩
    · cases hx
    · rcases h x hx with h0 | ⟨y0, y1, y2, e', sp', hm, h1⟩
      · omega
      · have := sized_step hsz (j := 0) (t := 39) (e := 41) (q := 5) rfl rfl Tryd.underlying39 Tryd.underlying41 22 rfl Tryd.underlying22 hm
        rw [bytesU8p] at this
        simp only [reachBytes] at this
        omega
  clear hA0 hval0 hsz0
  refine (script_any W (tabs_of_laid hL) a0 len0 cap0 ps hn hP hnl hps).mono fun e W' ⟨he, bel⟩ => ?_
  subst he
  exact ⟨_, rfl, _, _, _, [], _, [], hW', trodAll_mk1 (shut_bool Tryd.underlying4 true), (trodAll_cons_mk (Below.trod laidOut (by kernel_rfl) (of_decide_eq_true (by kernel_rfl)) k0 bel lt0) trodAll_mk0), rfl, bel.frame _, fun h => by cases h⟩
theorem script_holds : Rows.ShaScriptSaid :=
  OpenClaim.holds_of_wide 5 Tryd.f5 rfl rfl rfl rfl rfl rfl rfl ⟨rfl, rfl, rfl, rfl, rfl⟩ rfl rfl rfl rfl rfl (by kernel_rfl) Tryd.func5 (by kernel_rfl)
    (of_decide_eq_true (by kernel_rfl)) (by unfold Func.isWrapper; rw [if_neg (of_decide_eq_false (by kernel_rfl))]; exact ⟨rfl, rfl⟩)
    (fun os started H enc _ => script_lifted os started H enc)

theorem shaScriptCard_holds : Rows.ShaScriptCardSaid :=
  Claim7.holds_tied_plain_at .later [] [.data, .data, .data] true (true, "ad088c99dedee53b46daae59be5158bf463ea4f8b81f21c2b9bf23283b535b73") false
    script_holds (fun _ h => by cases h) (by kernel_rfl) (fun _ h => by cases h) shaScript_row_tie rfl ⟨rfl, rfl⟩ (by kernel_rfl) rfl
    (fun f fn hf hfn => by
      obtain rfl : f = 5 := Option.some.inj ((show Tryd.prog.funcNamed "gleaner/gleanerlaw02.ShaScript" = some 5 by kernel_rfl).symm.trans hf) |>.symm
      obtain rfl : fn = Tryd.f5 := (Option.some.inj (Tryd.func5.symm.trans hfn)).symm
      exact ⟨by kernel_rfl, fun j t ht => by
        rw [Tryd.params5] at ht
        have h3 : t = 39 := by
          rcases j with _ | j
          · simpa using ht.symm
          · simp at ht
        subst h3
        exact (show Tryd.prog.wantsStandIn 39 = false by kernel_rfl)⟩)
    (by kernel_rfl)
#print axioms shaScriptCard_holds
end Go.Proofs.YtbohbkjkcpncfaaDoor
