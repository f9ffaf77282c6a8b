/- GearWhole: for every input whose reading is of bulk at most 1048576 the call returns true, and each argument reads afterwards as it read before: the second form's tied card. Its conditions: that bulk; the two listed variables start as the program's text lays them. -/
import Derived.Test.YtamajnaeladehaaDoorGC0
import Derived.Test.YtamajnaeladehaaDoorGW8
namespace Go.Proofs.YtamajnaeladehaaDoor
set_option linter.unusedVariables false
set_option linter.unusedSimpArgs false
open Go.ChangeShapes Go.WideShapes Go.ChangeAt Go.RowKit Go.Deep

theorem cellsSlp : Tryd.prog.cellsOf 24 = 1 := by kernel_rfl
theorem open_partsC {H : Type} {enc : TypeId × Value → H} {W : World} {fuel : Nat} {ap : Option Addr} {n c : Nat} {d : DataW H} {p : List MemPlace}
    (h : DataW.trod enc Tryd.prog W 0 (fun _ => true) true fuel 42 [.slice ap n c] = some (d, p)) :
    ∃ ps : List (List UInt8), n = ps.length ∧ Parts W ap ps ∧ ((ps = []) ∨ ∃ elems spare, d = .slice elems spare ∧ n = elems.length ∧ ∀ x ∈ ps, x.length = 0 ∨ ∃ e' sp', DataW.slice e' sp' ∈ elems ∧ x.length = e'.length) := by
  rcases open_slice1 Tryd.underlying42 cellsSlp h with ⟨hcs, hx⟩ | ⟨a, len, cap, m, k, V, D, Pl, hcs, hb, hl, hm, hmm, hx, hxr⟩
  · obtain ⟨rfl, rfl, rfl⟩ := (Value.slice.injEq ..).mp (List.cons.inj hcs).1
    exact ⟨[], rfl, fun i hi => absurd hi (by simp), .inl rfl⟩
  · obtain ⟨rfl, rfl, rfl⟩ := (Value.slice.injEq ..).mp (List.cons.inj hcs).1
    simp only [if_true] at hmm
    have each : ∀ i, i < n → ∃ bs : List UInt8, RdA W (V i) bs ∧ (bs.length = 0 ∨ ∃ e s, D i = .slice e s ∧ bs.length = e.length) := by
      intro i hi
      obtain ⟨v, bs, hv, hr, hd⟩ := open_bytesC (hxr i (by omega)).2
      obtain rfl : V i = v := (List.cons.inj hv).1
      exact ⟨bs, hr, hd⟩
    obtain ⟨B, hB⟩ := choose_lt each
    refine ⟨(List.range n).map B, by simp, fun i hi => ?_, .inr ⟨_, _, (Prod.mk.inj hx).1, by simp, fun x hx => ?_⟩⟩
    · have hi' : i < n := by simpa using hi
      obtain ⟨b, o, rfl⟩ : ∃ b o, a = ⟨b, o, none⟩ := by
        obtain ⟨b, o, spot⟩ := a
        have hs : spot = none := by simpa [Addr.add] using World.cell?_spot (hxr 0 (by omega)).1
        exact ⟨b, o, by rw [hs]⟩
      refine ⟨b, o, V i, rfl, ?_, ?_⟩
      · have := (hxr i (by omega)).1
        rwa [Addr.add_mid] at this
      · simpa using (hB i hi').1
    · obtain ⟨i, hi, rfl⟩ := List.mem_map.1 hx
      have hi' := List.mem_range.1 hi
      rcases (hB i hi').2 with h0 | ⟨e, s, hD, hl2⟩
      · exact .inl h0
      · exact .inr ⟨e, s, List.mem_map.2 ⟨i, hi, hD⟩, hl2⟩
theorem bulk_mem {H : Type} : ∀ {l : List (DataW H)} {d : DataW H}, d ∈ l → Rows.uptoBulk d ≤ Rows.uptoBulkAll l
  | d' :: r, d, hd => by
    simp only [Rows.uptoBulkAll]
    rcases List.mem_cons.1 hd with rfl | h
    · omega
    · have := bulk_mem h; omega
/-- Parts, and how much they count. -/
theorem open_partsB {H : Type} {enc : TypeId × Value → H} {W : World} {fuel : Nat} {ap : Option Addr} {n c : Nat} {d : DataW H} {p : List MemPlace}
    (h : DataW.trod enc Tryd.prog W 0 (fun _ => true) true fuel 42 [.slice ap n c] = some (d, p)) :
    ∃ ps : List (List UInt8), n = ps.length ∧ Parts W ap ps ∧ n ≤ Rows.uptoBulk d ∧ ∀ x ∈ ps, x.length ≤ Rows.uptoBulk d := by
  obtain ⟨ps, hn, hP, hb⟩ := open_partsC h
  refine ⟨ps, hn, hP, ?_⟩
  rcases hb with rfl | ⟨elems, spare, rfl, hl, he⟩
  · exact ⟨by rw [hn]; exact Nat.zero_le _, fun x hx => by cases hx⟩
  · have h1 := len_bulk elems
    refine ⟨by simp only [Rows.uptoBulk]; omega, fun x hx => ?_⟩
    rcases he x hx with h0 | ⟨e', sp', hm, hl2⟩
    · omega
    · have h2 := bulk_mem hm
      have h3 := len_bulk e'
      simp only [Rows.uptoBulk] at h2 ⊢
      omega
set_option maxRecDepth 100000 in
theorem whole_contract (H : Type) (enc : TypeId × Value → H) (W : World) (base : Nat) (args : Array Value) (ds gs : List (DataW H)) (before : List MemPlace)
    (hval : ∀ (j : Nat) t v, Tryd.f6.params[j]? = some t → args[j]? = some v → Value.okWide Tryd.prog W .any base t v)
    (hW : DataW.Whole enc Tryd.prog Tryd.f6.params.toList Rows.gearWholeSpec.vars false W args.toList ds gs before) (hL : laidMetH Tryd.prog Rows.gearWholeUptoRow.laid W) (hk : Rows.uptoSmall H (ds ++ gs) = true) :
    Calls Tryd.prog 6 args W fun e W' => ∃ v, e = .returned v ∧ Rows.gearWholeSpec.post enc Tryd.prog Tryd.f6 false true false false W args v W' := by
  have hW' := hW
  obtain ⟨p, q, hA0, hV, rfl, hfz, hnd⟩ := hW
  have hA : DataW.TrodAll enc Tryd.prog W 0 (fun _ => true) true Tryd.f6.params.toList args.toList ds p := hA0
  rw [Tryd.params6] at hA hval
  obtain ⟨v0, vs0, d0, ds0, p0, q0, hargs, rfl, rfl, h0, r0⟩ := trodAll_cons hA
  obtain ⟨v1, vs1, d1, ds1, p1, q1, rfl, rfl, rfl, h1, r1⟩ := trodAll_cons r0
  obtain ⟨rfl, rfl, rfl⟩ := trodAll_nil r1
  obtain rfl : args = #[v0, v1] := by cases args; simp_all
  obtain ⟨rfl, rfl⟩ := trodVars_none hV
  have k0 := h0
  have k1 := h1
  have lt0 : ∀ x ∈ p0, x.block < W.heap.size := by obtain ⟨m, hm⟩ := k0; exact DataW.trod_lt m _ _ _ hm
  have lt1 : ∀ x ∈ p1, x.block < W.heap.size := by obtain ⟨m, hm⟩ := k1; exact DataW.trod_lt m _ _ _ hm
  obtain ⟨cs, rfl, hcs⟩ := okWide_struct Tryd.underlying26 (hval 0 26 v0 rfl rfl)
  obtain ⟨a1, len1, cap1, rfl⟩ := okWide_slice Tryd.underlying42 (hval 1 42 v1 rfl rfl)
  obtain ⟨fuel0, hf0⟩ := h0
  obtain ⟨fuel1, hf1⟩ := h1
  obtain ⟨mn, me, mx, dv, X, hcs2, _, _, _, hrX, hbX⟩ := open_askC hf0
  have hf1' : DataW.trod enc Tryd.prog W 0 (fun _ => true) true fuel1 42 [.slice a1 len1 cap1] = some (d1, p1) := hf1
  obtain ⟨ps, hn, hP, hbn, hbp⟩ := open_partsB hf1'
  have e : Value.agg cs = askV mn me mx dv := by
    unfold askV
    congr 1
    apply Array.ext'
    exact hcs2
  have hbX' : X.length ≤ Rows.uptoBulk d0 := hbX
  clear hbX
  have hkb := small_le hk
  simp only [List.append_nil, Rows.uptoBulkAll] at hkb
  clear hA0
  have hlaw := whole_law W (tabs_of_laid hL) mn me mx dv X hrX a1 len1 cap1 ps hn hP (by omega) (fun x hx => by have := hbp x hx; omega)
  rw [← e] at hlaw
  refine hlaw.mono fun e W' ⟨he, bel⟩ => ?_
  subst he
  exact ⟨_, rfl, _, _, _, [], _, [], hW', trodAll_mk1 (shut_bool Tryd.underlying4 true), (trodAll_cons_mk (Below.trod laidOut (by kernel_rfl) (of_decide_eq_true (by kernel_rfl)) k0 bel lt0) (trodAll_cons_mk (Below.trod laidOut (by kernel_rfl) (of_decide_eq_true (by kernel_rfl)) k1 bel lt1) trodAll_mk0)), rfl, bel.frame _, fun h => by cases h⟩
def wholeArgs : Array Value := #[askV 0 0 0 (.slice none 0 0), .slice none 0 0]
theorem whole_met (os : Os) : laidMet Tryd.prog Rows.gearWholeUptoRow.laid ((laidWorld os).forCall (fun _ _ => 0) ⟨#[], wholeArgs, []⟩).memory :=
  laidMet_of_run' 8 (by kernel_rfl) (by kernel_rfl)
theorem whole_reads (os : Os) {H : Type} (enc : TypeId × Value → H) : ∃ places, DataW.whole enc Tryd.prog ((laidWorld os).forCall (fun _ _ => 0) ⟨#[], wholeArgs, []⟩).memory Tryd.f6.params.toList Rows.gearWholeSpec.vars false wholeArgs.toList 8 = some ([.agg [.agg [.lit (.int .i64 0), .lit (.int .i64 0), .lit (.int .i64 0)], .nil], .nil], [], places) :=
  ⟨[], by kernel_rfl⟩
set_option maxRecDepth 100000 in
theorem whole_lifted (os : Os) (started : os.Started) (H : Type) (enc : TypeId × Value → H) (F : Stop.Interp) :
    ReturnsInHanded {} Tryd.checked os 6 .any ((Rows.OpenSpec.upto Rows.gearWholeSpec).preRow enc Tryd.prog Tryd.f6 Rows.gearWholeUptoRow.domain false Rows.gearWholeUptoRow.laid) (((Rows.OpenSpec.upto Rows.gearWholeSpec).at F).post enc Tryd.prog Tryd.f6 false true false false) := by
  obtain ⟨places, hx⟩ := whole_reads os enc
  refine returnsInHanded_of_row (C := Tryd.checked) (s := Rows.OpenSpec.upto Rows.gearWholeSpec) own started (by kernel_rfl) Tryd.func6
    (witness_row_at (enc := enc) (C := Tryd.checked) false (laidWorld os) wholeArgs rfl (by kernel_rfl) (by kernel_rfl) (by kernel_rfl)
      (OpenSpec.preRow_of_cond 8 hx (by kernel_rfl) (fun k hk => by cases hk; kernel_rfl) (by kernel_rfl) (whole_met os))) ?_
  intro W base args ds gs before hval hW _ hcond _ hL _ _
  exact whole_contract H enc W base args ds gs before hval hW hL (hcond _ rfl)
theorem wholeUpto_holds : Rows.GearWholeUptoSaid :=
  OpenClaim.holds_of_cond 6 Tryd.f6 rfl rfl rfl rfl rfl rfl rfl ⟨rfl, rfl, rfl, rfl, rfl⟩ rfl rfl rfl rfl rfl (by kernel_rfl) Tryd.func6 (by kernel_rfl)
    (of_decide_eq_true (by kernel_rfl)) (by unfold Func.isWrapper; first | (rw [if_pos (by decide +kernel)]; kernel_rfl) | (rw [if_neg (by decide +kernel)]; exact ⟨rfl, rfl⟩))
    (fun os started H enc _ F => by rw [OpenClaim.pre_eq_preRow]; exact whole_lifted os started H enc F)
theorem whole_plain (f : FuncId) (fn : Func) (hf : Tryd.pinned.checked.prog.funcNamed "gleaner/gleanerlaw05.GearWhole" = some f) (hfn : Tryd.pinned.checked.prog.funcs[f]? = some fn) :
    false = Tryd.pinned.checked.prog.looks [] ∧ ∀ (j : Nat) t, fn.params[j]? = some t → Tryd.pinned.checked.prog.wantsStandIn t = false := by
  obtain rfl : f = 6 := Option.some.inj ((show Tryd.prog.funcNamed "gleaner/gleanerlaw05.GearWhole" = some 6 by kernel_rfl).symm.trans hf) |>.symm
  obtain rfl : fn = Tryd.f6 := (Option.some.inj (Tryd.func6.symm.trans hfn)).symm
  refine ⟨by kernel_rfl, fun j t ht => ?_⟩
  rw [Tryd.params6] at ht
  have ht2 : t = 26 ∨ t = 42 := by
    have := Array.mem_of_getElem? ht
    simp at this
    omega
  rcases ht2 with rfl | rfl
  · exact (show Tryd.prog.wantsStandIn 26 = false by kernel_rfl)
  · exact (show Tryd.prog.wantsStandIn 42 = false by kernel_rfl)
theorem gearWholeUptoCard_holds : Rows.GearWholeUptoCardSaid :=
  Claim7.holds_tied_plain_at .later [] _ _ _ _ wholeUpto_holds (fun _ h => by cases h) (by kernel_rfl) (fun _ h => by cases h) gearWholeUpto_row_tie rfl ⟨rfl, rfl⟩ (by kernel_rfl) rfl whole_plain (by kernel_rfl)
#print axioms gearWholeUptoCard_holds
end Go.Proofs.YtamajnaeladehaaDoor
