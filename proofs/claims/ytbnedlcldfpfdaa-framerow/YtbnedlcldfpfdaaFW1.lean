/- FrameRow: for every input the call returns true, and the argument reads afterwards as it read before. No condition. -/
import Derived.Test.YtbnedlcldfpfdaaRW2
import Derived.Test.YtbnedlcldfpfdaaFA1
namespace Go.Proofs.Ytbnedlcldfpfdaa
set_option linter.unusedVariables false
set_option linter.unusedSimpArgs false
open Go.ChangeShapes Go.WideShapes Go.ChangeAt Go.RowKit Go.Deep

theorem bytesSl : Try.prog.bytesOf 22 = 24 := by kernel_rfl
theorem cellsSS : Try.prog.cellsOf 31 = 1 := by kernel_rfl
theorem cellsRow : Try.prog.cellsOf 33 = 2 := by kernel_rfl
theorem weightsAll_mem {H : Type} {P : Program} {e : TypeId} : ∀ {l : List (DataW H)} {d : DataW H}, d ∈ l → ∀ n ∈ d.weights P e, n ∈ DataW.weightsAll P e l
  | d' :: r, d, hd, n, hn => by
    simp only [DataW.weightsAll, List.mem_append]
    rcases List.mem_cons.1 hd with rfl | h
    · exact Or.inl hn
    · exact Or.inr (weightsAll_mem h n hn)
theorem sized_fldIn {H : Type} {P : Program} {ts : List TypeId} {ds : List (DataW H)} (h : (DataW.weightsEach P ts ds).all (· ≤ reachBytes) = true) {j i : Nat} {t q r e : TypeId} {fs : Array Field} {l elems spare e' sp' : List (DataW H)}
    (ht : ts[j]? = some t) (hd : ds[j]? = some (.agg l)) (hu : P.underlying t = some (.struct fs)) (hf : (fs.toList.map (·.type))[i]? = some r) (hl : l[i]? = some (.slice elems spare)) (hu3 : P.underlying r = some (.slice e)) (hu4 : P.underlying e = some (.slice q)) (hx : DataW.slice e' sp' ∈ elems) : (e'.length + sp'.length) * P.bytesOf q ≤ reachBytes := by
  refine of_decide_eq_true (List.all_eq_true.1 h _ (DataW.weights_mem_each ht hd _ ?_))
  simp only [DataW.weights, hu]
  refine DataW.weights_mem_each (j := i) hf hl _ ?_
  simp only [DataW.weights, hu3, List.mem_cons, List.mem_append]
  exact Or.inr (Or.inl (weightsAll_mem hx _ (by simp [DataW.weights, hu4])))
theorem open_partsC {H : Type} {enc : TypeId × Value → H} {W : World} {fuel : Nat} {ap : Option Addr} {n c : Nat} {d : DataW H} {p : List MemPlace}
    (h : DataW.trod enc Try.prog W 0 (fun _ => true) true fuel 31 [.slice ap n c] = some (d, p)) :
    ∃ ps : List (List UInt8), n = ps.length ∧ Parts W ap ps ∧ ((ps = []) ∨ ∃ elems spare, d = .slice elems spare ∧ n = elems.length ∧ ∀ x ∈ ps, x.length = 0 ∨ ∃ e' sp', DataW.slice e' sp' ∈ elems ∧ x.length = e'.length) := by
  rcases open_slice1 Try.underlying31 cellsSl h with ⟨hcs, hx⟩ | ⟨a, len, cap, m, k, V, D, Pl, hcs, hb, hl, hm, hmm, hx, hxr⟩
  · obtain ⟨rfl, rfl, rfl⟩ := (Value.slice.injEq ..).mp (List.cons.inj hcs).1
    exact ⟨[], rfl, fun i hi => absurd hi (by simp), .inl rfl⟩
  · obtain ⟨rfl, rfl, rfl⟩ := (Value.slice.injEq ..).mp (List.cons.inj hcs).1
    simp only [if_true] at hmm
    have each : ∀ i, i < n → ∃ bs : List UInt8, RdA W (V i) bs ∧ (bs.length = 0 ∨ ∃ e s, D i = .slice e s ∧ bs.length = e.length) := by
      intro i hi
      obtain ⟨v, bs, hv, hr, hd⟩ := open_bytesC (hxr i (by omega)).2
      obtain rfl : V i = v := (List.cons.inj hv).1
      exact ⟨bs, hr, hd⟩
    obtain ⟨B, hB⟩ := choose_lt each
    refine ⟨(List.range n).map B, by simp, fun i hi => ?_, .inr ⟨_, _, (Prod.mk.inj hx).1, by simp, fun x hx => ?_⟩⟩
    · have hi' : i < n := by simpa using hi
      obtain ⟨b, o, rfl⟩ : ∃ b o, a = ⟨b, o, none⟩ := by
        obtain ⟨b, o, spot⟩ := a
        have hs : spot = none := by simpa [Addr.add] using World.cell?_spot (hxr 0 (by omega)).1
        exact ⟨b, o, by rw [hs]⟩
      refine ⟨b, o, V i, rfl, ?_, ?_⟩
      · have := (hxr i (by omega)).1
        rwa [Addr.add_mid] at this
      · simpa using (hB i hi').1
    · obtain ⟨i, hi, rfl⟩ := List.mem_map.1 hx
      have hi' := List.mem_range.1 hi
      rcases (hB i hi').2 with h0 | ⟨e, s, hD, hl2⟩
      · exact .inl h0
      · exact .inr ⟨e, s, List.mem_map.2 ⟨i, hi, hD⟩, hl2⟩
theorem open_row {H : Type} {enc : TypeId × Value → H} {W : World} {fuel : Nat} {cs : List Value} {x : DataW H × List MemPlace}
    (h : DataW.trod enc Try.prog W 0 (fun _ => true) true fuel 33 cs = some x) :
    ∃ (ap : Option Addr) (c : Nat) (ps : List (List UInt8)) (vA : Value) (hd : List UInt8) (d0 d1 : DataW H), cs = [.slice ap ps.length c, vA] ∧ Parts W ap ps ∧ RdA W vA hd ∧ x.1 = .agg [d0, d1] ∧
      ((ps = []) ∨ ∃ elems spare, d0 = .slice elems spare ∧ ps.length = elems.length ∧ ∀ x ∈ ps, x.length = 0 ∨ ∃ e' sp', DataW.slice e' sp' ∈ elems ∧ x.length = e'.length) ∧ (hd.length = 0 ∨ ∃ e s, d1 = .slice e s ∧ hd.length = e.length) := by
  obtain ⟨ys, n, _, rfl, hl, hlen, hf⟩ := DataW.trod_struct Try.underlying33 h
  rw [cellsRow] at hl
  match cs, hl with
  | [a, b], _ =>
    match ys, hlen with
    | [z0, z1], _ =>
      have g0 : DataW.trod enc Try.prog W 0 (fun _ => true) true n 31 (([a, b].drop 0).take (Try.prog.cellsOf 31)) = some z0 := hf 0 _ rfl
      have g1 : DataW.trod enc Try.prog W 0 (fun _ => true) true n 22 (([a, b].drop 1).take (Try.prog.cellsOf 22)) = some z1 := hf 1 _ rfl
      rw [cellsSS] at g0
      rw [cellsSl] at g1
      have g0' : DataW.trod enc Try.prog W 0 (fun _ => true) true n 31 [a] = some (z0.1, z0.2) := g0
      have g1' : DataW.trod enc Try.prog W 0 (fun _ => true) true n 22 [b] = some (z1.1, z1.2) := g1
      obtain ⟨vA, bs, e1, hr1, hd1⟩ := open_bytesC g1'
      obtain ⟨ap, nn, cc, rfl⟩ : ∃ ap nn cc, a = .slice ap nn cc := by
        rcases open_slice1 Try.underlying31 cellsSl g0' with ⟨hcs, _⟩ | ⟨ad, len, cap, _, _, _, _, _, hcs, _⟩
        · exact ⟨_, _, _, (List.cons.inj hcs).1⟩
        · exact ⟨_, _, _, (List.cons.inj hcs).1⟩
      obtain ⟨ps, rfl, hP, hd0⟩ := open_partsC g0'
      refine ⟨ap, cc, ps, vA, bs, z0.1, z1.1, by rw [(List.cons.inj e1).1], hP, hr1, by simp, hd0, hd1⟩
def zeroRow : Value := .agg #[.slice none 0 0, .slice none 0 0]
set_option maxRecDepth 100000 in
theorem frameRow_lifted (os : Os) (started : os.Started) (H : Type) (enc : TypeId × Value → H) :
    ReturnsInHanded {} Try.checked os 4 .any (Rows.frameRowSpec.pre6 enc Try.prog Try.f4 Rows.frameRowRow.domain false) (Rows.frameRowSpec.post enc Try.prog Try.f4 false true false false) := by
  refine returnsInHanded_of_change_sized (C := Try.checked) own started (by kernel_rfl) Try.func4
    (ChangeSpec.witness6 (enc := enc) (C := Try.checked) false ⟨#[], #[zeroRow], []⟩ 8 (by kernel_rfl) (by kernel_rfl) (by kernel_rfl) (by kernel_rfl)) ?_
  intro W base args ds gs before hval0 hW _ hsz0 _
  have hsz : (DataW.weightsEach Try.prog (Try.f4.params.toList ++ Rows.frameRowSpec.plain.varTypes Try.prog) (ds ++ gs)).all (· ≤ reachBytes) = true := hsz0
  have hval : ∀ (j : Nat) t v, Try.f4.params[j]? = some t → args[j]? = some v → Value.okWide Try.prog W .any base t v := hval0
  have hW' := hW
  obtain ⟨p, q, hA0, hV, rfl, hfz, hnd⟩ := hW
  have hA : DataW.TrodAll enc Try.prog W 0 (fun _ => true) true Try.f4.params.toList args.toList ds p := hA0
  rw [Try.params4] at hA hval hsz
  obtain ⟨v0, vs0, d0, ds0, p0, q0, hargs, rfl, rfl, h0, r0⟩ := trodAll_cons hA
  obtain ⟨rfl, rfl, rfl⟩ := trodAll_nil r0
  obtain rfl : args = #[v0] := by cases args; simp_all
  obtain ⟨rfl, rfl⟩ := trodVars_none hV
  have k0 := h0
  have lt0 : ∀ x ∈ p0, x.block < W.heap.size := by obtain ⟨m, hm⟩ := k0; exact DataW.trod_lt m _ _ _ hm
  obtain ⟨cs0, rfl, hcs0⟩ := okWide_struct Try.underlying33 (hval 0 33 v0 rfl rfl)
  obtain ⟨fuel0, hf0⟩ := h0
  obtain ⟨ap, c, ps, vA, hd, e0, e1, hx, hP, hrA, hdx, hx0, hx1⟩ := open_row hf0
  have hdx' : d0 = .agg [e0, e1] := hdx
  have hAl : hd.length ≤ 140737488355328 := by
    rcases hx1 with h0 | ⟨e, s, rfl, hl⟩
    · omega
    · have := sized_fld hsz (j := 0) (i := 1) rfl (by rw [hdx']; rfl) Try.underlying33 rfl rfl Try.underlying22
      rw [bytesU8] at this
      simp only [reachBytes] at this
      omega
  have hpl : ps.length ≤ 5864062014806 := by
    rcases hx0 with rfl | ⟨e, s, rfl, hl, _⟩
    · simp
    · have := sized_fld hsz (j := 0) (i := 0) rfl (by rw [hdx']; rfl) Try.underlying33 rfl rfl Try.underlying31
      rw [bytesSl] at this
      simp only [reachBytes] at this
      omega
  have hpb : ∀ j (h : j < ps.length), ps[j].length ≤ 140737488355328 := by
    intro j hj
    rcases hx0 with rfl | ⟨e, s, rfl, hl, hin⟩
    · simp at hj
    · rcases hin ps[j] (List.getElem_mem hj) with h0 | ⟨e', sp', hm, hl'⟩
      · omega
      · have := sized_fldIn hsz (j := 0) (i := 0) rfl (by rw [hdx']; rfl) Try.underlying33 rfl rfl Try.underlying31 Try.underlying22 hm
        rw [bytesU8] at this
        simp only [reachBytes] at this
        omega
  have ex : Value.agg cs0 = .agg #[.slice ap ps.length c, vA] := by
    congr 1
    have : cs0.toList = [.slice ap ps.length c, vA] := hx
    exact Array.toList_inj.mp this
  clear hA0 hval0 hsz0
  have hlaw := frameRow_any W ap c ps hP vA hd hrA hAl hpl hpb
  rw [← ex] at hlaw
  refine hlaw.mono fun e W' ⟨he, bel⟩ => ?_
  subst he
  exact ⟨_, rfl, _, _, _, [], _, [], hW', trodAll_mk1 (shut_bool Try.underlying4 _), (trodAll_cons_mk (Below.trod laidOut (by kernel_rfl) (of_decide_eq_true (by kernel_rfl)) k0 bel lt0) trodAll_mk0), rfl, bel.frame _, fun h => by cases h⟩

theorem frameRow_holds : Rows.FrameRowSaid :=
  OpenClaim.holds_of_wide 4 Try.f4 rfl rfl rfl rfl rfl rfl rfl ⟨rfl, rfl, rfl, rfl, rfl⟩ rfl rfl rfl rfl rfl (by kernel_rfl) Try.func4 (by kernel_rfl)
    (of_decide_eq_true (by kernel_rfl)) (by unfold Func.isWrapper; first | (rw [if_pos (by decide +kernel)]; kernel_rfl) | (rw [if_neg (by decide +kernel)]; exact ⟨rfl, rfl⟩))
    (fun os started H enc _ => frameRow_lifted os started H enc)
#print axioms frameRow_holds
end Go.Proofs.Ytbnedlcldfpfdaa
