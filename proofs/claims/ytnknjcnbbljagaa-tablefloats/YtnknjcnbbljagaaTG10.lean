/- TableFloats: for every input the call returns true, and the argument reads afterwards as it read before. No condition beside the form's own reach. -/
import Derived.Test.YtnknjcnbbljagaaTO1
import Derived.Test.YtnknjcnbbljagaaTG6
namespace Go.Proofs.Ytnknjcnbbljagaa
set_option linter.unusedVariables false
set_option linter.unusedSimpArgs false
namespace FF
open Go.ChangeShapes Go.WideShapes Go.ChangeAt Go.RowKit Go.Deep

theorem cellsU64 : Try.prog.cellsOf 31 = 1 := by kernel_rfl
theorem cellsBits : Try.prog.cellsOf 57 = 3 := by kernel_rfl
theorem bytesBits : Try.prog.bytesOf 57 = 24 := by kernel_rfl
theorem cs3 {cs : List Value} (h : cs.length = 3) : ∃ a b c, cs = [a, b, c] := by
  match cs, h with
  | [a, b, c], _ => exact ⟨a, b, c, rfl⟩
theorem open_bitsC {H : Type} {enc : TypeId × Value → H} {W : World} {fuel : Nat} {cs : List Value} {x : DataW H × List MemPlace}
    (h : DataW.trod enc Try.prog W 0 (fun _ => true) true fuel 57 cs = some x) : ∃ (k : Nat) (v : Int) (o : Bool), k < 18446744073709551616 ∧ cs = [.int .u64 (k : Int), .int .i64 v, .bool o] := by
  obtain ⟨ys, m, _, hx, hlen, hyl, hfl⟩ := DataW.trod_struct Try.underlying57 h
  rw [cellsBits] at hlen
  have hyl3 : ys.length = 3 := hyl
  obtain ⟨a, b, c, rfl⟩ := cs3 hlen
  have t0 : DataW.trod enc Try.prog W 0 (fun _ => true) true m 31 (([a, b, c].drop 0).take (Try.prog.cellsOf 31)) = ys[0]? := hfl 0 _ rfl
  have t1 : DataW.trod enc Try.prog W 0 (fun _ => true) true m 3 (([a, b, c].drop 1).take (Try.prog.cellsOf 3)) = ys[1]? := hfl 1 _ rfl
  have t2 : DataW.trod enc Try.prog W 0 (fun _ => true) true m 4 (([a, b, c].drop 2).take (Try.prog.cellsOf 4)) = ys[2]? := hfl 2 _ rfl
  rw [cellsU64, List.getElem?_eq_getElem (by omega)] at t0
  rw [cellsInt, List.getElem?_eq_getElem (by omega)] at t1
  rw [cellsBool, List.getElem?_eq_getElem (by omega)] at t2
  obtain ⟨n0, f0, _, w0⟩ := DataW.trod_int Try.underlying31 t0
  obtain ⟨n1, f1, _, _⟩ := DataW.trod_int Try.underlying3 t1
  obtain ⟨l, f2, _⟩ := DataW.trod_bool Try.underlying4 t2
  have b1 : 0 ≤ n0 ∧ n0 ≤ 18446744073709551615 := by simpa [Lit.wf, IntKind.min, IntKind.max, IntKind.signed, IntKind.bits] using w0
  obtain ⟨k, rfl⟩ := Int.eq_ofNat_of_zero_le b1.1
  simp at f0 f1 f2
  exact ⟨k, n1, l, by omega, by rw [f0, f1, f2]⟩
theorem open_bits {H : Type} {enc : TypeId × Value → H} {W : World} {fuel : Nat} {v : Value} {d : DataW H} {p : List MemPlace}
    (h : DataW.trod enc Try.prog W 0 (fun _ => true) true fuel 48 [v] = some (d, p)) : ∃ aa n c, v = .slice aa n c ∧ BitsAt W aa n ∧ (n = 0 ∨ ∃ e s, d = .slice e s ∧ n = e.length) := by
  rcases open_slice Try.underlying48 h with ⟨hcs, hx⟩ | ⟨a, len, cap, m, q, D, Pl, hcs, _, hl, hm, hmm, hx, hxr⟩
  · exact ⟨none, 0, 0, (List.cons.inj hcs).1, fun i hi => absurd hi (by omega), .inl rfl⟩
  · refine ⟨some a, len, cap, (List.cons.inj hcs).1, ?_, .inr ⟨_, _, (Prod.mk.inj hx).1, by simp⟩⟩
    simp only [if_true] at hmm
    rw [cellsBits] at hxr
    intro i hi
    obtain ⟨cs', h1, ht⟩ := hxr i (by omega)
    obtain ⟨_, hl6, hc⟩ := World.cells?_some h1
    obtain ⟨k, vv, oo, hk, rfl⟩ := open_bitsC ht
    obtain ⟨b, o, rfl⟩ : ∃ b o, a = ⟨b, o, none⟩ := by
      obtain ⟨cs0, h10, _⟩ := hxr 0 (by omega)
      obtain ⟨_, hl0, hc0⟩ := World.cells?_some h10
      have h2 := hc0 0 (by omega)
      rw [List.getElem?_eq_getElem (by omega)] at h2
      obtain ⟨b, o, spot⟩ := a
      have hs : spot = none := by simpa [Addr.add] using World.cell?_spot h2
      exact ⟨b, o, by rw [hs]⟩
    have hr : W.rangeAt b (o + i * 3) [.int .u64 (k : Int), .int .i64 vv, .bool oo] := fun j u hj => by
      have hjl : j < 3 := (List.getElem?_eq_some_iff.1 hj).1
      have h2 := hc j hjl
      rw [Addr.add_mid, Addr.add_mid] at h2
      rw [h2]; exact hj
    exact ⟨b, o, rfl, World.block_lt_of_cell? W _ (hr 0 _ rfl), k, vv, oo, hk, hr 0 _ rfl, hr 1 _ rfl, hr 2 _ rfl⟩
theorem sized_top {H : Type} {P : Program} {ts : List TypeId} {ds : List (DataW H)} (h : (DataW.weightsEach P ts ds).all (· ≤ reachBytes) = true) {j : Nat} {t q : TypeId} {elems spare : List (DataW H)}
    (ht : ts[j]? = some t) (hd : ds[j]? = some (.slice elems spare)) (hu : P.underlying t = some (.slice q)) : (elems.length + spare.length) * P.bytesOf q ≤ reachBytes := by
  refine of_decide_eq_true (List.all_eq_true.1 h _ (DataW.weights_mem_each ht hd _ ?_))
  simp [DataW.weights, hu]
set_option maxRecDepth 100000 in
theorem tableFloats_lifted (os : Os) (started : os.Started) (H : Type) (enc : TypeId × Value → H) :
    ReturnsInHanded {} Try.checked os 5 .any (Rows.tableFloatsSpec.pre6 enc Try.prog Try.f5 Rows.tableFloatsRow.domain false) (Rows.tableFloatsSpec.post enc Try.prog Try.f5 false true false false) := by
  refine returnsInHanded_of_change_sized (C := Try.checked) own started (by kernel_rfl) Try.func5
    (ChangeSpec.witness6 (enc := enc) (C := Try.checked) false ⟨#[], #[.slice none 0 0], []⟩ 8 (by kernel_rfl) (by kernel_rfl) (by kernel_rfl) (by kernel_rfl)) ?_
  intro W base args ds gs before hval0 hW _ hsz0 _
  have hsz : (DataW.weightsEach Try.prog (Try.f5.params.toList ++ Rows.tableFloatsSpec.plain.varTypes Try.prog) (ds ++ gs)).all (· ≤ reachBytes) = true := hsz0
  have hW' := hW
  obtain ⟨p, q, hA0, hV, rfl, hfz, hnd⟩ := hW
  have hA : DataW.TrodAll enc Try.prog W 0 (fun _ => true) true Try.f5.params.toList args.toList ds p := hA0
  have hval : ∀ (j : Nat) t v, Try.f5.params[j]? = some t → args[j]? = some v → Value.okWide Try.prog W .any base t v := hval0
  rw [Try.params5] at hA hval hsz
  obtain ⟨v0, vs0, d0, ds0, p0, q0, hargs, rfl, rfl, h0, r0⟩ := trodAll_cons hA
  obtain ⟨rfl, rfl, rfl⟩ := trodAll_nil r0
  obtain rfl : args = #[v0] := by cases args; simp_all
  obtain ⟨rfl, rfl⟩ := trodVars_none hV
  have k0 := h0
  have lt0 : ∀ x ∈ p0, x.block < W.heap.size := by obtain ⟨m, hm⟩ := k0; exact DataW.trod_lt m _ _ _ hm
  obtain ⟨a0, len0, cap0, rfl⟩ := okWide_slice Try.underlying48 (hval 0 48 v0 rfl rfl)
  obtain ⟨fuel0, hf0⟩ := h0
  have hf' : DataW.trod enc Try.prog W 0 (fun _ => true) true fuel0 48 [.slice a0 len0 cap0] = some (d0, p0) := hf0
  obtain ⟨aa, n, c, ex, hS, hn⟩ := open_bits hf'
  have hn' : n ≤ 5864062014634 := by
    rcases hn with h0 | ⟨e, s, rfl, hl⟩
    · omega
    · have := sized_top hsz (j := 0) (t := 48) (q := 57) rfl rfl Try.underlying48
      rw [bytesBits] at this
      simp only [reachBytes] at this
      omega
  clear hA0 hval0 hsz0
  have hlaw := floats_any W aa n c hS hn'
  rw [← ex] at hlaw
  refine hlaw.mono fun e W' ⟨he, bel⟩ => ?_
  subst he
  exact ⟨_, rfl, _, _, _, [], _, [], hW', trodAll_mk1 (shut_bool Try.underlying4 _), (trodAll_cons_mk (Below.trod laidOut (by kernel_rfl) (of_decide_eq_true (by kernel_rfl)) k0 bel lt0) trodAll_mk0), rfl, bel.frame _, fun h => by cases h⟩
end FF
open Go.ChangeShapes Go.WideShapes Go.ChangeAt Go.RowKit Go.Deep in
theorem tableFloats_holds : Rows.TableFloatsSaid :=
  OpenClaim.holds_of_wide 5 Try.f5 rfl rfl rfl rfl rfl rfl rfl ⟨rfl, rfl, rfl, rfl, rfl⟩ rfl rfl rfl rfl rfl (by kernel_rfl) Try.func5 (by kernel_rfl)
    (of_decide_eq_true (by kernel_rfl)) (by unfold Func.isWrapper; first | (rw [if_pos (by decide +kernel)]; kernel_rfl) | (rw [if_neg (by decide +kernel)]; exact ⟨rfl, rfl⟩))
    (fun os started H enc _ => FF.tableFloats_lifted os started H enc)
#print axioms tableFloats_holds
end Go.Proofs.Ytnknjcnbbljagaa
