/- ArenaNil: for every input the call returns true, and each argument reads afterwards as it read before. No condition beside the form's own reach. -/
import Derived.Test.YtffoadmaihpgoaaAN6
import Derived.Test.YtffoadmaihpgoaaRows
import Derived.ChangeSame
import Derived.ChangeVars
import Derived.JoinedOf
import Derived.RowKit
import Derived.ProofKit
import Derived.OpenShut
import Derived.ChangeOld
import Derived.SizedLaws
import Derived.Deep.Slices
import Derived.Deep.Strs
import Derived.Lib.SmallJoins
namespace Go.Proofs.Ytffoadmaihpgoaa
set_option linter.unusedVariables false
set_option linter.unusedSimpArgs false
open Go.ChangeShapes Go.WideShapes Go.ChangeAt Go.RowKit Go.Deep

theorem own : ownKnob Try.prog.godebug = none := by kernel_rfl
theorem laidOut : laidOutB Try.prog = true := by kernel_rfl
theorem cellsU8 : Try.prog.cellsOf 5 = 1 := by kernel_rfl
theorem bytesU8 : Try.prog.bytesOf 5 = 1 := by kernel_rfl
theorem cellsInt : Try.prog.cellsOf 3 = 1 := by kernel_rfl
theorem cellsBool : Try.prog.cellsOf 4 = 1 := by kernel_rfl
theorem cellsSD : Try.prog.cellsOf 42 = 1 := by kernel_rfl
theorem cellsPlace : Try.prog.cellsOf 37 = 2 := by kernel_rfl
theorem cellsStep : Try.prog.cellsOf 44 = 6 := by kernel_rfl
theorem spot_none {w : World} {x : Addr} {v : Value} (h : w.cell? (x.add 0) = some v) : ∃ b o, x = ⟨b, o, none⟩ := by
  obtain ⟨b, o, spot⟩ := x
  have hs : spot = none := by simpa [Addr.add] using World.cell?_spot h
  exact ⟨b, o, by rw [hs]⟩
theorem open_bytesC {H : Type} {enc : TypeId × Value → H} {W : World} {fuel : Nat} {cs : List Value} {d : DataW H} {p : List MemPlace}
    (h : DataW.trod enc Try.prog W 0 (fun _ => true) true fuel 42 cs = some (d, p)) :
    ∃ (v : Value) (bs : List UInt8), cs = [v] ∧ RdA W v bs ∧ ((bs.length = 0) ∨ ∃ elems spare, d = .slice elems spare ∧ bs.length = elems.length) := by
  rcases open_ints Try.underlying42 Try.underlying5 cellsU8 h with ⟨hcs, hx⟩ | ⟨x, len, cap, zs, hcs, _, hl, hm, hz, hx, hcell, hwz⟩
  · exact ⟨_, [], hcs, .inl (Rd_none W), .inl rfl⟩
  · have hz' : zs.length = cap := by simpa using hz
    have hd : d = .slice (lits .u8 (zs.take len)) (lits .u8 (zs.drop len)) := (Prod.mk.inj hx).1
    have hlen : ((zs.take len).map fun z => UInt8.ofNat z.toNat).length = len := by simp; omega
    refine ⟨_, (zs.take len).map fun z => UInt8.ofNat z.toNat, hcs, ?_, .inr ⟨_, _, hd, by simp [lits]⟩⟩
    rcases Nat.eq_zero_or_pos cap with h0 | hpos
    · obtain rfl : zs = [] := List.eq_nil_of_length_eq_zero (by omega)
      obtain rfl : len = 0 := by omega
      obtain rfl : cap = 0 := h0
      exact .inr ⟨x, rfl, rfl⟩
    · obtain ⟨b, o, rfl⟩ := spot_none (hcell 0 (by omega))
      left
      refine ⟨some ⟨b, o, none⟩, cap, by rw [hlen], by rw [hlen]; exact hl, hm, .inr ⟨b, o, rfl, fun i hi => ?_⟩⟩
      rw [hlen] at hi
      have := hcell i (by omega)
      rw [Addr.add_mid] at this
      rw [this]
      have hw := hwz (zs.getD i 0) (by rw [List.getD_eq_getElem?_getD, List.getElem?_eq_getElem (by omega)]; exact List.getElem_mem _)
      have hb : 0 ≤ zs.getD i 0 ∧ zs.getD i 0 ≤ 255 := by simpa [Lit.wf, IntKind.min, IntKind.max, IntKind.signed, IntKind.bits] using hw
      unfold u8c
      congr 2
      rw [List.getD_eq_getElem?_getD, List.getElem?_eq_getElem (by omega)] at hb ⊢
      simp only [Option.getD_some] at hb ⊢
      simp only [List.getElem_map, List.getElem_take, UInt8.toNat_ofNat']
      omega
theorem cs6 {cs : List Value} (h : cs.length = 6) : ∃ a b c d e f, cs = [a, b, c, d, e, f] := by
  match cs, h with
  | [a, b, c, d, e, f], _ => exact ⟨a, b, c, d, e, f, rfl⟩
theorem open_stepC {H : Type} {enc : TypeId × Value → H} {W : World} {fuel : Nat} {cs : List Value} {x : DataW H × List MemPlace}
    (h : DataW.trod enc Try.prog W 0 (fun _ => true) true fuel 44 cs = some x) : ∃ (k s f n : Int) (v : Value) (xs : List UInt8) (l : Bool) (parts : List (DataW H)), cs = (stepL k s f n v l).toList ∧ RdA W v xs ∧ x.1 = .agg parts ∧ (xs.length = 0 ∨ ∃ e sp, parts[3]? = some (.slice e sp) ∧ xs.length = e.length) := by
  obtain ⟨ys, m, _, hx, hlen, hyl, hfl⟩ := DataW.trod_struct Try.underlying44 h
  rw [cellsStep] at hlen
  have hyl5 : ys.length = 5 := hyl
  obtain ⟨a, b, c, d, e, f, rfl⟩ := cs6 hlen
  have t0 : DataW.trod enc Try.prog W 0 (fun _ => true) true m 3 (([a, b, c, d, e, f].drop 0).take (Try.prog.cellsOf 3)) = ys[0]? := hfl 0 _ rfl
  have t1 : DataW.trod enc Try.prog W 0 (fun _ => true) true m 37 (([a, b, c, d, e, f].drop 1).take (Try.prog.cellsOf 37)) = ys[1]? := hfl 1 _ rfl
  have t2 : DataW.trod enc Try.prog W 0 (fun _ => true) true m 3 (([a, b, c, d, e, f].drop 3).take (Try.prog.cellsOf 3)) = ys[2]? := hfl 2 _ rfl
  have t3 : DataW.trod enc Try.prog W 0 (fun _ => true) true m 42 (([a, b, c, d, e, f].drop 4).take (Try.prog.cellsOf 42)) = ys[3]? := hfl 3 _ rfl
  have t4 : DataW.trod enc Try.prog W 0 (fun _ => true) true m 4 (([a, b, c, d, e, f].drop 5).take (Try.prog.cellsOf 4)) = ys[4]? := hfl 4 _ rfl
  rw [cellsInt, List.getElem?_eq_getElem (by omega)] at t0 t2
  rw [cellsPlace, List.getElem?_eq_getElem (by omega)] at t1
  rw [cellsSD, List.getElem?_eq_getElem (by omega)] at t3
  rw [cellsBool, List.getElem?_eq_getElem (by omega)] at t4
  obtain ⟨k, f0, _, _⟩ := DataW.trod_int Try.underlying3 t0
  obtain ⟨n, f2, _, _⟩ := DataW.trod_int Try.underlying3 t2
  obtain ⟨y0, y1, _, _, _, g0, g1⟩ := trod_struct2 Try.underlying37 t1
  simp only [cellsInt] at g0 g1
  obtain ⟨s, f1, _, _⟩ := DataW.trod_int Try.underlying3 g0
  obtain ⟨o, f1', _, _⟩ := DataW.trod_int Try.underlying3 g1
  obtain ⟨v, xs, f3, hv, hsz⟩ := open_bytesC (d := ys[3].1) (p := ys[3].2) t3
  obtain ⟨l, f4, _⟩ := DataW.trod_bool Try.underlying4 t4
  simp at f0 f1 f1' f2 f3 f4
  subst f0 f1 f1' f2 f3 f4
  refine ⟨k, s, o, n, _, xs, l, ys.map (·.1), rfl, hv, by rw [hx], ?_⟩
  rcases hsz with h0 | ⟨e', sp, h1, h2⟩
  · exact .inl h0
  · exact .inr ⟨e', sp, by rw [List.getElem?_map, List.getElem?_eq_getElem (by omega), ← h1]; rfl, h2⟩
theorem weightsAll_mem {H : Type} {P : Program} {e : TypeId} : ∀ {l : List (DataW H)} {d : DataW H}, d ∈ l → ∀ n ∈ d.weights P e, n ∈ DataW.weightsAll P e l
  | d' :: r, d, hd, n, hn => by
    simp only [DataW.weightsAll, List.mem_append]
    rcases List.mem_cons.1 hd with rfl | h
    · exact Or.inl hn
    · exact Or.inr (weightsAll_mem h n hn)
theorem sized_row_fld {H : Type} {P : Program} {ts : List TypeId} {ds : List (DataW H)} (h : (DataW.weightsEach P ts ds).all (· ≤ reachBytes) = true) {j i : Nat} {t e r q : TypeId} {fs : Array Field} {elems spare l e' sp' : List (DataW H)}
    (ht : ts[j]? = some t) (hd : ds[j]? = some (.slice elems spare)) (hu : P.underlying t = some (.slice e)) (hu2 : P.underlying e = some (.struct fs)) (hx : DataW.agg l ∈ elems) (hf : (fs.toList.map (·.type))[i]? = some r) (hl : l[i]? = some (.slice e' sp')) (hu3 : P.underlying r = some (.slice q)) : (e'.length + sp'.length) * P.bytesOf q ≤ reachBytes := by
  refine of_decide_eq_true (List.all_eq_true.1 h _ (DataW.weights_mem_each ht hd _ ?_))
  simp only [DataW.weights, hu, List.mem_cons, List.mem_append]
  refine Or.inr (Or.inl (weightsAll_mem hx _ ?_))
  simp only [DataW.weights, hu2]
  refine DataW.weights_mem_each (j := i) hf hl _ ?_
  simp [DataW.weights, hu3]
/-- The steps opened; hb: what the form says of the sizes of what came in. -/
theorem open_steps {H : Type} {enc : TypeId × Value → H} {W : World} {fuel : Nat} {aa : Option Addr} {n c : Nat} {d : DataW H} {p : List MemPlace}
    (h : DataW.trod enc Try.prog W 0 (fun _ => true) true fuel 27 [.slice aa n c] = some (d, p))
    (hb : ∀ elems spare l e' sp' : List (DataW H), d = .slice elems spare → DataW.agg l ∈ elems → l[3]? = some (.slice e' sp') → e'.length ≤ 140737488353000) : StepsAt W aa n := by
  rcases open_slice Try.underlying27 h with ⟨hcs, hx⟩ | ⟨a, len, cap, m, q, D, Pl, hcs, _, hl, hm, hmm, hx, hxr⟩
  · obtain ⟨rfl, rfl, rfl⟩ := (Value.slice.injEq ..).mp (List.cons.inj hcs).1
    exact ⟨Nat.zero_le _, fun i hi => absurd hi (by omega)⟩
  · obtain ⟨rfl, rfl, rfl⟩ := (Value.slice.injEq ..).mp (List.cons.inj hcs).1
    simp only [if_true] at hmm
    rw [cellsStep] at hxr
    refine ⟨by omega, fun i hi => ?_⟩
    obtain ⟨cs', h1, ht⟩ := hxr i (by omega)
    obtain ⟨_, hl6, hc⟩ := World.cells?_some h1
    obtain ⟨k, s, f, nn, v, xs, l, parts, rfl, hv, hd, hsz⟩ := open_stepC ht
    obtain ⟨b, o, rfl⟩ : ∃ b o, a = ⟨b, o, none⟩ := by
      obtain ⟨cs0, h10, _⟩ := hxr 0 (by omega)
      obtain ⟨_, hl0, hc0⟩ := World.cells?_some h10
      have h2 := hc0 0 (by omega)
      rw [List.getElem?_eq_getElem (by omega)] at h2
      obtain ⟨b, o, spot⟩ := a
      have hs : spot = none := by simpa [Addr.add] using World.cell?_spot h2
      exact ⟨b, o, by rw [hs]⟩
    have hr : W.rangeAt b (o + i * 6) (stepL k s f nn v l).toList := fun j u hj => by
      have hjl : j < 6 := (List.getElem?_eq_some_iff.1 hj).1
      have h2 := hc j hjl
      rw [Addr.add_mid, Addr.add_mid] at h2
      rw [h2]; exact hj
    refine ⟨b, o, rfl, World.block_lt_of_cell? W _ (hr 0 _ rfl), k, s, f, nn, v, xs, l, hv, ?_, hr⟩
    rcases hsz with h0 | ⟨e', sp, h3, h4⟩
    · omega
    · rw [h4]
      refine hb _ _ parts e' sp (Prod.mk.inj hx).1 ?_ h3
      rw [← hd]
      exact List.mem_map.2 ⟨i, List.mem_range.2 hi, rfl⟩
set_option maxRecDepth 100000 in
theorem arenaNil_lifted (os : Os) (started : os.Started) (H : Type) (enc : TypeId × Value → H) :
    ReturnsInHanded {} Try.checked os 6 .any (Rows.arenaNilSpec.pre6 enc Try.prog Try.f6 Rows.arenaNilRow.domain false) (Rows.arenaNilSpec.post enc Try.prog Try.f6 false true false false) := by
  refine returnsInHanded_of_change_sized (C := Try.checked) own started (by kernel_rfl) Try.func6
    (ChangeSpec.witness6 (enc := enc) (C := Try.checked) false ⟨#[], #[.slice none 0 0], []⟩ 8 (by kernel_rfl) (by kernel_rfl) (by kernel_rfl) (by kernel_rfl)) ?_
  intro W base args ds gs before hval0 hW _ hsz0 _
  have hsz : (DataW.weightsEach Try.prog (Try.f6.params.toList ++ Rows.arenaNilSpec.plain.varTypes Try.prog) (ds ++ gs)).all (· ≤ reachBytes) = true := hsz0
  have hval : ∀ (j : Nat) t v, Try.f6.params[j]? = some t → args[j]? = some v → Value.okWide Try.prog W .any base t v := hval0
  have hW' := hW
  obtain ⟨p, q, hA0, hV, rfl, hfz, hnd⟩ := hW
  have hA : DataW.TrodAll enc Try.prog W 0 (fun _ => true) true Try.f6.params.toList args.toList ds p := hA0
  rw [Try.params6] at hA hval hsz
  obtain ⟨v0, vs0, d0, ds0, p0, q0, hargs, rfl, rfl, h0, r0⟩ := trodAll_cons hA
  obtain ⟨rfl, rfl, rfl⟩ := trodAll_nil r0
  obtain rfl : args = #[v0] := by cases args; simp_all
  obtain ⟨rfl, rfl⟩ := trodVars_none hV
  obtain ⟨a0, len0, cap0, rfl⟩ := okWide_slice Try.underlying27 (hval 0 27 v0 rfl rfl)
  have k0 := h0
  have lt0 : ∀ x ∈ p0, x.block < W.heap.size := by obtain ⟨m, hm⟩ := k0; exact DataW.trod_lt m _ _ _ hm
  obtain ⟨fuel0, hf0⟩ := h0
  have hS := open_steps hf0 (fun elems spare l e' sp' hd hm h3 => by
    have := sized_row_fld hsz (j := 0) (i := 3) (t := 27) (e := 44) (r := 42) (q := 5) rfl (by rw [hd]; rfl) Try.underlying27 Try.underlying44 hm rfl h3 Try.underlying42
    rw [bytesU8] at this
    unfold reachBytes at this
    omega)
  clear hA0 hval0 hsz0
  refine (arenaNil_any W a0 len0 cap0 hS).mono fun e W' ⟨he, bel⟩ => ?_
  subst he
  exact ⟨_, rfl, _, _, _, [], _, [], hW', trodAll_mk1 (shut_bool Try.underlying4 _), (trodAll_cons_mk (Below.trod laidOut (by kernel_rfl) (of_decide_eq_true (by kernel_rfl)) k0 bel lt0) trodAll_mk0), rfl, bel.frame _, fun h => by cases h⟩

theorem arenaNil_holds : Rows.ArenaNilSaid :=
  OpenClaim.holds_of_wide 6 Try.f6 rfl rfl rfl rfl rfl rfl rfl ⟨rfl, rfl, rfl, rfl, rfl⟩ rfl rfl rfl rfl rfl (by kernel_rfl) Try.func6 (by kernel_rfl)
    (of_decide_eq_true (by kernel_rfl)) (by unfold Func.isWrapper; first | (rw [if_pos (by decide +kernel)]; kernel_rfl) | (rw [if_neg (by decide +kernel)]; exact ⟨rfl, rfl⟩))
    (fun os started H enc _ => arenaNil_lifted os started H enc)
#print axioms arenaNil_holds
end Go.Proofs.Ytffoadmaihpgoaa
