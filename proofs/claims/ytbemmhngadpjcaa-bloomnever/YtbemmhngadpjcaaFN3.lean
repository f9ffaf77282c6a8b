/- BloomNever: for every input the call returns true, and the argument reads afterwards as it read before. No condition. -/
import Derived.Test.YtbemmhngadpjcaaFN2
import Derived.Test.YtbemmhngadpjcaaBO3
import Derived.Test.YtbemmhngadpjcaaRows
namespace Go.Proofs.Ytbemmhngadpjcaa
set_option linter.unusedVariables false
set_option linter.unusedSimpArgs false
open Go.ChangeShapes Go.WideShapes Go.ChangeAt Go.RowKit Go.Deep

theorem cellsSet : Try.prog.cellsOf 57 = 5 := by kernel_rfl
theorem cellsKs : Try.prog.cellsOf 55 = 1 := by kernel_rfl
theorem cellsInt : Try.prog.cellsOf 3 = 1 := by kernel_rfl
theorem bytesKey : Try.prog.bytesOf 36 = 32 := by kernel_rfl
theorem open_intC {H : Type} {enc : TypeId × Value → H} {W : World} {base : Nat} {spare : Nat → Bool} {held : Bool} {fuel : Nat} {cs : List Value} {x : DataW H × List MemPlace}
    (h : DataW.trod enc Try.prog W base spare held fuel 3 cs = some x) : ∃ n : Int, cs = [.int .i64 n] := by
  obtain ⟨n, hn, _, _⟩ := DataW.trod_int Try.underlying3 h
  exact ⟨n, hn⟩
theorem sized_fld {H : Type} {P : Program} {ts : List TypeId} {ds : List (DataW H)} (h : (DataW.weightsEach P ts ds).all (· ≤ reachBytes) = true) {j i : Nat} {t q r : TypeId} {fs : Array Field} {l e' sp' : List (DataW H)}
    (ht : ts[j]? = some t) (hd : ds[j]? = some (.agg l)) (hu : P.underlying t = some (.struct fs)) (hf : (fs.toList.map (·.type))[i]? = some r) (hl : l[i]? = some (.slice e' sp')) (hu3 : P.underlying r = some (.slice q)) : (e'.length + sp'.length) * P.bytesOf q ≤ reachBytes := by
  refine of_decide_eq_true (List.all_eq_true.1 h _ (DataW.weights_mem_each ht hd _ ?_))
  simp only [DataW.weights, hu]
  refine DataW.weights_mem_each (j := i) hf hl _ ?_
  simp [DataW.weights, hu3]
theorem cs5 {cs : List Value} (h : cs.length = 5) : ∃ a b c d e, cs = [a, b, c, d, e] := by
  match cs, h with
  | [a, b, c, d, e], _ => exact ⟨a, b, c, d, e, rfl⟩
def SetArg {H : Type} (W : World) (cs : List Value) (B K : Int) (a1 a2 a3 : Option Addr) (c1 c2 c3 : Nat) (k1 k2 k3 : List (List UInt8)) (x d0 d1 d2 d3 d4 : DataW H) : Prop :=
  cs = [.int .i64 B, .int .i64 K, .slice a1 k1.length c1, .slice a2 k2.length c2, .slice a3 k3.length c3] ∧ KS W a1 k1 ∧ KS W a2 k2 ∧ KS W a3 k3 ∧ x = .agg [d0, d1, d2, d3, d4] ∧
    (k1.length = 0 ∨ ∃ e s, d2 = .slice e s ∧ k1.length = e.length) ∧ (k2.length = 0 ∨ ∃ e s, d3 = .slice e s ∧ k2.length = e.length) ∧ (k3.length = 0 ∨ ∃ e s, d4 = .slice e s ∧ k3.length = e.length)
set_option maxRecDepth 20000 in
theorem open_set {H : Type} {enc : TypeId × Value → H} {W : World} {fuel : Nat} {cs : List Value} {x : DataW H × List MemPlace}
    (h : DataW.trod enc Try.prog W 0 (fun _ => true) true fuel 57 cs = some x) :
    ∃ B K a1 a2 a3 c1 c2 c3 k1 k2 k3 d0 d1 d2 d3 d4, SetArg W cs B K a1 a2 a3 c1 c2 c3 k1 k2 k3 x.1 d0 d1 d2 d3 d4 := by
  obtain ⟨ys, n, _, rfl, hl, hlen, hf⟩ := DataW.trod_struct Try.underlying57 h
  rw [cellsSet] at hl
  obtain ⟨a, b, c, d, e, rfl⟩ := cs5 hl
  match ys, hlen with
  | [z0, z1, z2, z3, z4], _ =>
    have g0 : DataW.trod enc Try.prog W 0 (fun _ => true) true n 3 (([a, b, c, d, e].drop 0).take (Try.prog.cellsOf 3)) = some z0 := hf 0 _ rfl
    have g1 : DataW.trod enc Try.prog W 0 (fun _ => true) true n 3 (([a, b, c, d, e].drop 1).take (Try.prog.cellsOf 3)) = some z1 := hf 1 _ rfl
    have g2 : DataW.trod enc Try.prog W 0 (fun _ => true) true n 55 (([a, b, c, d, e].drop 2).take (Try.prog.cellsOf 55)) = some z2 := hf 2 _ rfl
    have g3 : DataW.trod enc Try.prog W 0 (fun _ => true) true n 55 (([a, b, c, d, e].drop 3).take (Try.prog.cellsOf 55)) = some z3 := hf 3 _ rfl
    have g4 : DataW.trod enc Try.prog W 0 (fun _ => true) true n 55 (([a, b, c, d, e].drop 4).take (Try.prog.cellsOf 55)) = some z4 := hf 4 _ rfl
    rw [cellsInt] at g0 g1
    rw [cellsKs] at g2 g3 g4
    obtain ⟨B, e0⟩ := open_intC g0
    obtain ⟨K, e1⟩ := open_intC g1
    obtain ⟨a1, c1, k1, e2, p2, -, q2, s2⟩ := open_keys (show DataW.trod enc Try.prog W 0 (fun _ => true) true n 55 _ = some (z2.1, z2.2) from g2)
    obtain ⟨a2, c2, k2, e3, p3, -, q3, s3⟩ := open_keys (show DataW.trod enc Try.prog W 0 (fun _ => true) true n 55 _ = some (z3.1, z3.2) from g3)
    obtain ⟨a3, c3, k3, e4, p4, -, q4, s4⟩ := open_keys (show DataW.trod enc Try.prog W 0 (fun _ => true) true n 55 _ = some (z4.1, z4.2) from g4)
    simp only [List.drop_zero, List.take_succ_cons, List.take_zero, List.drop_succ_cons, List.cons.injEq, and_true] at e0 e1 e2 e3 e4
    refine ⟨B, K, a1, a2, a3, c1, c2, c3, k1, k2, k3, z0.1, z1.1, z2.1, z3.1, z4.1, ?_, ⟨p2, q2⟩, ⟨p3, q3⟩, ⟨p4, q4⟩, by simp, s2, s3, s4⟩
    subst e0 e1 e2 e3 e4
    rfl
def zeroSet : Value := .agg #[.int .i64 0, .int .i64 0, .slice none 0 0, .slice none 0 0, .slice none 0 0]
set_option maxRecDepth 100000 in
theorem bloomNever_lifted (os : Os) (started : os.Started) (H : Type) (enc : TypeId × Value → H) :
    ReturnsInHanded {} Try.checked os 8 .any (Rows.bloomNeverSpec.pre6 enc Try.prog Try.f8 Rows.bloomNeverRow.domain false) (Rows.bloomNeverSpec.post enc Try.prog Try.f8 false true false false) := by
  refine returnsInHanded_of_change_sized (C := Try.checked) own started (by kernel_rfl) Try.func8
    (ChangeSpec.witness6 (enc := enc) (C := Try.checked) false ⟨#[], #[zeroSet], []⟩ 8 (by kernel_rfl) (by kernel_rfl) (by kernel_rfl) (by kernel_rfl)) ?_
  intro W base args ds gs before hval0 hW _ hsz0 _
  have hsz : (DataW.weightsEach Try.prog (Try.f8.params.toList ++ Rows.bloomNeverSpec.plain.varTypes Try.prog) (ds ++ gs)).all (· ≤ reachBytes) = true := hsz0
  have hval : ∀ (j : Nat) t v, Try.f8.params[j]? = some t → args[j]? = some v → Value.okWide Try.prog W .any base t v := hval0
  have hW' := hW
  obtain ⟨p, q, hA0, hV, rfl, hfz, hnd⟩ := hW
  have hA : DataW.TrodAll enc Try.prog W 0 (fun _ => true) true Try.f8.params.toList args.toList ds p := hA0
  rw [Try.params8] at hA hval hsz
  obtain ⟨v0, vs0, d0, ds0, p0, q0, hargs, rfl, rfl, h0, r0⟩ := trodAll_cons hA
  obtain ⟨rfl, rfl, rfl⟩ := trodAll_nil r0
  obtain rfl : args = #[v0] := by cases args; simp_all
  obtain ⟨rfl, rfl⟩ := trodVars_none hV
  have k0 := h0
  have lt0 : ∀ x ∈ p0, x.block < W.heap.size := by obtain ⟨m, hm⟩ := k0; exact DataW.trod_lt m _ _ _ hm
  obtain ⟨cs0, rfl, hcs0⟩ := okWide_struct Try.underlying57 (hval 0 57 v0 rfl rfl)
  obtain ⟨fuel0, hf0⟩ := h0
  obtain ⟨B, K, a1, a2, a3, c1, c2, c3, k1, k2, k3, e0, e1, e2, e3, e4, hx, hk1, hk2, hk3, hdx, s1, s2, s3⟩ := open_set hf0
  have hdx' : d0 = .agg [e0, e1, e2, e3, e4] := hdx
  have l1 : k1.length ≤ 140737488355000 := by
    rcases s1 with h0 | ⟨e, s, rfl, hl⟩
    · omega
    · have := sized_fld hsz (j := 0) (i := 2) rfl (by rw [hdx']; rfl) Try.underlying57 rfl rfl Try.underlying55
      rw [bytesKey] at this
      simp only [reachBytes] at this
      omega
  have l2 : k2.length ≤ 140737488355000 := by
    rcases s2 with h0 | ⟨e, s, rfl, hl⟩
    · omega
    · have := sized_fld hsz (j := 0) (i := 3) rfl (by rw [hdx']; rfl) Try.underlying57 rfl rfl Try.underlying55
      rw [bytesKey] at this
      simp only [reachBytes] at this
      omega
  have l3 : k3.length ≤ 140737488355000 := by
    rcases s3 with h0 | ⟨e, s, rfl, hl⟩
    · omega
    · have := sized_fld hsz (j := 0) (i := 4) rfl (by rw [hdx']; rfl) Try.underlying57 rfl rfl Try.underlying55
      rw [bytesKey] at this
      simp only [reachBytes] at this
      omega
  have ex : Value.agg cs0 = .agg #[.int .i64 B, .int .i64 K, .slice a1 k1.length c1, .slice a2 k2.length c2, .slice a3 k3.length c3] := by
    congr 1
    exact Array.toList_inj.mp hx
  clear hA0 hval0 hsz0
  have hlaw := never_law W B K a1 a2 a3 c1 c2 c3 k1 k2 k3 hk1 hk2 hk3 l1 l2 l3
  rw [← ex] at hlaw
  refine hlaw.mono fun e W' ⟨he, bel⟩ => ?_
  subst he
  exact ⟨_, rfl, _, _, _, [], _, [], hW', trodAll_mk1 (shut_bool Try.underlying4 _), (trodAll_cons_mk (Below.trod laidOut (by kernel_rfl) (of_decide_eq_true (by kernel_rfl)) k0 bel lt0) trodAll_mk0), rfl, bel.frame _, fun h => by cases h⟩

theorem bloomNever_holds : Rows.BloomNeverSaid :=
  OpenClaim.holds_of_wide 8 Try.f8 rfl rfl rfl rfl rfl rfl rfl ⟨rfl, rfl, rfl, rfl, rfl⟩ rfl rfl rfl rfl rfl (by kernel_rfl) Try.func8 (by kernel_rfl)
    (of_decide_eq_true (by kernel_rfl)) (by unfold Func.isWrapper; first | (rw [if_pos (by decide +kernel)]; kernel_rfl) | (rw [if_neg (by decide +kernel)]; exact ⟨rfl, rfl⟩))
    (fun os started H enc _ => bloomNever_lifted os started H enc)
#print axioms bloomNever_holds
end Go.Proofs.Ytbemmhngadpjcaa
