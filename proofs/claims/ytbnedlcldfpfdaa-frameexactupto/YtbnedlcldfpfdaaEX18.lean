/- FrameExact: for every input whose bulk is at most 1048576 the call returns true, and the argument reads afterwards as it read before. -/
import Derived.Test.YtbnedlcldfpfdaaEX16
import Derived.Test.YtbnedlcldfpfdaaFA0
namespace Go.Proofs.Ytbnedlcldfpfdaa
set_option linter.unusedVariables false
set_option linter.unusedSimpArgs false
open Go.ChangeShapes Go.WideShapes Go.ChangeAt Go.RowKit Go.Deep

theorem cellsAsk : Try.prog.cellsOf 25 = 4 := by kernel_rfl
theorem cellsSl : Try.prog.cellsOf 22 = 1 := by kernel_rfl
theorem cellsInt : Try.prog.cellsOf 3 = 1 := by kernel_rfl
theorem cellsU32 : Try.prog.cellsOf 23 = 1 := by kernel_rfl
theorem open_i64 {H : Type} {enc : TypeId × Value → H} {W : World} {base : Nat} {spare : Nat → Bool} {held : Bool} {fuel : Nat} {cs : List Value} {x : DataW H × List MemPlace}
    (h : DataW.trod enc Try.prog W base spare held fuel 3 cs = some x) : ∃ n : Int, cs = [.int .i64 n] ∧ (-9223372036854775808 ≤ n ∧ n ≤ 9223372036854775807) := by
  obtain ⟨n, hn, _, hw⟩ := DataW.trod_int Try.underlying3 h
  exact ⟨n, hn, by simpa [Lit.wf, IntKind.min, IntKind.max, IntKind.signed, IntKind.bits] using hw⟩
theorem open_u32 {H : Type} {enc : TypeId × Value → H} {W : World} {base : Nat} {spare : Nat → Bool} {held : Bool} {fuel : Nat} {cs : List Value} {x : DataW H × List MemPlace}
    (h : DataW.trod enc Try.prog W base spare held fuel 23 cs = some x) : ∃ n : Nat, cs = [.int .u32 (n : Int)] ∧ n < 4294967296 := by
  obtain ⟨n, hn, _, hw⟩ := DataW.trod_int Try.underlying23 h
  have hb : 0 ≤ n ∧ n ≤ 4294967295 := by simpa [Lit.wf, IntKind.min, IntKind.max, IntKind.signed, IntKind.bits] using hw
  exact ⟨n.toNat, by rw [hn]; congr 2; omega, by omega⟩
theorem cs4 {cs : List Value} (h : cs.length = 4) : ∃ a b c d, cs = [a, b, c, d] := by
  match cs, h with
  | [a, b, c, d], _ => exact ⟨a, b, c, d, rfl⟩
set_option maxRecDepth 20000 in
theorem open_ask {H : Type} {enc : TypeId × Value → H} {W : World} {fuel : Nat} {cs : List Value} {x : DataW H × List MemPlace}
    (h : DataW.trod enc Try.prog W 0 (fun _ => true) true fuel 25 cs = some x) :
    ∃ (vb vr : Value) (bs xs : List UInt8) (at' : Int) (s : Nat) (d0 d1 d2 d3 : DataW H), cs = (askC vb vr at' s).toList ∧ RdA W vb bs ∧ RdA W vr xs ∧ (-9223372036854775808 ≤ at' ∧ at' ≤ 9223372036854775807) ∧ s < 4294967296 ∧ x.1 = .agg [d0, d1, d2, d3] ∧
      (bs.length = 0 ∨ ∃ e s, d0 = .slice e s ∧ bs.length = e.length) ∧ (xs.length = 0 ∨ ∃ e s, d1 = .slice e s ∧ xs.length = e.length) := by
  obtain ⟨ys, n, _, rfl, hl, hlen, hf⟩ := DataW.trod_struct Try.underlying25 h
  rw [cellsAsk] at hl
  obtain ⟨a, b, c, d, rfl⟩ := cs4 hl
  match ys, hlen with
  | [z0, z1, z2, z3], _ =>
    have g0 : DataW.trod enc Try.prog W 0 (fun _ => true) true n 22 (([a, b, c, d].drop 0).take (Try.prog.cellsOf 22)) = some z0 := hf 0 _ rfl
    have g1 : DataW.trod enc Try.prog W 0 (fun _ => true) true n 22 (([a, b, c, d].drop 1).take (Try.prog.cellsOf 22)) = some z1 := hf 1 _ rfl
    have g2 : DataW.trod enc Try.prog W 0 (fun _ => true) true n 3 (([a, b, c, d].drop 2).take (Try.prog.cellsOf 3)) = some z2 := hf 2 _ rfl
    have g3 : DataW.trod enc Try.prog W 0 (fun _ => true) true n 23 (([a, b, c, d].drop 3).take (Try.prog.cellsOf 23)) = some z3 := hf 3 _ rfl
    rw [cellsSl] at g0 g1
    rw [cellsInt] at g2
    rw [cellsU32] at g3
    obtain ⟨vb, bs, e0, hr0, hd0⟩ := open_bytesC (show DataW.trod enc Try.prog W 0 (fun _ => true) true n 22 _ = some (z0.1, z0.2) from g0)
    obtain ⟨vr, xs, e1, hr1, hd1⟩ := open_bytesC (show DataW.trod enc Try.prog W 0 (fun _ => true) true n 22 _ = some (z1.1, z1.2) from g1)
    obtain ⟨at', e2, hat⟩ := open_i64 g2
    obtain ⟨s, e3, hs⟩ := open_u32 g3
    simp only [List.drop_zero, List.take_succ_cons, List.take_zero, List.drop_succ_cons, List.cons.injEq, and_true] at e0 e1 e2 e3
    refine ⟨vb, vr, bs, xs, at', s, z0.1, z1.1, z2.1, z3.1, ?_, hr0, hr1, hat, hs, by simp, hd0, hd1⟩
    subst e0 e1 e2 e3
    rfl
set_option maxRecDepth 100000 in
theorem exact_contract (H : Type) (enc : TypeId × Value → H) (W : World) (base : Nat) (args : Array Value) (ds gs : List (DataW H)) (before : List MemPlace)
    (hval : ∀ (j : Nat) t v, Try.f3.params[j]? = some t → args[j]? = some v → Value.okWide Try.prog W .any base t v)
    (hW : DataW.Whole enc Try.prog Try.f3.params.toList Rows.frameExactSpec.vars false W args.toList ds gs before) (hk : Rows.uptoSmall H (ds ++ gs) = true) :
    Calls Try.prog 3 args W fun e W' => ∃ v, e = .returned v ∧ Rows.frameExactSpec.post enc Try.prog Try.f3 false true false false W args v W' := by
  have hW' := hW
  obtain ⟨p, q, hA0, hV, rfl, hfz, hnd⟩ := hW
  have hA : DataW.TrodAll enc Try.prog W 0 (fun _ => true) true Try.f3.params.toList args.toList ds p := hA0
  rw [Try.params3] at hA hval
  obtain ⟨v0, vs0, d0, ds0, p0, q0, hargs, rfl, rfl, h0, r0⟩ := trodAll_cons hA
  obtain ⟨rfl, rfl, rfl⟩ := trodAll_nil r0
  obtain rfl : args = #[v0] := by cases args; simp_all
  obtain ⟨rfl, rfl⟩ := trodVars_none hV
  have k0 := h0
  have lt0 : ∀ x ∈ p0, x.block < W.heap.size := by obtain ⟨m, hm⟩ := k0; exact DataW.trod_lt m _ _ _ hm
  obtain ⟨cs0, rfl, hcs0⟩ := okWide_struct Try.underlying25 (hval 0 25 v0 rfl rfl)
  obtain ⟨fuel0, hf0⟩ := h0
  obtain ⟨vb, vr, bs, xs, at', s, e0, e1, e2, e3, hx, hrb, hrx, hat, hs, hdx, hx0, hx1⟩ := open_ask hf0
  have hdx' : d0 = .agg [e0, e1, e2, e3] := hdx
  have hkb := small_le hk
  have hb : bs.length + xs.length ≤ 1048576 := by
    have g0 := bytes_bulk hx0
    have g1 := bytes_bulk hx1
    rw [hdx'] at hkb
    simp only [List.append_nil, Rows.uptoBulkAll, Rows.uptoBulk] at hkb
    omega
  have ex : Value.agg cs0 = .agg (askC vb vr at' s) := by
    congr 1
    have : cs0.toList = (askC vb vr at' s).toList := hx
    exact Array.toList_inj.mp this
  clear hA0
  have hlaw := exact_of goes_any (fun w vb vr at' s z xs h1 h2 h3 => packs_any own_any w vb vr at' s z xs h1 h2 h3) (fun w vb vr at' hat s u xs h1 h2 => reads_any own_any w vb vr at' hat s u xs h1 h2) W vb vr at' hat s hs bs xs hrb hrx (by omega) (by omega)
  rw [← ex] at hlaw
  refine hlaw.mono fun e W' ⟨he, bel⟩ => ?_
  subst he
  exact ⟨_, rfl, _, _, _, [], _, [], hW', trodAll_mk1 (shut_bool Try.underlying4 _), (trodAll_cons_mk (Below.trod laidOut (by kernel_rfl) (of_decide_eq_true (by kernel_rfl)) k0 bel lt0) trodAll_mk0), rfl, bel.frame _, fun h => by cases h⟩

def zeroAsk : Value := .agg #[.slice none 0 0, .slice none 0 0, .int .i64 0, .int .u32 0]
set_option maxRecDepth 100000 in
theorem frameExact_lifted (os : Os) (started : os.Started) (H : Type) (enc : TypeId × Value → H) (F : Stop.Interp) :
    ReturnsInHanded {} Try.checked os 3 .any ((Rows.OpenSpec.upto Rows.frameExactSpec).pre6 enc Try.prog Try.f3 Rows.frameExactUptoRow.domain false) (((Rows.OpenSpec.upto Rows.frameExactSpec).at F).post enc Try.prog Try.f3 false true false false) := by
  refine returnsInHanded_of_cond (C := Try.checked) (s := Rows.OpenSpec.upto Rows.frameExactSpec) (k := Rows.uptoSmall) rfl own started (by kernel_rfl) Try.func3
    (OpenSpec.witness (enc := enc) (C := Try.checked) (s := Rows.OpenSpec.upto Rows.frameExactSpec) (k := Rows.uptoSmall) rfl false ⟨#[], #[zeroAsk], []⟩ 8 (by kernel_rfl) (by kernel_rfl) (by kernel_rfl)
      (x := ([.agg [.nil, .nil, .lit (.int .i64 0), .lit (.int .u32 0)]], [], [])) (by kernel_rfl) rfl (by kernel_rfl)) ?_
  intro W base args ds gs before hval hW _ hk _
  exact exact_contract H enc W base args ds gs before hval hW hk

theorem frameExactUpto_holds : Rows.FrameExactUptoSaid :=
  OpenClaim.holds_of_cond 3 Try.f3 rfl rfl rfl rfl rfl rfl rfl ⟨rfl, rfl, rfl, rfl, rfl⟩ rfl rfl rfl rfl rfl (by kernel_rfl) Try.func3 (by kernel_rfl)
    (of_decide_eq_true (by kernel_rfl)) (by unfold Func.isWrapper; first | (rw [if_pos (by decide +kernel)]; kernel_rfl) | (rw [if_neg (by decide +kernel)]; exact ⟨rfl, rfl⟩))
    (fun os started H enc _ F => frameExact_lifted os started H enc F)
#print axioms frameExactUpto_holds
end Go.Proofs.Ytbnedlcldfpfdaa
