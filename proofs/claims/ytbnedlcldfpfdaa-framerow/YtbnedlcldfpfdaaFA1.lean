/- A Turn opened as an argument. -/
import Derived.Test.YtbnedlcldfpfdaaFA0
import Derived.Test.YtbnedlcldfpfdaaFR15
namespace Go.Proofs.Ytbnedlcldfpfdaa
set_option linter.unusedVariables false
set_option linter.unusedSimpArgs false
open Go.ChangeShapes Go.WideShapes Go.ChangeAt Go.RowKit Go.Deep

theorem cellsTurn : Try.prog.cellsOf 49 = 8 := by kernel_rfl
theorem cellsSl : Try.prog.cellsOf 22 = 1 := by kernel_rfl
theorem cellsInt : Try.prog.cellsOf 3 = 1 := by kernel_rfl
theorem cellsBool : Try.prog.cellsOf 4 = 1 := by kernel_rfl
theorem cellsA4 : Try.prog.cellsOf 47 = 4 := by kernel_rfl
theorem bytesU8 : Try.prog.bytesOf 5 = 1 := by kernel_rfl
def I64 (n : Int) : Prop := -9223372036854775808 ≤ n ∧ n ≤ 9223372036854775807
theorem open_intC {H : Type} {enc : TypeId × Value → H} {W : World} {base : Nat} {spare : Nat → Bool} {held : Bool} {fuel : Nat} {cs : List Value} {x : DataW H × List MemPlace}
    (h : DataW.trod enc Try.prog W base spare held fuel 3 cs = some x) : ∃ n : Int, cs = [.int .i64 n] ∧ I64 n := by
  obtain ⟨n, hn, _, hw⟩ := DataW.trod_int Try.underlying3 h
  exact ⟨n, hn, by simpa [I64, Lit.wf, IntKind.min, IntKind.max, IntKind.signed, IntKind.bits] using hw⟩
theorem open_u8C {H : Type} {enc : TypeId × Value → H} {W : World} {base : Nat} {spare : Nat → Bool} {held : Bool} {fuel : Nat} {cs : List Value} {x : DataW H × List MemPlace}
    (h : DataW.trod enc Try.prog W base spare held fuel 5 cs = some x) : ∃ b : UInt8, cs = [u8c b] := by
  obtain ⟨n, hn, _, hw⟩ := DataW.trod_int Try.underlying5 h
  have hb : 0 ≤ n ∧ n ≤ 255 := by simpa [Lit.wf, IntKind.min, IntKind.max, IntKind.signed, IntKind.bits] using hw
  refine ⟨UInt8.ofNat n.toNat, ?_⟩
  rw [hn]
  unfold u8c
  rw [UInt8.toNat_ofNat']
  congr 2
  omega
theorem sized_fld {H : Type} {P : Program} {ts : List TypeId} {ds : List (DataW H)} (h : (DataW.weightsEach P ts ds).all (· ≤ reachBytes) = true) {j i : Nat} {t q r : TypeId} {fs : Array Field} {l e' sp' : List (DataW H)}
    (ht : ts[j]? = some t) (hd : ds[j]? = some (.agg l)) (hu : P.underlying t = some (.struct fs)) (hf : (fs.toList.map (·.type))[i]? = some r) (hl : l[i]? = some (.slice e' sp')) (hu3 : P.underlying r = some (.slice q)) : (e'.length + sp'.length) * P.bytesOf q ≤ reachBytes := by
  refine of_decide_eq_true (List.all_eq_true.1 h _ (DataW.weights_mem_each ht hd _ ?_))
  simp only [DataW.weights, hu]
  refine DataW.weights_mem_each (j := i) hf hl _ ?_
  simp [DataW.weights, hu3]
theorem cs8 {cs : List Value} (h : cs.length = 8) : ∃ a b c d e f g k, cs = [a, b, c, d, e, f, g, k] := by
  match cs, h with
  | [a, b, c, d, e, f, g, k], _ => exact ⟨a, b, c, d, e, f, g, k, rfl⟩
set_option maxRecDepth 20000 in
theorem open_turn {H : Type} {enc : TypeId × Value → H} {W : World} {fuel : Nat} {cs : List Value} {x : DataW H × List MemPlace}
    (h : DataW.trod enc Try.prog W 0 (fun _ => true) true fuel 49 cs = some x) :
    ∃ (vb vr : Value) (xs rs : List UInt8) (at' : Int) (y0 y1 y2 y3 : UInt8) (four : Bool) (d0 d1 d2 d3 d4 : DataW H), cs = (turnC vb at' y0 y1 y2 y3 four vr).toList ∧ RdA W vb xs ∧ RdA W vr rs ∧ I64 at' ∧ x.1 = .agg [d0, d1, d2, d3, d4] ∧
      (xs.length = 0 ∨ ∃ e s, d0 = .slice e s ∧ xs.length = e.length) ∧ (rs.length = 0 ∨ ∃ e s, d4 = .slice e s ∧ rs.length = e.length) := by
  obtain ⟨ys, n, _, rfl, hl, hlen, hf⟩ := DataW.trod_struct Try.underlying49 h
  rw [cellsTurn] at hl
  obtain ⟨a, b, c, d, e, f, g, k, rfl⟩ := cs8 hl
  match ys, hlen with
  | [z0, z1, z2, z3, z4], _ =>
    have g0 : DataW.trod enc Try.prog W 0 (fun _ => true) true n 22 (([a, b, c, d, e, f, g, k].drop 0).take (Try.prog.cellsOf 22)) = some z0 := hf 0 _ rfl
    have g1 : DataW.trod enc Try.prog W 0 (fun _ => true) true n 3 (([a, b, c, d, e, f, g, k].drop 1).take (Try.prog.cellsOf 3)) = some z1 := hf 1 _ rfl
    have g2 : DataW.trod enc Try.prog W 0 (fun _ => true) true n 47 (([a, b, c, d, e, f, g, k].drop 2).take (Try.prog.cellsOf 47)) = some z2 := hf 2 _ rfl
    have g3 : DataW.trod enc Try.prog W 0 (fun _ => true) true n 4 (([a, b, c, d, e, f, g, k].drop 6).take (Try.prog.cellsOf 4)) = some z3 := hf 3 _ rfl
    have g4 : DataW.trod enc Try.prog W 0 (fun _ => true) true n 22 (([a, b, c, d, e, f, g, k].drop 7).take (Try.prog.cellsOf 22)) = some z4 := hf 4 _ rfl
    rw [cellsSl] at g0 g4
    rw [cellsInt] at g1
    rw [cellsA4] at g2
    rw [cellsBool] at g3
    obtain ⟨vb, xs, e0, hr0, hd0⟩ := open_bytesC (show DataW.trod enc Try.prog W 0 (fun _ => true) true n 22 _ = some (z0.1, z0.2) from g0)
    obtain ⟨vr, rs, e4, hr4, hd4⟩ := open_bytesC (show DataW.trod enc Try.prog W 0 (fun _ => true) true n 22 _ = some (z4.1, z4.2) from g4)
    obtain ⟨at', e1, hat⟩ := open_intC g1
    obtain ⟨four, e3, _⟩ := DataW.trod_bool Try.underlying4 g3
    obtain ⟨ws, m, _, _, _, _, hx⟩ := DataW.trod_array Try.underlying47 g2
    have t0 := hx 0 (by decide)
    have t1 := hx 1 (by decide)
    have t2 := hx 2 (by decide)
    have t3 := hx 3 (by decide)
    rw [cellsU8] at t0 t1 t2 t3
    rename_i hwl
    rw [List.getElem?_eq_getElem (by omega)] at t0 t1 t2 t3
    obtain ⟨y0, f0⟩ := open_u8C t0
    obtain ⟨y1, f1⟩ := open_u8C t1
    obtain ⟨y2, f2⟩ := open_u8C t2
    obtain ⟨y3, f3⟩ := open_u8C t3
    simp only [List.drop_zero, List.take_succ_cons, List.take_zero, List.drop_succ_cons, Nat.mul_one, Nat.zero_mul, List.cons.injEq, and_true] at e0 e1 e3 e4 f0 f1 f2 f3
    refine ⟨vb, vr, xs, rs, at', y0, y1, y2, y3, four, z0.1, z1.1, z2.1, z3.1, z4.1, ?_, hr0, hr4, hat, by simp, hd0, hd4⟩
    subst e0 e1 e3 e4 f0 f1 f2 f3
    rfl
end Go.Proofs.Ytbnedlcldfpfdaa
