/- A script and a play, opened as arguments. -/
import Derived.Test.YtnknjcnbbljagaaTN6
import Derived.Test.YtnknjcnbbljagaaRows
import Derived.ChangeSame
import Derived.ChangeVars
import Derived.JoinedOf
import Derived.RowKit
import Derived.ProofKit
import Derived.OpenShut
import Derived.ChangeOld
import Derived.SizedLaws
import Derived.Deep.Slices
import Derived.Deep.Strs
import Derived.Lib.SmallJoins
namespace Go.Proofs.Ytnknjcnbbljagaa
set_option linter.unusedVariables false
set_option linter.unusedSimpArgs false
open Go.ChangeShapes Go.WideShapes Go.ChangeAt Go.RowKit Go.Deep

theorem own : ownKnob Try.prog.godebug = none := by kernel_rfl
theorem laidOut : laidOutB Try.prog = true := by kernel_rfl
theorem cellsInt : Try.prog.cellsOf 3 = 1 := by kernel_rfl
theorem cellsBool : Try.prog.cellsOf 4 = 1 := by kernel_rfl
theorem cellsStep : Try.prog.cellsOf 36 = 4 := by kernel_rfl
theorem bytesStep : Try.prog.bytesOf 36 = 32 := by kernel_rfl
theorem cellsTwo : Try.prog.cellsOf 22 = 2 := by kernel_rfl
theorem cellsScript : Try.prog.cellsOf 23 = 1 := by kernel_rfl
theorem cellsPlay : Try.prog.cellsOf 25 = 5 := by kernel_rfl
theorem spot_none {w : World} {x : Addr} {v : Value} (h : w.cell? (x.add 0) = some v) : ∃ b o, x = ⟨b, o, none⟩ := by
  obtain ⟨b, o, spot⟩ := x
  have hs : spot = none := by simpa [Addr.add] using World.cell?_spot h
  exact ⟨b, o, by rw [hs]⟩
theorem cs4 {cs : List Value} (h : cs.length = 4) : ∃ a b c d, cs = [a, b, c, d] := by
  match cs, h with
  | [a, b, c, d], _ => exact ⟨a, b, c, d, rfl⟩
theorem open_stepC {H : Type} {enc : TypeId × Value → H} {W : World} {fuel : Nat} {cs : List Value} {x : DataW H × List MemPlace}
    (h : DataW.trod enc Try.prog W 0 (fun _ => true) true fuel 36 cs = some x) : ∃ (d : Int) (o : Bool) (k v : Int), cs = [.int .i64 d, .bool o, .int .i64 k, .int .i64 v] := by
  obtain ⟨ys, m, _, hx, hlen, hyl, hfl⟩ := DataW.trod_struct Try.underlying36 h
  rw [cellsStep] at hlen
  have hyl4 : ys.length = 4 := hyl
  obtain ⟨a, b, c, d, rfl⟩ := cs4 hlen
  have t0 : DataW.trod enc Try.prog W 0 (fun _ => true) true m 3 (([a, b, c, d].drop 0).take (Try.prog.cellsOf 3)) = ys[0]? := hfl 0 _ rfl
  have t1 : DataW.trod enc Try.prog W 0 (fun _ => true) true m 4 (([a, b, c, d].drop 1).take (Try.prog.cellsOf 4)) = ys[1]? := hfl 1 _ rfl
  have t2 : DataW.trod enc Try.prog W 0 (fun _ => true) true m 3 (([a, b, c, d].drop 2).take (Try.prog.cellsOf 3)) = ys[2]? := hfl 2 _ rfl
  have t3 : DataW.trod enc Try.prog W 0 (fun _ => true) true m 3 (([a, b, c, d].drop 3).take (Try.prog.cellsOf 3)) = ys[3]? := hfl 3 _ rfl
  rw [cellsInt, List.getElem?_eq_getElem (by omega)] at t0 t2 t3
  rw [cellsBool, List.getElem?_eq_getElem (by omega)] at t1
  obtain ⟨n0, f0, _, _⟩ := DataW.trod_int Try.underlying3 t0
  obtain ⟨n2, f2, _, _⟩ := DataW.trod_int Try.underlying3 t2
  obtain ⟨n3, f3, _, _⟩ := DataW.trod_int Try.underlying3 t3
  obtain ⟨l, f1, _⟩ := DataW.trod_bool Try.underlying4 t1
  simp at f0 f1 f2 f3
  exact ⟨n0, l, n2, n3, by rw [f0, f1, f2, f3]⟩
theorem open_steps {H : Type} {enc : TypeId × Value → H} {W : World} {fuel : Nat} {v : Value} {d : DataW H} {p : List MemPlace}
    (h : DataW.trod enc Try.prog W 0 (fun _ => true) true fuel 23 [v] = some (d, p)) : ∃ aa n c, v = .slice aa n c ∧ StepsAt W aa n ∧ (n = 0 ∨ ∃ e s, d = .slice e s ∧ n = e.length) := by
  rcases open_slice Try.underlying23 h with ⟨hcs, hx⟩ | ⟨a, len, cap, m, q, D, Pl, hcs, _, hl, hm, hmm, hx, hxr⟩
  · exact ⟨none, 0, 0, (List.cons.inj hcs).1, fun i hi => absurd hi (by omega), .inl rfl⟩
  · refine ⟨some a, len, cap, (List.cons.inj hcs).1, ?_, .inr ⟨_, _, (Prod.mk.inj hx).1, by simp⟩⟩
    simp only [if_true] at hmm
    rw [cellsStep] at hxr
    intro i hi
    obtain ⟨cs', h1, ht⟩ := hxr i (by omega)
    obtain ⟨_, hl6, hc⟩ := World.cells?_some h1
    obtain ⟨dd, oo, k, vv, rfl⟩ := open_stepC ht
    obtain ⟨b, o, rfl⟩ : ∃ b o, a = ⟨b, o, none⟩ := by
      obtain ⟨cs0, h10, _⟩ := hxr 0 (by omega)
      obtain ⟨_, hl0, hc0⟩ := World.cells?_some h10
      have h2 := hc0 0 (by omega)
      rw [List.getElem?_eq_getElem (by omega)] at h2
      obtain ⟨b, o, spot⟩ := a
      have hs : spot = none := by simpa [Addr.add] using World.cell?_spot h2
      exact ⟨b, o, by rw [hs]⟩
    have hr : W.rangeAt b (o + i * 4) [.int .i64 dd, .bool oo, .int .i64 k, .int .i64 vv] := fun j u hj => by
      have hjl : j < 4 := (List.getElem?_eq_some_iff.1 hj).1
      have h2 := hc j hjl
      rw [Addr.add_mid, Addr.add_mid] at h2
      rw [h2]; exact hj
    exact ⟨b, o, rfl, World.block_lt_of_cell? W _ (hr 0 _ rfl), dd, oo, k, vv, hr 0 _ rfl, hr 1 _ rfl, hr 2 _ rfl, hr 3 _ rfl⟩
theorem trod_array2 {H : Type} {enc : TypeId × Value → H} {P : Program} {W : World} {base : Nat} {spare : Nat → Bool} {held : Bool} {fuel : Nat} {t e : TypeId} {a b : Value} {x : DataW H × List MemPlace} (ht : P.underlying t = some (.array 2 e)) (hce : P.cellsOf e = 1)
    (h : DataW.trod enc P W base spare held fuel t [a, b] = some x) : ∃ m y0 y1, DataW.trod enc P W base spare held m e [a] = some y0 ∧ DataW.trod enc P W base spare held m e [b] = some y1 := by
  obtain ⟨xs, m, _, _, _, hl, hf⟩ := DataW.trod_array ht h
  have t0 := hf 0 (by omega)
  have t1 := hf 1 (by omega)
  rw [hce] at t0 t1
  rw [List.getElem?_eq_getElem (show 0 < xs.length by omega)] at t0
  rw [List.getElem?_eq_getElem (show 1 < xs.length by omega)] at t1
  exact ⟨m, _, _, t0, t1⟩
theorem open_two {H : Type} {enc : TypeId × Value → H} {W : World} {fuel : Nat} {a b : Value} {x : DataW H × List MemPlace}
    (h : DataW.trod enc Try.prog W 0 (fun _ => true) true fuel 22 [a, b] = some x) : ∃ p q : Int, a = .int .i64 p ∧ b = .int .i64 q := by
  obtain ⟨m, y0, y1, t0, t1⟩ := trod_array2 Try.underlying22 cellsInt h
  obtain ⟨n0, f0, _, _⟩ := DataW.trod_int Try.underlying3 t0
  obtain ⟨n1, f1, _, _⟩ := DataW.trod_int Try.underlying3 t1
  exact ⟨n0, n1, (List.cons.inj f0).1, (List.cons.inj f1).1⟩
theorem cs5 {cs : List Value} (h : cs.length = 5) : ∃ a b c d e, cs = [a, b, c, d, e] := by
  match cs, h with
  | [a, b, c, d, e], _ => exact ⟨a, b, c, d, e, rfl⟩
theorem open_play {H : Type} {enc : TypeId × Value → H} {W : World} {fuel : Nat} {cs : List Value} {x : DataW H × List MemPlace}
    (h : DataW.trod enc Try.prog W 0 (fun _ => true) true fuel 25 cs = some x) : ∃ (t0 t1 m0 m1 : Int) (aa : Option Addr) (n c : Nat) (d0 d1 d2 : DataW H), cs = [.int .i64 t0, .int .i64 t1, .int .i64 m0, .int .i64 m1, .slice aa n c] ∧ StepsAt W aa n ∧ x.1 = .agg [d0, d1, d2] ∧ (n = 0 ∨ ∃ e s, d2 = .slice e s ∧ n = e.length) := by
  obtain ⟨ys, m, _, hx, hlen, hyl, hfl⟩ := DataW.trod_struct Try.underlying25 h
  rw [cellsPlay] at hlen
  have hyl3 : ys.length = 3 := hyl
  obtain ⟨a, b, c, d, e, rfl⟩ := cs5 hlen
  match ys, hyl3 with
  | [z0, z1, z2], _ =>
    have g0 : DataW.trod enc Try.prog W 0 (fun _ => true) true m 22 (([a, b, c, d, e].drop 0).take (Try.prog.cellsOf 22)) = some z0 := hfl 0 _ rfl
    have g1 : DataW.trod enc Try.prog W 0 (fun _ => true) true m 22 (([a, b, c, d, e].drop 2).take (Try.prog.cellsOf 22)) = some z1 := hfl 1 _ rfl
    have g2 : DataW.trod enc Try.prog W 0 (fun _ => true) true m 23 (([a, b, c, d, e].drop 4).take (Try.prog.cellsOf 23)) = some z2 := hfl 2 _ rfl
    rw [cellsTwo] at g0 g1
    rw [cellsScript] at g2
    obtain ⟨t0, t1, e0, e1⟩ := open_two (a := a) (b := b) g0
    obtain ⟨m0, m1, e2, e3⟩ := open_two (a := c) (b := d) g1
    obtain ⟨aa, n, cc, e4, hS, hsz⟩ := open_steps (v := e) (d := z2.1) (p := z2.2) g2
    refine ⟨t0, t1, m0, m1, aa, n, cc, z0.1, z1.1, z2.1, by rw [e0, e1, e2, e3, e4], hS, by rw [hx]; rfl, hsz⟩
theorem sized_fld {H : Type} {P : Program} {ts : List TypeId} {ds : List (DataW H)} (h : (DataW.weightsEach P ts ds).all (· ≤ reachBytes) = true) {j i : Nat} {t q r : TypeId} {fs : Array Field} {l elems spare : List (DataW H)}
    (ht : ts[j]? = some t) (hd : ds[j]? = some (.agg l)) (hu : P.underlying t = some (.struct fs)) (hf : (fs.toList.map (·.type))[i]? = some r) (hl : l[i]? = some (.slice elems spare)) (hu3 : P.underlying r = some (.slice q)) : (elems.length + spare.length) * P.bytesOf q ≤ reachBytes := by
  refine of_decide_eq_true (List.all_eq_true.1 h _ (DataW.weights_mem_each ht hd _ ?_))
  simp only [DataW.weights, hu]
  refine DataW.weights_mem_each (j := i) hf hl _ ?_
  simp [DataW.weights, hu3]
end Go.Proofs.Ytnknjcnbbljagaa
