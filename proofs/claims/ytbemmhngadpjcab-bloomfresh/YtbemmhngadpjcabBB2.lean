/- Best, the program's and the document's; same; NaN. -/
import Derived.Test.YtbemmhngadpjcabBB1
namespace Go.Proofs.Ytbemmhngadpjcab
set_option linter.unusedVariables false
set_option linter.unusedSimpArgs false
open Go.RowKit Go.Sort Ieee

def FlC (w : World) (r : Nat) (e : Ending) (w' : World) : Prop := e = .returned (.float .f64 r) ∧ Below w.heap.size w w'
set_option maxRecDepth 20000 in
set_option maxHeartbeats 1000000 in
theorem nan_any (w : World) : Calls Try.prog 5 #[] w (FlC w NAN) := by
  go_enter Try.func5, Try.ntmps5
  go_wp2
  rw [run_callFunc_extern Try.func14 (by kernel_rfl) (by kernel_rfl) (by kernel_rfl) (e := Extern.MathFloatBits.float64frombits) (by kernel_rfl)]
  have hs : (Extern.MathFloatBits.float64frombits #[.int .u64 9221120237041090561]).run Try.prog w = .ok (.float .f64 9221120237041090561) w := by
    have e : Extern.MathFloatBits.float64frombits #[.int .u64 9221120237041090561] = pure (.float .f64 9221120237041090561) := rfl
    rw [e]
    exact Sem.run_pure ..
  rw [hs]
  simp only [Result.andThen]
  rw [Oper.upon_value]
  go_wp2
  go_ret
  exact ⟨rfl, Below.refl _ _⟩
def BolC (w : World) (b : Bool) (e : Ending) (w' : World) : Prop := e = .returned (.bool b) ∧ Below w.heap.size w w'
set_option maxRecDepth 20000 in
set_option maxHeartbeats 1000000 in
theorem isnan_any (x : Nat) (w : World) : Calls Try.prog 15 #[.float .f64 x] w (BolC w (isNan x)) := by
  go_enter Try.func15, Try.ntmps15
  go_wp2
  go_ret
  exact ⟨rfl, Below.refl _ _⟩
set_option maxRecDepth 20000 in
set_option maxHeartbeats 1000000 in
theorem same_any (x : Nat) (w : World) : Calls Try.prog 7 #[.float .f64 x, .float .f64 x] w (BolC w true) := by
  obtain ⟨o, ho⟩ : ∃ o, FloatKind.f64.format.order x x = o := ⟨_, rfl⟩
  go_enter Try.func7, Try.ntmps7
  rcases o with _ | (_ | _ | _)
  all_goals
    go_wp2
    go_ret
    exact ⟨rfl, Below.refl _ _⟩
def BestC (w : World) (L : List Nat) (e : Ending) (w' : World) : Prop := e = .returned (.int .i64 (bestI (bestK L L.length))) ∧ Below w.heap.size w w'
set_option maxRecDepth 20000 in
set_option maxHeartbeats 4000000 in
theorem best_any (w : World) (v : Value) (L : List Nat) (hv : RdF w v L) : Calls Try.prog 6 #[v] w (BestC w L) := by
  obtain ⟨ao, c, rfl, hl, hf⟩ := hv
  have HF := hide hf
  clear hf
  have HN := hide (fun x W => isnan_any x W)
  go_enter Try.func6, Try.ntmps6
  go_wp2
  go_loopw [3, 8] (fun s3 s8 wr => ∃ (k : Nat) (B : Int), s8 = .int .i64 k ∧ k ≤ L.length ∧ s3 = .int .i64 B ∧ Hid (B = bestI (bestK L k)) ∧ Below w.heap.size w wr) (fun _ s8 _ => L.length - (intOf s8).toNat)
  case atStart => exact ⟨0, -1, rfl, by omega, rfl, hide rfl, Below.refl _ _⟩
  case round =>
    obtain ⟨k, B, rfl, hk, rfl, HB, hbel⟩ := hrel
    by_cases hlt : k < L.length
    · have hki : (k : Int) < L.length := by omega
      obtain ⟨g, go', rfl, hc⟩ := HF.out (by omega)
      have q1 := (hbel.cell (World.block_lt_of_cell? w _ (hc k hlt))).trans (hc k hlt)
      obtain ⟨x, hx⟩ : ∃ x, x = L[k] := ⟨_, rfl⟩
      have HX : Hid (L[k]?.getD 0 = x) := hide (by rw [List.getElem?_eq_getElem hlt, hx]; rfl)
      rw [← hx] at q1
      have Hbel := hide hbel
      have HC := hide hc
      have hN := HN.out x wr
      cases hn : isNan x with
      | true =>
        rw [hn] at hN
        have HNn := hide hn
        clear hx hc hn hbel
        go_wp2_with fail
        refine hN.mono ?_
        rintro e w1 ⟨rfl, hb1⟩
        go_wp2
        refine ⟨⟨k + 1, B, by go_num, by omega, rfl, hide ?_, Below.step Hbel.out hb1⟩, by simp [intOf]; omega⟩
        rw [bestK, HX.out, HNn.out, if_pos rfl, HB.out]
      | false =>
        rw [hn] at hN
        have HNn := hide hn
        clear hx hn
        cases hb : bestK L k with
        | none =>
          have hB : B = -1 := by rw [HB.out, hb]; rfl
          have HBk := hide hb
          clear hb hc hbel
          subst hB
          go_wp2_with fail
          refine hN.mono ?_
          rintro e w1 ⟨rfl, hb1⟩
          go_wp2
          refine ⟨⟨k + 1, k, by go_num, by omega, rfl, hide ?_, Below.step Hbel.out hb1⟩, by simp [intOf]; omega⟩
          rw [bestK, HX.out, HNn.out, if_neg (by simp), HBk.out]
          rfl
        | some j =>
          have hB : B = (j : Int) := by rw [HB.out, hb]; rfl
          have hjk := bestK_lt L k j hb
          have hjl : j < L.length := by omega
          have HBk := hide hb
          have q2 := hc j hjl
          obtain ⟨y, hy⟩ : ∃ y, y = L[j] := ⟨_, rfl⟩
          have HY : Hid (L[j]?.getD 0 = y) := hide (by rw [List.getElem?_eq_getElem hjl, hy]; rfl)
          rw [← hy] at q2
          have Hq2 := hide q2
          obtain ⟨o, ho⟩ : ∃ o, FloatKind.f64.format.order x y = o := ⟨_, rfl⟩
          have hji : ¬ (j : Int) < 0 := by omega
          have hji2 : (j : Int) < L.length := by omega
          clear hb hc hy q2 hbel
          subst hB
          rcases o with _ | (_ | _ | _)
          all_goals
            go_wp2_with fail
            refine hN.mono ?_
            rintro e w1 ⟨rfl, hb1⟩
            have Hb1 := hide (Below.step Hbel.out hb1)
            have q3 := (Hb1.out.cell (World.block_lt_of_cell? w _ Hq2.out)).trans Hq2.out
            have Hlt : Hid (ltF x y = (FloatKind.f64.format.order x y == some .lt)) := hide rfl
            clear hb1
            go_wp2
            first
              | (refine ⟨⟨k + 1, (k : Int), by go_num, by omega, rfl, hide ?_, Hb1.out⟩, by simp [intOf]; omega⟩
                 have hl2 : ltF x y = true := by rw [Hlt.out, ho]; rfl
                 rw [bestK, HX.out, HNn.out, if_neg (by simp), HBk.out]
                 simp only [HY.out, hl2, if_true]
                 rfl)
              | (refine ⟨⟨k + 1, (j : Int), by go_num, by omega, rfl, hide ?_, Hb1.out⟩, by simp [intOf]; omega⟩
                 have hl2 : ltF x y = false := by rw [Hlt.out, ho]; rfl
                 rw [bestK, HX.out, HNn.out, if_neg (by simp), HBk.out]
                 simp only [HY.out, hl2]
                 rfl)
    · have hki : ¬ (k : Int) < L.length := by omega
      have hkl : k = L.length := by omega
      have HBe : Hid (B = bestI (bestK L L.length)) := hide (by rw [HB.out, hkl])
      clear HB hkl
      go_wp2
      go_ret
      exact ⟨by rw [← HBe.out]; rfl, hbel⟩
end Go.Proofs.Ytbemmhngadpjcab
