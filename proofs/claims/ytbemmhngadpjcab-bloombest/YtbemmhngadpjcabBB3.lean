/- Best, the document's. -/
import Derived.Test.YtbemmhngadpjcabBB2
namespace Go.Proofs.Ytbemmhngadpjcab
set_option linter.unusedVariables false
set_option linter.unusedSimpArgs false
open Go.RowKit Go.Sort Ieee

theorem below_drewN {w wr : World} (h : Below w.heap.size w wr) (n : Nat) : Below w.heap.size w (wr.drewN n) := ⟨h.os, h.tape, h.output, h.size, h.block⟩
set_option maxRecDepth 20000 in
set_option maxHeartbeats 4000000 in
theorem rbest_any (w : World) (v : Value) (L : List Nat) (hv : RdF w v L) : Calls Try.prog 8 #[v] w (BestC w L) := by
  obtain ⟨ao, c, rfl, hl, hf⟩ := hv
  have HF := hide hf
  clear hf
  go_enter Try.func8, Try.ntmps8
  go_wp2
  go_loopw [3, 4] (fun s3 s8 wr => ∃ (k : Nat) (B : Int), s8 = .int .i64 k ∧ k ≤ L.length ∧ s3 = .int .i64 B ∧ Hid (B = bestI (bestK L k)) ∧ Below w.heap.size w wr) (fun _ s8 _ => L.length - (intOf s8).toNat)
  case atStart => exact ⟨0, -1, rfl, by omega, rfl, hide rfl, Below.refl _ _⟩
  case round =>
    obtain ⟨k, B, rfl, hk, rfl, HB, hbel⟩ := hrel
    by_cases hlt : k < L.length
    · have hki : (k : Int) < L.length := by omega
      obtain ⟨g, go', rfl, hc⟩ := HF.out (by omega)
      have q1 := (hbel.cell (World.block_lt_of_cell? w _ (hc k hlt))).trans (hc k hlt)
      obtain ⟨x, hx⟩ : ∃ x, x = L[k] := ⟨_, rfl⟩
      have HX : Hid (L[k]?.getD 0 = x) := hide (by rw [List.getElem?_eq_getElem hlt, hx]; rfl)
      rw [← hx] at q1
      have Hbel := hide hbel
      obtain ⟨o1, ho1⟩ : ∃ o, FloatKind.f64.format.order x x = o := ⟨_, rfl⟩
      have HNn : Hid (isNan x = (o1 != some .eq)) := hide (by unfold isNan; rw [← ho1]; rfl)
      cases hb : bestK L k with
      | none =>
        have hB : B = -1 := by rw [HB.out, hb]; rfl
        have HBk := hide hb
        clear hb hc hbel hx
        subst hB
        rcases o1 with _ | (_ | _ | _)
        all_goals
          have HN2 := hide HNn.out
          go_wp2
          go_quiet (fail)
          go_wp2
          first
            | (have hn : isNan x = true := by rw [HN2.out]; rfl
               refine ⟨⟨k + 1, -1, by go_num, by omega, rfl, hide ?_, below_drewN Hbel.out _⟩, by simp [intOf]; omega⟩
               rw [bestK, HX.out, hn, if_pos rfl, HBk.out]
               rfl)
            | (go_quiet (fail)
               go_wp2
               have hn : isNan x = false := by rw [HN2.out]; rfl
               refine ⟨⟨k + 1, k, by go_num, by omega, rfl, hide ?_, below_drewN Hbel.out _⟩, by simp [intOf]; omega⟩
               rw [bestK, HX.out, hn, if_neg (by simp), HBk.out]
               rfl)
      | some j =>
        have hB : B = (j : Int) := by rw [HB.out, hb]; rfl
        have hjk := bestK_lt L k j hb
        have hjl : j < L.length := by omega
        have HBk := hide hb
        have q2 := (hbel.cell (World.block_lt_of_cell? w _ (hc j hjl))).trans (hc j hjl)
        obtain ⟨y, hy⟩ : ∃ y, y = L[j] := ⟨_, rfl⟩
        have HY : Hid (L[j]?.getD 0 = y) := hide (by rw [List.getElem?_eq_getElem hjl, hy]; rfl)
        rw [← hy] at q2
        obtain ⟨o, ho⟩ : ∃ o, FloatKind.f64.format.order x y = o := ⟨_, rfl⟩
        have Hlt : Hid (ltF x y = (o == some .lt)) := hide (by unfold ltF; rw [← ho]; rfl)
        have hji : ¬ (j : Int) < 0 := by omega
        have hji2 : (j : Int) < L.length := by omega
        clear hb hc hy hbel hx
        subst hB
        rcases o1 with _ | (_ | _ | _)
        all_goals
          have HN2 := hide HNn.out
          go_wp2
          go_quiet (fail)
          go_wp2
          first
            | (have hn : isNan x = true := by rw [HN2.out]; rfl
               refine ⟨⟨k + 1, (j : Int), by go_num, by omega, rfl, hide ?_, below_drewN Hbel.out _⟩, by simp [intOf]; omega⟩
               rw [bestK, HX.out, hn, if_pos rfl, HBk.out]
               rfl)
            | (have hn : isNan x = false := by rw [HN2.out]; rfl
               have Hn := hide hn
               clear hn
               rcases o with _ | (_ | _ | _)
               all_goals
                 go_quiet (fail)
                 go_wp2
                 first
                   | (have hl2 : ltF x y = true := by rw [Hlt.out]; rfl
                      refine ⟨⟨k + 1, (k : Int), by go_num, by omega, rfl, hide ?_, below_drewN Hbel.out _⟩, by simp [intOf]; omega⟩
                      rw [bestK, HX.out, Hn.out, if_neg (by simp), HBk.out]
                      simp only [HY.out, hl2, if_true]
                      rfl)
                   | (have hl2 : ltF x y = false := by rw [Hlt.out]; rfl
                      refine ⟨⟨k + 1, (j : Int), by go_num, by omega, rfl, hide ?_, below_drewN Hbel.out _⟩, by simp [intOf]; omega⟩
                      rw [bestK, HX.out, Hn.out, if_neg (by simp), HBk.out]
                      simp only [HY.out, hl2]
                      rfl))
    · have hki : ¬ (k : Int) < L.length := by omega
      have hkl : k = L.length := by omega
      have HBe : Hid (B = bestI (bestK L L.length)) := hide (by rw [HB.out, hkl])
      clear HB hkl
      go_wp2
      go_ret
      exact ⟨by rw [← HBe.out]; rfl, hbel⟩
end Go.Proofs.Ytbemmhngadpjcab
