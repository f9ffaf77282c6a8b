/- Spread, the document's. -/
import Derived.Test.YtamajnaeladehabGS2
namespace Go.Proofs.Ytamajnaeladehab
set_option linter.unusedVariables false
set_option linter.unusedSimpArgs false
open Go.RowKit Ieee

theorem lowK_succ (L : List Int) (k : Nat) (h : 0 < k) : lowK L (k + 1) = min (lowK L k) (L[k]?.getD 0) := by
  obtain ⟨j, rfl⟩ : ∃ j, k = j + 1 := ⟨k - 1, by omega⟩
  rfl
theorem topK_succ (L : List Int) (k : Nat) (h : 0 < k) : topK L (k + 1) = max (topK L k) (L[k]?.getD 0) := by
  obtain ⟨j, rfl⟩ : ∃ j, k = j + 1 := ⟨k - 1, by omega⟩
  rfl
theorem belowN {B : Nat} {w w' : World} (n : Nat) (h : Below B w w') : Below B w (w'.drewN n) := ⟨h.os, h.tape, h.output, h.size, h.block⟩
theorem below_q {B : Nat} {w w' : World} {n : Nat} (h : Below B w w') : Below B w { w' with drawn := n } := ⟨h.os, h.tape, h.output, h.size, h.block⟩
set_option maxRecDepth 20000 in
set_option maxHeartbeats 4000000 in
theorem rspread_any (w : World) (v : Value) (L : List Int) (hv : RdJ w v L) (hL : I64s L) : Calls Try.prog 4 #[v] w (SpC w L) := by
  have HV := hide hv
  have HL := hide hL
  obtain ⟨ao, c, rfl, hlen, -⟩ := hv
  clear hL
  go_enter Try.func4, Try.ntmps4
  go_wp2
  go_loopw [4, 5, 6] (fun mv sv iv wr => ∃ k : Nat, iv = .int .i64 k ∧ k ≤ L.length ∧ mv = .float .f64 (runW L k).1 ∧ sv = .float .f64 (runW L k).2 ∧ Blk wr (w.heap.size + 1) (spL 0 (lowK L k) (topK L k) 0 0) 25 ∧ Blk wr w.heap.size (spL 0 0 0 0 0) 25 ∧ Below w.heap.size w wr) (fun _ _ iv _ => L.length - (intOf iv).toNat)
  case atStart =>
    refine ⟨0, rfl, by omega, rfl, rfl, ?_, ?_, ?_⟩
    · have := Blk.made (w.alloc (.cells (spL 0 0 0 0 0) 25)) (spL 0 0 0 0 0) 25
      simpa [spL, lowK, topK] using this
    · exact (Blk.made w (spL 0 0 0 0 0) 25).alloc _
    · exact ((Below.refl _ _).alloc (Nat.le_refl _) _).alloc (by simp) _
  case round =>
    obtain ⟨k, rfl, hk, rfl, rfl, hB3, hB2, hBw⟩ := hrel
    by_cases hlt : k < L.length
    · have hki : (k : Int) < L.length := by omega
      obtain ⟨b, o, hao, hc⟩ : ∃ b o, ao = some ⟨b, o, none⟩ ∧ ∀ k (h : k < L.length), w.cell? ⟨b, o + k, none⟩ = some (.int .i64 L[k]) := by
        obtain ⟨ao', c', e, _, hf⟩ := HV.out
        cases e
        exact hf (by omega)
      subst hao
      have hcw := hc k hlt
      have hbl := World.block_lt_of_cell? w _ hcw
      have hcell := (hBw.cell hbl).trans hcw
      have hb1 : ¬ b = w.heap.size + 1 := by have : b < w.heap.size := hbl; omega
      have hb2 : ¬ w.heap.size + 1 = b := fun e => hb1 e.symm
      obtain ⟨n, hn⟩ : ∃ n, n = L[k] := ⟨_, rfl⟩
      have hrk := run_ok L HL.out hlen k hk
      obtain ⟨d, q, e, p, m', s', a1, a2, a3, a4, a5, a6, a7, -⟩ := step_ok k _ _ n hrk (by rw [hn]; exact HL.out _ (List.getElem_mem hlt)) (by omega)
      have hnx : L[k]?.getD 0 = n := by rw [List.getElem?_eq_getElem hlt, hn]; rfl
      have HN1 : Hid (runW L (k + 1) = (m', s')) := hide (by rw [runW, hnx, a7])
      have HLo : Hid (0 < k → lowK L (k + 1) = min (lowK L k) n) := hide (fun h => by rw [lowK_succ L k h, hnx])
      have HTo : Hid (0 < k → topK L (k + 1) = max (topK L k) n) := hide (fun h => by rw [topK_succ L k h, hnx])
      have HL1 : Hid (k = 0 → lowK L (k + 1) = n ∧ topK L (k + 1) = n) := hide (fun h => by subst h; exact ⟨hnx, hnx⟩)
      rw [← hn] at hcell
      obtain ⟨m, hm⟩ : ∃ m, m = (runW L k).1 := ⟨_, rfl⟩
      obtain ⟨s, hs⟩ : ∃ s, s = (runW L k).2 := ⟨_, rfl⟩
      obtain ⟨l, hl⟩ : ∃ l, l = lowK L k := ⟨_, rfl⟩
      obtain ⟨g, hg⟩ : ∃ g, g = topK L k := ⟨_, rfl⟩
      rw [← hm] at a1 a3
      rw [← hs] at a6
      rw [← hl] at HLo hB3
      rw [← hg] at HTo hB3
      rw [← hm, ← hs]
      have b1 : wr.cell? ⟨w.heap.size + 1, 1, none⟩ = some (.int .i64 l) := hB3.cell 1
      have b2 : wr.cell? ⟨w.heap.size + 1, 2, none⟩ = some (.int .i64 g) := hB3.cell 2
      have f1 : ∀ i, wr.frozen? ⟨w.heap.size + 1, i, none⟩ = false := fun i => hB3.frozen i
      have fx : fl n = floatOfInt .f64 n := rfl
      have fk : fl ((k : Int) + 1) = floatOfInt .f64 ((k : Int) + 1) := rfl
      rw [fx] at a1 a4
      rw [fk] at a2
      have g1 := fsub a1
      have g2 := fdiv a2
      have g3 := fadd a3
      have g4 := fsub a4
      have g5 := fmul a5
      have g6 := fadd a6
      have HB3 := hide hB3
      have HB2 := hide hB2
      have HBw := hide hBw
      clear a1 a2 a3 a4 a5 a6 a7 hrk hm hs hl hg hB3 hB2 hBw fx fk hnx hn hc hcw hbl
      rcases Nat.eq_zero_or_pos k with hz | hz
      · subst hz
        have hcell0 : wr.cell? ⟨b, o, none⟩ = some (.int .i64 n) := hcell
        have e01 : ((0 : Nat) : Int) + 1 = 1 := rfl
        rw [e01] at g2
        have HL2 := hide (HL1.out rfl)
        clear hcell e01 HL1
        go_wp2_with (simp only [g1, g2, g3, g4, g5, g6])
        go_quiet (fail)
        go_wp2
        go_quiet (fail)
        go_wp2
        refine ⟨⟨1, rfl, by omega, by rw [HN1.out], by rw [HN1.out], ?_, ?_, ?_⟩, by simp [intOf]; omega⟩
        · rw [HL2.out.1, HL2.out.2]
          exact (((HB3.out.drewN _).set 1 (.int .i64 n)).drewN _).set 2 (.int .i64 n)
        · exact (((HB2.out.drewN _).setOther _ _ (by simp)).drewN _).setOther _ _ (by simp)
        · exact (belowN _ ((belowN _ HBw.out).setCell (by simp) _)).setCell (by simp) _
      · have hkb : ((k : Int) == 0) = false := by simp; omega
        by_cases hnl : n < l
        · by_cases hgn : g < n
          · go_wp2_with (simp only [g1, g2, g3, g4, g5, g6])
            go_quiet (fail)
            go_wp2
            go_quiet (fail)
            go_wp2
            refine ⟨⟨k + 1, by go_num, by omega, by rw [HN1.out], by rw [HN1.out], ?_, ?_, ?_⟩, by simp [intOf]; omega⟩
            · rw [HLo.out hz, HTo.out hz, show min l n = n by omega, show max g n = n by omega]
              exact (((HB3.out.drewN _).set 1 (.int .i64 n)).drewN _).set 2 (.int .i64 n)
            · exact (((HB2.out.drewN _).setOther _ _ (by simp)).drewN _).setOther _ _ (by simp)
            · exact (belowN _ ((belowN _ HBw.out).setCell (by simp) _)).setCell (by simp) _
          · have hgn' : ¬ n > g := hgn
            go_wp2_with (simp only [g1, g2, g3, g4, g5, g6])
            go_quiet (fail)
            go_wp2
            go_quiet (fail)
            go_wp2
            refine ⟨⟨k + 1, by go_num, by omega, by rw [HN1.out], by rw [HN1.out], ?_, ?_, ?_⟩, by simp [intOf]; omega⟩
            · rw [HLo.out hz, HTo.out hz, show min l n = n by omega, show max g n = g by omega]
              exact ((HB3.out.drewN _).set 1 (.int .i64 n)).drewN _
            · exact ((HB2.out.drewN _).setOther _ _ (by simp)).drewN _
            · exact belowN _ ((belowN _ HBw.out).setCell (by simp) _)
        · by_cases hgn : g < n
          · go_wp2_with (simp only [g1, g2, g3, g4, g5, g6])
            go_quiet (fail)
            go_wp2
            go_quiet (fail)
            go_wp2
            refine ⟨⟨k + 1, by go_num, by omega, by rw [HN1.out], by rw [HN1.out], ?_, ?_, ?_⟩, by simp [intOf]; omega⟩
            · rw [HLo.out hz, HTo.out hz, show min l n = l by omega, show max g n = n by omega]
              exact (HB3.out.drewN _).set 2 (.int .i64 n)
            · exact (HB2.out.drewN _).setOther _ _ (by simp)
            · exact (belowN _ HBw.out).setCell (by simp) _
          · have hgn' : ¬ n > g := hgn
            go_wp2_with (simp only [g1, g2, g3, g4, g5, g6])
            go_quiet (fail)
            go_wp2
            go_quiet (fail)
            go_wp2
            refine ⟨⟨k + 1, by go_num, by omega, by rw [HN1.out], by rw [HN1.out], ?_, ?_, ?_⟩, by simp [intOf]; omega⟩
            · rw [HLo.out hz, HTo.out hz, show min l n = l by omega, show max g n = g by omega]
              exact HB3.out.drewN _
            · exact HB2.out.drewN _
            · exact belowN _ HBw.out
    · have hki : ¬ (k : Int) < L.length := by omega
      have hkl : k = L.length := by omega
      obtain ⟨m, hm⟩ : ∃ m, m = (runW L k).1 := ⟨_, rfl⟩
      obtain ⟨s, hs⟩ : ∃ s, s = (runW L k).2 := ⟨_, rfl⟩
      obtain ⟨l, hl⟩ : ∃ l, l = lowK L k := ⟨_, rfl⟩
      obtain ⟨g, hg⟩ : ∃ g, g = topK L k := ⟨_, rfl⟩
      rw [← hl, ← hg] at hB3
      rw [← hm, ← hs]
      have b0 : wr.cell? ⟨w.heap.size + 1, 0, none⟩ = some (.int .i64 0) := hB3.cell 0
      have b1 : wr.cell? ⟨w.heap.size + 1, 1, none⟩ = some (.int .i64 l) := hB3.cell 1
      have b2 : wr.cell? ⟨w.heap.size + 1, 2, none⟩ = some (.int .i64 g) := hB3.cell 2
      have b3 : wr.cell? ⟨w.heap.size + 1, 3, none⟩ = some (.float .f64 0) := hB3.cell 3
      have b4 : wr.cell? ⟨w.heap.size + 1, 4, none⟩ = some (.float .f64 0) := hB3.cell 4
      have f1 : ∀ i, wr.frozen? ⟨w.heap.size + 1, i, none⟩ = false := fun i => hB3.frozen i
      have d0 : wr.cell? ⟨w.heap.size, 0, none⟩ = some (.int .i64 0) := hB2.cell 0
      have d1 : wr.cell? ⟨w.heap.size, 1, none⟩ = some (.int .i64 0) := hB2.cell 1
      have d2 : wr.cell? ⟨w.heap.size, 2, none⟩ = some (.int .i64 0) := hB2.cell 2
      have d3 : wr.cell? ⟨w.heap.size, 3, none⟩ = some (.float .f64 0) := hB2.cell 3
      have d4 : wr.cell? ⟨w.heap.size, 4, none⟩ = some (.float .f64 0) := hB2.cell 4
      have f2 : ∀ i, wr.frozen? ⟨w.heap.size, i, none⟩ = false := fun i => hB2.frozen i
      rcases Nat.eq_zero_or_pos L.length with h0 | h0
      · have HR : Hid (spR L = spL 0 0 0 0 0) := hide (by unfold spR; rw [if_pos h0])
        have hlz : l = 0 := by rw [hl, hkl, h0]; rfl
        have hgz : g = 0 := by rw [hg, hkl, h0]; rfl
        rw [hlz] at b1
        rw [hgz] at b2
        have HB2 := hide hB2
        have HBw := hide hBw
        clear hm hs hl hg hB3 hB2 hBw hkl hlz hgz
        have hnl : ¬ (0 : Int) < (L.length : Int) := by omega
        go_wp2
        have hk2 := ((((((HB2.out.setOther ⟨w.heap.size + 1, 0, none⟩ (.int .i64 0) (by simp)).set 0 (.int .i64 0)).set 1 (.int .i64 0)).set 2 (.int .i64 0)).set 3 (.float .f64 0)).set 4 (.float .f64 0))
        refine bodyPost_ret (results_cell rfl _ _ _ rfl _ (loadBlkT hk2 25 _ Try.underlying25 rfl 5 infoSp rfl)) rfl ?_
        refine ⟨by rw [HR.out]; rfl, ?_⟩
        exact (((((HBw.out.setCell (by simp) _).setCell (by simp) _).setCell (by simp) _).setCell (by simp) _).setCell (by simp) _).setCell (by simp) _
      · obtain ⟨q, a1, a2, -⟩ := dev_ok L HL.out hlen h0
        have HR : Hid (spR L = spL L.length (lowK L k) (topK L k) (runW L k).1 (devW L)) := hide (by
          unfold spR
          rw [if_neg (by omega), hkl])
        rw [← hkl] at a1
        obtain ⟨dd, hdd⟩ : ∃ dd, dd = devW L := ⟨_, rfl⟩
        rw [← hs] at a1
        rw [← hdd] at a2
        rw [← hl, ← hg, ← hm, ← hdd] at HR
        have fk : fl ((k : Nat) : Int) = floatOfInt .f64 (L.length : Int) := by rw [hkl]; rfl
        rw [fk] at a1
        have g1 := fdiv a1
        have HSq := hide (fun w => sqrt_any q dd a2 w)
        have HB2 := hide hB2
        have HBw := hide hBw
        clear a1 a2 hm hs hl hg hdd hB3 hB2 hBw fk hkl
        have hnl : (0 : Int) < (L.length : Int) := by omega
        go_wp2_with (first | simp only [g1] | (refine (HSq.out _).mono ?_; rintro e w' ⟨rfl, rfl⟩))
        have hk2 := ((((((((HB2.out.setOther ⟨w.heap.size + 1, 0, none⟩ (.int .i64 L.length) (by simp)).setOther ⟨w.heap.size + 1, 3, none⟩ (.float .f64 m) (by simp)).setOther ⟨w.heap.size + 1, 4, none⟩ (.float .f64 dd) (by simp)).set 0 (.int .i64 L.length)).set 1 (.int .i64 l)).set 2 (.int .i64 g)).set 3 (.float .f64 m)).set 4 (.float .f64 dd))
        refine bodyPost_ret (results_cell rfl _ _ _ rfl _ (loadBlkT hk2 25 _ Try.underlying25 rfl 5 infoSp rfl)) rfl ?_
        refine ⟨by rw [HR.out]; rfl, ?_⟩
        exact (((((((HBw.out.setCell (by simp) _).setCell (by simp) _).setCell (by simp) _).setCell (by simp) _).setCell (by simp) _).setCell (by simp) _).setCell (by simp) _).setCell (by simp) _
end Go.Proofs.Ytamajnaeladehab
