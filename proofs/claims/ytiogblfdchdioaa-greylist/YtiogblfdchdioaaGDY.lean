/- The law's own. -/
import Derived.Test.YtiogblfdchdioaaGDX
namespace Go.Proofs.Ytiogblfdchdioaa
set_option linter.unusedVariables false
set_option linter.unusedSimpArgs false
namespace RG
open Go.RowKit
set_option maxRecDepth 100000

/-- Marks: c, c - 1, .. -/
def mks (c : Int) (m : Nat) : List EL := (List.range m).map (fun (j : Nat) => mkE (c - (j : Int)))
theorem mks_len (c : Int) (m : Nat) : (mks c m).length = m := by simp [mks]
theorem mks_snoc (c : Int) (m : Nat) : mks c (m + 1) = mks c m ++ [mkE (c - (m : Int))] := by simp [mks, List.range_succ]
theorem mks_at (c : Int) {m j : Nat} (h : j < m) : (mks c m)[j]? = some (mkE (c - (j : Int))) := by simp [mks, h]
def lay0 (c : Int) (V : List EL) (i : Nat) : List EL := mks c i ++ V.drop i
theorem lay0_zero (c : Int) (V : List EL) : lay0 c V 0 = V := by simp [lay0, mks]
theorem lay0_len (c : Int) (V : List EL) (i : Nat) (h : i ≤ V.length) : (lay0 c V i).length = V.length := by simp [lay0, mks_len]; omega
theorem lay0_full (c : Int) (V : List EL) : lay0 c V V.length = mks c V.length := by simp [lay0]
theorem lay0_set (c : Int) (V : List EL) {i : Nat} (h : i < V.length) : (lay0 c V i).set i (mkE (c - (i : Int))) = lay0 c V (i + 1) := by
  unfold lay0
  rw [List.set_append_right _ _ (by rw [mks_len]; exact Nat.le_refl _), mks_len, Nat.sub_self, List.drop_eq_getElem_cons h, List.set_cons_zero, mks_snoc, List.append_assoc]
  rfl
theorem wrap_in (a : Int) (h : -9223372036854775808 ≤ a) (h2 : a ≤ 9223372036854775807) : IntKind.i64.wrap a = a := by simp [IntKind.wrap, IntKind.bits, IntKind.signed]; omega
set_option maxHeartbeats 8000000 in
theorem own_any {w : World} {z g q B M : Nat} {v : Value} {V : List EL} (h : RgAt w z g LT M V) (hB : EB * (2 * M + 1) ≤ 281474976710656) (hr : RlAt w q B v V) (hl : V.length ≤ 3518437208000) : Calls Try.prog 8 #[.pointer (some ⟨z, 0, none⟩), .pointer (some ⟨q, 0, none⟩)] w fun e w' => e = .returned (.bool true) ∧ Below w.heap.size w w' := by
  obtain ⟨ao, c, rfl, _⟩ := hr.own.form
  have HRQ : Hid (∀ W, Below w.heap.size w W → W.cell? ⟨q, 0, none⟩ = some (.slice ao V.length c) ∧ q < W.heap.size ∧ RowR W (.slice ao V.length c) V) := hide (fun W hW => ⟨by rw [(hr.below hW).blk.cell]; rfl, (hr.below hW).blk.lt, (hr.own.below hW).read⟩)
  obtain ⟨n, hn⟩ : ∃ n, n = V.length := ⟨_, rfl⟩
  have HALL : Hid (∀ W, Below w.heap.size w W → Calls Try.prog 27 #[.pointer (some ⟨z, 0, none⟩)] W fun e w' => ∃ d, e = .returned (.slice (some ⟨d, 0, none⟩) n n) ∧ RowEl w' d V ∧ W.heap.size ≤ d ∧ Below W.heap.size W w') := hide (fun W hW => by rw [hn]; exact lall_any (h.below hW) hB)
  have HALK : Hid (∀ W va vb, RowR W va V → RowR W vb V → Calls Try.prog 28 #[va, vb] W fun e w' => e = .returned (.bool true) ∧ Below W.heap.size W w') := hide (fun W va vb h1 h2 => alike_any W va vb V h1 h2 hl)
  have HOW : Hid (∀ W d, RowEl W d V → w.heap.size ≤ d → OwnG W w.heap.size (.slice (some ⟨d, 0, none⟩) n n) V) := hide (fun W d h1 h2 => by rw [hn]; exact own_all h1 h2 hl)
  rw [← hn] at HRQ hl
  have HN := hide hn
  clear hr hn h
  have h0 := (HRQ.out w (Below.refl _ _)).2.1
  go_enter Try.func8, Try.ntmps8
  go_upto_region 2 with (go_at_call 27; first | ((with_reducible refine (HALL.out w (Below.refl _ _)).mono ?_); rintro e w1 ⟨d1, rfl, a1, a2, a3⟩; have A1 := hide a1; have A2 := hide a2; have A3 := hide a3; clear a1 a2 a3) | ((with_reducible refine (HALL.out w1 A3.out).mono ?_); rintro e w2 ⟨d2, rfl, a1, a2, a3⟩; have B1 := hide a1; have B2 := hide a2; have B3 := hide a3; clear a1 a2 a3))
  have hb2 : Below w.heap.size w w2 := A3.out.trans (B3.out.mono A3.out.size)
  have hd1 : d1 < d2 := Nat.lt_of_lt_of_le A1.out.lt B2.out
  have ho1 : OwnG w2 w.heap.size (.slice (some ⟨d1, 0, none⟩) n n) V := (HOW.out w1 d1 A1.out A2.out).below B3.out
  have ho2 : OwnG w2 w.heap.size (.slice (some ⟨d2, 0, none⟩) n n) V := HOW.out w2 d2 B1.out (Nat.le_trans A3.out.size B2.out)
  obtain ⟨c0, hq0, hrr⟩ := HRQ.out w2 hb2
  have HK1 := hide (HALK.out w2 _ _ ho1.read hrr)
  have HK2 : Hid (∀ W, Below w2.heap.size w2 W → (W.cell? ⟨q, 0, none⟩ = some (.slice ao n c) ∧ q < W.heap.size) ∧ Calls Try.prog 28 #[.slice (some ⟨d2, 0, none⟩) n n, .slice ao n c] W fun e w' => e = .returned (.bool true) ∧ Below W.heap.size W w') := hide (fun W hW => by
    have hb := hb2.trans (hW.mono hb2.size)
    obtain ⟨x1, x2, x3⟩ := HRQ.out W hb
    exact ⟨⟨x1, x2⟩, HALK.out W _ _ (ho2.below hW).read x3⟩)
  have HB2 := hide hb2
  have HO1 := hide ho1
  have HO2 := hide ho2
  clear hb2 ho1 ho2 hrr A1 A2 A3 B1 B2 B3
  go_upto_region 5 with (go_at_call 28; first | ((with_reducible refine HK1.out.mono ?_); rintro e w3 ⟨rfl, h3⟩; obtain ⟨⟨c3, q3⟩, k3⟩ := HK2.out w3 h3; have H3 := hide h3; have K3 := hide k3; clear h3 k3) | ((with_reducible refine K3.out.mono ?_); rintro e w4 ⟨rfl, h4⟩; have H4 := hide h4; clear h4))
  have hb4 := HB2.out.trans ((H3.out.trans (H4.out.mono H3.out.size)).mono HB2.out.size)
  have ho1 := HO1.out.below (H3.out.trans (H4.out.mono H3.out.size))
  have ho2 := HO2.out.below (H3.out.trans (H4.out.mono H3.out.size))
  clear HB2 HO1 HO2 H3 H4 HK1 HK2 K3 c0 c3 hq0 q3 h0
  go_loopw [7] (fun t wr => ∃ i : Nat, t = .int .i64 (i : Int) ∧ i ≤ n ∧ OwnG wr w.heap.size (.slice (some ⟨d1, 0, none⟩) n n) (lay0 (-1) V i) ∧ OwnG wr w.heap.size (.slice (some ⟨d2, 0, none⟩) n n) V ∧ Below w.heap.size w wr) (fun t _ => n - (intOf t).toNat)
  case atStart => exact ⟨0, rfl, Nat.zero_le _, by rw [lay0_zero]; exact ho1, ho2, hb4⟩
  case round =>
    clear ho1 ho2 hb4
    obtain ⟨i, rfl, hi, hO1, hO2, hB⟩ := hrel
    have HA := hide hO1
    have HC := hide hO2
    have HBW := hide hB
    clear hO1 hO2 hB
    by_cases hlt : i < n
    · have hii : (i : Int) < (n : Int) := by omega
      have hw1 : IntKind.i64.wrap (-1 - (i : Int)) = -1 - (i : Int) := wrap_in _ (by omega) (by omega)
      have HI : Hid (i < (lay0 (-1) V i).length) := hide (by rw [lay0_len _ _ _ (by rw [← HN.out]; exact hi), ← HN.out]; exact hlt)
      go_wp2_with (first | ((with_reducible refine wpList_buildM ?_ (.tmp 41) ?_ (-1 - (i : Int)) ?_ ?_); rfl; rfl; rfl) | ((with_reducible refine wpList_storeG ?_ (.tmp 43) (.tmp 42) ?_ w.heap.size d1 n n (lay0 (-1) V i) HA.out i HI.out ?_ (mkE (-1 - (i : Int))) ?_ ?_); rfl; rfl; rfl; rfl; intro w5 h1 h2))
      have hlt2 := HC.out.lt (b := d2) rfl
      refine ⟨⟨i + 1, by go_num, by omega, ?_, HC.out.same (fun b e => h2.out.block b (HC.out.lt e).1 (fun e2 => ?_)), HBW.out.grown h2.out HBW.out.size (fun k hk => (HA.out.lt (b := k) hk).2)⟩, by simp [intOf]; omega⟩
      · rw [← lay0_set _ _ (by rw [← HN.out]; exact hlt)]
        exact h1.out
      · have e3 : d2 = b := Option.some.inj e
        have e4 : b = d1 := Option.some.inj e2
        omega
    · have hii : ¬ (i : Int) < (n : Int) := by omega
      obtain rfl : n = i := by omega
      have hA : OwnG wr w.heap.size (.slice (some ⟨d1, 0, none⟩) n n) (mks (-1) n) := by
        have := HA.out
        rw [HN.out, lay0_full, ← HN.out] at this
        exact this
      have HA2 := hide hA
      clear hA HA
      go_upto_region 9 with fail
      go_loopw [8] (fun t wr => ∃ i : Nat, t = .int .i64 (i : Int) ∧ i ≤ n ∧ OwnG wr w.heap.size (.slice (some ⟨d1, 0, none⟩) n n) (mks (-1) n) ∧ OwnG wr w.heap.size (.slice (some ⟨d2, 0, none⟩) n n) (lay0 (-100000) V i) ∧ Below w.heap.size w wr) (fun t _ => n - (intOf t).toNat)
      case atStart => exact ⟨0, rfl, Nat.zero_le _, HA2.out, by rw [lay0_zero]; exact HC.out, HBW.out⟩
      case round =>
        clear HA2 HC HBW
        obtain ⟨i, rfl, hi, hO1, hO2, hB⟩ := hrel
        have HA := hide hO1
        have HC := hide hO2
        have HBW := hide hB
        clear hO1 hO2 hB
        by_cases hlt : i < n
        · have hii : (i : Int) < (n : Int) := by omega
          have hw1 : IntKind.i64.wrap (-100000 - (i : Int)) = -100000 - (i : Int) := wrap_in _ (by omega) (by omega)
          have HI : Hid (i < (lay0 (-100000) V i).length) := hide (by rw [lay0_len _ _ _ (by rw [← HN.out]; exact hi), ← HN.out]; exact hlt)
          go_wp2_with (first | ((with_reducible refine wpList_buildM ?_ (.tmp 53) ?_ (-100000 - (i : Int)) ?_ ?_); rfl; rfl; rfl) | ((with_reducible refine wpList_storeG ?_ (.tmp 55) (.tmp 54) ?_ w.heap.size d2 n n (lay0 (-100000) V i) HC.out i HI.out ?_ (mkE (-100000 - (i : Int))) ?_ ?_); rfl; rfl; rfl; rfl; intro w5 h1 h2))
          refine ⟨⟨i + 1, by go_num, by omega, HA.out.same (fun b e => h2.out.block b (HA.out.lt e).1 (fun e2 => ?_)), ?_, HBW.out.grown h2.out HBW.out.size (fun k hk => (HC.out.lt (b := k) hk).2)⟩, by simp [intOf]; omega⟩
          · have e3 : d1 = b := Option.some.inj e
            have e4 : b = d2 := Option.some.inj e2
            omega
          · rw [← lay0_set _ _ (by rw [← HN.out]; exact hlt)]
            exact h1.out
        · have hii : ¬ (i : Int) < (n : Int) := by omega
          obtain rfl : n = i := by omega
          have hC : OwnG wr w.heap.size (.slice (some ⟨d2, 0, none⟩) n n) (mks (-100000) n) := by
            have := HC.out
            rw [HN.out, lay0_full, ← HN.out] at this
            exact this
          have HC2 := hide hC
          clear hC HC
          go_upto_region 14 with fail
          have hmn : ((n : Nat) : Int) ≤ 3518437208000 := by omega
          go_loopw [9, 10] (fun t ti wr => ∃ (k : Nat) (u : Value), u = t ∧ ti = .int .i64 (k : Int) ∧ k ≤ 70 ∧ OwnG wr w.heap.size u (mks (-1) (n + k)) ∧ OwnG wr w.heap.size (.slice (some ⟨d1, 0, none⟩) n n) (mks (-1) n) ∧ OwnG wr w.heap.size (.slice (some ⟨d2, 0, none⟩) n n) (mks (-100000) n) ∧ Below w.heap.size w wr) (fun _ ti _ => 70 - (intOf ti).toNat)
          case atStart => exact ⟨0, _, rfl, rfl, Nat.zero_le _, HA.out, HA.out, HC2.out, HBW.out⟩
          case round =>
            clear HA HC2 HBW
            obtain ⟨k, u, rfl, rfl, hk, hOu, hO1, hO2, hB⟩ := hrel
            have HU := hide hOu
            have HA := hide hO1
            have HC := hide hO2
            have HBW := hide hB
            clear hOu hO1 hO2 hB
            by_cases hlt : k < 70
            · have hii : (k : Int) < 70 := by omega
              have hw1 : IntKind.i64.wrap (-1 - (n : Int)) = -1 - (n : Int) := wrap_in _ (by omega) (by omega)
              have hw2 : IntKind.i64.wrap (-1 - (n : Int) - (k : Int)) = -1 - ((n + k : Nat) : Int) := by rw [wrap_in _ (by omega) (by omega)]; omega
              have HO : Hid (OwnG (wr.alloc (.cells (elA (mkE (-1 - ((n + k : Nat) : Int)))) elT)) w.heap.size u (mks (-1) (n + k))) := hide (HU.out.below (below_alloc _ _))
              have HBX : Hid (BoxEl (wr.alloc (.cells (elA (mkE (-1 - ((n + k : Nat) : Int)))) elT)) wr.heap.size (mkE (-1 - ((n + k : Nat) : Int)))) := hide (BoxEl.made _ _)
              have HLN : Hid ((mks (-1) (n + k)).length + 1 ≤ 3518437208832) := hide (by rw [mks_len]; omega)
              have HBB : Hid (w.heap.size ≤ (wr.alloc (.cells (elA (mkE (-1 - ((n + k : Nat) : Int)))) elT)).heap.size) := hide (by have := HBW.out.size; simp; omega)
              go_wp2_with (first | ((with_reducible refine wpList_buildM ?_ (.tmp 66) ?_ (-1 - ((n + k : Nat) : Int)) ?_ ?_); rfl; rfl; rfl) | ((with_reducible refine wpList_bsE ?_ (.tmp 67) (mkE (-1 - ((n + k : Nat) : Int))) ?_ ?_ ?_); rfl; rfl; rfl) | ((with_reducible refine wpList_appK ?_ (.tmp 61) (.tmp 68) ?_ w.heap.size u (mks (-1) (n + k)) ?_ HO.out wr.heap.size ?_ (mkE (-1 - ((n + k : Nat) : Int))) HBX.out HLN.out HBB.out ?_); rfl; rfl; rfl; rfl; intro u2 w2 h1 h2 h3 h4))
              have hba : Below w.heap.size w (wr.alloc (.cells (elA (mkE (-1 - ((n + k : Nat) : Int)))) elT)) := HBW.out.alloc HBW.out.size _
              refine ⟨⟨k + 1, u2, rfl, by go_num, by omega, ?_, h4.out _ _ _ (HA.out.below (below_alloc _ _)) (by rw [mks_len, mks_len]; omega), h4.out _ _ _ (HC.out.below (below_alloc _ _)) (by rw [mks_len, mks_len]; omega), hba.grown h2.out HBB.out (fun k hk => ((HO.out).lt hk).2)⟩, by simp [intOf]; omega⟩
              rw [show n + (k + 1) = n + k + 1 by omega, mks_snoc]
              exact h1.out
            · have hii : ¬ (k : Int) < 70 := by omega
              obtain rfl : k = 70 := by omega
              obtain ⟨au, cu, rfl, hau⟩ := HU.out.form
              obtain ⟨gu, rfl⟩ := hau (by rw [mks_len]; omega)
              rw [mks_len] at HU ⊢
              obtain ⟨m, hm⟩ : ∃ m, m = n + 70 := ⟨_, rfl⟩
              rw [← hm] at HU ⊢
              have HM := hide hm
              clear hm hau
              go_upto_region 18 with fail
              go_loopw [11] (fun t wr => ∃ j : Nat, t = .int .i64 (j : Int) ∧ j ≤ m ∧ OwnG wr w.heap.size (.slice (some ⟨gu, 0, none⟩) m cu) (mks (-1) m) ∧ OwnG wr w.heap.size (.slice (some ⟨d1, 0, none⟩) n n) (mks (-1) n) ∧ OwnG wr w.heap.size (.slice (some ⟨d2, 0, none⟩) n n) (mks (-100000) n) ∧ Below w.heap.size w wr) (fun t _ => m - (intOf t).toNat)
              case atStart => exact ⟨0, rfl, Nat.zero_le _, HU.out, HA.out, HC.out, HBW.out⟩
              case round =>
                clear HU HA HC HBW
                obtain ⟨j, rfl, hj, hOu, hO1, hO2, hB⟩ := hrel
                have HU := hide hOu
                have HA := hide hO1
                have HC := hide hO2
                have HBW := hide hB
                clear hOu hO1 hO2 hB
                have hmm : m ≤ 3518437208070 := by rw [HM.out]; omega
                by_cases hlt : j < m
                · have hii : (j : Int) < (m : Int) := by omega
                  have hw1 : IntKind.i64.wrap (-1 - (j : Int)) = -1 - (j : Int) := wrap_in _ (by omega) (by omega)
                  have hw2 : IntKind.i64.wrap (-100000 - (j : Int)) = -100000 - (j : Int) := wrap_in _ (by omega) (by omega)
                  have c1 : wr.cell? ⟨gu, j * 33 + 32, none⟩ = some (.int .i64 (-1 - (j : Int))) := (HU.out.nxt (mks_at _ hlt)).1
                  by_cases hjn : j < n
                  · have hjj : (j : Int) < (n : Int) := by omega
                    have c2 : wr.cell? ⟨d1, j * 33 + 32, none⟩ = some (.int .i64 (-1 - (j : Int))) := (HA.out.nxt (mks_at _ hjn)).1
                    have c3 : wr.cell? ⟨d2, j * 33 + 32, none⟩ = some (.int .i64 (-100000 - (j : Int))) := (HC.out.nxt (mks_at _ hjn)).1
                    go_wp2
                    exact ⟨⟨j + 1, by go_num, by omega, HU.out, HA.out, HC.out, HBW.out⟩, by simp [intOf]; omega⟩
                  · have hjj : ¬ (j : Int) < (n : Int) := by omega
                    go_wp2
                    exact ⟨⟨j + 1, by go_num, by omega, HU.out, HA.out, HC.out, HBW.out⟩, by simp [intOf]; omega⟩
                · have hii : ¬ (j : Int) < (m : Int) := by omega
                  clear HU HA HC
                  have HBD : Hid (Below w.heap.size w wr.drew) := hide (HBW.out.trans ((below_dW wr).mono HBW.out.size))
                  obtain ⟨cq, hq, -⟩ := HRQ.out wr HBW.out
                  go_upto_region 22 with fail
                  go_region_with (first | (go_at_call 27; (with_reducible refine (HALL.out wr.drew HBD.out).mono ?_); rintro e w5 ⟨d3, rfl, a1, a2, a3⟩; have HB5 : Hid (Below w.heap.size w w5) := hide (HBD.out.trans (a3.mono HBD.out.size)); obtain ⟨c5, q5, r5⟩ := HRQ.out w5 HB5.out; have K5 := hide (HALK.out w5 _ _ (HOW.out w5 d3 a1 (Nat.le_trans HBD.out.size a2)).read r5); clear a1 a2 a3 r5) | (go_at_call 28; (with_reducible refine K5.out.mono ?_); rintro e w6 ⟨rfl, h6⟩; have H6 := hide h6; clear h6))
                  all_goals
                    go_wp2
                    go_ret
                    exact ⟨rfl, HB5.out.trans (H6.out.mono HB5.out.size)⟩
end RG
end Go.Proofs.Ytiogblfdchdioaa
