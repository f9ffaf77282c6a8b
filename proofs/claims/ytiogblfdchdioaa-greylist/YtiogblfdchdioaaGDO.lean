/- The law's own, of a nil list. -/
import Derived.Test.YtiogblfdchdioaaGDN
namespace Go.Proofs.Ytiogblfdchdioaa
set_option linter.unusedVariables false
set_option linter.unusedSimpArgs false
namespace RG
open Go.RowKit
set_option maxRecDepth 100000

set_option maxHeartbeats 8000000 in
theorem own_nil {w : World} {q : Nat} (hq : Blk w q #[.slice none 0 0] RT) : Calls Try.prog 8 #[.pointer none, .pointer (some ⟨q, 0, none⟩)] w fun e w' => e = .returned (.bool true) ∧ Below w.heap.size w w' := by
  have HRQ : Hid (∀ W, Below w.heap.size w W → W.cell? ⟨q, 0, none⟩ = some (.slice none 0 0) ∧ q < W.heap.size) := hide (fun W hW => ⟨by rw [(hq.below hW hq.lt).cell]; rfl, (hq.below hW hq.lt).lt⟩)
  have HALL : Hid (∀ W, Calls Try.prog 27 #[.pointer none] W fun e w' => e = .returned (.slice none 0 0) ∧ w' = W) := hide lall_nil
  have HALK : Hid (∀ W, Calls Try.prog 28 #[.slice none 0 0, .slice none 0 0] W fun e w' => e = .returned (.bool true) ∧ Below W.heap.size W w') := hide (fun W => alike_any W _ _ [] (RowR.nil W) (RowR.nil W) (by simp))
  obtain ⟨c0, q0⟩ := HRQ.out w (Below.refl _ _)
  clear hq
  go_enter Try.func8, Try.ntmps8
  go_upto_region 2 with (go_at_call 27; (with_reducible refine (HALL.out w).mono ?_); rintro e w' ⟨rfl, hw⟩; rw [hw]; clear hw)
  go_upto_region 5 with (go_at_call 28; first | ((with_reducible refine (HALK.out w).mono ?_); rintro e w3 ⟨rfl, h3⟩; obtain ⟨c3, q3⟩ := HRQ.out w3 h3; have H3 := hide h3; clear h3) | ((with_reducible refine (HALK.out w3).mono ?_); rintro e w4 ⟨rfl, h4⟩; have H4 := hide h4; clear h4))
  have hb4 := H3.out.trans (H4.out.mono H3.out.size)
  have HB4 := hide hb4
  clear hb4 H3 H4 c0 c3 q0 q3
  go_loopw [7] (fun t wr => t = .int .i64 0 ∧ Below w.heap.size w wr) (fun _ _ => 0)
  case atStart => exact ⟨rfl, HB4.out⟩
  case round =>
    clear HB4
    obtain ⟨rfl, hB⟩ := hrel
    have HBW := hide hB
    clear hB
    go_upto_region 9 with fail
    go_loopw [8] (fun t wr => t = .int .i64 0 ∧ Below w.heap.size w wr) (fun _ _ => 0)
    case atStart => exact ⟨rfl, HBW.out⟩
    case round =>
      clear HBW
      obtain ⟨rfl, hB⟩ := hrel
      have HBW := hide hB
      clear hB
      go_upto_region 14 with fail
      go_loopw [9, 10] (fun t ti wr => ∃ (k : Nat) (u : Value), u = t ∧ ti = .int .i64 (k : Int) ∧ k ≤ 70 ∧ OwnG wr w.heap.size u (mks (-1) k) ∧ Below w.heap.size w wr) (fun _ ti _ => 70 - (intOf ti).toNat)
      case atStart => exact ⟨0, _, rfl, rfl, Nat.zero_le _, OwnG.nil _ _, HBW.out⟩
      case round =>
        clear HBW
        obtain ⟨k, u, rfl, rfl, hk, hOu, hB⟩ := hrel
        have HU := hide hOu
        have HBW := hide hB
        clear hOu hB
        by_cases hlt : k < 70
        · have hii : (k : Int) < 70 := by omega
          have hw2 : IntKind.i64.wrap (-1 - (k : Int)) = -1 - (k : Int) := wrap_in _ (by omega) (by omega)
          have HO : Hid (OwnG (wr.alloc (.cells (elA (mkE (-1 - (k : Int)))) elT)) w.heap.size u (mks (-1) k)) := hide (HU.out.below (below_alloc _ _))
          have HBX : Hid (BoxEl (wr.alloc (.cells (elA (mkE (-1 - (k : Int)))) elT)) wr.heap.size (mkE (-1 - (k : Int)))) := hide (BoxEl.made _ _)
          have HLN : Hid ((mks (-1) k).length + 1 ≤ 3518437208832) := hide (by rw [mks_len]; omega)
          have HBB : Hid (w.heap.size ≤ (wr.alloc (.cells (elA (mkE (-1 - (k : Int)))) elT)).heap.size) := hide (by have := HBW.out.size; simp; omega)
          go_wp2_with (first | ((with_reducible refine wpList_buildM ?_ (.tmp 66) ?_ (-1 - (k : Int)) ?_ ?_); rfl; rfl; rfl) | ((with_reducible refine wpList_bsE ?_ (.tmp 67) (mkE (-1 - (k : Int))) ?_ ?_ ?_); rfl; rfl; rfl) | ((with_reducible refine wpList_appK ?_ (.tmp 61) (.tmp 68) ?_ w.heap.size u (mks (-1) k) ?_ HO.out wr.heap.size ?_ (mkE (-1 - (k : Int))) HBX.out HLN.out HBB.out ?_); rfl; rfl; rfl; rfl; intro u2 w2 h1 h2 h3 h4))
          have hba : Below w.heap.size w (wr.alloc (.cells (elA (mkE (-1 - (k : Int)))) elT)) := HBW.out.alloc HBW.out.size _
          refine ⟨⟨k + 1, u2, rfl, by go_num, by omega, ?_, hba.grown h2.out HBB.out (fun k hk => ((HO.out).lt hk).2)⟩, by simp [intOf]; omega⟩
          rw [mks_snoc]
          exact h1.out
        · have hii : ¬ (k : Int) < 70 := by omega
          obtain rfl : k = 70 := by omega
          obtain ⟨au, cu, rfl, hau⟩ := HU.out.form
          obtain ⟨gu, rfl⟩ := hau (by rw [mks_len]; omega)
          rw [mks_len] at HU ⊢
          clear hau
          go_upto_region 18 with fail
          go_loopw [11] (fun t wr => ∃ j : Nat, t = .int .i64 (j : Int) ∧ j ≤ 70 ∧ OwnG wr w.heap.size (.slice (some ⟨gu, 0, none⟩) 70 cu) (mks (-1) 70) ∧ Below w.heap.size w wr) (fun t _ => 70 - (intOf t).toNat)
          case atStart => exact ⟨0, rfl, Nat.zero_le _, HU.out, HBW.out⟩
          case round =>
            clear HU HBW
            obtain ⟨j, rfl, hj, hOu, hB⟩ := hrel
            have HU := hide hOu
            have HBW := hide hB
            clear hOu hB
            by_cases hlt : j < 70
            · have hii : (j : Int) < 70 := by omega
              have hw1 : IntKind.i64.wrap (-1 - (j : Int)) = -1 - (j : Int) := wrap_in _ (by omega) (by omega)
              have c1 : wr.cell? ⟨gu, j * 33 + 32, none⟩ = some (.int .i64 (-1 - (j : Int))) := (HU.out.nxt (mks_at _ hlt)).1
              have hjj : ¬ (j : Int) < 0 := by omega
              go_wp2
              exact ⟨⟨j + 1, by go_num, by omega, HU.out, HBW.out⟩, by simp [intOf]; omega⟩
            · have hii : ¬ (j : Int) < 70 := by omega
              clear HU
              have HBD : Hid (Below w.heap.size w wr.drew) := hide (HBW.out.trans ((below_dW wr).mono HBW.out.size))
              obtain ⟨cq, hq⟩ := HRQ.out wr HBW.out
              go_upto_region 22 with fail
              go_region_with (first | (go_at_call 27; (with_reducible refine (HALL.out wr.drew).mono ?_); rintro e w5 ⟨rfl, hw⟩; rw [hw]; clear hw) | (go_at_call 28; (with_reducible refine (HALK.out wr.drew).mono ?_); rintro e w6 ⟨rfl, h6⟩; have H6 := hide h6; clear h6))
              all_goals
                go_wp2
                go_ret
                exact ⟨rfl, HBD.out.trans (H6.out.mono HBD.out.size)⟩
end RG
end Go.Proofs.Ytiogblfdchdioaa
