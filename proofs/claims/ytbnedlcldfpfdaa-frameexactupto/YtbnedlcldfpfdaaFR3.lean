/- The sum's table: the loops. -/
import Derived.Test.YtbnedlcldfpfdaaFR2
namespace Go.Proofs.Ytbnedlcldfpfdaa
set_option linter.unusedVariables false
set_option linter.unusedSimpArgs false
open Go.RowKit

def TabC (w : World) (e : Ending) (w' : World) : Prop := e = .returned (.agg ((tabI 8).map u32i).toArray) ∧ Below w.heap.size w w'
set_option maxRecDepth 40000 in
set_option maxHeartbeats 4000000 in
theorem table_any (w : World) : Calls Try.prog 35 #[] w (TabC w) := by
  have hzv := zero_tab
  have HS := hide (fun (r : Int) (w : World) => step_any r w)
  have HZ : Hid (zT = ((tabI 0).map u32i).toArray) := hide (by kernel_rfl)
  have HZS : Hid (zT.size = 256) := hide (by kernel_rfl)
  go_enter Try.func35, Try.ntmps35
  go_wp2
  go_loopw [2, 3] (fun one bit wr => ∃ k : Nat, one = .int .u32 (oneI k) ∧ bit = .int .i64 ((128 / 2 ^ k : Nat) : Int) ∧ k ≤ 8 ∧ Blk wr w.heap.size zT 64 ∧ Blk wr (w.heap.size + 1) ((tabI k).map u32i).toArray 64 ∧ Below w.heap.size w wr) (fun _ bit _ => (intOf bit).toNat)
  case atStart =>
    refine ⟨0, rfl, rfl, by omega, (Blk.made w zT _).alloc _, ?_, ((Below.refl _ _).alloc (Nat.le_refl _) _).alloc (by simp) _⟩
    rw [← HZ.out]
    have h := Blk.made (w.alloc (.cells zT 64)) zT 64
    rw [World.size_alloc] at h
    exact h
  case round =>
    obtain ⟨k, rfl, rfl, hk, hA, hB, hbel⟩ := hrel
    by_cases hlt : k < 8
    · obtain ⟨p1, p2, p3, p4⟩ := bit_pow k hlt
      obtain ⟨bit, hbit⟩ : ∃ bit, bit = 128 / 2 ^ k := ⟨_, rfl⟩
      obtain ⟨m, hm⟩ : ∃ m, m = 2 ^ k := ⟨_, rfl⟩
      rw [← hbit, ← hm] at p1
      rw [← hbit] at p2 p3 p4 ⊢
      have hb0 : (0 : Int) < (bit : Int) := by omega
      have HP := hide (bit_lt bit m · p1)
      have HP2 := hide p2
      have HT : Hid (tabI (k + 1) = innI (tabI k) bit (oneI k) m) := hide (by rw [hbit, hm]; rfl)
      have HTL := hide (tabI_len k)
      have HA := hide hA
      have HB := hide hB
      obtain ⟨one, hone⟩ : ∃ one, one = oneI k := ⟨_, rfl⟩
      have HO : Hid (oneI (k + 1) = stepI one) := hide (by rw [hone]; rfl)
      rw [← hone] at HT ⊢
      obtain ⟨tk, htk⟩ : ∃ tk, tk = tabI k := ⟨_, rfl⟩
      rw [← htk] at HT HTL HB
      have HBel := hide hbel
      have HPb := hide p1
      clear hA hB hbit hm p1 p2 hone htk hbel
      go_wp2
      go_loopw [4] (fun b wr => ∃ j : Nat, b = .int .i64 ((bit * (2 * j + 1) : Nat) : Int) ∧ j ≤ m ∧ Blk wr w.heap.size zT 64 ∧ Blk wr (w.heap.size + 1) ((innI tk bit one j).map u32i).toArray 64 ∧ Below w.heap.size w wr) (fun b _ => 512 - (intOf b).toNat)
      case atStart => exact ⟨0, by simp, Nat.zero_le _, HA.out, HB.out, HBel.out⟩
      case round =>
        obtain ⟨j, rfl, hj, hA2, hB2, hbel2⟩ := hrel
        obtain ⟨x, hx⟩ : ∃ x, x = bit * (2 * j + 1) := ⟨_, rfl⟩
        obtain ⟨y, hy⟩ : ∃ y, y = bit * (2 * j) := ⟨_, rfl⟩
        have hxy : x = y + bit := by rw [hx, hy, Nat.mul_add, Nat.mul_one]
        have HQ := HP.out j
        rw [← hx] at HQ ⊢
        by_cases hjm : j < m
        · have hx256 : (x : Int) < 256 := by have := HQ.2 hjm; omega
          have hc := hB2.tabAt y (by rw [innI_len, HTL.out]; omega)
          have hc2 := hB2.tabAt x (by rw [innI_len, HTL.out]; omega)
          have hf2 := hB2.frozen x
          obtain ⟨q, hq⟩ : ∃ q, q = (innI tk bit one j)[y]?.getD 0 := ⟨_, rfl⟩
          obtain ⟨q2, hq2⟩ : ∃ q, q = (innI tk bit one j)[x]?.getD 0 := ⟨_, rfl⟩
          rw [← hq] at hc
          rw [← hq2] at hc2
          have HN := hide (hB2.tabSet x (bits .xor .u32 q one))
          have HI : Hid (innI tk bit one (j + 1) = (innI tk bit one j).set x (bits .xor .u32 q one)) := hide (by rw [hq, hx, hy]; rfl)
          have HA2 := hide hA2
          have HX : Hid (x + 2 * bit = bit * (2 * (j + 1) + 1)) := hide (by rw [hx]; rw [show 2 * (j + 1) + 1 = (2 * j + 1) + 2 from by omega, Nat.mul_add bit (2 * j + 1) 2]; omega)
          have hyx : (x : Int) - (bit : Int) = (y : Int) := by omega
          have HBel2 := hide hbel2
          clear hA2 hB2 hq hq2 hx hy HQ hbel2 hxy
          go_wp2
          refine ⟨⟨j + 1, ?_, by omega, HA2.out.setOther _ _ (by simp), ?_, HBel2.out.setCell (by simp) _⟩, by simp [intOf]; omega⟩
          · rw [← HX.out]; go_num
          · rw [HI.out]; exact HN.out
        · obtain rfl : j = m := by omega
          have hx256 : ¬ (x : Int) < 256 := by have := fun h => hjm (HQ.1 h); omega
          have HA2 := hide hA2
          have HB2 := hide hB2
          clear hA2 hB2 HQ hx hy hxy
          go_wp2_with fail
          refine (HS.out one _).mono ?_
          rintro e w1 ⟨rfl, rfl⟩
          go_wp2
          refine ⟨⟨k + 1, by rw [HO.out], ?_, by omega, HA2.out, by rw [HT.out]; exact HB2.out, hbel2⟩, by simp [intOf]; omega⟩
          rw [← HP2.out]; go_num
    · obtain rfl : k = 8 := by omega
      have HA := hide hA
      have HB := hide hB
      obtain ⟨cs, hcs⟩ : ∃ cs, cs = ((tabI 8).map u32i).toArray := ⟨_, rfl⟩
      have HCL : Hid (cs.size = 256) := hide (by rw [hcs]; simp [tabI_len])
      have HCO : Hid (cs.all (·.oneCell') = true) := hide (by rw [hcs]; exact u32i_one _)
      rw [← hcs] at HB
      have HCS := hide hcs
      have h128 : ((128 / 2 ^ 8 : Nat) : Int) = 0 := by decide
      rw [h128]
      clear hA hB hcs h128
      go_wp2_with (first | ((with_reducible refine wpList_load_blk ?_ 64 _ Try.underlying64 ?_ 256 infoTab (.tmp 1) ?_ (w.heap.size + 1) ?_ cs _ HB.out HCL.out ?_); rfl; rfl; rfl; rfl) | ((with_reducible refine wpList_store_blk ?_ 64 (.tmp 0) (.tmp 27) ?_ w.heap.size 256 _ cs 64 HCL.out ?_ ?_ ?_ HA.out infoTab HCO.out ?_); rfl; rfl; exact HZS.out; rfl; rfl; intro w6 hk6 hg6))
      refine bodyPost_ret (results_cell rfl _ _ _ rfl _ (loadBlkT hk6 64 _ Try.underlying64 rfl 256 infoTab HCL.out)) rfl ?_
      exact ⟨by rw [HCS.out], hbel.trans (below_grownBy hg6 (Nat.le_refl _) hbel.size)⟩
end Go.Proofs.Ytbnedlcldfpfdaa
