/- FrameTurned, walked. -/
import Derived.Test.YtbnedlcldfpfdaaFR15
namespace Go.Proofs.Ytbnedlcldfpfdaa
set_option linter.unusedVariables false
set_option linter.unusedSimpArgs false
open Go.RowKit

set_option maxRecDepth 40000 in
set_option maxHeartbeats 4000000 in
theorem frameTurned_any (w : World) (vb vr : Value) (xs rs : List UInt8) (hb : RdA w vb xs) (hr : RdA w vr rs) (at' : Int) (hat : -9223372036854775808 ≤ at' ∧ at' ≤ 9223372036854775807) (y0 y1 y2 y3 : UInt8) (four : Bool) (hrl : rs.length ≤ 140737488355328) : Calls Try.prog 5 #[.agg (turnC vb at' y0 y1 y2 y3 four vr)] w (TrueC w) := by
  have HB := hide hb
  have HR := hide hr
  obtain ⟨w1, hw1⟩ : ∃ w1, w1 = w.alloc (.cells (turnC vb at' y0 y1 y2 y3 four vr) 49) := ⟨_, rfl⟩
  have HX1 : Hid (Blk w1 w.heap.size (turnC vb at' y0 y1 y2 y3 four vr) 49) := hide (by rw [hw1]; exact Blk.made w _ _)
  have HB1 : Hid (Below w.heap.size w w1) := hide (by rw [hw1]; exact (Below.refl _ _).alloc (Nat.le_refl _) _)
  have HS1 : Hid (w.heap.size < w1.heap.size) := hide HX1.out.lt
  have hw1' := hw1.symm
  obtain ⟨cs, hcs⟩ : ∃ cs, cs = turnC vb at' y0 y1 y2 y3 four vr := ⟨_, rfl⟩
  rw [← hcs] at hw1' ⊢
  obtain ⟨ao, c, rfl, hl63⟩ := hb.slice
  obtain ⟨bo, d, rfl, -⟩ := hr.slice
  have q0 : w1.cell? ⟨w.heap.size, 0, none⟩ = some (.slice ao xs.length c) := HX1.out.cell 0
  have HCS := hide hcs
  clear hb hr hw1 hcs
  by_cases hl : xs.length ≤ 65526
  case neg =>
    have hli : ¬ (xs.length : Int) ≤ 65526 := by omega
    go_enter Try.func5, Try.ntmps5
    go_wp2_with fail
    refine (pack_any w1 _ xs (HB.out.below HB1.out)).mono ?_
    rintro e w2 ⟨v2, rfl, hO2, hb2⟩
    rw [show packE xs = 60 from if_neg hl]
    have q0' : w2.cell? ⟨w.heap.size, 0, none⟩ = some (.slice ao xs.length c) := (HX1.out.below hb2 HX1.out.lt).cell 0
    have HB2 := hide (Below.step HB1.out hb2)
    clear hO2 hb2
    go_wp2
    go_ret
    exact ⟨rfl, HB2.out⟩
  have hli : (xs.length : Int) ≤ 65526 := by omega
  go_enter Try.func5, Try.ntmps5
  go_wp2_with fail
  refine (pack_any w1 _ xs (HB.out.below HB1.out)).mono ?_
  rintro e w2 ⟨v2, rfl, hO2, hb2⟩
  rw [show packE xs = 0 from if_pos hl]
  rw [show packR xs = packL xs from if_pos hl] at hO2
  have hX2 := HX1.out.below hb2 HX1.out.lt
  rw [← HCS.out] at hX2
  have HX2 := hide hX2
  have HB2 := hide (Below.step HB1.out hb2)
  have HS2 : Hid (w.heap.size < w2.heap.size) := hide (Nat.lt_of_lt_of_le HS1.out hb2.size)
  obtain ⟨g, cap, rfl, hg1, hg2, hg3, hg4⟩ := hO2.formB (by rw [packL_len]; omega)
  have HP2 := hide hO2.rd
  obtain ⟨L, hL⟩ : ∃ L, L = (packL xs).length := ⟨_, rfl⟩
  rw [← hL] at hg3 HP2 ⊢
  have hL10 : L = 10 + xs.length := by rw [hL, packL_len]
  have HL := hide hL10
  have hLb : (10 : Int) ≤ (L : Int) := by omega
  have hLt : (L : Int) ≤ 65536 := by omega
  have q0' : w2.cell? ⟨w.heap.size, 0, none⟩ = some (.slice ao xs.length c) := by rw [HCS.out] at hX2; exact hX2.cell 0
  have q1' : w2.cell? ⟨w.heap.size, 1, none⟩ = some (.int .i64 at') := by rw [HCS.out] at hX2; exact hX2.cell 1
  have q6' : w2.cell? ⟨w.heap.size, 6, none⟩ = some (.bool four) := by rw [HCS.out] at hX2; exact hX2.cell 6
  have q7' : w2.cell? ⟨w.heap.size, 7, none⟩ = some (.slice bo rs.length d) := by rw [HCS.out] at hX2; exact hX2.cell 7
  clear hO2 hb2 q0 hX2 hL hL10 HX1 hw1' hg1 hg2
  cases four with
  | false =>
    by_cases hneg : at'.tmod ((L : Int) : Int) < 0
    · have hne0 : ¬ (L : Int) = 0 := by omega
      have hbq : ((L : Int) == 0) = false := beq_false_of_ne hne0
      have hML : L ≤ 65536 := by omega
      have hMp : 0 < L := by omega
      have htl := Int.lt_tmod_of_pos at' (show (0 : Int) < (L : Int) by omega)
      have htu := Int.tmod_lt_of_pos at' (show (0 : Int) < (L : Int) by omega)
      obtain ⟨a0, ea0, la0⟩ := rem_low at' L hMp hneg
      obtain ⟨t, ht⟩ : ∃ t, t = at'.tmod (L : Int) := ⟨_, rfl⟩
      have htm : at'.tmod (L : Int) = t := ht.symm
      rw [← ht] at hneg htl htu ea0
      have ea1 : t + (L : Int) = (a0 : Int) := by omega
      obtain ⟨a, ha⟩ : ∃ a, a = a0 := ⟨_, rfl⟩
      subst ha
      have haL : a < L := la0
      clear ht ea0
      go_wp2_with fail
      refine (joined_any w2 _ _ (packL xs) rs HP2.out (HR.out.below HB2.out) (by rw [packL_len]; omega)).mono ?_
      rintro e w3 ⟨v3, rfl, hO3, hb3⟩
      have hX3 := HX2.out.below hb3 HX2.out.lt
      rw [HCS.out] at hX3
      have HX3 := hide hX3
      have HB3 := hide (Below.step HB2.out hb3)
      have hjl : (packL xs ++ rs).length = L + rs.length := by rw [List.length_append, packL_len, HL.out]
      obtain ⟨g3, cap3, rfl, hh1, hh2, hh3, hh4⟩ := hO3.formB (by rw [hjl]; omega)
      have hgne : w.heap.size < g3 := Nat.lt_of_lt_of_le HS2.out hh1
      obtain ⟨J, hJ⟩ : ∃ J, J = (packL xs ++ rs).length := ⟨_, rfl⟩
      have hJL : J = L + rs.length := by rw [hJ, hjl]
      rw [← hJ] at hO3 hh3 ⊢
      have HO3 := hide hO3
      have HJ := hide hJ
      have haJ : a < J := by omega
      have hJb : (J : Int) ≤ 140737488500000 := by omega
      have HAL := hide haL
      have HJL := hide hJL
      clear hJL hX3 hb3 hO3 hJ hjl HP2 q0' q1' q6' q7' htl htu htm hh1 hh2
      go_wp2
      go_loopw [9, 10] (fun tu i wr => ∃ k : Nat, tu = .bool (anyN (byF y0 y1 y2 y3) k) ∧ i = .int .i64 k ∧ k ≤ 1 ∧ a + k ≤ L ∧ OwnsB wr w2.heap.size (.slice (some ⟨g3, 0, none⟩) J cap3) (turnL (packL xs ++ rs) a k (byF y0 y1 y2 y3)) ∧ Blk wr w.heap.size (turnC (.slice ao xs.length c) at' y0 y1 y2 y3 false (.slice bo rs.length d)) 49 ∧ Below w.heap.size w wr) (fun _ i _ => 1 - (intOf i).toNat)
      case atStart => exact ⟨0, rfl, rfl, by omega, by omega, by rw [turnL_zero]; exact HO3.out, HX3.out, HB3.out⟩
      case round =>
        clear HO3 HX3 HB3
        obtain ⟨k, rfl, rfl, hk, hkL, hO, hX, hbel⟩ := hrel
        have hbel0 := hbel
        have hO : OwnsB wr.drew w2.heap.size (.slice (some ⟨g3, 0, none⟩) J cap3) (turnL (packL xs ++ rs) a k (byF y0 y1 y2 y3)) := hO
        have hX := hX.drew
        have hbel := drewR hbel
        by_cases hgo : k < 1 ∧ a + k < L
        · obtain ⟨hk1, hk2⟩ := hgo
          have hki : (k : Int) < 1 := by omega
          have hk4 : (k : Int) < 4 := by omega
          have hki2 : (a : Int) + (k : Int) < (L : Int) := by omega
          have hki3 : (a : Int) + (k : Int) < (J : Int) := by have := HJL.out; omega
          have hlJ : a + k < (packL xs ++ rs).length := by rw [← HJ.out]; have := HJL.out; omega
          obtain ⟨c1, f1, -⟩ := hO.atB (a + k) (by rw [turnL_len]; exact hlJ)
          have hc2 := turnC_by hX k (by omega)
          have hgt : (turnL (packL xs ++ rs) a k (byF y0 y1 y2 y3))[a + k]'(by rw [turnL_len]; exact hlJ) = (packL xs ++ rs)[a + k]'hlJ := by
            have h := turnL_out (packL xs ++ rs) a k (byF y0 y1 y2 y3) (a + k) (by omega)
            rw [List.getElem?_eq_getElem (by rw [turnL_len]; exact hlJ), List.getElem?_eq_getElem hlJ] at h
            exact Option.some.inj h
          rw [hgt] at c1
          have HT := hide (turnL_succ (packL xs ++ rs) a k (byF y0 y1 y2 y3) hlJ)
          obtain ⟨y, hy⟩ : ∃ y, y = (packL xs ++ rs)[a + k]'hlJ := ⟨_, rfl⟩
          rw [← hy] at c1 HT
          obtain ⟨s, hs⟩ : ∃ s, s = a + k := ⟨_, rfl⟩
          rw [← hs] at c1 f1 HT
          have hs0 : (0 : Int) ≤ (s : Int) := by omega
          have hsJ : (s : Int) < (J : Int) := by omega
          have HSet := hide (hO.setB s (y ^^^ byF y0 y1 y2 y3 k))
          unfold u8c at HSet
          have hxr := xor_u8 y (byF y0 y1 y2 y3 k)
          have HA : Hid (anyN (byF y0 y1 y2 y3) (k + 1) = (anyN (byF y0 y1 y2 y3) k || (byF y0 y1 y2 y3 k != 0))) := hide rfl
          have HZ : Hid (((byF y0 y1 y2 y3 k) != 0) = !(((byF y0 y1 y2 y3 k).toNat : Int) == 0)) := hide (by
            rw [bne]
            congr 1
            by_cases h0 : byF y0 y1 y2 y3 k = 0
            · rw [h0]; rfl
            · rw [beq_false_of_ne h0, beq_false_of_ne (fun e => h0 (UInt8.toNat_inj.mp (by rw [UInt8.toNat_zero]; omega)))])
          rw [HZ.out] at HA
          obtain ⟨yk, hyk⟩ : ∃ yk : Int, yk = ((byF y0 y1 y2 y3 k).toNat : Int) := ⟨_, rfl⟩
          obtain ⟨yx, hyx⟩ : ∃ yx : Int, yx = (y.toNat : Int) := ⟨_, rfl⟩
          obtain ⟨yz, hyz⟩ : ∃ yz : Int, yz = ((y ^^^ byF y0 y1 y2 y3 k).toNat : Int) := ⟨_, rfl⟩
          rw [← hyk, ← hyx, ← hyz] at hxr
          rw [← hyk] at hc2 HA
          rw [← hyx] at c1
          rw [← hyz] at HSet
          have HXs : Hid (Blk (wr.drew.setCell ⟨g3, s, none⟩ (.int .u8 yz)) w.heap.size (turnC (.slice ao xs.length c) at' y0 y1 y2 y3 false (.slice bo rs.length d)) 49) := hide (hX.setOther _ _ (by simp; omega))
          have hcX : (wr.drew.setCell ⟨g3, s, none⟩ (.int .u8 yz)).cell? ⟨w.heap.size, 2 + k, none⟩ = some (.int .u8 yk) := by rw [hyk]; exact turnC_by HXs.out k (by omega)
          have HBs : Hid (Below w.heap.size w (wr.drew.setCell ⟨g3, s, none⟩ (.int .u8 yz))) := hide (hbel.setCell (by simp; omega) _)
          obtain ⟨tk, htk⟩ : ∃ tk, tk = anyN (byF y0 y1 y2 y3) k := ⟨_, rfl⟩
          rw [← htk] at HA ⊢
          have HWR : Hid (IntKind.i64.wrap ((a : Int) + (k : Int)) = (s : Int)) := hide (by rw [hs]; push_cast; exact wrapi64_nat (a + k) (by omega))
          clear hO hX hbel hgt hy hyk hyx hyz htk HZ hs
          have hc3 : wr.cell? ⟨w.heap.size, 2 + k, none⟩ = some (.int .u8 yk) := hc2
          cases tk with
          | true =>
            go_wp2
            have hwr := HWR.out
            refine wp_region_still_tail 16 (by kernel_rfl) (by kernel_rfl) ?_
            simp only [List.take_succ_cons, List.take_zero, List.drop_succ_cons, List.drop_zero]
            iterate 16 still_step
            refine wpStill_nil ?_
            change wpList _ _ _ _ _ wr.drew
            go_wp2
            refine ⟨⟨k + 1, by rw [HA.out]; rfl, by go_num, by omega, by omega, by rw [HT.out]; exact HSet.out, HXs.out, HBs.out⟩, by simp [intOf]; omega⟩
          | false =>
            go_wp2
            have hwr := HWR.out
            refine wp_region_still_tail 16 (by kernel_rfl) (by kernel_rfl) ?_
            simp only [List.take_succ_cons, List.take_zero, List.drop_succ_cons, List.drop_zero]
            iterate 16 still_step
            refine wpStill_nil ?_
            change wpList _ _ _ _ _ wr.drew
            go_wp2
            refine ⟨⟨k + 1, by rw [HA.out]; rfl, by go_num, by omega, by omega, by rw [HT.out]; exact HSet.out, HXs.out, HBs.out⟩, by simp [intOf]; omega⟩
        · have HO : Hid (RdA wr (.slice (some ⟨g3, 0, none⟩) J cap3) (turnL (packL xs ++ rs) a k (byF y0 y1 y2 y3))) := hide (OwnsB.rd (base := w2.heap.size) hO)
          have HBl : Hid (Below w.heap.size w wr) := hide hbel0
          have hqX : wr.cell? ⟨w.heap.size, 0, none⟩ = some (.slice ao xs.length c) := hX.cell 0
          have HWH := hide (fun h => unpk_whole xs rs hl a k (byF y0 y1 y2 y3) h)
          have HTO := hide (fun h => unpk_turned xs rs hl a k (byF y0 y1 y2 y3) (by have := HL.out; omega) (by have := HL.out; have := HAL.out; omega) h (.inl (by omega)))
          have HLn : Hid (((10 + xs.length : Nat) : Int) = (L : Int)) := hide (by rw [HL.out])
          clear hO hX hbel
          have hki : ¬ (k : Int) < 1 := by omega
          obtain ⟨tk, htk⟩ : ∃ tk, tk = anyN (byF y0 y1 y2 y3) k := ⟨_, rfl⟩
          rw [← htk] at HWH HTO ⊢
          clear htk
          go_wp2_with fail
          refine (unpack_any wr _ _ HO.out 0 (by omega)).mono ?_
          rintro e w5 ⟨v5, rfl, hO5, hb5⟩
          have HB5 := hide (Below.step HBl.out hb5)
          have hqY := (hb5.cell (World.block_lt_of_cell? wr _ hqX)).trans hqX
          cases tk with
          | true =>
            obtain ⟨er, he, hne⟩ := HTO.out rfl
            rw [he] at hO5 ⊢
            simp only [] at hO5 ⊢
            obtain ⟨ao5, c5, rfl, -, -⟩ := hO5.slice
            rw [List.length_nil]
            have hne' : ¬ (er : Int) = 0 := by omega
            have hnb : ((er : Int) == 0) = false := beq_false_of_ne hne'
            clear hO5 hb5 he hne
            go_wp2
            go_ret
            exact ⟨congrArg (fun b => Ending.returned (.bool b)) (show ((er : Int) != 0) = true by rw [bne, hnb]; rfl), HB5.out⟩
          | false =>
            rw [HWH.out rfl] at hO5 ⊢
            simp only [] at hO5 ⊢
            rw [HLn.out]
            obtain ⟨ao5, c5, rfl, -, -⟩ := hO5.slice
            have HO5 := hide hO5.rd
            clear hO5 hb5
            go_wp2_with fail
            refine (same_any w5 _ _ xs HO5.out (HB.out.below HB5.out)).mono ?_
            rintro e w6 ⟨rfl, hb6⟩
            have HB6 := hide (Below.step HB5.out hb6)
            clear hb6
            go_wp2
            go_ret
            exact ⟨rfl, HB6.out⟩
    · have hne0 : ¬ (L : Int) = 0 := by omega
      have hbq : ((L : Int) == 0) = false := beq_false_of_ne hne0
      have hML : L ≤ 65536 := by omega
      have hMp : 0 < L := by omega
      have htl := Int.lt_tmod_of_pos at' (show (0 : Int) < (L : Int) by omega)
      have htu := Int.tmod_lt_of_pos at' (show (0 : Int) < (L : Int) by omega)
      obtain ⟨a0, ea0, la0⟩ := rem_high at' L hMp hneg
      obtain ⟨t, ht⟩ : ∃ t, t = at'.tmod (L : Int) := ⟨_, rfl⟩
      have htm : at'.tmod (L : Int) = t := ht.symm
      rw [← ht] at hneg htl htu ea0
      subst ea0
      obtain ⟨a, ha⟩ : ∃ a, a = a0 := ⟨_, rfl⟩
      subst ha
      have haL : a < L := la0
      clear ht
      go_wp2_with fail
      refine (joined_any w2 _ _ (packL xs) rs HP2.out (HR.out.below HB2.out) (by rw [packL_len]; omega)).mono ?_
      rintro e w3 ⟨v3, rfl, hO3, hb3⟩
      have hX3 := HX2.out.below hb3 HX2.out.lt
      rw [HCS.out] at hX3
      have HX3 := hide hX3
      have HB3 := hide (Below.step HB2.out hb3)
      have hjl : (packL xs ++ rs).length = L + rs.length := by rw [List.length_append, packL_len, HL.out]
      obtain ⟨g3, cap3, rfl, hh1, hh2, hh3, hh4⟩ := hO3.formB (by rw [hjl]; omega)
      have hgne : w.heap.size < g3 := Nat.lt_of_lt_of_le HS2.out hh1
      obtain ⟨J, hJ⟩ : ∃ J, J = (packL xs ++ rs).length := ⟨_, rfl⟩
      have hJL : J = L + rs.length := by rw [hJ, hjl]
      rw [← hJ] at hO3 hh3 ⊢
      have HO3 := hide hO3
      have HJ := hide hJ
      have haJ : a < J := by omega
      have hJb : (J : Int) ≤ 140737488500000 := by omega
      have HAL := hide haL
      have HJL := hide hJL
      clear hJL hX3 hb3 hO3 hJ hjl HP2 q0' q1' q6' q7' htl htu htm hh1 hh2
      go_wp2
      go_loopw [9, 10] (fun tu i wr => ∃ k : Nat, tu = .bool (anyN (byF y0 y1 y2 y3) k) ∧ i = .int .i64 k ∧ k ≤ 1 ∧ a + k ≤ L ∧ OwnsB wr w2.heap.size (.slice (some ⟨g3, 0, none⟩) J cap3) (turnL (packL xs ++ rs) a k (byF y0 y1 y2 y3)) ∧ Blk wr w.heap.size (turnC (.slice ao xs.length c) at' y0 y1 y2 y3 false (.slice bo rs.length d)) 49 ∧ Below w.heap.size w wr) (fun _ i _ => 1 - (intOf i).toNat)
      case atStart => exact ⟨0, rfl, rfl, by omega, by omega, by rw [turnL_zero]; exact HO3.out, HX3.out, HB3.out⟩
      case round =>
        clear HO3 HX3 HB3
        obtain ⟨k, rfl, rfl, hk, hkL, hO, hX, hbel⟩ := hrel
        have hbel0 := hbel
        have hO : OwnsB wr.drew w2.heap.size (.slice (some ⟨g3, 0, none⟩) J cap3) (turnL (packL xs ++ rs) a k (byF y0 y1 y2 y3)) := hO
        have hX := hX.drew
        have hbel := drewR hbel
        by_cases hgo : k < 1 ∧ a + k < L
        · obtain ⟨hk1, hk2⟩ := hgo
          have hki : (k : Int) < 1 := by omega
          have hk4 : (k : Int) < 4 := by omega
          have hki2 : (a : Int) + (k : Int) < (L : Int) := by omega
          have hki3 : (a : Int) + (k : Int) < (J : Int) := by have := HJL.out; omega
          have hlJ : a + k < (packL xs ++ rs).length := by rw [← HJ.out]; have := HJL.out; omega
          obtain ⟨c1, f1, -⟩ := hO.atB (a + k) (by rw [turnL_len]; exact hlJ)
          have hc2 := turnC_by hX k (by omega)
          have hgt : (turnL (packL xs ++ rs) a k (byF y0 y1 y2 y3))[a + k]'(by rw [turnL_len]; exact hlJ) = (packL xs ++ rs)[a + k]'hlJ := by
            have h := turnL_out (packL xs ++ rs) a k (byF y0 y1 y2 y3) (a + k) (by omega)
            rw [List.getElem?_eq_getElem (by rw [turnL_len]; exact hlJ), List.getElem?_eq_getElem hlJ] at h
            exact Option.some.inj h
          rw [hgt] at c1
          have HT := hide (turnL_succ (packL xs ++ rs) a k (byF y0 y1 y2 y3) hlJ)
          obtain ⟨y, hy⟩ : ∃ y, y = (packL xs ++ rs)[a + k]'hlJ := ⟨_, rfl⟩
          rw [← hy] at c1 HT
          obtain ⟨s, hs⟩ : ∃ s, s = a + k := ⟨_, rfl⟩
          rw [← hs] at c1 f1 HT
          have hs0 : (0 : Int) ≤ (s : Int) := by omega
          have hsJ : (s : Int) < (J : Int) := by omega
          have HSet := hide (hO.setB s (y ^^^ byF y0 y1 y2 y3 k))
          unfold u8c at HSet
          have hxr := xor_u8 y (byF y0 y1 y2 y3 k)
          have HA : Hid (anyN (byF y0 y1 y2 y3) (k + 1) = (anyN (byF y0 y1 y2 y3) k || (byF y0 y1 y2 y3 k != 0))) := hide rfl
          have HZ : Hid (((byF y0 y1 y2 y3 k) != 0) = !(((byF y0 y1 y2 y3 k).toNat : Int) == 0)) := hide (by
            rw [bne]
            congr 1
            by_cases h0 : byF y0 y1 y2 y3 k = 0
            · rw [h0]; rfl
            · rw [beq_false_of_ne h0, beq_false_of_ne (fun e => h0 (UInt8.toNat_inj.mp (by rw [UInt8.toNat_zero]; omega)))])
          rw [HZ.out] at HA
          obtain ⟨yk, hyk⟩ : ∃ yk : Int, yk = ((byF y0 y1 y2 y3 k).toNat : Int) := ⟨_, rfl⟩
          obtain ⟨yx, hyx⟩ : ∃ yx : Int, yx = (y.toNat : Int) := ⟨_, rfl⟩
          obtain ⟨yz, hyz⟩ : ∃ yz : Int, yz = ((y ^^^ byF y0 y1 y2 y3 k).toNat : Int) := ⟨_, rfl⟩
          rw [← hyk, ← hyx, ← hyz] at hxr
          rw [← hyk] at hc2 HA
          rw [← hyx] at c1
          rw [← hyz] at HSet
          have HXs : Hid (Blk (wr.drew.setCell ⟨g3, s, none⟩ (.int .u8 yz)) w.heap.size (turnC (.slice ao xs.length c) at' y0 y1 y2 y3 false (.slice bo rs.length d)) 49) := hide (hX.setOther _ _ (by simp; omega))
          have hcX : (wr.drew.setCell ⟨g3, s, none⟩ (.int .u8 yz)).cell? ⟨w.heap.size, 2 + k, none⟩ = some (.int .u8 yk) := by rw [hyk]; exact turnC_by HXs.out k (by omega)
          have HBs : Hid (Below w.heap.size w (wr.drew.setCell ⟨g3, s, none⟩ (.int .u8 yz))) := hide (hbel.setCell (by simp; omega) _)
          obtain ⟨tk, htk⟩ : ∃ tk, tk = anyN (byF y0 y1 y2 y3) k := ⟨_, rfl⟩
          rw [← htk] at HA ⊢
          have HWR : Hid (IntKind.i64.wrap ((a : Int) + (k : Int)) = (s : Int)) := hide (by rw [hs]; push_cast; exact wrapi64_nat (a + k) (by omega))
          clear hO hX hbel hgt hy hyk hyx hyz htk HZ hs
          have hc3 : wr.cell? ⟨w.heap.size, 2 + k, none⟩ = some (.int .u8 yk) := hc2
          cases tk with
          | true =>
            go_wp2
            have hwr := HWR.out
            refine wp_region_still_tail 16 (by kernel_rfl) (by kernel_rfl) ?_
            simp only [List.take_succ_cons, List.take_zero, List.drop_succ_cons, List.drop_zero]
            iterate 16 still_step
            refine wpStill_nil ?_
            change wpList _ _ _ _ _ wr.drew
            go_wp2
            refine ⟨⟨k + 1, by rw [HA.out]; rfl, by go_num, by omega, by omega, by rw [HT.out]; exact HSet.out, HXs.out, HBs.out⟩, by simp [intOf]; omega⟩
          | false =>
            go_wp2
            have hwr := HWR.out
            refine wp_region_still_tail 16 (by kernel_rfl) (by kernel_rfl) ?_
            simp only [List.take_succ_cons, List.take_zero, List.drop_succ_cons, List.drop_zero]
            iterate 16 still_step
            refine wpStill_nil ?_
            change wpList _ _ _ _ _ wr.drew
            go_wp2
            refine ⟨⟨k + 1, by rw [HA.out]; rfl, by go_num, by omega, by omega, by rw [HT.out]; exact HSet.out, HXs.out, HBs.out⟩, by simp [intOf]; omega⟩
        · have HO : Hid (RdA wr (.slice (some ⟨g3, 0, none⟩) J cap3) (turnL (packL xs ++ rs) a k (byF y0 y1 y2 y3))) := hide (OwnsB.rd (base := w2.heap.size) hO)
          have HBl : Hid (Below w.heap.size w wr) := hide hbel0
          have hqX : wr.cell? ⟨w.heap.size, 0, none⟩ = some (.slice ao xs.length c) := hX.cell 0
          have HWH := hide (fun h => unpk_whole xs rs hl a k (byF y0 y1 y2 y3) h)
          have HTO := hide (fun h => unpk_turned xs rs hl a k (byF y0 y1 y2 y3) (by have := HL.out; omega) (by have := HL.out; have := HAL.out; omega) h (.inl (by omega)))
          have HLn : Hid (((10 + xs.length : Nat) : Int) = (L : Int)) := hide (by rw [HL.out])
          clear hO hX hbel
          have hki : ¬ (k : Int) < 1 := by omega
          obtain ⟨tk, htk⟩ : ∃ tk, tk = anyN (byF y0 y1 y2 y3) k := ⟨_, rfl⟩
          rw [← htk] at HWH HTO ⊢
          clear htk
          go_wp2_with fail
          refine (unpack_any wr _ _ HO.out 0 (by omega)).mono ?_
          rintro e w5 ⟨v5, rfl, hO5, hb5⟩
          have HB5 := hide (Below.step HBl.out hb5)
          have hqY := (hb5.cell (World.block_lt_of_cell? wr _ hqX)).trans hqX
          cases tk with
          | true =>
            obtain ⟨er, he, hne⟩ := HTO.out rfl
            rw [he] at hO5 ⊢
            simp only [] at hO5 ⊢
            obtain ⟨ao5, c5, rfl, -, -⟩ := hO5.slice
            rw [List.length_nil]
            have hne' : ¬ (er : Int) = 0 := by omega
            have hnb : ((er : Int) == 0) = false := beq_false_of_ne hne'
            clear hO5 hb5 he hne
            go_wp2
            go_ret
            exact ⟨congrArg (fun b => Ending.returned (.bool b)) (show ((er : Int) != 0) = true by rw [bne, hnb]; rfl), HB5.out⟩
          | false =>
            rw [HWH.out rfl] at hO5 ⊢
            simp only [] at hO5 ⊢
            rw [HLn.out]
            obtain ⟨ao5, c5, rfl, -, -⟩ := hO5.slice
            have HO5 := hide hO5.rd
            clear hO5 hb5
            go_wp2_with fail
            refine (same_any w5 _ _ xs HO5.out (HB.out.below HB5.out)).mono ?_
            rintro e w6 ⟨rfl, hb6⟩
            have HB6 := hide (Below.step HB5.out hb6)
            clear hb6
            go_wp2
            go_ret
            exact ⟨rfl, HB6.out⟩
  | true =>
    by_cases hL10 : L = 10
    · have hLi : (L : Int) = 10 := by omega
      have hbq : ((L : Int) == 10) = true := by rw [hLi]; rfl
      go_wp2_with fail
      refine (works_any w2).mono ?_
      rintro e w3 ⟨rfl, hb3⟩
      have HB3 := hide (Below.step HB2.out hb3)
      clear hb3
      go_wp2
      go_ret
      exact ⟨rfl, HB3.out⟩
    by_cases hneg : at'.tmod (((L - 10 : Nat) : Int) : Int) < 0
    · have hne10 : ¬ (L : Int) = 10 := by omega
      have hbq : ((L : Int) == 10) = false := beq_false_of_ne hne10
      obtain ⟨M, hM⟩ : ∃ M : Nat, M = L - 10 := ⟨_, rfl⟩
      rw [← hM] at hneg
      have eM : (L : Int) - 10 = (M : Int) := by omega
      have hM0 : 0 < M := by omega
      have hMb : M ≤ 65536 := by omega
      have hMz : ¬ (M : Int) = 0 := by omega
      have hML : M ≤ 65536 := by omega
      have hMp : 0 < M := by omega
      have htl := Int.lt_tmod_of_pos at' (show (0 : Int) < (M : Int) by omega)
      have htu := Int.tmod_lt_of_pos at' (show (0 : Int) < (M : Int) by omega)
      obtain ⟨a0, ea0, la0⟩ := rem_low at' M hMp hneg
      obtain ⟨t, ht⟩ : ∃ t, t = at'.tmod (M : Int) := ⟨_, rfl⟩
      have htm : at'.tmod (M : Int) = t := ht.symm
      rw [← ht] at hneg htl htu ea0
      have ea1 : t + (L : Int) - 10 = (a0 : Int) := by omega
      obtain ⟨a, ha⟩ : ∃ a, a = a0 + 10 := ⟨_, rfl⟩
      have ea2 : (a0 : Int) + 10 = (a : Int) := by omega
      have haL : a < L := by omega
      have ha10 : 10 ≤ a := by omega
      clear ht ha ea0
      clear hM
      go_wp2_with fail
      refine (joined_any w2 _ _ (packL xs) rs HP2.out (HR.out.below HB2.out) (by rw [packL_len]; omega)).mono ?_
      rintro e w3 ⟨v3, rfl, hO3, hb3⟩
      have hX3 := HX2.out.below hb3 HX2.out.lt
      rw [HCS.out] at hX3
      have HX3 := hide hX3
      have HB3 := hide (Below.step HB2.out hb3)
      have hjl : (packL xs ++ rs).length = L + rs.length := by rw [List.length_append, packL_len, HL.out]
      obtain ⟨g3, cap3, rfl, hh1, hh2, hh3, hh4⟩ := hO3.formB (by rw [hjl]; omega)
      have hgne : w.heap.size < g3 := Nat.lt_of_lt_of_le HS2.out hh1
      obtain ⟨J, hJ⟩ : ∃ J, J = (packL xs ++ rs).length := ⟨_, rfl⟩
      have hJL : J = L + rs.length := by rw [hJ, hjl]
      rw [← hJ] at hO3 hh3 ⊢
      have HO3 := hide hO3
      have HJ := hide hJ
      have haJ : a < J := by omega
      have hJb : (J : Int) ≤ 140737488500000 := by omega
      have HAL := hide haL
      have HJL := hide hJL
      clear hJL hX3 hb3 hO3 hJ hjl HP2 q0' q1' q6' q7' htl htu htm hh1 hh2
      go_wp2
      go_loopw [9, 10] (fun tu i wr => ∃ k : Nat, tu = .bool (anyN (byF y0 y1 y2 y3) k) ∧ i = .int .i64 k ∧ k ≤ 4 ∧ a + k ≤ L ∧ OwnsB wr w2.heap.size (.slice (some ⟨g3, 0, none⟩) J cap3) (turnL (packL xs ++ rs) a k (byF y0 y1 y2 y3)) ∧ Blk wr w.heap.size (turnC (.slice ao xs.length c) at' y0 y1 y2 y3 true (.slice bo rs.length d)) 49 ∧ Below w.heap.size w wr) (fun _ i _ => 4 - (intOf i).toNat)
      case atStart => exact ⟨0, rfl, rfl, by omega, by omega, by rw [turnL_zero]; exact HO3.out, HX3.out, HB3.out⟩
      case round =>
        clear HO3 HX3 HB3
        obtain ⟨k, rfl, rfl, hk, hkL, hO, hX, hbel⟩ := hrel
        have hbel0 := hbel
        have hO : OwnsB wr.drew w2.heap.size (.slice (some ⟨g3, 0, none⟩) J cap3) (turnL (packL xs ++ rs) a k (byF y0 y1 y2 y3)) := hO
        have hX := hX.drew
        have hbel := drewR hbel
        by_cases hgo : k < 4 ∧ a + k < L
        · obtain ⟨hk1, hk2⟩ := hgo
          have hki : (k : Int) < 4 := by omega
          have hk4 : (k : Int) < 4 := by omega
          have hki2 : (a : Int) + (k : Int) < (L : Int) := by omega
          have hki3 : (a : Int) + (k : Int) < (J : Int) := by have := HJL.out; omega
          have hlJ : a + k < (packL xs ++ rs).length := by rw [← HJ.out]; have := HJL.out; omega
          obtain ⟨c1, f1, -⟩ := hO.atB (a + k) (by rw [turnL_len]; exact hlJ)
          have hc2 := turnC_by hX k (by omega)
          have hgt : (turnL (packL xs ++ rs) a k (byF y0 y1 y2 y3))[a + k]'(by rw [turnL_len]; exact hlJ) = (packL xs ++ rs)[a + k]'hlJ := by
            have h := turnL_out (packL xs ++ rs) a k (byF y0 y1 y2 y3) (a + k) (by omega)
            rw [List.getElem?_eq_getElem (by rw [turnL_len]; exact hlJ), List.getElem?_eq_getElem hlJ] at h
            exact Option.some.inj h
          rw [hgt] at c1
          have HT := hide (turnL_succ (packL xs ++ rs) a k (byF y0 y1 y2 y3) hlJ)
          obtain ⟨y, hy⟩ : ∃ y, y = (packL xs ++ rs)[a + k]'hlJ := ⟨_, rfl⟩
          rw [← hy] at c1 HT
          obtain ⟨s, hs⟩ : ∃ s, s = a + k := ⟨_, rfl⟩
          rw [← hs] at c1 f1 HT
          have hs0 : (0 : Int) ≤ (s : Int) := by omega
          have hsJ : (s : Int) < (J : Int) := by omega
          have HSet := hide (hO.setB s (y ^^^ byF y0 y1 y2 y3 k))
          unfold u8c at HSet
          have hxr := xor_u8 y (byF y0 y1 y2 y3 k)
          have HA : Hid (anyN (byF y0 y1 y2 y3) (k + 1) = (anyN (byF y0 y1 y2 y3) k || (byF y0 y1 y2 y3 k != 0))) := hide rfl
          have HZ : Hid (((byF y0 y1 y2 y3 k) != 0) = !(((byF y0 y1 y2 y3 k).toNat : Int) == 0)) := hide (by
            rw [bne]
            congr 1
            by_cases h0 : byF y0 y1 y2 y3 k = 0
            · rw [h0]; rfl
            · rw [beq_false_of_ne h0, beq_false_of_ne (fun e => h0 (UInt8.toNat_inj.mp (by rw [UInt8.toNat_zero]; omega)))])
          rw [HZ.out] at HA
          obtain ⟨yk, hyk⟩ : ∃ yk : Int, yk = ((byF y0 y1 y2 y3 k).toNat : Int) := ⟨_, rfl⟩
          obtain ⟨yx, hyx⟩ : ∃ yx : Int, yx = (y.toNat : Int) := ⟨_, rfl⟩
          obtain ⟨yz, hyz⟩ : ∃ yz : Int, yz = ((y ^^^ byF y0 y1 y2 y3 k).toNat : Int) := ⟨_, rfl⟩
          rw [← hyk, ← hyx, ← hyz] at hxr
          rw [← hyk] at hc2 HA
          rw [← hyx] at c1
          rw [← hyz] at HSet
          have HXs : Hid (Blk (wr.drew.setCell ⟨g3, s, none⟩ (.int .u8 yz)) w.heap.size (turnC (.slice ao xs.length c) at' y0 y1 y2 y3 true (.slice bo rs.length d)) 49) := hide (hX.setOther _ _ (by simp; omega))
          have hcX : (wr.drew.setCell ⟨g3, s, none⟩ (.int .u8 yz)).cell? ⟨w.heap.size, 2 + k, none⟩ = some (.int .u8 yk) := by rw [hyk]; exact turnC_by HXs.out k (by omega)
          have HBs : Hid (Below w.heap.size w (wr.drew.setCell ⟨g3, s, none⟩ (.int .u8 yz))) := hide (hbel.setCell (by simp; omega) _)
          obtain ⟨tk, htk⟩ : ∃ tk, tk = anyN (byF y0 y1 y2 y3) k := ⟨_, rfl⟩
          rw [← htk] at HA ⊢
          have HWR : Hid (IntKind.i64.wrap ((a : Int) + (k : Int)) = (s : Int)) := hide (by rw [hs]; push_cast; exact wrapi64_nat (a + k) (by omega))
          clear hO hX hbel hgt hy hyk hyx hyz htk HZ hs
          have hc3 : wr.cell? ⟨w.heap.size, 2 + k, none⟩ = some (.int .u8 yk) := hc2
          cases tk with
          | true =>
            go_wp2
            have hwr := HWR.out
            refine wp_region_still_tail 16 (by kernel_rfl) (by kernel_rfl) ?_
            simp only [List.take_succ_cons, List.take_zero, List.drop_succ_cons, List.drop_zero]
            iterate 16 still_step
            refine wpStill_nil ?_
            change wpList _ _ _ _ _ wr.drew
            go_wp2
            refine ⟨⟨k + 1, by rw [HA.out]; rfl, by go_num, by omega, by omega, by rw [HT.out]; exact HSet.out, HXs.out, HBs.out⟩, by simp [intOf]; omega⟩
          | false =>
            go_wp2
            have hwr := HWR.out
            refine wp_region_still_tail 16 (by kernel_rfl) (by kernel_rfl) ?_
            simp only [List.take_succ_cons, List.take_zero, List.drop_succ_cons, List.drop_zero]
            iterate 16 still_step
            refine wpStill_nil ?_
            change wpList _ _ _ _ _ wr.drew
            go_wp2
            refine ⟨⟨k + 1, by rw [HA.out]; rfl, by go_num, by omega, by omega, by rw [HT.out]; exact HSet.out, HXs.out, HBs.out⟩, by simp [intOf]; omega⟩
        · have HO : Hid (RdA wr (.slice (some ⟨g3, 0, none⟩) J cap3) (turnL (packL xs ++ rs) a k (byF y0 y1 y2 y3))) := hide (OwnsB.rd (base := w2.heap.size) hO)
          have HBl : Hid (Below w.heap.size w wr) := hide hbel0
          have hqX : wr.cell? ⟨w.heap.size, 0, none⟩ = some (.slice ao xs.length c) := hX.cell 0
          have HWH := hide (fun h => unpk_whole xs rs hl a k (byF y0 y1 y2 y3) h)
          have HTO := hide (fun h => unpk_turned xs rs hl a k (byF y0 y1 y2 y3) (by have := HL.out; omega) (by have := HL.out; have := HAL.out; omega) h (.inr ⟨ha10, by omega⟩))
          have HLn : Hid (((10 + xs.length : Nat) : Int) = (L : Int)) := hide (by rw [HL.out])
          clear hO hX hbel
          by_cases hk1 : k < 4
          · have hki : (k : Int) < 4 := by omega
            have hki2 : ¬ (a : Int) + (k : Int) < (L : Int) := by omega
            obtain ⟨tk, htk⟩ : ∃ tk, tk = anyN (byF y0 y1 y2 y3) k := ⟨_, rfl⟩
            rw [← htk] at HWH HTO ⊢
            clear htk
            go_wp2_with fail
            refine (unpack_any wr _ _ HO.out 0 (by omega)).mono ?_
            rintro e w5 ⟨v5, rfl, hO5, hb5⟩
            have HB5 := hide (Below.step HBl.out hb5)
            have hqY := (hb5.cell (World.block_lt_of_cell? wr _ hqX)).trans hqX
            cases tk with
            | true =>
              obtain ⟨er, he, hne⟩ := HTO.out rfl
              rw [he] at hO5 ⊢
              simp only [] at hO5 ⊢
              obtain ⟨ao5, c5, rfl, -, -⟩ := hO5.slice
              rw [List.length_nil]
              have hne' : ¬ (er : Int) = 0 := by omega
              have hnb : ((er : Int) == 0) = false := beq_false_of_ne hne'
              clear hO5 hb5 he hne
              go_wp2
              go_ret
              exact ⟨congrArg (fun b => Ending.returned (.bool b)) (show ((er : Int) != 0) = true by rw [bne, hnb]; rfl), HB5.out⟩
            | false =>
              rw [HWH.out rfl] at hO5 ⊢
              simp only [] at hO5 ⊢
              rw [HLn.out]
              obtain ⟨ao5, c5, rfl, -, -⟩ := hO5.slice
              have HO5 := hide hO5.rd
              clear hO5 hb5
              go_wp2_with fail
              refine (same_any w5 _ _ xs HO5.out (HB.out.below HB5.out)).mono ?_
              rintro e w6 ⟨rfl, hb6⟩
              have HB6 := hide (Below.step HB5.out hb6)
              clear hb6
              go_wp2
              go_ret
              exact ⟨rfl, HB6.out⟩
          · have hki : ¬ (k : Int) < 4 := by omega
            obtain ⟨tk, htk⟩ : ∃ tk, tk = anyN (byF y0 y1 y2 y3) k := ⟨_, rfl⟩
            rw [← htk] at HWH HTO ⊢
            clear htk
            go_wp2_with fail
            refine (unpack_any wr _ _ HO.out 0 (by omega)).mono ?_
            rintro e w5 ⟨v5, rfl, hO5, hb5⟩
            have HB5 := hide (Below.step HBl.out hb5)
            have hqY := (hb5.cell (World.block_lt_of_cell? wr _ hqX)).trans hqX
            cases tk with
            | true =>
              obtain ⟨er, he, hne⟩ := HTO.out rfl
              rw [he] at hO5 ⊢
              simp only [] at hO5 ⊢
              obtain ⟨ao5, c5, rfl, -, -⟩ := hO5.slice
              rw [List.length_nil]
              have hne' : ¬ (er : Int) = 0 := by omega
              have hnb : ((er : Int) == 0) = false := beq_false_of_ne hne'
              clear hO5 hb5 he hne
              go_wp2
              go_ret
              exact ⟨congrArg (fun b => Ending.returned (.bool b)) (show ((er : Int) != 0) = true by rw [bne, hnb]; rfl), HB5.out⟩
            | false =>
              rw [HWH.out rfl] at hO5 ⊢
              simp only [] at hO5 ⊢
              rw [HLn.out]
              obtain ⟨ao5, c5, rfl, -, -⟩ := hO5.slice
              have HO5 := hide hO5.rd
              clear hO5 hb5
              go_wp2_with fail
              refine (same_any w5 _ _ xs HO5.out (HB.out.below HB5.out)).mono ?_
              rintro e w6 ⟨rfl, hb6⟩
              have HB6 := hide (Below.step HB5.out hb6)
              clear hb6
              go_wp2
              go_ret
              exact ⟨rfl, HB6.out⟩
    · have hne10 : ¬ (L : Int) = 10 := by omega
      have hbq : ((L : Int) == 10) = false := beq_false_of_ne hne10
      obtain ⟨M, hM⟩ : ∃ M : Nat, M = L - 10 := ⟨_, rfl⟩
      rw [← hM] at hneg
      have eM : (L : Int) - 10 = (M : Int) := by omega
      have hM0 : 0 < M := by omega
      have hMb : M ≤ 65536 := by omega
      have hMz : ¬ (M : Int) = 0 := by omega
      have hML : M ≤ 65536 := by omega
      have hMp : 0 < M := by omega
      have htl := Int.lt_tmod_of_pos at' (show (0 : Int) < (M : Int) by omega)
      have htu := Int.tmod_lt_of_pos at' (show (0 : Int) < (M : Int) by omega)
      obtain ⟨a0, ea0, la0⟩ := rem_high at' M hMp hneg
      obtain ⟨t, ht⟩ : ∃ t, t = at'.tmod (M : Int) := ⟨_, rfl⟩
      have htm : at'.tmod (M : Int) = t := ht.symm
      rw [← ht] at hneg htl htu ea0
      subst ea0
      obtain ⟨a, ha⟩ : ∃ a, a = a0 + 10 := ⟨_, rfl⟩
      have ea2 : (a0 : Int) + 10 = (a : Int) := by omega
      have haL : a < L := by omega
      have ha10 : 10 ≤ a := by omega
      clear ht ha
      clear hM
      go_wp2_with fail
      refine (joined_any w2 _ _ (packL xs) rs HP2.out (HR.out.below HB2.out) (by rw [packL_len]; omega)).mono ?_
      rintro e w3 ⟨v3, rfl, hO3, hb3⟩
      have hX3 := HX2.out.below hb3 HX2.out.lt
      rw [HCS.out] at hX3
      have HX3 := hide hX3
      have HB3 := hide (Below.step HB2.out hb3)
      have hjl : (packL xs ++ rs).length = L + rs.length := by rw [List.length_append, packL_len, HL.out]
      obtain ⟨g3, cap3, rfl, hh1, hh2, hh3, hh4⟩ := hO3.formB (by rw [hjl]; omega)
      have hgne : w.heap.size < g3 := Nat.lt_of_lt_of_le HS2.out hh1
      obtain ⟨J, hJ⟩ : ∃ J, J = (packL xs ++ rs).length := ⟨_, rfl⟩
      have hJL : J = L + rs.length := by rw [hJ, hjl]
      rw [← hJ] at hO3 hh3 ⊢
      have HO3 := hide hO3
      have HJ := hide hJ
      have haJ : a < J := by omega
      have hJb : (J : Int) ≤ 140737488500000 := by omega
      have HAL := hide haL
      have HJL := hide hJL
      clear hJL hX3 hb3 hO3 hJ hjl HP2 q0' q1' q6' q7' htl htu htm hh1 hh2
      go_wp2
      go_loopw [9, 10] (fun tu i wr => ∃ k : Nat, tu = .bool (anyN (byF y0 y1 y2 y3) k) ∧ i = .int .i64 k ∧ k ≤ 4 ∧ a + k ≤ L ∧ OwnsB wr w2.heap.size (.slice (some ⟨g3, 0, none⟩) J cap3) (turnL (packL xs ++ rs) a k (byF y0 y1 y2 y3)) ∧ Blk wr w.heap.size (turnC (.slice ao xs.length c) at' y0 y1 y2 y3 true (.slice bo rs.length d)) 49 ∧ Below w.heap.size w wr) (fun _ i _ => 4 - (intOf i).toNat)
      case atStart => exact ⟨0, rfl, rfl, by omega, by omega, by rw [turnL_zero]; exact HO3.out, HX3.out, HB3.out⟩
      case round =>
        clear HO3 HX3 HB3
        obtain ⟨k, rfl, rfl, hk, hkL, hO, hX, hbel⟩ := hrel
        have hbel0 := hbel
        have hO : OwnsB wr.drew w2.heap.size (.slice (some ⟨g3, 0, none⟩) J cap3) (turnL (packL xs ++ rs) a k (byF y0 y1 y2 y3)) := hO
        have hX := hX.drew
        have hbel := drewR hbel
        by_cases hgo : k < 4 ∧ a + k < L
        · obtain ⟨hk1, hk2⟩ := hgo
          have hki : (k : Int) < 4 := by omega
          have hk4 : (k : Int) < 4 := by omega
          have hki2 : (a : Int) + (k : Int) < (L : Int) := by omega
          have hki3 : (a : Int) + (k : Int) < (J : Int) := by have := HJL.out; omega
          have hlJ : a + k < (packL xs ++ rs).length := by rw [← HJ.out]; have := HJL.out; omega
          obtain ⟨c1, f1, -⟩ := hO.atB (a + k) (by rw [turnL_len]; exact hlJ)
          have hc2 := turnC_by hX k (by omega)
          have hgt : (turnL (packL xs ++ rs) a k (byF y0 y1 y2 y3))[a + k]'(by rw [turnL_len]; exact hlJ) = (packL xs ++ rs)[a + k]'hlJ := by
            have h := turnL_out (packL xs ++ rs) a k (byF y0 y1 y2 y3) (a + k) (by omega)
            rw [List.getElem?_eq_getElem (by rw [turnL_len]; exact hlJ), List.getElem?_eq_getElem hlJ] at h
            exact Option.some.inj h
          rw [hgt] at c1
          have HT := hide (turnL_succ (packL xs ++ rs) a k (byF y0 y1 y2 y3) hlJ)
          obtain ⟨y, hy⟩ : ∃ y, y = (packL xs ++ rs)[a + k]'hlJ := ⟨_, rfl⟩
          rw [← hy] at c1 HT
          obtain ⟨s, hs⟩ : ∃ s, s = a + k := ⟨_, rfl⟩
          rw [← hs] at c1 f1 HT
          have hs0 : (0 : Int) ≤ (s : Int) := by omega
          have hsJ : (s : Int) < (J : Int) := by omega
          have HSet := hide (hO.setB s (y ^^^ byF y0 y1 y2 y3 k))
          unfold u8c at HSet
          have hxr := xor_u8 y (byF y0 y1 y2 y3 k)
          have HA : Hid (anyN (byF y0 y1 y2 y3) (k + 1) = (anyN (byF y0 y1 y2 y3) k || (byF y0 y1 y2 y3 k != 0))) := hide rfl
          have HZ : Hid (((byF y0 y1 y2 y3 k) != 0) = !(((byF y0 y1 y2 y3 k).toNat : Int) == 0)) := hide (by
            rw [bne]
            congr 1
            by_cases h0 : byF y0 y1 y2 y3 k = 0
            · rw [h0]; rfl
            · rw [beq_false_of_ne h0, beq_false_of_ne (fun e => h0 (UInt8.toNat_inj.mp (by rw [UInt8.toNat_zero]; omega)))])
          rw [HZ.out] at HA
          obtain ⟨yk, hyk⟩ : ∃ yk : Int, yk = ((byF y0 y1 y2 y3 k).toNat : Int) := ⟨_, rfl⟩
          obtain ⟨yx, hyx⟩ : ∃ yx : Int, yx = (y.toNat : Int) := ⟨_, rfl⟩
          obtain ⟨yz, hyz⟩ : ∃ yz : Int, yz = ((y ^^^ byF y0 y1 y2 y3 k).toNat : Int) := ⟨_, rfl⟩
          rw [← hyk, ← hyx, ← hyz] at hxr
          rw [← hyk] at hc2 HA
          rw [← hyx] at c1
          rw [← hyz] at HSet
          have HXs : Hid (Blk (wr.drew.setCell ⟨g3, s, none⟩ (.int .u8 yz)) w.heap.size (turnC (.slice ao xs.length c) at' y0 y1 y2 y3 true (.slice bo rs.length d)) 49) := hide (hX.setOther _ _ (by simp; omega))
          have hcX : (wr.drew.setCell ⟨g3, s, none⟩ (.int .u8 yz)).cell? ⟨w.heap.size, 2 + k, none⟩ = some (.int .u8 yk) := by rw [hyk]; exact turnC_by HXs.out k (by omega)
          have HBs : Hid (Below w.heap.size w (wr.drew.setCell ⟨g3, s, none⟩ (.int .u8 yz))) := hide (hbel.setCell (by simp; omega) _)
          obtain ⟨tk, htk⟩ : ∃ tk, tk = anyN (byF y0 y1 y2 y3) k := ⟨_, rfl⟩
          rw [← htk] at HA ⊢
          have HWR : Hid (IntKind.i64.wrap ((a : Int) + (k : Int)) = (s : Int)) := hide (by rw [hs]; push_cast; exact wrapi64_nat (a + k) (by omega))
          clear hO hX hbel hgt hy hyk hyx hyz htk HZ hs
          have hc3 : wr.cell? ⟨w.heap.size, 2 + k, none⟩ = some (.int .u8 yk) := hc2
          cases tk with
          | true =>
            go_wp2
            have hwr := HWR.out
            refine wp_region_still_tail 16 (by kernel_rfl) (by kernel_rfl) ?_
            simp only [List.take_succ_cons, List.take_zero, List.drop_succ_cons, List.drop_zero]
            iterate 16 still_step
            refine wpStill_nil ?_
            change wpList _ _ _ _ _ wr.drew
            go_wp2
            refine ⟨⟨k + 1, by rw [HA.out]; rfl, by go_num, by omega, by omega, by rw [HT.out]; exact HSet.out, HXs.out, HBs.out⟩, by simp [intOf]; omega⟩
          | false =>
            go_wp2
            have hwr := HWR.out
            refine wp_region_still_tail 16 (by kernel_rfl) (by kernel_rfl) ?_
            simp only [List.take_succ_cons, List.take_zero, List.drop_succ_cons, List.drop_zero]
            iterate 16 still_step
            refine wpStill_nil ?_
            change wpList _ _ _ _ _ wr.drew
            go_wp2
            refine ⟨⟨k + 1, by rw [HA.out]; rfl, by go_num, by omega, by omega, by rw [HT.out]; exact HSet.out, HXs.out, HBs.out⟩, by simp [intOf]; omega⟩
        · have HO : Hid (RdA wr (.slice (some ⟨g3, 0, none⟩) J cap3) (turnL (packL xs ++ rs) a k (byF y0 y1 y2 y3))) := hide (OwnsB.rd (base := w2.heap.size) hO)
          have HBl : Hid (Below w.heap.size w wr) := hide hbel0
          have hqX : wr.cell? ⟨w.heap.size, 0, none⟩ = some (.slice ao xs.length c) := hX.cell 0
          have HWH := hide (fun h => unpk_whole xs rs hl a k (byF y0 y1 y2 y3) h)
          have HTO := hide (fun h => unpk_turned xs rs hl a k (byF y0 y1 y2 y3) (by have := HL.out; omega) (by have := HL.out; have := HAL.out; omega) h (.inr ⟨ha10, by omega⟩))
          have HLn : Hid (((10 + xs.length : Nat) : Int) = (L : Int)) := hide (by rw [HL.out])
          clear hO hX hbel
          by_cases hk1 : k < 4
          · have hki : (k : Int) < 4 := by omega
            have hki2 : ¬ (a : Int) + (k : Int) < (L : Int) := by omega
            obtain ⟨tk, htk⟩ : ∃ tk, tk = anyN (byF y0 y1 y2 y3) k := ⟨_, rfl⟩
            rw [← htk] at HWH HTO ⊢
            clear htk
            go_wp2_with fail
            refine (unpack_any wr _ _ HO.out 0 (by omega)).mono ?_
            rintro e w5 ⟨v5, rfl, hO5, hb5⟩
            have HB5 := hide (Below.step HBl.out hb5)
            have hqY := (hb5.cell (World.block_lt_of_cell? wr _ hqX)).trans hqX
            cases tk with
            | true =>
              obtain ⟨er, he, hne⟩ := HTO.out rfl
              rw [he] at hO5 ⊢
              simp only [] at hO5 ⊢
              obtain ⟨ao5, c5, rfl, -, -⟩ := hO5.slice
              rw [List.length_nil]
              have hne' : ¬ (er : Int) = 0 := by omega
              have hnb : ((er : Int) == 0) = false := beq_false_of_ne hne'
              clear hO5 hb5 he hne
              go_wp2
              go_ret
              exact ⟨congrArg (fun b => Ending.returned (.bool b)) (show ((er : Int) != 0) = true by rw [bne, hnb]; rfl), HB5.out⟩
            | false =>
              rw [HWH.out rfl] at hO5 ⊢
              simp only [] at hO5 ⊢
              rw [HLn.out]
              obtain ⟨ao5, c5, rfl, -, -⟩ := hO5.slice
              have HO5 := hide hO5.rd
              clear hO5 hb5
              go_wp2_with fail
              refine (same_any w5 _ _ xs HO5.out (HB.out.below HB5.out)).mono ?_
              rintro e w6 ⟨rfl, hb6⟩
              have HB6 := hide (Below.step HB5.out hb6)
              clear hb6
              go_wp2
              go_ret
              exact ⟨rfl, HB6.out⟩
          · have hki : ¬ (k : Int) < 4 := by omega
            obtain ⟨tk, htk⟩ : ∃ tk, tk = anyN (byF y0 y1 y2 y3) k := ⟨_, rfl⟩
            rw [← htk] at HWH HTO ⊢
            clear htk
            go_wp2_with fail
            refine (unpack_any wr _ _ HO.out 0 (by omega)).mono ?_
            rintro e w5 ⟨v5, rfl, hO5, hb5⟩
            have HB5 := hide (Below.step HBl.out hb5)
            have hqY := (hb5.cell (World.block_lt_of_cell? wr _ hqX)).trans hqX
            cases tk with
            | true =>
              obtain ⟨er, he, hne⟩ := HTO.out rfl
              rw [he] at hO5 ⊢
              simp only [] at hO5 ⊢
              obtain ⟨ao5, c5, rfl, -, -⟩ := hO5.slice
              rw [List.length_nil]
              have hne' : ¬ (er : Int) = 0 := by omega
              have hnb : ((er : Int) == 0) = false := beq_false_of_ne hne'
              clear hO5 hb5 he hne
              go_wp2
              go_ret
              exact ⟨congrArg (fun b => Ending.returned (.bool b)) (show ((er : Int) != 0) = true by rw [bne, hnb]; rfl), HB5.out⟩
            | false =>
              rw [HWH.out rfl] at hO5 ⊢
              simp only [] at hO5 ⊢
              rw [HLn.out]
              obtain ⟨ao5, c5, rfl, -, -⟩ := hO5.slice
              have HO5 := hide hO5.rd
              clear hO5 hb5
              go_wp2_with fail
              refine (same_any w5 _ _ xs HO5.out (HB.out.below HB5.out)).mono ?_
              rintro e w6 ⟨rfl, hb6⟩
              have HB6 := hide (Below.step HB5.out hb6)
              clear hb6
              go_wp2
              go_ret
              exact ⟨rfl, HB6.out⟩
end Go.Proofs.Ytbnedlcldfpfdaa
