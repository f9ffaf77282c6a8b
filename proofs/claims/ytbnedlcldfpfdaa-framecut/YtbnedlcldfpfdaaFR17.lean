/- FrameCut: what its walk needs. -/
import Derived.Test.YtbnedlcldfpfdaaRF4
import Derived.Test.YtbnedlcldfpfdaaFR15
namespace Go.Proofs.Ytbnedlcldfpfdaa
set_option linter.unusedVariables false
set_option linter.unusedSimpArgs false
open Go.RowKit

theorem cut_bad (xs : List UInt8) (h : xs.length ≤ 65526) (k : Nat) (hk : k < 10 + xs.length) : (upk ((packL xs).take k)).2.2 ≠ 0 := by
  intro hok
  obtain ⟨k1, k2, k3, k4⟩ := upk_ok hok
  have hl : ((packL xs).take k).length = k := by rw [List.length_take, packL_len]; omega
  rw [hl] at k3
  have t6 : ((packL xs).take k).take 6 = openL xs.length := by
    rw [List.take_take, Nat.min_eq_left (by omega)]
    unfold packL
    rw [List.append_assoc]
    exact List.take_left' (openL_len _)
  have hn : lenN ((packL xs).take k) = xs.length := lenN_take (by omega) t6
  omega
theorem cut_read (xs : List UInt8) (h : xs.length ≤ 65526) (k : Nat) (hk : k < 10 + xs.length) : ∃ e, unpk ((packL xs).take k) 0 = ([], 0, e) ∧ e ≠ 0 ∧ upk ((packL xs).take k) = ([], 0, e) := by
  obtain ⟨e, he, hne⟩ := upk_err (cut_bad xs h k hk)
  exact ⟨e, by rw [unpk_zero, he], hne, he⟩
theorem cut_end {xs : List UInt8} (h : xs.length ≤ 65526) {k : Nat} (hk : k < 10 + xs.length) {m : Nat} (hm : ∀ j, j < m → okR ((packL xs).take k) j) : m = 0 := by
  rcases Nat.eq_zero_or_pos m with h0 | h0
  · exact h0
  · exact absurd (hm 0 h0) (cut_bad xs h k hk)
theorem cut_endE (xs : List UInt8) (k e : Nat) (hk : k < 10 + xs.length) (he : upk ((packL xs).take k) = ([], 0, e)) : endE ((packL xs).take k) 0 = if k = 0 then 0 else e := by
  have hl : ((packL xs).take k).length = k := by rw [List.length_take, packL_len]; omega
  unfold endE
  rw [hl, show plc ((packL xs).take k) 0 = 0 from rfl, List.drop_zero, he]
  by_cases h0 : k = 0
  · rw [if_pos h0, if_pos h0.symm]
  · rw [if_neg h0, if_neg (fun e => h0 e.symm)]
set_option maxRecDepth 40000 in
set_option maxHeartbeats 4000000 in
theorem frameCut_any (w : World) (vb vr : Value) (xs rs : List UInt8) (hb : RdA w vb xs) (hr : RdA w vr rs) (at' : Int) (hat : -9223372036854775808 ≤ at' ∧ at' ≤ 9223372036854775807) (y0 y1 y2 y3 : UInt8) (four : Bool) (hrl : rs.length ≤ 140737488355328) : Calls Try.prog 6 #[.agg (turnC vb at' y0 y1 y2 y3 four vr)] w (TrueC w) := by
  have HB := hide hb
  have HR := hide hr
  obtain ⟨w1, hw1⟩ : ∃ w1, w1 = w.alloc (.cells (turnC vb at' y0 y1 y2 y3 four vr) 49) := ⟨_, rfl⟩
  have HX1 : Hid (Blk w1 w.heap.size (turnC vb at' y0 y1 y2 y3 four vr) 49) := hide (by rw [hw1]; exact Blk.made w _ _)
  have HB1 : Hid (Below w.heap.size w w1) := hide (by rw [hw1]; exact (Below.refl _ _).alloc (Nat.le_refl _) _)
  have hw1' := hw1.symm
  obtain ⟨cs, hcs⟩ : ∃ cs, cs = turnC vb at' y0 y1 y2 y3 four vr := ⟨_, rfl⟩
  rw [← hcs] at hw1' ⊢
  obtain ⟨ao, c, rfl, hl63⟩ := hb.slice
  obtain ⟨bo, d, rfl, -⟩ := hr.slice
  have q0 : w1.cell? ⟨w.heap.size, 0, none⟩ = some (.slice ao xs.length c) := HX1.out.cell 0
  have HCS := hide hcs
  clear hb hr hw1 hcs
  by_cases hl : xs.length ≤ 65526
  case neg =>
    have hli : ¬ (xs.length : Int) ≤ 65526 := by omega
    go_enter Try.func6, Try.ntmps6
    go_wp2_with fail
    refine (pack_any w1 _ xs (HB.out.below HB1.out)).mono ?_
    rintro e w2 ⟨v2, rfl, hO2, hb2⟩
    rw [show packE xs = 60 from if_neg hl]
    have q0' : w2.cell? ⟨w.heap.size, 0, none⟩ = some (.slice ao xs.length c) := (HX1.out.below hb2 HX1.out.lt).cell 0
    have HB2 := hide (Below.step HB1.out hb2)
    clear hO2 hb2
    go_wp2
    go_ret
    exact ⟨rfl, HB2.out⟩
  have hli : (xs.length : Int) ≤ 65526 := by omega
  go_enter Try.func6, Try.ntmps6
  go_wp2_with fail
  refine (pack_any w1 _ xs (HB.out.below HB1.out)).mono ?_
  rintro e w2 ⟨v2, rfl, hO2, hb2⟩
  rw [show packE xs = 0 from if_pos hl]
  rw [show packR xs = packL xs from if_pos hl] at hO2
  have hX2 := HX1.out.below hb2 HX1.out.lt
  have HB2 := hide (Below.step HB1.out hb2)
  obtain ⟨g, cap, rfl, hg1, hg2, hg3, hg4⟩ := hO2.formB (by rw [packL_len]; omega)
  have HP2 := hide hO2.rd
  obtain ⟨L, hL⟩ : ∃ L, L = (packL xs).length := ⟨_, rfl⟩
  rw [← hL] at hg3 HP2 ⊢
  have hL10 : L = 10 + xs.length := by rw [hL, packL_len]
  have HL := hide hL10
  have hLb : (10 : Int) ≤ (L : Int) := by omega
  have hLt : (L : Int) ≤ 65536 := by omega
  have hL0 : ¬ (L : Int) = 0 := by omega
  have hLbq : ((L : Int) == 0) = false := beq_false_of_ne hL0
  have q0' : w2.cell? ⟨w.heap.size, 0, none⟩ = some (.slice ao xs.length c) := hX2.cell 0
  have q1' : w2.cell? ⟨w.heap.size, 1, none⟩ = some (.int .i64 at') := hX2.cell 1
  have hLp : 0 < L := by omega
  have hcap : 10 ≤ cap := by omega
  have HX2 := hide hX2
  clear hO2 hb2 q0 hX2 hL HX1 hw1' hg1 hg2 HCS
  have htl := Int.lt_tmod_of_pos at' (show (0 : Int) < (L : Int) by omega)
  have htu := Int.tmod_lt_of_pos at' (show (0 : Int) < (L : Int) by omega)
  have main : ∀ (a : Nat), a < L → ∃ (e : Nat), Hid (unpk ((packL xs).take a) 0 = ([], 0, e)) ∧ ¬ (e : Int) = 0 ∧ Hid (RdA w2 (.slice (some ⟨g, 0, none⟩) a cap) ((packL xs).take a)) ∧ Hid (∀ W, (Instr.sliceAt 22 (.slice (some ⟨g, 0, none⟩) L cap) none (some (.int .i64 (a : Int))) none).run Try.prog W = .ok (.slice (some ⟨g, 0, none⟩) a cap) W) ∧ Hid (upk ((packL xs).take a) = ([], 0, e)) := by
    intro a ha
    obtain ⟨e, h1, h2, h3⟩ := cut_read xs hl a (by omega)
    have es : sliced (some ⟨g, 0, none⟩) 0 a cap 1 = Value.slice (some ⟨g, 0, none⟩) a cap := by unfold sliced; rw [if_neg (by omega)]; rfl
    have hrd := HP2.out.sliced 0 a (Nat.zero_le _) (by omega)
    rw [es, List.drop_zero, Nat.sub_zero] at hrd
    refine ⟨e, hide h1, by omega, hide hrd, hide (fun W => ?_), hide h3⟩
    have := slice_hi (some ⟨g, 0, none⟩) L cap a (by omega) a rfl W
    rwa [es] at this
  have HM := hide main
  clear main hL10
  by_cases hneg : at'.tmod (L : Int) < 0
  · obtain ⟨a, ea, la⟩ := rem_low at' L hLp hneg
    obtain ⟨e, he, hne, hrd, hsl, hup⟩ := HM.out a la
    obtain ⟨t, ht⟩ : ∃ t, t = at'.tmod (L : Int) := ⟨_, rfl⟩
    have htm : at'.tmod (L : Int) = t := ht.symm
    rw [← ht] at hneg htl htu ea
    have hsl' := hsl.out
    have ha0 : ¬ (a : Int) < 0 := by omega
    clear ht HM
    go_wp2_with fail
    refine (unpack_any w2 _ _ hrd.out 0 (by omega)).mono ?_
    rintro e' w3 ⟨v3, rfl, hO3, hb3⟩
    rw [he.out] at hO3 ⊢
    simp only [] at hO3 ⊢
    obtain ⟨ao3, c3, rfl, -, -⟩ := hO3.slice
    rw [List.length_nil]
    have HB3 := hide (Below.step HB2.out hb3)
    have hrd3 := hide (hrd.out.below hb3)
    have HP3 := hide (HP2.out.below hb3)
    have HX3 := hide (HX2.out.below hb3 HX2.out.lt)
    have hneb : ((e : Int) == 0) = false := beq_false_of_ne hne
    have hnec : ((e : Int) != 0) = true := by rw [bne, hneb]; rfl
    have HJ0 : Hid (a < 10 + xs.length) := hide (by have := HL.out; omega)
    have HLn : Hid (((10 + xs.length : Nat) : Int) = (L : Int)) := hide (by rw [HL.out])
    clear hO3 hb3 hrd HP2 HX2 he q0' q1'
    go_wp2_with fail
    refine (end_any w3 _ _ hrd3.out (by rw [List.length_take, packL_len]; omega)).mono ?_
    rintro e' w4 ⟨m, hm1, hm2, rfl, hb4⟩
    obtain rfl := cut_end hl HJ0.out hm1
    rw [show plc ((packL xs).take a) 0 = 0 from rfl, cut_endE xs a e HJ0.out hup.out]
    by_cases ha : a = 0
    · exact absurd ha (by omega)
    · have haz : ¬ (a : Int) = 0 := by omega
      have hag : (0 : Int) < (a : Int) := by omega
      have hagn : 0 < a := by omega
      rw [if_neg ha]
      have HB4 := hide (Below.step HB3.out hb4)
      have hX4 := HX3.out.below hb4 HX3.out.lt
      have q0' : w4.cell? ⟨w.heap.size, 0, none⟩ = some (.slice ao xs.length c) := hX4.cell 0
      have q7' : w4.cell? ⟨w.heap.size, 7, none⟩ = some (.slice bo rs.length d) := hX4.cell 7
      have HP4 := hide (HP3.out.below hb4)
      clear hb4 hX4 HX3 HP3 hm2 hrd3 HJ0
      go_wp2_with fail
      refine (joined_any w4 _ _ (packL xs) rs HP4.out (HR.out.below HB4.out) (by rw [packL_len]; omega)).mono ?_
      rintro e' w5 ⟨v5, rfl, hO5, hb5⟩
      have HO5 := hide hO5.rd
      have HB5 := hide (Below.step HB4.out hb5)
      have q05 := (hb5.cell (World.block_lt_of_cell? w4 _ q0')).trans q0'
      clear hO5 hb5 HP4 q0' q7'
      go_wp2_with fail
      refine (unpack_any w5 _ _ HO5.out 0 (by omega)).mono ?_
      rintro e' w6 ⟨v6, rfl, hO6, hb6⟩
      rw [unpk_zero, upk_pack xs rs hl] at hO6 ⊢
      simp only [] at hO6 ⊢
      rw [HLn.out]
      obtain ⟨ao6, c6, rfl, -, -⟩ := hO6.slice
      have HO6 := hide hO6.rd
      have HB6 := hide (Below.step HB5.out hb6)
      have q06 := (hb6.cell (World.block_lt_of_cell? w5 _ q05)).trans q05
      clear hO6 hb6 HO5 q05
      go_wp2_with fail
      refine (same_any w6 _ _ xs HO6.out (HB.out.below HB6.out)).mono ?_
      rintro e' w7 ⟨rfl, hb7⟩
      have HB7 := hide (Below.step HB6.out hb7)
      clear hb7
      go_wp2
      go_ret
      exact ⟨rfl, HB7.out⟩
  · obtain ⟨a, ea, la⟩ := rem_high at' L hLp hneg
    obtain ⟨e, he, hne, hrd, hsl, hup⟩ := HM.out a la
    have htm : at'.tmod (L : Int) = (a : Int) := ea
    rw [ea] at hneg htl htu
    have hsl' := hsl.out
    clear HM ea
    go_wp2_with fail
    refine (unpack_any w2 _ _ hrd.out 0 (by omega)).mono ?_
    rintro e' w3 ⟨v3, rfl, hO3, hb3⟩
    rw [he.out] at hO3 ⊢
    simp only [] at hO3 ⊢
    obtain ⟨ao3, c3, rfl, -, -⟩ := hO3.slice
    rw [List.length_nil]
    have HB3 := hide (Below.step HB2.out hb3)
    have hrd3 := hide (hrd.out.below hb3)
    have HP3 := hide (HP2.out.below hb3)
    have HX3 := hide (HX2.out.below hb3 HX2.out.lt)
    have hneb : ((e : Int) == 0) = false := beq_false_of_ne hne
    have hnec : ((e : Int) != 0) = true := by rw [bne, hneb]; rfl
    have HJ0 : Hid (a < 10 + xs.length) := hide (by have := HL.out; omega)
    have HLn : Hid (((10 + xs.length : Nat) : Int) = (L : Int)) := hide (by rw [HL.out])
    clear hO3 hb3 hrd HP2 HX2 he q0' q1'
    go_wp2_with fail
    refine (end_any w3 _ _ hrd3.out (by rw [List.length_take, packL_len]; omega)).mono ?_
    rintro e' w4 ⟨m, hm1, hm2, rfl, hb4⟩
    obtain rfl := cut_end hl HJ0.out hm1
    rw [show plc ((packL xs).take a) 0 = 0 from rfl, cut_endE xs a e HJ0.out hup.out]
    by_cases ha : a = 0
    · have haz : (a : Int) = 0 := by omega
      have hag : ¬ (0 : Int) < (a : Int) := by omega
      rw [if_pos ha]
      have HB4 := hide (Below.step HB3.out hb4)
      have hX4 := HX3.out.below hb4 HX3.out.lt
      have q0' : w4.cell? ⟨w.heap.size, 0, none⟩ = some (.slice ao xs.length c) := hX4.cell 0
      have q7' : w4.cell? ⟨w.heap.size, 7, none⟩ = some (.slice bo rs.length d) := hX4.cell 7
      have HP4 := hide (HP3.out.below hb4)
      clear hb4 hX4 HX3 HP3 hm2 hrd3 HJ0
      go_wp2_with fail
      refine (joined_any w4 _ _ (packL xs) rs HP4.out (HR.out.below HB4.out) (by rw [packL_len]; omega)).mono ?_
      rintro e' w5 ⟨v5, rfl, hO5, hb5⟩
      have HO5 := hide hO5.rd
      have HB5 := hide (Below.step HB4.out hb5)
      have q05 := (hb5.cell (World.block_lt_of_cell? w4 _ q0')).trans q0'
      clear hO5 hb5 HP4 q0' q7'
      go_wp2_with fail
      refine (unpack_any w5 _ _ HO5.out 0 (by omega)).mono ?_
      rintro e' w6 ⟨v6, rfl, hO6, hb6⟩
      rw [unpk_zero, upk_pack xs rs hl] at hO6 ⊢
      simp only [] at hO6 ⊢
      rw [HLn.out]
      obtain ⟨ao6, c6, rfl, -, -⟩ := hO6.slice
      have HO6 := hide hO6.rd
      have HB6 := hide (Below.step HB5.out hb6)
      have q06 := (hb6.cell (World.block_lt_of_cell? w5 _ q05)).trans q05
      clear hO6 hb6 HO5 q05
      go_wp2_with fail
      refine (same_any w6 _ _ xs HO6.out (HB.out.below HB6.out)).mono ?_
      rintro e' w7 ⟨rfl, hb7⟩
      have HB7 := hide (Below.step HB6.out hb7)
      clear hb7
      go_wp2
      go_ret
      exact ⟨rfl, HB7.out⟩
    · have haz : ¬ (a : Int) = 0 := by omega
      have hag : (0 : Int) < (a : Int) := by omega
      have hagn : 0 < a := by omega
      rw [if_neg ha]
      have HB4 := hide (Below.step HB3.out hb4)
      have hX4 := HX3.out.below hb4 HX3.out.lt
      have q0' : w4.cell? ⟨w.heap.size, 0, none⟩ = some (.slice ao xs.length c) := hX4.cell 0
      have q7' : w4.cell? ⟨w.heap.size, 7, none⟩ = some (.slice bo rs.length d) := hX4.cell 7
      have HP4 := hide (HP3.out.below hb4)
      clear hb4 hX4 HX3 HP3 hm2 hrd3 HJ0
      go_wp2_with fail
      refine (joined_any w4 _ _ (packL xs) rs HP4.out (HR.out.below HB4.out) (by rw [packL_len]; omega)).mono ?_
      rintro e' w5 ⟨v5, rfl, hO5, hb5⟩
      have HO5 := hide hO5.rd
      have HB5 := hide (Below.step HB4.out hb5)
      have q05 := (hb5.cell (World.block_lt_of_cell? w4 _ q0')).trans q0'
      clear hO5 hb5 HP4 q0' q7'
      go_wp2_with fail
      refine (unpack_any w5 _ _ HO5.out 0 (by omega)).mono ?_
      rintro e' w6 ⟨v6, rfl, hO6, hb6⟩
      rw [unpk_zero, upk_pack xs rs hl] at hO6 ⊢
      simp only [] at hO6 ⊢
      rw [HLn.out]
      obtain ⟨ao6, c6, rfl, -, -⟩ := hO6.slice
      have HO6 := hide hO6.rd
      have HB6 := hide (Below.step HB5.out hb6)
      have q06 := (hb6.cell (World.block_lt_of_cell? w5 _ q05)).trans q05
      clear hO6 hb6 HO5 q05
      go_wp2_with fail
      refine (same_any w6 _ _ xs HO6.out (HB.out.below HB6.out)).mono ?_
      rintro e' w7 ⟨rfl, hb7⟩
      have HB7 := hide (Below.step HB6.out hb7)
      clear hb7
      go_wp2
      go_ret
      exact ⟨rfl, HB7.out⟩
end Go.Proofs.Ytbnedlcldfpfdaa
