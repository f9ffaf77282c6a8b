/- step. -/
import Derived.Test.YtjhbebaephmcgaaVXH0
import Derived.Shelf.Abstract
namespace Go.Proofs.Ytjhbebaephmcgaa
set_option linter.unusedVariables false
set_option linter.unusedSimpArgs false
namespace TX
set_option maxRecDepth 100000
set_option maxHeartbeats 8000000
open Go.RowKit Go.Sort

section
variable {z gy ge : Nat} {hv : Value} {T : TB} {F : Nat} {hf : KY → Nat}
/-- Between two slots of a step. -/
structure StS (w : World) (z gy ge : Nat) (F : Nat) (W : World) (T : TB) : Prop where
  tb : TbAt W z gy ge (hvF F) T
  fr : Frm w W (TbB z gy ge)
theorem StS.drewN {w W : World} (h : StS w z gy ge F W T) (n : Nat) : StS w z gy ge F (W.drewN n) T := ⟨h.tb.drewN n, h.fr.drewN n⟩
theorem StS.drew {w W : World} (h : StS w z gy ge F W T) : StS w z gy ge F W.drew T := h.drewN 1
theorem StS.below {w W W' : World} (h : StS w z gy ge F W T) (hb : Below W.heap.size W W') : StS w z gy ge F W' T := ⟨h.tb.below hb, h.fr.below hb⟩
theorem StS.k {w W W' : World} {T' : TB} (h : StS w z gy ge F W T) (k : TbK W W' z gy ge (hvF F) T') : StS w z gy ge F W' T' :=
  ⟨k.tb, h.fr.trans k.fr (fun _ _ h => h)⟩
theorem StS.setM {w W : World} (h : StS w z gy ge F W T) (m : Nat) (hm : m ≤ T.e.length) : StS w z gy ge F (W.setCell ⟨z, 7, none⟩ (.int .i64 (m : Int))) ⟨T.y, T.e, m⟩ :=
  ⟨TbX.setM h.tb m hm, h.fr.put _ _ _ (.inl rfl)⟩
theorem StS.ended {w W : World} (h : StS w z gy ge F W T) (q : Nat) : TbS w ((((( W.drewN q).setCell ⟨z, 4, none⟩ (.slice none 0 0)).setCell ⟨z, 5, none⟩ (.int .i64 0)).setCell ⟨z, 6, none⟩ (.int .i64 0)).setCell ⟨z, 7, none⟩ (.int .i64 0)) z gy ge (hvF F) ⟨T.y, [], 0⟩ := by
  have hzy := h.tb.zy
  refine ⟨⟨gy, gy, ⟨((((h.tb.drewN q).blk.set 4 (.slice none 0 0)).set 5 (.int .i64 0)).set 6 (.int .i64 0)).set 7 (.int .i64 0), h.tb.ry.same ?_, fun h => absurd rfl h, fun h => absurd rfl h, fun _ => rfl, h.tb.ly, fun h => absurd rfl h, Nat.le_refl _⟩, fun k hk => ?_⟩, ((((h.fr.drewN q).put _ _ _ (.inl rfl)).put _ _ _ (.inl rfl)).put _ _ _ (.inl rfl)).put _ _ _ (.inl rfl)⟩
  · rw [heap_setCell_other _ _ _ _ hzy.symm, heap_setCell_other _ _ _ _ hzy.symm, heap_setCell_other _ _ _ _ hzy.symm, heap_setCell_other _ _ _ _ hzy.symm]
    rfl
  · rcases hk with e | e | e
    · exact .inl (.inl e)
    · exact .inl (.inr (.inl e))
    · exact .inl (.inr (.inl e))
theorem mv1_len (hs : KY → Nat) (T : TB) : (mv1 hs T).e.length = T.e.length ∧ (mv1 hs T).y.length = T.y.length ∧ (mv1 hs T).m = T.m + 1 := by
  unfold mv1
  split
  · exact ⟨List.length_set, lay_length .., rfl⟩
  · exact ⟨rfl, rfl, rfl⟩
  · exact ⟨rfl, rfl, rfl⟩
theorem mvN_len (hs : KY → Nat) (n : Nat) (T : TB) : (mvN hs n T).e.length = T.e.length ∧ (mvN hs n T).y.length = T.y.length ∧ (mvN hs n T).m = T.m + n := by
  induction n with
  | zero => exact ⟨rfl, rfl, rfl⟩
  | succ n ih =>
    have := mv1_len hs (mvN hs n T)
    exact ⟨this.1.trans ih.1, this.2.1.trans ih.2.1, by rw [mvN, this.2.2, ih.2.2]; rfl⟩
theorem step_none (w : World) (H : TbAt w z gy ge (hvF F) T) (hl : T.left = 0) : Calls Try.prog 17 #[.pointer (some ⟨z, 0, none⟩)] w fun e w' => e = .returned (.tuple #[]) ∧ ∃ q, w' = w.drewN q := by
  have HL := hide (left_any w H)
  rw [hl] at HL
  clear H hl
  go_enter Try.func17, Try.ntmps17
  go_wp2_with (go_at_call 13; refine HL.out.mono ?_; rintro e w' ⟨rfl, q, hw⟩; rw [hw]; clear hw)
  go_returns
  exact ⟨rfl, _, rfl⟩
theorem step_some (w : World) (H : StS w z gy ge F w T) (HF : HsAt F hf) (hl : T.m + 8 ≤ T.e.length) : Calls Try.prog 17 #[.pointer (some ⟨z, 0, none⟩)] w fun e w' => e = .returned (.tuple #[]) ∧ TbS w w' z gy ge (hvF F) (endT (mvN hf 8 T)) := by
  have HL := hide (left_any w H.tb)
  obtain ⟨l, hll⟩ : ∃ l, l = T.left := ⟨_, rfl⟩
  have l0 : 0 < l := by rw [hll]; unfold Tb.left; omega
  rw [← hll] at HL
  have hlb : ((l : Int) == 0) = false := beq_eq_false_iff_ne.2 (by omega)
  have HH := hide H
  have HHF := hide HF
  have b := H.tb.b43.2
  have hT8 := hl
  have h0 : T.e.length ≠ 0 := by omega
  clear H hll HF
  go_enter Try.func17, Try.ntmps17
  go_upto_region 1 with (go_at_call 13; refine HL.out.mono ?_; rintro e w' ⟨rfl, q, hw⟩; rw [hw]; clear hw)
  go_upto_region 2 with fail
  go_loopw [6] (fun t wr => ∃ j : Nat, t = .int .i64 j ∧ j ≤ 8 ∧ StS w z gy ge F wr (mvN hf j T)) (fun t _ => 8 - (intOf t).toNat)
  case atStart => exact ⟨0, rfl, by omega, HH.out.drewN _⟩
  case round =>
    obtain ⟨j, rfl, hj, hst⟩ := hrel
    clear HL l0 hlb
    obtain ⟨TJ, hTJ⟩ : ∃ X, X = mvN hf j T := ⟨_, rfl⟩
    rw [← hTJ] at hst
    have hlen := mvN_len hf j T
    rw [← hTJ] at hlen
    by_cases hlt : j < 8
    · have hji : (j : Int) < 8 := by omega
      have HST := hide hst
      have hm : TJ.m < TJ.e.length := by omega
      have t0 : TJ.e.length ≠ 0 := by omega
      have HT0 := hide t0
      have c4 := hst.tb.cellE t0 rfl
      have c7 : wr.cell? ⟨z, 7, none⟩ = some (.int .i64 (TJ.m : Int)) := hst.tb.c7
      have HD : Hid (wr.rangeAt ge (TJ.m * 6) (slC (sat TJ.e TJ.m))) := hide ((hst.tb.re t0).slot TJ.m hm)
      have zl := hst.tb.blk.lt
      have HTJ := hide hTJ
      have HM := hide hm
      have b2 : TJ.e.length ≤ 8796093022208 := by rw [hlen.1]; exact b
      obtain ⟨sl, hsl⟩ : ∃ s, s = sat TJ.e TJ.m := ⟨_, rfl⟩
      rw [← hsl] at HD
      obtain ⟨n, hn⟩ : ∃ n, n = TJ.e.length := ⟨_, rfl⟩
      obtain ⟨m, hmm⟩ : ∃ n, n = TJ.m := ⟨_, rfl⟩
      rw [← hn] at c4 b2 hm
      rw [← hmm] at c7 HD hm
      have hmi : (m : Int) < (n : Int) := by omega
      have HMM := hide hmm
      have HNE := hide hn
      have HSL := hide hsl
      clear hst hlen hTJ t0 hsl hn hmm
      go_upto_region 3 with fail
      refine st3_walk _ (fun _ _ _ _ _ h => h) wr z ge n m sl c4 c7 HD.out hmi _ (Nat.lt_of_sub_pos (by exact Nat.succ_pos _)) rfl ?_
      simp only [Act.put, List.setIfInBounds_toArray, List.set_cons_zero, List.set_cons_succ]
      obtain ⟨w1, hw1⟩ : ∃ W1, W1 = (wr.drew.alloc (.cells (slA .emp) ST)).setCells wr.drew.heap.size 0 (slC sl) := ⟨_, rfl⟩
      have h1 := hide ((SB.made wr.drew .emp).put sl).1
      have h2 := hide ((SB.made wr.drew .emp).put sl).2
      rw [← hw1] at h1 h2 ⊢
      have e8 : wr.drew.heap.size = wr.heap.size := rfl
      rw [e8] at h1 h2 ⊢
      clear hw1 e8
      have hB1 : Below wr.heap.size wr w1 := (((Below.refl _ wr).drew).alloc (Nat.le_refl _) _).trans (below_grownBy h2.out (Nat.le_refl _) (by simp))
      have HS := hide (HST.out.below hB1)
      obtain ⟨sv, hsv⟩ : ∃ b, b = wr.heap.size := ⟨_, rfl⟩
      rw [← hsv] at h1 ⊢
      have HSB := hide h1.out
      have s0 := h1.out.st
      have sl0 := Blk.lt h1.out
      have zW := HS.out.tb.blk.lt
      have cW7 : w1.cell? ⟨z, 7, none⟩ = some (.int .i64 (m : Int)) := by rw [HS.out.tb.c7, HMM.out]
      have fW7 := HS.out.tb.blk.frozen 7
      have HSVN : Hid (¬ TbB z gy ge sv) := hide (by rw [hsv]; exact HST.out.tb.old (Nat.le_refl _))
      clear hB1 h1 h2 hsv HST HD c4 c7 zl
      cases sl with
      | emp =>
        have e0 : (((Slt.emp : SL).st : Nat) : Int) = 0 := rfl
        rw [e0] at s0
        clear e0
        go_wp2
        go_roundw
        case rel =>
          refine ⟨j + 1, by go_num, by omega, ?_⟩
          have h3 := HS.out.setM (m + 1) (by have := HNE.out; omega)
          rw [mvN, ← HTJ.out]
          unfold mv1
          rw [← HSL.out]
          rw [← HMM.out]
          rw [Int.natCast_add] at h3
          exact h3
        case measure => simp [intOf]; omega
      | tmb =>
        have e0 : (((Slt.tmb : SL).st : Nat) : Int) = 2 := rfl
        rw [e0] at s0
        clear e0
        go_wp2
        go_roundw
        case rel =>
          refine ⟨j + 1, by go_num, by omega, ?_⟩
          have h3 := HS.out.setM (m + 1) (by have := HNE.out; omega)
          rw [mvN, ← HTJ.out]
          unfold mv1
          rw [← HSL.out]
          rw [← HMM.out]
          rw [Int.natCast_add] at h3
          exact h3
        case measure => simp [intOf]; omega
      | ful kx vx =>
        have e0 : (((Slt.ful kx vx : SL).st : Nat) : Int) = 1 := rfl
        rw [e0] at s0
        have HK : Hid (∀ d os, (grow (redrawn w1 d) os).rangeAt sv 1 (kC kx)) := hide (range_regrown HSB.out.key)
        have HV : Hid (∀ d os, (grow (redrawn w1 d) os).rangeAt sv 5 (eC vx)) := hide (range_regrown HSB.out.val)
        have c0 : w1.cell? ⟨z, 0, none⟩ = some (.func (.func F) #[] #[]) := HS.out.tb.c0
        have d0 := fun d os => cell_regrown c0 d os
        have hen := HHF.out.ent
        have HHs : Hid (∀ d os, Calls Try.prog F #[kV kx] (grow (redrawn w1 d) os) fun e w' => e = .returned (.int .u64 (hf kx : Int)) ∧ Below (grow (redrawn w1 d) os).heap.size (grow (redrawn w1 d) os) w') := hide (fun d os => HHF.out.call _ kx)
        clear e0 c0
        go_upto_region 5 with fail
        refine wp_region_quiet_tail 14 (by kernel_rfl) (by kernel_rfl) ?_
        simp only [List.take_succ_cons, List.take_zero, List.drop_succ_cons, List.drop_zero]
        iterate 8 quiet_step (fail)
        refine wpQuiet_val (kV kx) rfl (fun w0 hw => ?_) ?_
        · obtain ⟨p0, rfl⟩ := hw
          exact run_loadO rfl rfl (run_ldK (HK.out _ _))
        quiet_step (exact Calls.regrown_of (HHs.out _ _))
        quiet_step (fail)
        refine wpQuiet_val (kV kx) rfl (fun w0 hw => ?_) ?_
        · obtain ⟨p0, rfl⟩ := hw
          exact run_loadO rfl rfl (run_ldK (HK.out _ _))
        quiet_step (fail)
        refine wpQuiet_val (eV vx) rfl (fun w0 hw => ?_) ?_
        · obtain ⟨p0, rfl⟩ := hw
          exact run_loadO rfl rfl (run_ldE (HV.out _ _))
        refine wpQuiet_nil ?_
        intro W hW
        have hB : Below w1.heap.size w1 W := below_of hW
        have HS2 := hide (HS.out.below hB)
        have HLay := hide (lay_any W HS2.out.tb (hf kx) kx vx (HHF.out.lt _))
        clear hW hB HK HV HHs d0 hen cW7 fW7 s0 HSB
        go_upto_region 6 with (go_at_call 21; refine HLay.out.mono ?_; rintro e w3 ⟨rfl, hk1⟩; have HK1 := hide hk1; clear hk1)
        have hS1 := HS2.out.k HK1.out
        have HS1 := hide hS1
        have HBu := hide (buryE_any w3.drew hS1.drew.tb TJ.m HM.out kx vx HSL.out.symm)
        have k7 : w3.cell? ⟨z, 7, none⟩ = some (.int .i64 (m : Int)) := by rw [hS1.tb.c7, HMM.out]
        have zl1 := hS1.tb.blk.lt
        rw [← HMM.out] at HBu
        clear hS1 HK1 HLay HS2
        refine wp_region_still_tail 7 (by kernel_rfl) (by kernel_rfl) ?_
        simp only [List.take_succ_cons, List.take_zero, List.drop_succ_cons, List.drop_zero]
        iterate 7 still_step
        refine wpStill_nil ?_
        go_upto_region 7 with (go_at_call 19; refine HBu.out.mono ?_; rintro e w2 ⟨rfl, hk2⟩; have HK2 := hide hk2; clear hk2)
        have hS2 := HS1.out.drew.k HK2.out
        have HS2 := hide hS2
        have m7 : w2.cell? ⟨z, 7, none⟩ = some (.int .i64 (m : Int)) := by rw [hS2.tb.c7, HMM.out]
        have n7 := hS2.tb.blk.frozen 7
        have zl2 := hS2.tb.blk.lt
        clear hS2 HK2 HBu HS1 k7
        go_wp2
        go_roundw
        case rel =>
          refine ⟨j + 1, by go_num, by omega, ?_⟩
          have h3 := HS2.out.setM (m + 1) (by show m + 1 ≤ (TJ.e.set m .tmb).length; rw [List.length_set]; have := HNE.out; omega)
          rw [mvN, ← HTJ.out]
          unfold mv1
          rw [← HSL.out]
          rw [← HMM.out]
          rw [Int.natCast_add] at h3
          exact h3
        case measure => simp [intOf]; omega
    · obtain rfl : j = 8 := by omega
      have HS := hide hst
      have HL2 := hide (left_any wr hst.tb)
      have HTJ := hide hTJ
      have y0 := hst.tb.blk.lt
      clear hst hTJ
      by_cases hl0 : TJ.left = 0
      · rw [hl0] at HL2
        have HE : Hid (endT (mvN hf 8 T) = ⟨TJ.y, [], 0⟩) := hide (by rw [← HTJ.out]; unfold endT; rw [if_pos hl0])
        have g4 : ∃ v, wr.cell? ⟨z, 4, none⟩ = some v := ⟨_, by rw [HS.out.tb.blk.cell]; rfl⟩
        obtain ⟨x4, g4⟩ := g4
        have g5 : wr.cell? ⟨z, 5, none⟩ = some (.int .i64 (cnt TJ.e 1 : Int)) := HS.out.tb.c5
        have g6 : wr.cell? ⟨z, 6, none⟩ = some (.int .i64 (cnt TJ.e 2 : Int)) := HS.out.tb.c6
        have g7 : wr.cell? ⟨z, 7, none⟩ = some (.int .i64 (TJ.m : Int)) := HS.out.tb.c7
        have f4 := HS.out.tb.blk.frozen 4
        have f5 := HS.out.tb.blk.frozen 5
        have f6 := HS.out.tb.blk.frozen 6
        have f7 := HS.out.tb.blk.frozen 7
        clear hl0 hlen
        generalize cnt TJ.e 1 = q1 at g5
        generalize cnt TJ.e 2 = q2 at g6
        go_wp2_with (go_at_call 13; refine HL2.out.mono ?_; rintro e w' ⟨rfl, q, hw⟩; rw [hw]; clear hw)
        go_returns
        exact ⟨rfl, by rw [HE.out]; exact HS.out.ended _⟩
      · have HE : Hid (endT (mvN hf 8 T) = TJ) := hide (by rw [← HTJ.out]; unfold endT; rw [if_neg hl0])
        generalize hll : TJ.left = ll at *
        have hl1 : 0 < ll := by omega
        have hl2 : ((ll : Int) == 0) = false := beq_eq_false_iff_ne.2 (by omega)
        clear hl0 hlen hll
        go_wp2_with (go_at_call 13; refine HL2.out.mono ?_; rintro e w' ⟨rfl, q, hw⟩; rw [hw]; clear hw)
        go_returns
        exact ⟨rfl, by rw [HE.out]; exact (TbK.s ⟨HS.out.tb.drewN _, HS.out.fr.drewN _⟩)⟩
end
end TX
end Go.Proofs.Ytjhbebaephmcgaa
