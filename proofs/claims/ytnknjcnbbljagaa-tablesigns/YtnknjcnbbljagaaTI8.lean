/- step. -/
import Derived.Test.YtnknjcnbbljagaaTI7
import Derived.Shelf.Abstract
import Derived.StillTailTactics
namespace Go.Proofs.Ytnknjcnbbljagaa
set_option linter.unusedVariables false
set_option linter.unusedSimpArgs false
set_option maxRecDepth 100000
open Go.RowKit

section
variable {z gy ge : Nat} {hv : Value} {T : TB} {F bt bm : Nat} {ti ma : Int}
theorem TbAt.setM {w : World} (h : TbAt w z gy ge hv T) (m : Nat) (hm : m ≤ T.e.length) : TbAt (w.setCell ⟨z, 7, none⟩ (.int .i64 (m : Int))) z gy ge hv ⟨T.y, T.e, m⟩ := by
  have hzy := h.zy
  have hze := h.ze
  exact ⟨h.blk.set 7 _, h.ry.same (heap_setCell_other _ _ _ _ hzy.symm), fun h0 => (h.re h0).same (heap_setCell_other _ _ _ _ hze.symm), h.ne, h.nil, h.ly, h.le, hm⟩
theorem kS_form (s : SL) : ∃ k, kS s = .int .i64 k := by cases s <;> exact ⟨_, rfl⟩
theorem vS_form (s : SL) : ∃ k, vS s = .int .i64 k := by cases s <;> exact ⟨_, rfl⟩
theorem hs_enter {w : World} (h : HsAt w F bt bm ti ma) : ∀ args W, (callFunc F args).run Try.prog W = .ok (.enter F args) W := by
  rcases h.f with rfl | rfl
  · exact enters_of Try.func13 (by kernel_rfl) rfl
  · exact enters_of Try.func9 (by kernel_rfl) rfl
/-- Between two slots of a step. -/
structure StS (w : World) (z gy ge : Nat) (F bt bm : Nat) (ti ma : Int) (W : World) (T : TB) : Prop where
  tb : TbAt W z gy ge (hvF F bt bm) T
  fr : Frm w W (TbB z gy ge)
  hs : HsAt W F bt bm ti ma
theorem StS.drewN {w W : World} (h : StS w z gy ge F bt bm ti ma W T) (n : Nat) : StS w z gy ge F bt bm ti ma (W.drewN n) T := ⟨h.tb.drewN n, h.fr.drewN n, h.hs.drewN n⟩
theorem StS.drew {w W : World} (h : StS w z gy ge F bt bm ti ma W T) : StS w z gy ge F bt bm ti ma W.drew T := h.drewN 1
theorem StS.alloc {w W : World} (h : StS w z gy ge F bt bm ti ma W T) (o : Obj) : StS w z gy ge F bt bm ti ma (W.alloc o) T :=
  ⟨h.tb.below (below_alloc _ _), h.fr.trans (Frm.of_below (S := fun _ => False) (below_alloc _ _)) (fun _ _ h => h.elim), ⟨h.hs.t.alloc o, h.hs.m.alloc o, h.hs.f⟩⟩
theorem StS.k {w W W' : World} {T' : TB} (h : StS w z gy ge F bt bm ti ma W T) (k : TbK W W' z gy ge (hvF F bt bm) T') : StS w z gy ge F bt bm ti ma W' T' :=
  ⟨k.tb, h.fr.trans k.fr (fun _ _ h => h), h.hs.frm h.tb k.fr⟩
theorem StS.setM {w W : World} (h : StS w z gy ge F bt bm ti ma W T) (m : Nat) (hm : m ≤ T.e.length) : StS w z gy ge F bt bm ti ma (W.setCell ⟨z, 7, none⟩ (.int .i64 (m : Int))) ⟨T.y, T.e, m⟩ :=
  h.k ⟨h.tb.setM m hm, Frm.set _ _ _ _ _ (.inl rfl)⟩
theorem StS.ended {w W : World} (h : StS w z gy ge F bt bm ti ma W T) (q : Nat) : TbS w ((((( W.drewN q).setCell ⟨z, 4, none⟩ (.slice none 0 0)).setCell ⟨z, 5, none⟩ (.int .i64 0)).setCell ⟨z, 6, none⟩ (.int .i64 0)).setCell ⟨z, 7, none⟩ (.int .i64 0)) z gy ge (hvF F bt bm) ⟨T.y, [], 0⟩ := by
  have hzy := h.tb.zy
  refine ⟨⟨gy, gy, ⟨((((h.tb.drewN q).blk.set 4 (.slice none 0 0)).set 5 (.int .i64 0)).set 6 (.int .i64 0)).set 7 (.int .i64 0), h.tb.ry.same ?_, fun h => absurd rfl h, fun h => absurd rfl h, fun _ => rfl, h.tb.ly, fun h => absurd rfl h, Nat.le_refl _⟩, fun k hk => ?_⟩, ((((h.fr.drewN q).put _ _ _ (.inl rfl)).put _ _ _ (.inl rfl)).put _ _ _ (.inl rfl)).put _ _ _ (.inl rfl)⟩
  · rw [heap_setCell_other _ _ _ _ hzy.symm, heap_setCell_other _ _ _ _ hzy.symm, heap_setCell_other _ _ _ _ hzy.symm, heap_setCell_other _ _ _ _ hzy.symm]
    rfl
  · rcases hk with e | e | e
    · exact .inl (.inl e)
    · exact .inl (.inr (.inl e))
    · exact .inl (.inr (.inl e))
theorem mv1_len (hs : Int → Nat) (T : TB) : (mv1 hs T).e.length = T.e.length ∧ (mv1 hs T).y.length = T.y.length ∧ (mv1 hs T).m = T.m + 1 := by
  unfold mv1
  split
  · exact ⟨List.length_set, lay_length .., rfl⟩
  · exact ⟨rfl, rfl, rfl⟩
  · exact ⟨rfl, rfl, rfl⟩
theorem mvN_len (hs : Int → Nat) (n : Nat) (T : TB) : (mvN hs n T).e.length = T.e.length ∧ (mvN hs n T).y.length = T.y.length ∧ (mvN hs n T).m = T.m + n := by
  induction n with
  | zero => exact ⟨rfl, rfl, rfl⟩
  | succ n ih =>
    have := mv1_len hs (mvN hs n T)
    exact ⟨this.1.trans ih.1, this.2.1.trans ih.2.1, by rw [mvN, this.2.2, ih.2.2]; rfl⟩
theorem step_none (w : World) (H : TbAt w z gy ge (hvF F bt bm) T) (hl : T.left = 0) : Calls Try.prog 88 #[.pointer (some ⟨z, 0, none⟩)] w fun e w' => e = .returned (.tuple #[]) ∧ ∃ q, w' = w.drewN q := by
  have HL := hide (left_any w H)
  rw [hl] at HL
  clear H hl
  go_enter Try.func88, Try.ntmps88
  go_wp2_with (go_at_call 15; refine HL.out.mono ?_; rintro e w' ⟨rfl, q, hw⟩; rw [hw]; clear hw)
  go_returns
  exact ⟨rfl, _, rfl⟩

theorem step_some (w : World) (H : StS w z gy ge F bt bm ti ma w T) (hl : T.m + 8 ≤ T.e.length) : Calls Try.prog 88 #[.pointer (some ⟨z, 0, none⟩)] w fun e w' => e = .returned (.tuple #[]) ∧ TbS w w' z gy ge (hvF F bt bm) (endT (mvN (hsh ti ma) 8 T)) := by
  have HL := hide (left_any w H.tb)
  obtain ⟨l, hll⟩ : ∃ l, l = T.left := ⟨_, rfl⟩
  have l0 : 0 < l := by rw [hll]; unfold Tb.left; omega
  rw [← hll] at HL
  have hlb : ((l : Int) == 0) = false := beq_eq_false_iff_ne.2 (by omega)
  have HH := hide H
  have b := H.tb.b43.2
  have hT8 := hl
  have hzl := H.tb.blk.lt
  have hyl := H.tb.ry.lt
  have h0 : T.e.length ≠ 0 := by omega
  have hel := (H.tb.re h0).lt
  clear H hll
  go_enter Try.func88, Try.ntmps88
  go_upto_region 1 with (go_at_call 15; refine HL.out.mono ?_; rintro e w' ⟨rfl, q, hw⟩; rw [hw]; clear hw)
  go_upto_region 2 with fail
  go_loopw [6] (fun t wr => ∃ j : Nat, t = .int .i64 j ∧ j ≤ 8 ∧ StS w z gy ge F bt bm ti ma wr (mvN (hsh ti ma) j T)) (fun t _ => 8 - (intOf t).toNat)
  case atStart => exact ⟨0, rfl, by omega, HH.out.drewN _⟩
  case round =>
    obtain ⟨j, rfl, hj, hst⟩ := hrel
    clear HL l0 hlb
    obtain ⟨TJ, hTJ⟩ : ∃ X, X = mvN (hsh ti ma) j T := ⟨_, rfl⟩
    rw [← hTJ] at hst
    have hlen := mvN_len (hsh ti ma) j T
    rw [← hTJ] at hlen
    by_cases hlt : j < 8
    · have hji : (j : Int) < 8 := by omega
      have HST := hide hst
      have hm : TJ.m < TJ.e.length := by omega
      have t0 : TJ.e.length ≠ 0 := by omega
      have c4 := hst.tb.cellE t0 rfl
      have c7 : wr.cell? ⟨z, 7, none⟩ = some (.int .i64 (TJ.m : Int)) := by rw [hst.tb.blk.cell]; rfl
      have d0 := (hst.tb.re t0).c0 TJ.m hm
      have d1 := (hst.tb.re t0).c1 TJ.m hm
      have d2 := (hst.tb.re t0).c2 TJ.m hm
      have zl := hst.tb.blk.lt
      have el := (hst.tb.re t0).lt
      have HLN := hide hlen
      have HTJ := hide hTJ
      have HM := hide hm
      have b2 : TJ.e.length ≤ 8796093022208 := by rw [hlen.1]; exact b
      obtain ⟨sl, hsl⟩ : ∃ s, s = sat TJ.e TJ.m := ⟨_, rfl⟩
      rw [← hsl] at d0 d1 d2
      obtain ⟨kx, hkx⟩ := kS_form sl
      obtain ⟨vx, hvx⟩ := vS_form sl
      rw [hkx] at d1
      rw [hvx] at d2
      obtain ⟨n, hn⟩ : ∃ n, n = TJ.e.length := ⟨_, rfl⟩
      obtain ⟨m, hmm⟩ : ∃ n, n = TJ.m := ⟨_, rfl⟩
      rw [← hn] at c4 b2 hm
      rw [← hmm] at c7 d0 d1 d2 hm
      have hmi : (m : Int) < (n : Int) := by omega
      have HMM := hide hmm
      have HNE := hide hn
      have HSL := hide hsl
      have HKX := hide hkx
      have HVX := hide hvx
      have hs2 := sl.st_le
      obtain ⟨sN, hsN⟩ : ∃ q, q = sl.st := ⟨_, rfl⟩
      rw [← hsN] at d0 hs2
      have HSN := hide hsN
      clear hst hlen hTJ t0 hsl hn hmm hkx hvx hsN
      go_upto_region 3 with fail
      go_region
      go_upto_region 4 with fail
      have HS0 : Hid (StS w z gy ge F bt bm ti ma (wr.alloc (.cells #[.int .u8 (sN : Int), .int .i64 kx, .int .i64 vx] 150)).drew TJ ∧ Blk (wr.alloc (.cells #[.int .u8 (sN : Int), .int .i64 kx, .int .i64 vx] 150)).drew wr.heap.size #[.int .u8 (sN : Int), .int .i64 kx, .int .i64 vx] 150) := hide ⟨(HST.out.alloc _).drew, Blk.made _ _ _⟩
      refine name_world (fun W => StS w z gy ge F bt bm ti ma W TJ ∧ Blk W wr.heap.size #[.int .u8 (sN : Int), .int .i64 kx, .int .i64 vx] 150) HS0.out ?_
      rintro W ⟨hS, hB⟩
      have HS := hide hS
      have s0 : W.cell? ⟨wr.heap.size, 0, none⟩ = some (.int .u8 (sN : Int)) := by rw [hB.cell]; rfl
      have s1 : W.cell? ⟨wr.heap.size, 1, none⟩ = some (.int .i64 kx) := by rw [hB.cell]; rfl
      have s2 : W.cell? ⟨wr.heap.size, 2, none⟩ = some (.int .i64 vx) := by rw [hB.cell]; rfl
      have sl0 := hB.lt
      have zW := hS.tb.blk.lt
      have cW7 : W.cell? ⟨z, 7, none⟩ = some (.int .i64 (m : Int)) := by rw [hS.tb.blk.cell, HMM.out]; rfl
      have fW7 := hS.tb.blk.frozen 7
      generalize wr.heap.size = sv at *
      clear HS0 HST hS hB c4 c7 d0 d1 d2 zl el
      cases sl with
      | emp =>
        have hsb : (((0 : Nat) : Int) == 1) = false := rfl
        obtain rfl : sN = 0 := HSN.out
        clear HKX HVX HSN
        go_wp2
        go_roundw
        case rel =>
          refine ⟨j + 1, by go_num, by omega, ?_⟩
          have h3 := HS.out.setM (m + 1) (by have := HNE.out; omega)
          rw [mvN, ← HTJ.out]
          unfold mv1
          rw [← HSL.out]
          rw [← HMM.out]
          rw [Int.natCast_add] at h3
          exact h3
        case measure => simp [intOf]; omega
      | tmb =>
        have hsb : (((2 : Nat) : Int) == 1) = false := rfl
        obtain rfl : sN = 2 := HSN.out
        clear HKX HVX HSN
        go_wp2
        go_roundw
        case rel =>
          refine ⟨j + 1, by go_num, by omega, ?_⟩
          have h3 := HS.out.setM (m + 1) (by have := HNE.out; omega)
          rw [mvN, ← HTJ.out]
          unfold mv1
          rw [← HSL.out]
          rw [← HMM.out]
          rw [Int.natCast_add] at h3
          exact h3
        case measure => simp [intOf]; omega
      | ful k' v' =>
        obtain ⟨rfl, rfl, rfl⟩ : sN = 1 ∧ kx = k' ∧ vx = v' := ⟨HSN.out, by have := HKX.out; simp [kS] at this; exact this.symm, by have := HVX.out; simp [vS] at this; exact this.symm⟩
        have HHs := hide (hs_any W.drew F bt bm ti ma (HS.out.drew).hs kx)
        have HLay := hide (lay_any W.drew (HS.out.drew).tb (hsh ti ma kx) kx vx (hsh_lt _ _ _))
        have c0 : W.cell? ⟨z, 0, none⟩ = some (.func (.func F) #[] #[.pointer (some ⟨bt, 0, none⟩), .pointer (some ⟨bm, 0, none⟩)]) := by rw [HS.out.tb.blk.cell]; rfl
        have hen := hs_enter HS.out.hs
        clear HKX HVX HSN
        go_upto_region 5 with fail
        refine wp_region_still_tail 14 (by kernel_rfl) (by kernel_rfl) ?_
        simp only [List.take_succ_cons, List.take_zero, List.drop_succ_cons, List.drop_zero]
        iterate 9 still_step
        still_call HHs.out
        iterate 4 still_step
        refine wpStill_nil ?_
        go_upto_region 6 with (go_at_call 91; refine HLay.out.mono ?_; rintro e w1 ⟨rfl, hk1⟩; have HK1 := hide hk1; clear hk1)
        have hS1 := HS.out.drew.k HK1.out
        have HS1 := hide hS1
        have HBu := hide (buryE_any w1.drew hS1.drew.tb TJ.m HM.out kx vx HSL.out.symm)
        have k7 : w1.cell? ⟨z, 7, none⟩ = some (.int .i64 (m : Int)) := by rw [hS1.tb.blk.cell, HMM.out]; rfl
        have zl1 := hS1.tb.blk.lt
        rw [← HMM.out] at HBu
        clear hS1 HK1 HLay HHs hen c0 cW7 fW7 s0 s1 s2
        refine wp_region_still_tail 7 (by kernel_rfl) (by kernel_rfl) ?_
        simp only [List.take_succ_cons, List.take_zero, List.drop_succ_cons, List.drop_zero]
        iterate 7 still_step
        refine wpStill_nil ?_
        go_upto_region 7 with (go_at_call 90; refine HBu.out.mono ?_; rintro e w2 ⟨rfl, hk2⟩; have HK2 := hide hk2; clear hk2)
        have hS2 := HS1.out.drew.k HK2.out
        have HS2 := hide hS2
        have m7 : w2.cell? ⟨z, 7, none⟩ = some (.int .i64 (m : Int)) := by rw [hS2.tb.blk.cell, HMM.out]; rfl
        have n7 := hS2.tb.blk.frozen 7
        have zl2 := hS2.tb.blk.lt
        clear hS2 HK2 HBu HS1 k7
        go_wp2
        go_roundw
        case rel =>
          refine ⟨j + 1, by go_num, by omega, ?_⟩
          have h3 := HS2.out.setM (m + 1) (by show m + 1 ≤ (TJ.e.set m .tmb).length; rw [List.length_set]; have := HNE.out; omega)
          rw [mvN, ← HTJ.out]
          unfold mv1
          rw [← HSL.out]
          rw [← HMM.out]
          rw [Int.natCast_add] at h3
          exact h3
        case measure => simp [intOf]; omega
    · obtain rfl : j = 8 := by omega
      have HS := hide hst
      have HL2 := hide (left_any wr hst.tb)
      have HTJ := hide hTJ
      have y0 := hst.tb.blk.lt
      clear hst hTJ
      by_cases hl0 : TJ.left = 0
      · rw [hl0] at HL2
        have HE : Hid (endT (mvN (hsh ti ma) 8 T) = ⟨TJ.y, [], 0⟩) := hide (by rw [← HTJ.out]; unfold endT; rw [if_pos hl0])
        have g4 : ∃ v, wr.cell? ⟨z, 4, none⟩ = some v := ⟨_, by rw [HS.out.tb.blk.cell]; rfl⟩
        obtain ⟨x4, g4⟩ := g4
        have g5 : wr.cell? ⟨z, 5, none⟩ = some (.int .i64 (cnt TJ.e 1 : Int)) := by rw [HS.out.tb.blk.cell]; rfl
        have g6 : wr.cell? ⟨z, 6, none⟩ = some (.int .i64 (cnt TJ.e 2 : Int)) := by rw [HS.out.tb.blk.cell]; rfl
        have g7 : wr.cell? ⟨z, 7, none⟩ = some (.int .i64 (TJ.m : Int)) := by rw [HS.out.tb.blk.cell]; rfl
        have f4 := HS.out.tb.blk.frozen 4
        have f5 := HS.out.tb.blk.frozen 5
        have f6 := HS.out.tb.blk.frozen 6
        have f7 := HS.out.tb.blk.frozen 7
        clear hl0 hlen
        generalize cnt TJ.e 1 = q1 at *
        generalize cnt TJ.e 2 = q2 at *
        go_wp2_with (go_at_call 15; refine HL2.out.mono ?_; rintro e w' ⟨rfl, q, hw⟩; rw [hw]; clear hw)
        go_returns
        exact ⟨rfl, by rw [HE.out]; exact HS.out.ended _⟩
      · have HE : Hid (endT (mvN (hsh ti ma) 8 T) = TJ) := hide (by rw [← HTJ.out]; unfold endT; rw [if_neg hl0])
        generalize hll : TJ.left = ll at *
        have hl1 : 0 < ll := by omega
        have hl2 : ((ll : Int) == 0) = false := beq_eq_false_iff_ne.2 (by omega)
        clear hl0 hlen hll
        go_wp2_with (go_at_call 15; refine HL2.out.mono ?_; rintro e w' ⟨rfl, q, hw⟩; rw [hw]; clear hw)
        go_returns
        exact ⟨rfl, by rw [HE.out]; exact (TbK.s ⟨HS.out.tb.drewN _, HS.out.fr.drewN _⟩)⟩
end
end Go.Proofs.Ytnknjcnbbljagaa
