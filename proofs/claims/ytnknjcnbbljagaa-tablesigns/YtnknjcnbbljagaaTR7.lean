/- The document's table in memory: Step. -/
import Derived.Test.YtnknjcnbbljagaaTRm
namespace Go.Proofs.Ytnknjcnbbljagaa
set_option linter.unusedVariables false
set_option linter.unusedSimpArgs false
namespace RR
set_option maxRecDepth 100000
open Go.RowKit

/-- What a call leaves of the document's table, its rows where they were. -/
structure TrK (w w' : World) (z gy ge : Nat) (ti ma : Int) (T' : TR) : Prop where
  tb : TbR w' z gy ge ti ma T'
  fr : Frm w w' (TbB z gy ge)
/-- What a call leaves of the document's table. -/
structure TrS (w w' : World) (z gy ge : Nat) (ti ma : Int) (T' : TR) : Prop where
  ex : ∃ gy' ge', TbR w' z gy' ge' ti ma T' ∧ ∀ k, TbB z gy' ge' k → TbB z gy ge k ∨ w.heap.size ≤ k
  fr : Frm w w' (TbB z gy ge)
section
variable {z gy ge : Nat} {ti ma : Int} {T : TR}
theorem TrK.s {w w' : World} {T' : TR} (h : TrK w w' z gy ge ti ma T') : TrS w w' z gy ge ti ma T' := ⟨⟨gy, ge, h.tb, fun _ hk => .inl hk⟩, h.fr⟩
theorem TrK.trans {a b c : World} {T1 T2 : TR} (h : TrK a b z gy ge ti ma T1) (k : TrK b c z gy ge ti ma T2) : TrK a c z gy ge ti ma T2 := ⟨k.tb, h.fr.trans k.fr (fun _ _ h => h)⟩
theorem TrK.refl {w : World} (h : TbR w z gy ge ti ma T) : TrK w w z gy ge ti ma T := ⟨h, Frm.refl _ _⟩
theorem TrK.drewN {w w' : World} {T' : TR} (h : TrK w w' z gy ge ti ma T') (q : Nat) : TrK w (w'.drewN q) z gy ge ti ma T' := ⟨h.tb.drewN q, h.fr.drewN q⟩
theorem TrS.trans {a b c : World} {gy' ge' : Nat} {T' : TR} (hf : Frm a b (TbB z gy ge)) (hn : ∀ k, TbB z gy' ge' k → TbB z gy ge k ∨ a.heap.size ≤ k) (k : TrS b c z gy' ge' ti ma T') : TrS a c z gy ge ti ma T' := by
  obtain ⟨⟨g1, g2, ht, hk⟩, hfr⟩ := k
  refine ⟨⟨g1, g2, ht, fun q hq => ?_⟩, hf.trans hfr (fun i hi hS => ?_)⟩
  · rcases hk q hq with e | e
    · exact hn q e
    · exact .inr (Nat.le_trans hf.size e)
  · rcases hn i hS with e | e
    · exact e
    · omega
theorem frm_setR (w : World) (S : Nat → Prop) (g p : Nat) (s : SR) (hg : S g) : Frm w (setR w g p s) S := (((Frm.set w S g _ _ hg).put _ _ _ hg).put _ _ _ hg).put _ _ _ hg
theorem TrK.putY {w : World} (h : TbR w z gy ge ti ma T) (p : Nat) (hp : p < T.y.length) (s : SR) : TrK w (setR w gy p s) z gy ge ti ma ⟨T.y.set p s, T.e, T.m⟩ := ⟨h.putY p hp s, frm_setR _ _ _ _ _ (.inr (.inl rfl))⟩
theorem TrK.putE {w : World} (h : TbR w z gy ge ti ma T) (p : Nat) (hp : p < T.e.length) (s : SR) : TrK w (setR w ge p s) z gy ge ti ma ⟨T.y, T.e.set p s, T.m⟩ := ⟨h.putE p hp s, frm_setR _ _ _ _ _ (.inr (.inr rfl))⟩
theorem lay_k (w : World) (H : TbR w z gy ge ti ma T) (k : KR) (v : Int) : Calls Try.prog 86 #[.pointer (some ⟨z, 0, none⟩), .int .i64 k.1, .int .i64 k.2, .int .i64 v] w fun e w' => e = .returned (.tuple #[]) ∧ TrK w w' z gy ge ti ma ⟨lay T.y (hsR ti ma k) k v, T.e, T.m⟩ := by
  refine (lay_any w H k v).mono ?_
  rintro e w' ⟨rfl, q, ⟨h1, rfl⟩ | ⟨p, hp, h1, rfl⟩⟩
  · rw [h1]
    exact ⟨rfl, (TrK.refl H).drewN q⟩
  · rw [h1]
    exact ⟨rfl, ((TrK.refl H).drewN q).trans (TrK.putY (H.drewN q) p hp _)⟩
theorem TbR.zy {w : World} (h : TbR w z gy ge ti ma T) : z ≠ gy := row_ne h.blk h.ry (by decide)
theorem TbR.ze {w : World} (h : TbR w z gy ge ti ma T) : z ≠ ge := by
  by_cases h0 : T.e.length = 0
  · rw [h.nil h0]; exact h.zy
  · exact row_ne h.blk (h.re h0) (by decide)
theorem TbR.same {w w' : World} (h : TbR w z gy ge ti ma T) (hs : ∀ k, TbB z gy ge k → w'.heap[k]? = w.heap[k]?) : TbR w' z gy ge ti ma T :=
  ⟨(hs z (.inl rfl)).trans h.blk, h.ry.same (hs gy (.inr (.inl rfl))), fun e => (h.re e).same (hs ge (.inr (.inr rfl))), h.ne, h.nil, h.by', h.be, h.mt⟩
theorem TbR.lt {w : World} (h : TbR w z gy ge ti ma T) {k : Nat} (hk : TbB z gy ge k) : k < w.heap.size := by
  rcases hk with rfl | rfl | rfl
  · exact h.blk.lt
  · exact h.ry.lt
  · by_cases h0 : T.e.length = 0
    · rw [h.nil h0]; exact h.ry.lt
    · exact (h.re h0).lt
theorem TbR.below {w w' : World} (h : TbR w z gy ge ti ma T) (hb : Below w.heap.size w w') : TbR w' z gy ge ti ma T := h.same (fun k hk => hb.block k (h.lt hk))
theorem TrK.setM {w : World} (h : TbR w z gy ge ti ma T) (m : Nat) (hm : m ≤ T.e.length) : TrK w (w.setCell ⟨z, 5, none⟩ (.int .i64 (m : Int))) z gy ge ti ma ⟨T.y, T.e, m⟩ :=
  ⟨⟨h.blk.set 5 _, h.ry.same (heap_setCell_other _ _ _ _ h.zy.symm), fun h0 => (h.re h0).same (heap_setCell_other _ _ _ _ h.ze.symm), h.ne, h.nil, h.by', h.be, hm⟩, Frm.set _ _ _ _ _ (.inl rfl)⟩
theorem TrK.alloc {w W : World} (h : TrK w W z gy ge ti ma T) (o : Obj) : TrK w (W.alloc o) z gy ge ti ma T :=
  ⟨h.tb.below (below_alloc _ _), h.fr.trans (Frm.of_below (S := fun _ => False) (below_alloc _ _)) (fun _ _ h => h.elim)⟩
theorem TrK.drew {w W : World} (h : TrK w W z gy ge ti ma T) : TrK w W.drew z gy ge ti ma T := h.drewN 1
theorem TrK.ended {w W : World} (h : TrK w W z gy ge ti ma T) (q : Nat) : TrS w ((((W.drewN q).setCell ⟨z, 4, none⟩ (.bool false)).setCell ⟨z, 3, none⟩ (.slice none 0 0)).setCell ⟨z, 5, none⟩ (.int .i64 0)) z gy ge ti ma ⟨T.y, [], 0⟩ := by
  have hzy := h.tb.zy
  refine ⟨⟨gy, gy, ⟨(((h.tb.drewN q).blk.set 4 (.bool false)).set 3 (.slice none 0 0)).set 5 (.int .i64 0), h.tb.ry.same ?_, fun h => absurd rfl h, fun h => absurd rfl h, fun _ => rfl, h.tb.by', Nat.zero_le _, Nat.le_refl _⟩, fun k hk => ?_⟩, (((h.fr.drewN q).put _ _ _ (.inl rfl)).put _ _ _ (.inl rfl)).put _ _ _ (.inl rfl)⟩
  · rw [heap_setCell_other _ _ _ _ hzy.symm, heap_setCell_other _ _ _ _ hzy.symm, heap_setCell_other _ _ _ _ hzy.symm]
    rfl
  · rcases hk with e | e | e
    · exact .inl (.inl e)
    · exact .inl (.inr (.inl e))
    · exact .inl (.inr (.inl e))
theorem step_none (w : World) (H : TbR w z gy ge ti ma T) (hl : T.e.length = 0) : Calls Try.prog 84 #[.pointer (some ⟨z, 0, none⟩)] w fun e w' => e = .returned (.tuple #[]) ∧ ∃ q, w' = w.drewN q := by
  have c4 := H.c4
  rw [show decide (T.e.length ≠ 0) = false by simp [hl]] at c4
  have hz := H.blk.lt
  clear H hl
  go_enter Try.func84, Try.ntmps84
  go_wp2
  go_returns
  exact ⟨rfl, 0, rfl⟩
theorem mvN_lenR (n : Nat) (T : TR) : (mvN (hsR ti ma) n T).e.length = T.e.length ∧ (mvN (hsR ti ma) n T).y.length = T.y.length ∧ (mvN (hsR ti ma) n T).m = T.m + n := by
  induction n with
  | zero => exact ⟨rfl, rfl, rfl⟩
  | succ n ih =>
    have h1 : (mv1 (hsR ti ma) (mvN (hsR ti ma) n T)).e.length = (mvN (hsR ti ma) n T).e.length ∧ (mv1 (hsR ti ma) (mvN (hsR ti ma) n T)).y.length = (mvN (hsR ti ma) n T).y.length ∧ (mv1 (hsR ti ma) (mvN (hsR ti ma) n T)).m = (mvN (hsR ti ma) n T).m + 1 := by
      unfold mv1
      split
      · exact ⟨List.length_set, lay_length .., rfl⟩
      · exact ⟨rfl, rfl, rfl⟩
      · exact ⟨rfl, rfl, rfl⟩
    exact ⟨h1.1.trans ih.1, h1.2.1.trans ih.2.1, by rw [mvN, h1.2.2, ih.2.2]; rfl⟩
theorem step_some (w : World) (H : TbR w z gy ge ti ma T) (hl : T.m + 8 ≤ T.e.length) : Calls Try.prog 84 #[.pointer (some ⟨z, 0, none⟩)] w fun e w' => e = .returned (.tuple #[]) ∧ TrS w w' z gy ge ti ma (endT (mvN (hsR ti ma) 8 T)) := by
  have c4 := H.c4
  rw [show decide (T.e.length ≠ 0) = true by simp; intro h; rw [h] at hl; simp at hl] at c4
  have HH := hide H
  have b := H.be
  have hzl := H.blk.lt
  clear H
  go_enter Try.func84, Try.ntmps84
  go_upto_region 2 with fail
  go_loopw [2] (fun t wr => ∃ j : Nat, t = .int .i64 j ∧ j ≤ 8 ∧ TrK w wr z gy ge ti ma (mvN (hsR ti ma) j T)) (fun t _ => 8 - (intOf t).toNat)
  case atStart => exact ⟨0, rfl, by omega, TrK.refl HH.out⟩
  case round =>
    obtain ⟨j, rfl, hj, hst⟩ := hrel
    clear c4
    obtain ⟨TJ, hTJ⟩ : ∃ X, X = mvN (hsR ti ma) j T := ⟨_, rfl⟩
    rw [← hTJ] at hst
    have hlen := mvN_lenR (ti := ti) (ma := ma) j T
    rw [← hTJ] at hlen
    by_cases hlt : j < 8
    · have hji : (j : Int) < 8 := by omega
      have HST := hide hst
      have hm : TJ.m < TJ.e.length := by omega
      have t0 : TJ.e.length ≠ 0 := by omega
      obtain ⟨ao, c3, hao⟩ := hst.tb.c3
      obtain rfl := hao t0
      have c5 := hst.tb.c5
      have d0 := (hst.tb.re t0).c0 TJ.m hm
      have d1 := (hst.tb.re t0).c1 TJ.m hm
      have d2 := (hst.tb.re t0).c2 TJ.m hm
      have d3 := (hst.tb.re t0).c3 TJ.m hm
      have zl := hst.tb.blk.lt
      have el := (hst.tb.re t0).lt
      have HTJ := hide hTJ
      have HM := hide hm
      have HT0 := hide t0
      have b2 : TJ.e.length ≤ 8796093022208 := by rw [hlen.1]; exact b
      obtain ⟨sl, hsl⟩ : ∃ s, s = sat TJ.e TJ.m := ⟨_, rfl⟩
      rw [← hsl] at d0 d1 d2 d3
      obtain ⟨n, hn⟩ : ∃ n, n = TJ.e.length := ⟨_, rfl⟩
      obtain ⟨m, hmm⟩ : ∃ n, n = TJ.m := ⟨_, rfl⟩
      rw [← hn] at c3 b2 hm
      rw [← hmm] at c5 d0 d1 d2 d3 hm
      have hmi : (m : Int) < (n : Int) := by omega
      have HMM := hide hmm
      have HNE := hide hn
      have HSL := hide hsl
      obtain ⟨sN, hsN⟩ : ∃ q, q = (sl.st : Int) := ⟨_, rfl⟩
      obtain ⟨kx, hkx⟩ : ∃ q, q = kR sl := ⟨_, rfl⟩
      obtain ⟨tx, htx⟩ : ∃ q, q = tR sl := ⟨_, rfl⟩
      obtain ⟨vx, hvx⟩ : ∃ q, q = vR sl := ⟨_, rfl⟩
      rw [← hsN] at d0
      rw [← hkx] at d1
      rw [← htx] at d2
      rw [← hvx] at d3
      have HSN := hide hsN
      have HKX := hide hkx
      have HTX := hide htx
      have HVX := hide hvx
      clear hst hlen hTJ t0 hsl hn hmm hkx hvx hsN htx hao
      go_upto_region 4 with fail
      go_region
      go_upto_region 5 with fail
      have HS0 : Hid (TrK w (wr.alloc (.cells #[.int .i64 sN, .int .i64 kx, .int .i64 tx, .int .i64 vx] 145)).drew z gy ge ti ma TJ ∧ Blk (wr.alloc (.cells #[.int .i64 sN, .int .i64 kx, .int .i64 tx, .int .i64 vx] 145)).drew wr.heap.size #[.int .i64 sN, .int .i64 kx, .int .i64 tx, .int .i64 vx] 145) := hide ⟨(HST.out.alloc _).drew, Blk.made _ _ _⟩
      refine name_world (fun W => TrK w W z gy ge ti ma TJ ∧ Blk W wr.heap.size #[.int .i64 sN, .int .i64 kx, .int .i64 tx, .int .i64 vx] 145) HS0.out ?_
      rintro W ⟨hS, hB⟩
      have HS := hide hS
      have s0 : W.cell? ⟨wr.heap.size, 0, none⟩ = some (.int .i64 sN) := by rw [hB.cell]; rfl
      have s1 : W.cell? ⟨wr.heap.size, 1, none⟩ = some (.int .i64 kx) := by rw [hB.cell]; rfl
      have s2 : W.cell? ⟨wr.heap.size, 2, none⟩ = some (.int .i64 tx) := by rw [hB.cell]; rfl
      have s3 : W.cell? ⟨wr.heap.size, 3, none⟩ = some (.int .i64 vx) := by rw [hB.cell]; rfl
      have sl0 := hB.lt
      have zW := hS.tb.blk.lt
      have cW5 : W.cell? ⟨z, 5, none⟩ = some (.int .i64 (m : Int)) := by rw [hS.tb.c5, HMM.out]
      have fW5 := hS.tb.blk.frozen 5
      generalize wr.heap.size = sv at *
      clear HS0 HST hS hB c3 c5 d0 d1 d2 d3 zl el
      cases sl with
      | emp =>
        obtain rfl : sN = 0 := HSN.out
        clear HKX HVX HSN HTX
        go_wp2
        go_roundw
        case rel =>
          refine ⟨j + 1, by go_num, by omega, ?_⟩
          have h3 := HS.out.trans (TrK.setM HS.out.tb (m + 1) (by have := HNE.out; omega))
          rw [mvN, ← HTJ.out]
          unfold mv1
          rw [← HSL.out]
          rw [← HMM.out]
          rw [Int.natCast_add] at h3
          exact h3
        case measure => simp [intOf]; omega
      | tmb =>
        obtain rfl : sN = 2 := HSN.out
        clear HKX HVX HSN HTX
        go_wp2
        go_roundw
        case rel =>
          refine ⟨j + 1, by go_num, by omega, ?_⟩
          have h3 := HS.out.trans (TrK.setM HS.out.tb (m + 1) (by have := HNE.out; omega))
          rw [mvN, ← HTJ.out]
          unfold mv1
          rw [← HSL.out]
          rw [← HMM.out]
          rw [Int.natCast_add] at h3
          exact h3
        case measure => simp [intOf]; omega
      | ful k' v' =>
        obtain ⟨ka, kb⟩ := k'
        obtain rfl : sN = 1 := HSN.out
        obtain rfl : kx = ka := HKX.out
        obtain rfl : tx = kb := HTX.out
        obtain rfl : vx = v' := HVX.out
        have HLay := hide (lay_k W HS.out.tb (kx, tx) vx)
        dsimp only at HLay
        clear HKX HVX HSN HTX
        go_upto_region 7 with (go_at_call 86; refine HLay.out.mono ?_; rintro e w1 ⟨rfl, hk1⟩; have HK1 := hide hk1; clear hk1)
        have hS1 := HS.out.trans HK1.out
        have HS1 := hide hS1
        obtain ⟨ao1, e3, hao1⟩ := hS1.tb.c3
        obtain rfl := hao1 HT0.out
        have e5 := hS1.tb.c5
        have zl1 := hS1.tb.blk.lt
        have hr1 := hS1.tb.re HT0.out
        have el1 := hr1.lt
        have z0 := hr1.c0 TJ.m HM.out
        have z1 := hr1.c1 TJ.m HM.out
        have z2 := hr1.c2 TJ.m HM.out
        have z3 := hr1.c3 TJ.m HM.out
        have HFz : Hid (∀ o, w1.frozen? ⟨ge, o, none⟩ = false) := hide (fun o => by obtain ⟨cur, hb, _⟩ := hr1.row; exact hb.frozen o)
        dsimp only at e3 e5 z0 z1 z2 z3
        rw [← HMM.out] at z0 z1 z2 z3 e5
        rw [← HNE.out] at e3
        have g0 := HFz.out (m * 4)
        have g1 := HFz.out (m * 4 + 1)
        have g2 := HFz.out (m * 4 + 2)
        have g3 := HFz.out (m * 4 + 3)
        have HE5 : Hid (TrK w (setR w1.drew ge m .tmb) z gy ge ti ma ⟨lay TJ.y (hsR ti ma (kx, tx)) (kx, tx) vx, TJ.e.set m .tmb, TJ.m⟩) := hide (hS1.drew.trans (TrK.putE hS1.drew.tb m (by show m < TJ.e.length; have := HM.out; have := HMM.out; omega) .tmb))
        clear hS1 HK1 HLay cW5 fW5 s0 s1 s2 s3 hr1 HFz hao1 sl0 zW
        generalize hX : sat TJ.e m = xx at *
        generalize (xx.st : Int) = x0 at *
        generalize kR xx = x1 at *
        generalize tR xx = x2 at *
        generalize vR xx = x3 at *
        go_region
        go_upto_region 8 with fail
        refine name_world (fun W2 => TrK w W2 z gy ge ti ma ⟨lay TJ.y (hsR ti ma (kx, tx)) (kx, tx) vx, TJ.e.set m .tmb, TJ.m⟩) HE5.out ?_
        rintro W2 hS2
        have HS2 := hide hS2
        have m5 := hS2.tb.c5
        dsimp only at m5
        rw [← HMM.out] at m5
        have n5 := hS2.tb.blk.frozen 5
        have zl2 := hS2.tb.blk.lt
        clear hS2 HE5 HS1 e3 e5 z0 z1 z2 z3 g0 g1 g2 g3 hX
        go_wp2
        go_roundw
        case rel =>
          refine ⟨j + 1, by go_num, by omega, ?_⟩
          have h3 := HS2.out.trans (TrK.setM HS2.out.tb (m + 1) (by show m + 1 ≤ (TJ.e.set m .tmb).length; rw [List.length_set]; have := HNE.out; omega))
          rw [mvN, ← HTJ.out]
          unfold mv1
          rw [← HSL.out]
          rw [← HMM.out]
          rw [Int.natCast_add] at h3
          exact h3
        case measure => simp [intOf]; omega
    · obtain rfl : j = 8 := by omega
      have HS := hide hst
      have HTJ := hide hTJ
      have y0 := hst.tb.blk.lt
      obtain ⟨ao, c3, hao⟩ := hst.tb.c3
      have c5 := hst.tb.c5
      have mt := hst.tb.mt
      have c4 : ∃ v, wr.cell? ⟨z, 4, none⟩ = some (.bool v) := ⟨_, hst.tb.c4⟩
      obtain ⟨v4, c4⟩ := c4
      have f3 := hst.tb.blk.frozen 3
      have f4 := hst.tb.blk.frozen 4
      have f5 := hst.tb.blk.frozen 5
      have be := hst.tb.be
      by_cases hl0 : TJ.left = 0
      · have HE : Hid (endT (mvN (hsR ti ma) 8 T) = ⟨TJ.y, [], 0⟩) := hide (by rw [← HTJ.out]; unfold endT; rw [if_pos hl0])
        have hme : TJ.m = TJ.e.length := by unfold Tb.left at hl0; omega
        rw [hme] at c5
        clear hl0 hlen hst hTJ hao hme mt
        generalize TJ.e.length = n at *
        go_upto_region 9 with fail
        go_quiet (fail)
        go_wp2
        go_returns
        exact ⟨rfl, by rw [HE.out]; exact HS.out.ended _⟩
      · have HE : Hid (endT (mvN (hsR ti ma) 8 T) = TJ) := hide (by rw [← HTJ.out]; unfold endT; rw [if_neg hl0])
        have hme : ((TJ.m : Int) == (TJ.e.length : Int)) = false := by unfold Tb.left at hl0; simp; omega
        clear hl0 hlen hst hTJ hao mt
        generalize TJ.e.length = n at *
        generalize TJ.m = m at *
        go_upto_region 9 with fail
        go_quiet (fail)
        go_wp2
        go_returns
        exact ⟨rfl, by rw [HE.out]; exact (HS.out.drewN _).s⟩
end
end RR
end Go.Proofs.Ytnknjcnbbljagaa
