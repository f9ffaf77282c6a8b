/- bury in the elder array; finding; the small questions. -/
import Derived.Test.YtnknjcnbbljagaaTI3
namespace Go.Proofs.Ytnknjcnbbljagaa
set_option linter.unusedVariables false
set_option linter.unusedSimpArgs false
set_option maxRecDepth 100000
open Go.RowKit

section
variable {z gy ge : Nat} {hv : Value} {T : TB}
theorem TbAt.cellE {w : World} (h : TbAt w z gy ge hv T) (h0 : T.e.length ≠ 0) {n : Nat} (hn : n = T.e.length) : w.cell? ⟨z, 4, none⟩ = some (.slice (some ⟨ge, 0, none⟩) n n) := by
  rw [h.blk.cell, hn]
  show some (evS ge T.e.length) = _
  unfold evS
  rw [if_neg h0]
theorem TbAt.cellE0 {w : World} (h : TbAt w z gy ge hv T) (h0 : T.e.length = 0) : w.cell? ⟨z, 4, none⟩ = some (.slice none 0 0) := by
  rw [h.blk.cell]
  show some (evS ge T.e.length) = _
  unfold evS
  rw [if_pos h0]
theorem TbAt.putE {w : World} (h : TbAt w z gy ge hv T) (p : Nat) (hp : p < T.e.length) (s : SL) : TbAt (((setSl w ge p s).setCell ⟨z, 5, none⟩ (.int .i64 (cnt (T.e.set p s) 1 : Int))).setCell ⟨z, 6, none⟩ (.int .i64 (cnt (T.e.set p s) 2 : Int))) z gy ge hv ⟨T.y, T.e.set p s, T.m⟩ := by
  have h0 : T.e.length ≠ 0 := by omega
  have hzy := h.zy
  have hze := h.ze
  have hne := h.ne h0
  have re := (h.re h0).put p hp s
  have hb : Blk (setSl w ge p s) z (tbL hv gy T.y.length (cnt T.y 1) (cnt T.y 2) ge T.e.length (cnt T.e 1) (cnt T.e 2) T.m) 95 := ((h.blk.setOther _ _ hze).setOther _ _ hze).setOther _ _ hze
  refine ⟨by rw [List.length_set]; exact (hb.set 5 _).set 6 _, ?_, fun _ => ?_, fun _ => hne, fun e => absurd (by rw [List.length_set] at e; exact e) h0, h.ly, fun _ => by rw [List.length_set]; exact h.le h0, by rw [List.length_set]; exact h.mm⟩
  · refine h.ry.same ?_
    rw [heap_setCell_other _ _ _ _ hzy.symm, heap_setCell_other _ _ _ _ hzy.symm, oth3 _ _ _ _ _ hne.symm]
  · refine re.same ?_
    rw [heap_setCell_other _ _ _ _ hze.symm, heap_setCell_other _ _ _ _ hze.symm]
/-- A slot of the elder array is made a tomb. -/
theorem buryE_any (w : World) (H : TbAt w z gy ge hv T) (p : Nat) (hp : p < T.e.length) (k v : Int) (hs : sat T.e p = .ful k v) :
    Calls Try.prog 90 #[.pointer (some ⟨z, 4, none⟩), .int .i64 (p : Int)] w fun e w' => e = .returned (.int .i64 v) ∧ TbK w w' z gy ge hv ⟨T.y, T.e.set p .tmb, T.m⟩ := by
  have h0 : T.e.length ≠ 0 := by omega
  obtain ⟨a, ha, hn⟩ := H.le h0
  obtain ⟨n, hnn⟩ : ∃ n, n = T.e.length := ⟨_, rfl⟩
  have c0 : w.cell? ⟨z, 4, none⟩ = some (.slice (some ⟨ge, 0, none⟩) n n) := H.cellE h0 hnn
  have c1 : w.cell? ⟨z, 5, none⟩ = some (.int .i64 (cnt T.e 1 : Int)) := by rw [H.blk.cell]; rfl
  have c2 : w.cell? ⟨z, 6, none⟩ = some (.int .i64 (cnt T.e 2 : Int)) := by rw [H.blk.cell]; rfl
  have f1 := H.blk.frozen 5
  have f2 := H.blk.frozen 6
  rw [← hnn] at hn
  have hn2 : n ≤ 8796093022208 := by rw [hn]; exact Nat.pow_le_pow_right (by decide) ha
  have hg := (H.re h0).lt
  have hz := H.blk.lt
  have hzy : ¬ z = ge := H.ze
  have hyz : ¬ ge = z := fun e => H.ze e.symm
  have b1 := cnt_le T.e 1
  have b2 := cnt_le T.e 2
  rw [← hnn] at b1 b2
  have d0 := (H.re h0).c0 p hp
  have d1 := (H.re h0).c1 p hp
  have d2 := (H.re h0).c2 p hp
  rw [hs] at d0 d1 d2
  have e0 : (((Slt.ful k v : SL).st : Nat) : Int) = 1 := rfl
  have e1 : kS (Slt.ful k v) = .int .i64 k := rfl
  have e2 : vS (Slt.ful k v) = .int .i64 v := rfl
  rw [e0] at d0
  rw [e1] at d1
  rw [e2] at d2
  obtain ⟨cur, hbk, _⟩ := (H.re h0).row
  have g0 := hbk.frozen (p * 3)
  have g1 := hbk.frozen (p * 3 + 1)
  have g2 := hbk.frozen (p * 3 + 2)
  have k1 := cnt_set T.e p hp .tmb 1
  have k2 := cnt_set T.e p hp .tmb 2
  rw [hs] at k1 k2
  obtain ⟨x1, hx1⟩ : ∃ x, x = cnt T.e 1 := ⟨_, rfl⟩
  obtain ⟨x2, hx2⟩ : ∃ x, x = cnt T.e 2 := ⟨_, rfl⟩
  rw [← hx1] at c1 b1 k1
  rw [← hx2] at c2 b2 k2
  have HK1 : Hid (((cnt (T.e.set p .tmb) 1 : Nat) : Int) = (x1 : Int) - 1) := hide (by simp [Slt.st] at k1; omega)
  have HK2 : Hid (((cnt (T.e.set p .tmb) 2 : Nat) : Int) = (x2 : Int) + 1) := hide (by simp [Slt.st] at k2; omega)
  have hx0 : 0 < x1 := by simp [Slt.st] at k1; omega
  have hpi : (p : Int) < (n : Int) := by omega
  have HS := hide (H.putE p hp .tmb)
  clear hn ha H h0 hx1 hx2 hnn hs hp hbk k1 k2 e0 e1 e2
  go_enter Try.func90, Try.ntmps90
  go_wp2
  go_ret
  refine ⟨rfl, ?_, ((((Frm.set _ _ _ _ _ (.inr (.inr rfl))).put _ _ _ (.inr (.inr rfl))).put _ _ _ (.inr (.inr rfl))).put _ _ _ (.inl rfl)).put _ _ _ (.inl rfl)⟩
  have := HS.out
  rw [HK1.out, HK2.out] at this
  exact this
theorem findY_any (w : World) (H : TbAt w z gy ge hv T) (h : Nat) (k : Int) (hh : h < 18446744073709551616) :
    Calls Try.prog 89 #[.pointer (some ⟨z, 1, none⟩), .int .u64 (h : Int), .int .i64 k] w fun e w' => e = .returned (fndV (find eqK T.y h k)) ∧ ∃ q, w' = w.drewN q := by
  obtain ⟨a, ha, hn⟩ := H.ly
  exact find_any w z 1 T.y.length gy T.y h k (by rw [H.blk.cell]; rfl) rfl H.ry a ha hn hh
theorem find_nil (w : World) (z o : Nat) (h : Nat) (k : Int) (c0 : w.cell? ⟨z, o, none⟩ = some (.slice none 0 0)) :
    Calls Try.prog 89 #[.pointer (some ⟨z, o, none⟩), .int .u64 (h : Int), .int .i64 k] w fun e w' => e = .returned (fndV (none, 0)) ∧ ∃ q, w' = w.drewN q := by
  have hz := World.block_lt_of_cell? w _ c0
  go_enter Try.func89, Try.ntmps89
  go_wp2
  go_loop [15] (fun t => t = .int .i64 0) (fun t => 0)
  case atStart => rfl
  case round =>
    obtain rfl := hrel
    go_upto_region 12 with fail
    go_quiet (fail)
    go_wp2
    go_ret3
    exact ⟨rfl, _, rfl⟩
theorem findE_any (w : World) (H : TbAt w z gy ge hv T) (h : Nat) (k : Int) (hh : h < 18446744073709551616) :
    Calls Try.prog 89 #[.pointer (some ⟨z, 4, none⟩), .int .u64 (h : Int), .int .i64 k] w fun e w' => e = .returned (fndV (find eqK T.e h k)) ∧ ∃ q, w' = w.drewN q := by
  by_cases h0 : T.e.length = 0
  · have e : find eqK T.e h k = (none, 0) := by unfold find; rw [h0]; rfl
    rw [e]
    exact find_nil w z 4 h k (H.cellE0 h0)
  · obtain ⟨a, ha, hn⟩ := H.le h0
    exact find_any w z 4 T.e.length ge T.e h k (H.cellE h0 rfl) rfl (H.re h0) a ha hn hh
theorem TbAt.b43 {w : World} (H : TbAt w z gy ge hv T) : T.y.length ≤ 8796093022208 ∧ T.e.length ≤ 8796093022208 := by
  obtain ⟨a, ha, hn⟩ := H.ly
  refine ⟨by rw [hn]; exact Nat.pow_le_pow_right (by decide) ha, ?_⟩
  by_cases h0 : T.e.length = 0
  · omega
  · obtain ⟨a, ha, hn⟩ := H.le h0
    rw [hn]; exact Nat.pow_le_pow_right (by decide) ha
variable {F bt bm : Nat}
def hvF (F bt bm : Nat) : Value := .func (.func F) #[] #[.pointer (some ⟨bt, 0, none⟩), .pointer (some ⟨bm, 0, none⟩)]
theorem notnil_f (F bt bm : Nat) (w : World) : (binOp BinOp.eql 33 (.func (.func F) #[] #[.pointer (some ⟨bt, 0, none⟩), .pointer (some ⟨bm, 0, none⟩)]) .nilFunc).run Try.prog w = .ok (.bool false) w := by kernel_rfl
theorem none_no (w : World) (H : TbAt w z gy ge (hvF F bt bm) T) : Calls Try.prog 62 #[.pointer (some ⟨z, 0, none⟩)] w fun e w' => e = .returned (.bool false) ∧ w' = w := by
  have c0 : w.cell? ⟨z, 0, none⟩ = some (.func (.func F) #[] #[.pointer (some ⟨bt, 0, none⟩), .pointer (some ⟨bm, 0, none⟩)]) := by rw [H.blk.cell]; rfl
  have hz := H.blk.lt
  have hnf := notnil_f F bt bm w
  clear H
  go_enter Try.func62, Try.ntmps62
  go_wp2
  go_ret
  exact ⟨rfl, rfl⟩
theorem left_any (w : World) (H : TbAt w z gy ge (hvF F bt bm) T) : Calls Try.prog 15 #[.pointer (some ⟨z, 0, none⟩)] w fun e w' => e = .returned (.int .i64 (T.left : Int)) ∧ ∃ q, w' = w.drewN q := by
  have HN := hide (none_no w H)
  have hz := H.blk.lt
  have hmm := H.mm
  have b := H.b43.2
  have c7 : w.cell? ⟨z, 7, none⟩ = some (.int .i64 (T.m : Int)) := by rw [H.blk.cell]; rfl
  have c4 : ∃ ao, w.cell? ⟨z, 4, none⟩ = some (.slice ao T.e.length T.e.length) := by
    by_cases h0 : T.e.length = 0
    · exact ⟨_, by rw [h0]; exact H.cellE0 h0⟩
    · exact ⟨_, H.cellE h0 rfl⟩
  obtain ⟨ao, c4⟩ := c4
  have HS : Hid ((T.e.length : Int) - (T.m : Int) = (T.left : Int)) := hide (by unfold Tb.left; omega)
  generalize T.e.length = n at *
  generalize T.m = m at *
  have hmi : (m : Int) ≤ (n : Int) := by omega
  clear H
  go_enter Try.func15, Try.ntmps15
  go_upto_region 3 with (go_at_call 62; refine HN.out.mono ?_; rintro e w' ⟨rfl, hw⟩; rw [hw]; clear hw)
  go_quiet (fail)
  go_wp2
  rw [HS.out]
  go_ret
  exact ⟨rfl, _, rfl⟩
theorem len_any (w : World) (H : TbAt w z gy ge (hvF F bt bm) T) : Calls Try.prog 16 #[.pointer (some ⟨z, 0, none⟩)] w fun e w' => e = .returned (.int .i64 (T.len : Int)) ∧ ∃ q, w' = w.drewN q := by
  have HN := hide (none_no w H)
  have hz := H.blk.lt
  have b := H.b43
  have b1 := cnt_le T.y 1
  have b2 := cnt_le T.e 1
  have c2 : w.cell? ⟨z, 2, none⟩ = some (.int .i64 (cnt T.y 1 : Int)) := by rw [H.blk.cell]; rfl
  have c5 : w.cell? ⟨z, 5, none⟩ = some (.int .i64 (cnt T.e 1 : Int)) := by rw [H.blk.cell]; rfl
  have HS : Hid ((cnt T.y 1 : Int) + (cnt T.e 1 : Int) = (T.len : Int)) := hide (by unfold Tb.len; omega)
  generalize cnt T.y 1 = x at *
  generalize cnt T.e 1 = y at *
  have hx : x ≤ 8796093022208 := by omega
  have hy : y ≤ 8796093022208 := by omega
  clear H b b1 b2
  go_enter Try.func16, Try.ntmps16
  go_upto_region 3 with (go_at_call 62; refine HN.out.mono ?_; rintro e w' ⟨rfl, hw⟩; rw [hw]; clear hw)
  go_quiet (fail)
  go_wp2
  rw [HS.out]
  go_ret
  exact ⟨rfl, _, rfl⟩
theorem cap_any (w : World) (H : TbAt w z gy ge (hvF F bt bm) T) : Calls Try.prog 17 #[.pointer (some ⟨z, 0, none⟩)] w fun e w' => e = .returned (.int .i64 (T.y.length : Int)) ∧ w' = w := by
  have HN := hide (none_no w H)
  have hz := H.blk.lt
  have c1 : w.cell? ⟨z, 1, none⟩ = some (.slice (some ⟨gy, 0, none⟩) T.y.length T.y.length) := by rw [H.blk.cell]; rfl
  generalize T.y.length = n at *
  clear H
  go_enter Try.func17, Try.ntmps17
  go_wp2_with (go_at_call 62; refine HN.out.mono ?_; rintro e w' ⟨rfl, hw⟩; rw [hw]; clear hw)
  go_ret
  exact ⟨rfl, rfl⟩
theorem tombs_any (w : World) (H : TbAt w z gy ge (hvF F bt bm) T) : Calls Try.prog 57 #[.pointer (some ⟨z, 0, none⟩)] w fun e w' => e = .returned (.int .i64 (cnt T.y 2 : Int)) ∧ w' = w := by
  have HN := hide (none_no w H)
  have hz := H.blk.lt
  have c3 : w.cell? ⟨z, 3, none⟩ = some (.int .i64 (cnt T.y 2 : Int)) := by rw [H.blk.cell]; rfl
  generalize cnt T.y 2 = n at *
  clear H
  go_enter Try.func57, Try.ntmps57
  go_wp2_with (go_at_call 62; refine HN.out.mono ?_; rintro e w' ⟨rfl, hw⟩; rw [hw]; clear hw)
  go_ret
  exact ⟨rfl, rfl⟩
end
end Go.Proofs.Ytnknjcnbbljagaa
