/- lay. -/
import Derived.Test.YtnknjcnbbljagaaTI2
namespace Go.Proofs.Ytnknjcnbbljagaa
set_option linter.unusedVariables false
set_option linter.unusedSimpArgs false
set_option maxRecDepth 100000
open Go.RowKit

section
variable {z gy ge : Nat} {hv : Value} {T : TB}
theorem TbAt.mkY {w w' : World} (h : TbAt w z gy ge hv T) {L : List SL} (hl : L.length = T.y.length) (hb : Blk w' z (tbL hv gy T.y.length (cnt L 1) (cnt L 2) ge T.e.length (cnt T.e 1) (cnt T.e 2) T.m) 95) (hr : RowAt w' gy L) (ho : ∀ k, k ≠ z → k ≠ gy → w'.heap[k]? = w.heap[k]?) : TbAt w' z gy ge hv ⟨L, T.e, T.m⟩ :=
  ⟨by rw [hl]; exact hb, hr, fun h0 => (h.re h0).same (ho ge h.ze.symm (h.ne h0)), h.ne, h.nil, by rw [hl]; exact h.ly, h.le, h.mm⟩
theorem oth3 (w : World) (g p : Nat) (s : SL) (k : Nat) (hk : k ≠ g) : (setSl w g p s).heap[k]? = w.heap[k]? := by
  unfold setSl
  rw [heap_setCell_other _ _ _ _ hk, heap_setCell_other _ _ _ _ hk, heap_setCell_other _ _ _ _ hk]
/-- What a call leaves of a table whose rows stay where they are. -/
structure TbK (w w' : World) (z gy ge : Nat) (hv : Value) (T' : TB) : Prop where
  tb : TbAt w' z gy ge hv T'
  fr : Frm w w' (TbB z gy ge)
theorem TbK.emp {w : World} (h : TbAt w z gy ge hv T) (p : Nat) (hp : p < T.y.length) (s : SL) (h2 : cnt (T.y.set p s) 2 = cnt T.y 2) : TbK w ((setSl w gy p s).setCell ⟨z, 2, none⟩ (.int .i64 (cnt (T.y.set p s) 1 : Int))) z gy ge hv ⟨T.y.set p s, T.e, T.m⟩ := by
  have hzy := h.zy
  refine ⟨h.mkY List.length_set ?_ ?_ (fun k h1 h2 => ?_), (((Frm.set _ _ _ _ _ (.inr (.inl rfl))).put _ _ _ (.inr (.inl rfl))).put _ _ _ (.inr (.inl rfl))).put _ _ _ (.inl rfl)⟩
  · rw [h2]
    exact (((h.blk.setOther _ _ hzy).setOther _ _ hzy).setOther _ _ hzy).set 2 _
  · refine (h.ry.put p hp s).same ?_
    rw [heap_setCell_other _ _ _ _ hzy.symm]
  · rw [heap_setCell_other _ _ _ _ h1, oth3 _ _ _ _ _ h2]
theorem TbK.tmb {w : World} (h : TbAt w z gy ge hv T) (p : Nat) (hp : p < T.y.length) (s : SL) : TbK w ((setSl (w.setCell ⟨z, 3, none⟩ (.int .i64 (cnt (T.y.set p s) 2 : Int))) gy p s).setCell ⟨z, 2, none⟩ (.int .i64 (cnt (T.y.set p s) 1 : Int))) z gy ge hv ⟨T.y.set p s, T.e, T.m⟩ := by
  have hzy := h.zy
  refine ⟨h.mkY List.length_set ?_ ?_ (fun k h1 h2 => ?_), ((((Frm.set _ _ _ _ _ (.inl rfl)).put _ _ _ (.inr (.inl rfl))).put _ _ _ (.inr (.inl rfl))).put _ _ _ (.inr (.inl rfl))).put _ _ _ (.inl rfl)⟩
  · exact ((((h.blk.set 3 _).setOther _ _ hzy).setOther _ _ hzy).setOther _ _ hzy).set 2 _
  · refine ((h.ry.same ?_).put p hp s).same (heap_setCell_other _ _ _ _ hzy.symm)
    rw [heap_setCell_other _ _ _ _ hzy.symm]
  · rw [heap_setCell_other _ _ _ _ h1, oth3 _ _ _ _ _ h2, heap_setCell_other _ _ _ _ h1]
theorem lay_any (w : World) (H : TbAt w z gy ge hv T) (h : Nat) (k v : Int) (hh : h < 18446744073709551616) :
    Calls Try.prog 91 #[.pointer (some ⟨z, 1, none⟩), .int .u64 (h : Int), .int .i64 k, .int .i64 v] w fun e w' => e = .returned (.tuple #[]) ∧ TbK w w' z gy ge hv ⟨lay T.y h k v, T.e, T.m⟩ := by
  obtain ⟨a, ha, hn⟩ := H.ly
  obtain ⟨n, hnn⟩ : ∃ n, n = T.y.length := ⟨_, rfl⟩
  have c0 : w.cell? ⟨z, 1, none⟩ = some (.slice (some ⟨gy, 0, none⟩) n n) := by rw [H.blk.cell, hnn]; rfl
  have c1 : w.cell? ⟨z, 2, none⟩ = some (.int .i64 (cnt T.y 1 : Int)) := by rw [H.blk.cell]; rfl
  have c2 : w.cell? ⟨z, 3, none⟩ = some (.int .i64 (cnt T.y 2 : Int)) := by rw [H.blk.cell]; rfl
  have f1 := H.blk.frozen 2
  have f2 := H.blk.frozen 3
  rw [← hnn] at hn
  have hn2 : n ≤ 8796093022208 := by rw [hn]; exact Nat.pow_le_pow_right (by decide) ha
  have HW := hide (fun i hi => way_any w z 1 n (some ⟨gy, 0, none⟩) h i c0 a ha hn hh hi)
  have hg := H.ry.lt
  have hz := H.blk.lt
  have hzy : ¬ z = gy := H.zy
  have hyz : ¬ gy = z := fun e => H.zy e.symm
  have b1 := cnt_le T.y 1
  have b2 := cnt_le T.y 2
  rw [← hnn] at b1 b2
  have HH := hide H
  have HL : Hid (T.y.length = n) := hide hnn.symm
  obtain ⟨x1, hx1⟩ : ∃ x, x = cnt T.y 1 := ⟨_, rfl⟩
  obtain ⟨x2, hx2⟩ : ∃ x, x = cnt T.y 2 := ⟨_, rfl⟩
  rw [← hx1] at c1 b1
  rw [← hx2] at c2 b2
  have HX1 := hide hx1
  have HX2 := hide hx2
  clear hn ha H hnn hx1 hx2
  go_enter Try.func91, Try.ntmps91
  go_wp2
  go_loop [15] (fun t => ∃ j : Nat, t = .int .i64 j ∧ j ≤ n ∧ Hid (lay T.y h k v = lyg T.y h k v (n - j) j)) (fun t => n - (intOf t).toNat)
  case atStart => exact ⟨0, rfl, Nat.zero_le _, hide (by unfold lay; rw [HL.out]; rfl)⟩
  case round =>
    obtain ⟨j, rfl, hj, hq⟩ := hrel
    by_cases hlt : j < n
    · have hji : (j : Int) < (n : Int) := by omega
      have hpl : (h + j) % n < n := Nat.mod_lt _ (by omega)
      have HWj := hide (HW.out j hlt)
      have HQ : Hid (lay T.y h k v = lyg T.y h k v (n - (j + 1) + 1) j) := hide (by rw [hq.out, show n - j = (n - (j + 1)) + 1 by omega])
      obtain ⟨p, hp⟩ : ∃ p, p = (h + j) % n := ⟨_, rfl⟩
      have HP : Hid ((h + j) % T.y.length = p) := hide (by rw [HL.out, hp])
      rw [← hp] at hpl HWj
      have hpt : p < T.y.length := by rw [HL.out]; exact hpl
      have HPT := hide hpt
      have d0 := HH.out.ry.c0 p hpt
      have d1 := HH.out.ry.c1 p hpt
      have d2 := HH.out.ry.c2 p hpt
      have hpi : (p : Int) < (n : Int) := by omega
      obtain ⟨cur, hbk, _⟩ := HH.out.ry.row
      have g0 := hbk.frozen (p * 3)
      have g1 := hbk.frozen (p * 3 + 1)
      have g2 := hbk.frozen (p * 3 + 2)
      clear hq hp hpt hbk
      cases hs : sat T.y p with
      | emp =>
        rw [hs] at d0 d1 d2
        have HF : Hid (lay T.y h k v = T.y.set p (.ful k v)) := hide (by rw [HQ.out, lyg_emp (by rw [HP.out]; exact hs), HP.out])
        have k1 := cnt_set T.y p HPT.out (.ful k v) 1
        have k2 := cnt_set T.y p HPT.out (.ful k v) 2
        rw [hs] at k1 k2
        have HK1 : Hid (cnt (T.y.set p (.ful k v)) 1 = x1 + 1) := hide (by rw [HX1.out]; simpa [Slt.st] using k1)
        have HK2 : Hid (cnt (T.y.set p (.ful k v)) 2 = x2) := hide (by rw [HX2.out]; simpa [Slt.st] using k2)
        have e0 : (((Slt.emp : SL).st : Nat) : Int) = 0 := rfl
        have e1 : kS Slt.emp = .int .i64 0 := rfl
        have e2 : vS Slt.emp = .int .i64 0 := rfl
        rw [e0] at d0
        rw [e1] at d1
        rw [e2] at d2
        clear hs HQ e0 e1 e2 k1 k2
        go_wp2_with (go_at_call 99; refine HWj.out.mono ?_; rintro e w' ⟨rfl, hw⟩; rw [hw]; clear hw)
        go_returns
        refine ⟨rfl, ?_⟩
        have := TbK.emp HH.out p HPT.out (.ful k v) (by rw [HK2.out, HX2.out])
        rw [HF.out]
        rw [HK1.out, Int.natCast_add] at this
        exact this
      | tmb =>
        rw [hs] at d0 d1 d2
        have HF : Hid (lay T.y h k v = T.y.set p (.ful k v)) := hide (by rw [HQ.out, lyg_tmb (by rw [HP.out]; exact hs), HP.out])
        have k1 := cnt_set T.y p HPT.out (.ful k v) 1
        have k2 := cnt_set T.y p HPT.out (.ful k v) 2
        rw [hs] at k1 k2
        have HK1 : Hid (cnt (T.y.set p (.ful k v)) 1 = x1 + 1) := hide (by rw [HX1.out]; simpa [Slt.st] using k1)
        have HK2 : Hid (((cnt (T.y.set p (.ful k v)) 2 : Nat) : Int) = (x2 : Int) - 1) := hide (by rw [HX2.out]; simp [Slt.st] at k2; omega)
        have hx20 : 0 < x2 := by rw [HX2.out]; simp [Slt.st] at k2; omega
        have e0 : (((Slt.tmb : SL).st : Nat) : Int) = 2 := rfl
        have e1 : kS Slt.tmb = .int .i64 0 := rfl
        have e2 : vS Slt.tmb = .int .i64 0 := rfl
        rw [e0] at d0
        rw [e1] at d1
        rw [e2] at d2
        clear hs HQ e0 e1 e2 k1 k2
        go_wp2_with (go_at_call 99; refine HWj.out.mono ?_; rintro e w' ⟨rfl, hw⟩; rw [hw]; clear hw)
        go_returns
        refine ⟨rfl, ?_⟩
        have := TbK.tmb HH.out p HPT.out (.ful k v)
        rw [HF.out]
        rw [HK1.out, HK2.out, Int.natCast_add] at this
        exact this
      | ful k' v' =>
        rw [hs] at d0 d1
        have e0 : (((Slt.ful k' v' : SL).st : Nat) : Int) = 1 := rfl
        rw [e0] at d0
        have HF : Hid (lay T.y h k v = lyg T.y h k v (n - (j + 1)) (j + 1)) := hide (by rw [HQ.out, lyg_ful (by rw [HP.out]; exact hs)])
        clear hs HQ e0 d1 d2
        go_wp2_with (go_at_call 99; refine HWj.out.mono ?_; rintro e w' ⟨rfl, hw⟩; rw [hw]; clear hw)
        go_round
        case rel => exact ⟨j + 1, by go_num, by omega, HF⟩
        case measure => simp [intOf]; omega
    · have hji : ¬ (j : Int) < (n : Int) := by omega
      have HF : Hid (lay T.y h k v = T.y) := hide (by rw [hq.out, show j = n by omega, Nat.sub_self]; rfl)
      go_wp2
      go_returns
      exact ⟨rfl, by rw [HF.out]; exact ⟨HH.out, Frm.refl _ _⟩⟩
/-- A slot of the younger array is made a tomb. -/
theorem buryY_any (w : World) (H : TbAt w z gy ge hv T) (p : Nat) (hp : p < T.y.length) (k v : Int) (hs : sat T.y p = .ful k v) :
    Calls Try.prog 90 #[.pointer (some ⟨z, 1, none⟩), .int .i64 (p : Int)] w fun e w' => e = .returned (.int .i64 v) ∧ TbK w w' z gy ge hv ⟨T.y.set p .tmb, T.e, T.m⟩ := by
  obtain ⟨a, ha, hn⟩ := H.ly
  obtain ⟨n, hnn⟩ : ∃ n, n = T.y.length := ⟨_, rfl⟩
  have c0 : w.cell? ⟨z, 1, none⟩ = some (.slice (some ⟨gy, 0, none⟩) n n) := by rw [H.blk.cell, hnn]; rfl
  have c1 : w.cell? ⟨z, 2, none⟩ = some (.int .i64 (cnt T.y 1 : Int)) := by rw [H.blk.cell]; rfl
  have c2 : w.cell? ⟨z, 3, none⟩ = some (.int .i64 (cnt T.y 2 : Int)) := by rw [H.blk.cell]; rfl
  have f1 := H.blk.frozen 2
  have f2 := H.blk.frozen 3
  rw [← hnn] at hn
  have hn2 : n ≤ 8796093022208 := by rw [hn]; exact Nat.pow_le_pow_right (by decide) ha
  have hg := H.ry.lt
  have hz := H.blk.lt
  have hzy : ¬ z = gy := H.zy
  have hyz : ¬ gy = z := fun e => H.zy e.symm
  have b1 := cnt_le T.y 1
  have b2 := cnt_le T.y 2
  rw [← hnn] at b1 b2
  have d0 := H.ry.c0 p hp
  have d1 := H.ry.c1 p hp
  have d2 := H.ry.c2 p hp
  rw [hs] at d0 d1 d2
  have e0 : (((Slt.ful k v : SL).st : Nat) : Int) = 1 := rfl
  have e1 : kS (Slt.ful k v) = .int .i64 k := rfl
  have e2 : vS (Slt.ful k v) = .int .i64 v := rfl
  rw [e0] at d0
  rw [e1] at d1
  rw [e2] at d2
  obtain ⟨cur, hbk, _⟩ := H.ry.row
  have g0 := hbk.frozen (p * 3)
  have g1 := hbk.frozen (p * 3 + 1)
  have g2 := hbk.frozen (p * 3 + 2)
  have k1 := cnt_set T.y p hp .tmb 1
  have k2 := cnt_set T.y p hp .tmb 2
  rw [hs] at k1 k2
  obtain ⟨x1, hx1⟩ : ∃ x, x = cnt T.y 1 := ⟨_, rfl⟩
  obtain ⟨x2, hx2⟩ : ∃ x, x = cnt T.y 2 := ⟨_, rfl⟩
  rw [← hx1] at c1 b1 k1
  rw [← hx2] at c2 b2 k2
  have HK1 : Hid (((cnt (T.y.set p .tmb) 1 : Nat) : Int) = (x1 : Int) - 1) := hide (by simp [Slt.st] at k1; omega)
  have HK2 : Hid (((cnt (T.y.set p .tmb) 2 : Nat) : Int) = (x2 : Int) + 1) := hide (by simp [Slt.st] at k2; omega)
  have hx0 : 0 < x1 := by simp [Slt.st] at k1; omega
  have hpi : (p : Int) < (n : Int) := by omega
  have HS := hide (H.putY p hp .tmb)
  clear hn ha H hx1 hx2 hnn hs hp hbk k1 k2 e0 e1 e2
  go_enter Try.func90, Try.ntmps90
  go_wp2
  go_ret
  refine ⟨rfl, ?_, ((((Frm.set _ _ _ _ _ (.inr (.inl rfl))).put _ _ _ (.inr (.inl rfl))).put _ _ _ (.inr (.inl rfl))).put _ _ _ (.inl rfl)).put _ _ _ (.inl rfl)⟩
  have := HS.out
  rw [HK1.out, HK2.out] at this
  exact this
end
end Go.Proofs.Ytnknjcnbbljagaa
