/- lay. -/
import Derived.Test.YtjhbebaephmcgaaVXC
import Derived.StillTailTactics
namespace Go.Proofs.Ytjhbebaephmcgaa
set_option linter.unusedVariables false
set_option linter.unusedSimpArgs false
namespace TX
set_option maxRecDepth 100000
set_option maxHeartbeats 8000000
open Go.RowKit Go.Sort

section
variable {z gy ge : Nat} {hv : Value} {T : TB}
theorem nat_sub1 {x : Nat} (h : 0 < x) : (x : Int) - 1 = ((x - 1 : Nat) : Int) := by omega
theorem nat_add1 (x : Nat) : (x : Int) + 1 = ((x + 1 : Nat) : Int) := by omega
theorem TbX.laid {w1 : World} {p : Nat} {s : SL} {yf yt : Nat} (h : TbX w1 z gy ge hv (T.y.set p s) T.e yf yt (cnt T.e 1) (cnt T.e 2) T.m) (n1 : cnt (T.y.set p s) 1 = yf + 1) (n2 : cnt (T.y.set p s) 2 = yt) : TbAt (w1.setCell ⟨z, 2, none⟩ (.int .i64 ((yf : Int) + 1))) z gy ge hv ⟨T.y.set p s, T.e, T.m⟩ := by
  have := h.setYF (yf + 1)
  show TbX _ z gy ge hv (T.y.set p s) T.e (cnt (T.y.set p s) 1) (cnt (T.y.set p s) 2) _ _ _
  rw [n1, n2, nat_add1]
  exact this
theorem lay_any (w : World) (H : TbAt w z gy ge hv T) (h : Nat) (k : KY) (v : EN) (hh : h < 18446744073709551616) :
    Calls Try.prog 21 #[.pointer (some ⟨z, 1, none⟩), .int .u64 (h : Int), kV k, eV v] w fun e w' => e = .returned (.tuple #[]) ∧ TbK w w' z gy ge hv ⟨lay T.y h k v, T.e, T.m⟩ := by
  obtain ⟨a, ha, hn⟩ := H.ly
  obtain ⟨n, hnn⟩ : ∃ n, n = T.y.length := ⟨_, rfl⟩
  rw [← hnn] at hn
  have hn2 : n ≤ 8796093022208 := by rw [hn]; exact Nat.pow_le_pow_right (by decide) ha
  have b1 := cnt_le T.y 1
  have b2 := cnt_le T.y 2
  rw [← hnn] at b1 b2
  have HH := hide H
  have HL : Hid (T.y.length = n) := hide hnn.symm
  have HHN := hide hn
  have HHH := hide hh
  have HHA := hide ha
  obtain ⟨x1, hx1⟩ : ∃ x, x = cnt T.y 1 := ⟨_, rfl⟩
  obtain ⟨x2, hx2⟩ : ∃ x, x = cnt T.y 2 := ⟨_, rfl⟩
  rw [← hx1] at b1
  rw [← hx2] at b2
  have HX1 := hide hx1
  have HX2 := hide hx2
  clear hn ha H hnn hx1 hx2 hh
  go_enter Try.func21, Try.ntmps21
  go_upto_region 1 with fail
  refine name_world (fun W => Below w.heap.size w W ∧ KB W w.heap.size k) ⟨below_alloc w _, KB.made w k⟩ ?_
  rintro W ⟨hB, hK⟩
  have HB := hide hB
  obtain ⟨kb, hkb⟩ : ∃ kb, kb = w.heap.size := ⟨_, rfl⟩
  rw [← hkb] at hK ⊢
  have HK := hide hK
  have hX := HH.out.below hB
  have HX : Hid (TbAt W z gy ge hv T) := hide hX
  have c0 : W.cell? ⟨z, 1, none⟩ = some (.slice (some ⟨gy, 0, none⟩) n n) := hX.cellY HL.out.symm
  have HC0 := hide c0
  have c2 : W.cell? ⟨z, 2, none⟩ = some (.int .i64 (x1 : Int)) := by rw [hX.c2, HX1.out]
  have c3 : W.cell? ⟨z, 3, none⟩ = some (.int .i64 (x2 : Int)) := by rw [hX.c3, HX2.out]
  have f2 := hX.blk.frozen 2
  have f3 := hX.blk.frozen 3
  have hzW := hX.blk.lt
  have hzy : ¬ z = gy := hX.zy
  clear hB hK hX hkb HH
  go_wp2
  go_loop [15] (fun t => ∃ j : Nat, t = .int .i64 j ∧ j ≤ n ∧ Hid (lay T.y h k v = lyg T.y h k v (n - j) j)) (fun t => n - (intOf t).toNat)
  case atStart => exact ⟨0, rfl, Nat.zero_le _, hide (by unfold lay; rw [HL.out]; rfl)⟩
  case round =>
    obtain ⟨j, rfl, hj, hq⟩ := hrel
    by_cases hlt : j < n
    · have hji : (j : Int) < (n : Int) := by omega
      have hpl : (h + j) % n < n := Nat.mod_lt _ (by omega)
      have HWj := hide (way_any W z 1 n (some ⟨gy, 0, none⟩) h j HC0.out a HHA.out HHN.out HHH.out hlt)
      have HQ : Hid (lay T.y h k v = lyg T.y h k v (n - (j + 1) + 1) j) := hide (by rw [hq.out, show n - j = (n - (j + 1)) + 1 by omega])
      obtain ⟨p, hp⟩ : ∃ p, p = (h + j) % n := ⟨_, rfl⟩
      have HP : Hid ((h + j) % T.y.length = p) := hide (by rw [HL.out, hp])
      rw [← hp] at hpl HWj
      have hpt : p < T.y.length := by rw [HL.out]; exact hpl
      have HPT := hide hpt
      have d0 := HX.out.ry.st p hpt
      have hpi : (p : Int) < (n : Int) := by omega
      clear hq hp hpt
      cases hs : sat T.y p with
      | emp =>
        rw [hs] at d0
        have HF : Hid (lay T.y h k v = T.y.set p (.ful k v)) := hide (by rw [HQ.out, lyg_emp (by rw [HP.out]; exact hs), HP.out])
        have k1 := cnt_set T.y p HPT.out (.ful k v) 1
        have k2 := cnt_set T.y p HPT.out (.ful k v) 2
        rw [hs] at k1 k2
        have HK1 : Hid (cnt (T.y.set p (.ful k v)) 1 = x1 + 1) := hide (by rw [HX1.out]; simpa [Slt.st] using k1)
        have HK2 : Hid (cnt (T.y.set p (.ful k v)) 2 = x2) := hide (by rw [HX2.out]; simpa [Slt.st] using k2)
        have e0 : (((Slt.emp : SL).st : Nat) : Int) = 0 := rfl
        rw [e0] at d0
        clear hs HQ e0 k1 k2
        go_upto_region 8 with (go_at_call 24; refine HWj.out.mono ?_; rintro e w' ⟨rfl, hw⟩; rw [hw]; clear hw)
        refine name_world (fun W2 => TbX W2 z gy ge hv T.y T.e x1 x2 (cnt T.e 1) (cnt T.e 2) T.m ∧ KB W2 kb k ∧ Frm w W2 (TbB z gy ge)) ⟨by rw [HX1.out, HX2.out]; exact HX.out, HK.out, Frm.of_below HB.out⟩ ?_
        rintro W2 ⟨hX2, hK2, hF2⟩
        have HX2W := hide hX2
        have HK2W := hide hK2
        have HF2W := hide hF2
        have HR8 : Hid (RowAt W2.drew gy T.y) := hide (hX2.ry.same rfl)
        have e1 : W2.cell? ⟨z, 1, none⟩ = some (.slice (some ⟨gy, 0, none⟩) n n) := hX2.cellY HL.out.symm
        clear hX2 hK2 hF2 HX HK HB c0 HC0 c2 c3 f2 f3 d0 HWj
        refine wp_region_still_tail 9 (by kernel_rfl) (by kernel_rfl) ?_
        simp only [List.take_succ_cons, List.take_zero, List.drop_succ_cons, List.drop_zero]
        iterate 5 still_step
        refine wpStill_val (kV k) rfl (run_loadO rfl rfl (run_ldK (fun j v hj => HK2W.out.rng j v hj))) ?_
        still_step
        refine wpStill_val (slV (.ful k v)) rfl (run_bdS rfl rfl k v rfl rfl _) ?_
        still_step
        refine wpStill_nil ?_
        refine wpList_stRow ?_ (.tmp 55) (.tmp 54) ?_ gy p T.y ?_ (.ful k v) ?_ HR8.out HPT.out ?_
        · rfl
        · rfl
        · rfl
        · rfl
        intro w1 hr1 hg1
        have HX3 := hide ((HX2W.out.drewN 1).rowY hr1.out hg1.out)
        have HF3 := hide ((HF2W.out.drewN 1).grown hg1.out (.inl (.inr (.inl rfl))))
        have g2 := HX3.out.c2
        have g3 := HX3.out.blk.frozen 2
        have g4 := HX3.out.blk.lt
        clear hr1 hg1 HX2W HK2W HF2W HR8 e1
        go_wp2
        go_returns
        refine ⟨rfl, ?_⟩
        rw [HF.out]
        exact ⟨HX3.out.laid HK1.out HK2.out, HF3.out.put _ _ _ (.inl rfl)⟩
      | tmb =>
        rw [hs] at d0
        have HF : Hid (lay T.y h k v = T.y.set p (.ful k v)) := hide (by rw [HQ.out, lyg_tmb (by rw [HP.out]; exact hs), HP.out])
        have k1 := cnt_set T.y p HPT.out (.ful k v) 1
        have k2 := cnt_set T.y p HPT.out (.ful k v) 2
        rw [hs] at k1 k2
        have HK1 : Hid (cnt (T.y.set p (.ful k v)) 1 = x1 + 1) := hide (by rw [HX1.out]; simpa [Slt.st] using k1)
        have HK2 : Hid (cnt (T.y.set p (.ful k v)) 2 = x2 - 1) := hide (by rw [HX2.out]; simp [Slt.st] at k2; omega)
        have hx20 : 0 < x2 := by rw [HX2.out]; simp [Slt.st] at k2; omega
        have e0 : (((Slt.tmb : SL).st : Nat) : Int) = 2 := rfl
        rw [e0] at d0
        clear hs HQ e0 k1 k2
        go_upto_region 8 with (go_at_call 24; refine HWj.out.mono ?_; rintro e w' ⟨rfl, hw⟩; rw [hw]; clear hw)
        refine name_world (fun W2 => TbX W2 z gy ge hv T.y T.e x1 (x2 - 1) (cnt T.e 1) (cnt T.e 2) T.m ∧ KB W2 kb k ∧ Frm w W2 (TbB z gy ge)) ⟨by have h3 := HX.out.setYT (x2 - 1); rw [← nat_sub1 hx20] at h3; rw [HX1.out]; exact h3, Blk.setOther HK.out _ _ (blk_ne HK.out HX.out.blk (by decide)), (Frm.of_below HB.out).put _ _ _ (.inl rfl)⟩ ?_
        rintro W2 ⟨hX2, hK2, hF2⟩
        have HX2W := hide hX2
        have HK2W := hide hK2
        have HF2W := hide hF2
        have HR8 : Hid (RowAt W2.drew gy T.y) := hide (hX2.ry.same rfl)
        have e1 : W2.cell? ⟨z, 1, none⟩ = some (.slice (some ⟨gy, 0, none⟩) n n) := hX2.cellY HL.out.symm
        clear hX2 hK2 hF2 HX HK HB c0 HC0 c2 c3 f2 f3 d0 HWj
        refine wp_region_still_tail 9 (by kernel_rfl) (by kernel_rfl) ?_
        simp only [List.take_succ_cons, List.take_zero, List.drop_succ_cons, List.drop_zero]
        iterate 5 still_step
        refine wpStill_val (kV k) rfl (run_loadO rfl rfl (run_ldK (fun j v hj => HK2W.out.rng j v hj))) ?_
        still_step
        refine wpStill_val (slV (.ful k v)) rfl (run_bdS rfl rfl k v rfl rfl _) ?_
        still_step
        refine wpStill_nil ?_
        refine wpList_stRow ?_ (.tmp 55) (.tmp 54) ?_ gy p T.y ?_ (.ful k v) ?_ HR8.out HPT.out ?_
        · rfl
        · rfl
        · rfl
        · rfl
        intro w1 hr1 hg1
        have HX3 := hide ((HX2W.out.drewN 1).rowY hr1.out hg1.out)
        have HF3 := hide ((HF2W.out.drewN 1).grown hg1.out (.inl (.inr (.inl rfl))))
        have g2 := HX3.out.c2
        have g3 := HX3.out.blk.frozen 2
        have g4 := HX3.out.blk.lt
        clear hr1 hg1 HX2W HK2W HF2W HR8 e1
        go_wp2
        go_returns
        refine ⟨rfl, ?_⟩
        rw [HF.out]
        exact ⟨HX3.out.laid HK1.out HK2.out, HF3.out.put _ _ _ (.inl rfl)⟩
      | ful k' v' =>
        rw [hs] at d0
        have e0 : (((Slt.ful k' v' : SL).st : Nat) : Int) = 1 := rfl
        rw [e0] at d0
        have HF : Hid (lay T.y h k v = lyg T.y h k v (n - (j + 1)) (j + 1)) := hide (by rw [HQ.out, lyg_ful (by rw [HP.out]; exact hs)])
        clear hs HQ e0
        go_wp2_with (go_at_call 24; refine HWj.out.mono ?_; rintro e w' ⟨rfl, hw⟩; rw [hw]; clear hw)
        go_round
        case rel => exact ⟨j + 1, by go_num, by omega, HF⟩
        case measure => simp [intOf]; omega
    · have hji : ¬ (j : Int) < (n : Int) := by omega
      have HF : Hid (lay T.y h k v = T.y) := hide (by rw [hq.out, show j = n by omega, Nat.sub_self]; rfl)
      go_wp2
      go_returns
      exact ⟨rfl, by rw [HF.out]; exact ⟨HX.out, Frm.of_below HB.out⟩⟩
end
end TX
end Go.Proofs.Ytjhbebaephmcgaa
