/- bury. -/
import Derived.Test.YtjhbebaephmcgaaVXD
namespace Go.Proofs.Ytjhbebaephmcgaa
set_option linter.unusedVariables false
set_option linter.unusedSimpArgs false
namespace TX
set_option maxRecDepth 100000
set_option maxHeartbeats 8000000
open Go.RowKit Go.Sort

section
variable {z gy ge : Nat} {hv : Value} {T : TB}
/-- A slot of the younger array is made a tomb. -/
theorem buryY_any (w : World) (H : TbAt w z gy ge hv T) (p : Nat) (hp : p < T.y.length) (k : KY) (v : EN) (hs : sat T.y p = .ful k v) :
    Calls Try.prog 19 #[.pointer (some ⟨z, 1, none⟩), .int .i64 (p : Int)] w fun e w' => e = .returned (eV v) ∧ TbK w w' z gy ge hv ⟨T.y.set p .tmb, T.e, T.m⟩ := by
  obtain ⟨a, ha, hn⟩ := H.ly
  obtain ⟨n, hnn⟩ : ∃ n, n = T.y.length := ⟨_, rfl⟩
  rw [← hnn] at hn
  have hn2 : n ≤ 8796093022208 := by rw [hn]; exact Nat.pow_le_pow_right (by decide) ha
  have b1 := cnt_le T.y 1
  have b2 := cnt_le T.y 2
  rw [← hnn] at b1 b2
  have k1 := cnt_set T.y p hp .tmb 1
  have k2 := cnt_set T.y p hp .tmb 2
  rw [hs] at k1 k2
  obtain ⟨x1, hx1⟩ : ∃ x, x = cnt T.y 1 := ⟨_, rfl⟩
  obtain ⟨x2, hx2⟩ : ∃ x, x = cnt T.y 2 := ⟨_, rfl⟩
  rw [← hx1] at b1 k1
  rw [← hx2] at b2 k2
  have hx0 : 0 < x1 := by simp [Slt.st] at k1; omega
  have HK1 : Hid (cnt (T.y.set p .tmb) 1 = x1 - 1) := hide (by simp [Slt.st] at k1; omega)
  have HK2 : Hid (cnt (T.y.set p .tmb) 2 = x2 + 1) := hide (by simp [Slt.st] at k2; omega)
  have hpi : (p : Int) < (n : Int) := by omega
  have HH := hide H
  have HL : Hid (T.y.length = n) := hide hnn.symm
  have HX1 := hide hx1
  have HX2 := hide hx2
  have HP := hide hp
  have HS := hide hs
  clear hn ha H hnn hx1 hx2 hp hs k1 k2
  go_enter Try.func19, Try.ntmps19
  have hX := HH.out
  have hV : w.cell? ⟨gy, p * 6 + 5, none⟩ = some (eV v) := by
    have h9 := rng_one (hX.ry.val p HP.out)
    rw [HS.out] at h9
    exact h9
  have c0 : w.cell? ⟨z, 1, none⟩ = some (.slice (some ⟨gy, 0, none⟩) n n) := hX.cellY HL.out.symm
  have hgl := hX.ry.lt
  have hzl := hX.blk.lt
  have HR1 : Hid (RowAt w gy T.y) := hide hX.ry
  clear hX
  go_upto_region 3 with (first | ((with_reducible refine wpList_bdT ?_ ?_ ?_); rfl; rfl) | ((with_reducible refine wpList_stRow ?_ (.tmp 20) (.tmp 19) ?_ gy p T.y ?_ .tmb ?_ HR1.out HP.out ?_); rfl; rfl; rfl; rfl; intro w2 hr2 hg2))
  have hX2 := HH.out.rowY hr2.out hg2.out
  have HX2' := hide hX2
  have HF2 := hide ((Frm.of_below (S := TbB z gy ge) (Below.refl _ _)).grown hg2.out (.inl (.inr (.inl rfl))))
  have e2 : w2.cell? ⟨z, 2, none⟩ = some (.int .i64 (x1 : Int)) := by rw [hX2.c2, HX1.out]
  have e3 : w2.cell? ⟨z, 3, none⟩ = some (.int .i64 (x2 : Int)) := by rw [hX2.c3, HX2.out]
  have f2 := hX2.blk.frozen 2
  have f3 := hX2.blk.frozen 3
  have hzl2 := hX2.blk.lt
  clear hX2 hr2 hg2 hV c0 hgl hzl HR1
  go_upto_region 5 with fail
  refine name_world (fun W3 => TbAt W3 z gy ge hv ⟨T.y.set p .tmb, T.e, T.m⟩ ∧ Frm w W3 (TbB z gy ge)) ⟨?_, (HF2.out.put _ _ _ (.inl rfl)).put _ _ _ (.inl rfl)⟩ ?_
  · have h3 := (HX2'.out.setYF (x1 - 1)).setYT (x2 + 1)
    show TbX _ z gy ge hv (T.y.set p .tmb) T.e (cnt (T.y.set p .tmb) 1) (cnt (T.y.set p .tmb) 2) _ _ _
    rw [HK1.out, HK2.out, nat_sub1 hx0, nat_add1]
    exact h3
  rintro W3 ⟨hX3, hF3⟩
  have HX3 := hide hX3
  have HF3 := hide hF3
  clear hX3 hF3 HX2' HF2 e2 e3 f2 f3 hzl2
  go_wp2
  go_ret
  exact ⟨rfl, HX3.out, HF3.out⟩
/-- A slot of the elder array is made a tomb. -/
theorem buryE_any (w : World) (H : TbAt w z gy ge hv T) (p : Nat) (hp : p < T.e.length) (k : KY) (v : EN) (hs : sat T.e p = .ful k v) :
    Calls Try.prog 19 #[.pointer (some ⟨z, 4, none⟩), .int .i64 (p : Int)] w fun e w' => e = .returned (eV v) ∧ TbK w w' z gy ge hv ⟨T.y, T.e.set p .tmb, T.m⟩ := by
  have h0 : T.e.length ≠ 0 := by omega
  obtain ⟨a, ha, hn⟩ := H.le h0
  obtain ⟨n, hnn⟩ : ∃ n, n = T.e.length := ⟨_, rfl⟩
  rw [← hnn] at hn
  have hn2 : n ≤ 8796093022208 := by rw [hn]; exact Nat.pow_le_pow_right (by decide) ha
  have b1 := cnt_le T.e 1
  have b2 := cnt_le T.e 2
  rw [← hnn] at b1 b2
  have k1 := cnt_set T.e p hp .tmb 1
  have k2 := cnt_set T.e p hp .tmb 2
  rw [hs] at k1 k2
  obtain ⟨x1, hx1⟩ : ∃ x, x = cnt T.e 1 := ⟨_, rfl⟩
  obtain ⟨x2, hx2⟩ : ∃ x, x = cnt T.e 2 := ⟨_, rfl⟩
  rw [← hx1] at b1 k1
  rw [← hx2] at b2 k2
  have hx0 : 0 < x1 := by simp [Slt.st] at k1; omega
  have HK1 : Hid (cnt (T.e.set p .tmb) 1 = x1 - 1) := hide (by simp [Slt.st] at k1; omega)
  have HK2 : Hid (cnt (T.e.set p .tmb) 2 = x2 + 1) := hide (by simp [Slt.st] at k2; omega)
  have hpi : (p : Int) < (n : Int) := by omega
  have HH := hide H
  have HL : Hid (T.e.length = n) := hide hnn.symm
  have HX1 := hide hx1
  have HX2 := hide hx2
  have HP := hide hp
  have HS := hide hs
  have HH0 := hide h0
  clear h0 hn ha H hnn hx1 hx2 hp hs k1 k2
  go_enter Try.func19, Try.ntmps19
  have hX := HH.out
  have hV : w.cell? ⟨ge, p * 6 + 5, none⟩ = some (eV v) := by
    have h9 := rng_one ((hX.re HH0.out).val p HP.out)
    rw [HS.out] at h9
    exact h9
  have c0 : w.cell? ⟨z, 4, none⟩ = some (.slice (some ⟨ge, 0, none⟩) n n) := hX.cellE HH0.out HL.out.symm
  have hgl := (hX.re HH0.out).lt
  have hzl := hX.blk.lt
  have HR1 : Hid (RowAt w ge T.e) := hide (hX.re HH0.out)
  clear hX
  go_upto_region 3 with (first | ((with_reducible refine wpList_bdT ?_ ?_ ?_); rfl; rfl) | ((with_reducible refine wpList_stRow ?_ (.tmp 20) (.tmp 19) ?_ ge p T.e ?_ .tmb ?_ HR1.out HP.out ?_); rfl; rfl; rfl; rfl; intro w2 hr2 hg2))
  have hX2 := HH.out.rowE HH0.out hr2.out hg2.out
  have HX2' := hide hX2
  have HF2 := hide ((Frm.of_below (S := TbB z gy ge) (Below.refl _ _)).grown hg2.out (.inl (.inr (.inr rfl))))
  have e2 : w2.cell? ⟨z, 5, none⟩ = some (.int .i64 (x1 : Int)) := by rw [hX2.c5, HX1.out]
  have e3 : w2.cell? ⟨z, 6, none⟩ = some (.int .i64 (x2 : Int)) := by rw [hX2.c6, HX2.out]
  have f2 := hX2.blk.frozen 5
  have f3 := hX2.blk.frozen 6
  have hzl2 := hX2.blk.lt
  clear hX2 hr2 hg2 hV c0 hgl hzl HR1
  go_upto_region 5 with fail
  refine name_world (fun W3 => TbAt W3 z gy ge hv ⟨T.y, T.e.set p .tmb, T.m⟩ ∧ Frm w W3 (TbB z gy ge)) ⟨?_, (HF2.out.put _ _ _ (.inl rfl)).put _ _ _ (.inl rfl)⟩ ?_
  · have h3 := (HX2'.out.setEF (x1 - 1)).setET (x2 + 1)
    show TbX _ z gy ge hv T.y (T.e.set p .tmb) _ _ (cnt (T.e.set p .tmb) 1) (cnt (T.e.set p .tmb) 2) _
    rw [HK1.out, HK2.out, nat_sub1 hx0, nat_add1]
    exact h3
  rintro W3 ⟨hX3, hF3⟩
  have HX3 := hide hX3
  have HF3 := hide hF3
  clear hX3 hF3 HX2' HF2 e2 e3 f2 f3 hzl2
  go_wp2
  go_ret
  exact ⟨rfl, HX3.out, HF3.out⟩
end
end TX
end Go.Proofs.Ytjhbebaephmcgaa
