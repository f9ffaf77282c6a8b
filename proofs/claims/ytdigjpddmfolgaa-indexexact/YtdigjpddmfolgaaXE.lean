/- bury. -/
import Derived.Test.YtdigjpddmfolgaaXD
namespace Go.Proofs.Ytdigjpddmfolgaa
set_option linter.unusedVariables false
set_option linter.unusedSimpArgs false
namespace TX
set_option maxRecDepth 100000
set_option maxHeartbeats 8000000
open Go.RowKit Go.Sort

section
variable {z gy ge : Nat} {hv : Value} {T : TB}
/-- A slot of the younger array is made a tomb. -/
theorem buryY_any (w : World) (H : TbAt w z gy ge hv T) (p : Nat) (hp : p < T.y.length) (k : KY) (v : EN) (hs : sat T.y p = .ful k v) :
    Calls Try.prog 51 #[.pointer (some ⟨z, 1, none⟩), .int .i64 (p : Int)] w fun e w' => e = .returned (eV v) ∧ TbK w w' z gy ge hv ⟨T.y.set p .tmb, T.e, T.m⟩ := by
  obtain ⟨a, ha, hn⟩ := H.ly
  obtain ⟨n, hnn⟩ : ∃ n, n = T.y.length := ⟨_, rfl⟩
  rw [← hnn] at hn
  have hn2 : n ≤ 8796093022208 := by rw [hn]; exact Nat.pow_le_pow_right (by decide) ha
  have b1 := cnt_le T.y 1
  have b2 := cnt_le T.y 2
  rw [← hnn] at b1 b2
  have k1 := cnt_set T.y p hp .tmb 1
  have k2 := cnt_set T.y p hp .tmb 2
  rw [hs] at k1 k2
  obtain ⟨x1, hx1⟩ : ∃ x, x = cnt T.y 1 := ⟨_, rfl⟩
  obtain ⟨x2, hx2⟩ : ∃ x, x = cnt T.y 2 := ⟨_, rfl⟩
  rw [← hx1] at b1 k1
  rw [← hx2] at b2 k2
  have hx0 : 0 < x1 := by simp [Slt.st] at k1; omega
  have HK1 : Hid (cnt (T.y.set p .tmb) 1 = x1 - 1) := hide (by simp [Slt.st] at k1; omega)
  have HK2 : Hid (cnt (T.y.set p .tmb) 2 = x2 + 1) := hide (by simp [Slt.st] at k2; omega)
  have hpi : (p : Int) < (n : Int) := by omega
  have HH := hide H
  have HL : Hid (T.y.length = n) := hide hnn.symm
  have HX1 := hide hx1
  have HX2 := hide hx2
  have HP := hide hp
  have HS := hide hs
  have hz0 := zero_E
  clear hn ha H hnn hx1 hx2 hp hs k1 k2
  go_enter Try.func51, Try.ntmps51
  go_upto_region 1 with fail
  refine name_world (fun W => Below w.heap.size w W ∧ EB W w.heap.size eZ) ⟨below_alloc w _, EB.made w eZ⟩ ?_
  rintro W ⟨hB, hE⟩
  obtain ⟨rb, hrb⟩ : ∃ kb, kb = w.heap.size := ⟨_, rfl⟩
  rw [← hrb] at hE ⊢
  have HB := hide hB
  have HRB := hide hrb
  have hX := HH.out.below hB
  have HX : Hid (TbAt W z gy ge hv T) := hide hX
  have hV := hX.ry.val p HP.out
  rw [HS.out] at hV
  have HV : Hid (W.rangeAt gy (p * 37 + 33) (eC v)) := hide hV
  have c0 : W.cell? ⟨z, 1, none⟩ = some (.slice (some ⟨gy, 0, none⟩) n n) := hX.cellY HL.out.symm
  have HN5 : Hid (EB (W.alloc (.cells (eA eZ) ET)) W.heap.size eZ) := hide (EB.made W eZ)
  have HER := hide hE
  have hgl := hX.ry.lt
  have hzl := hX.blk.lt
  clear hB hE hX hV hrb
  go_upto_region 2 with (first | ((with_reducible refine wpList_ldE ?_ (.tmp 12) ?_ gy (p * 37 + 33) ?_ v HV.out ?_); rfl; rfl; rfl) | ((with_reducible refine wpList_stEB ?_ (.tmp 5) (.tmp 13) ?_ W.heap.size ?_ eZ v ?_ HN5.out ?_); rfl; rfl; rfl; rfl; intro w1 h1 h2))
  have hB1 : Below W.heap.size W w1 := (below_alloc W _).trans (below_grownBy h2.out (Nat.le_refl _) (by simp))
  have HB1 := hide hB1
  obtain ⟨b5, hb5⟩ : ∃ b, b = W.heap.size := ⟨_, rfl⟩
  rw [← hb5] at h1 ⊢
  have HE5 := hide h1.out
  have HB5 := hide hb5
  have hX1 := HX.out.below hB1
  have HX1' : Hid (TbAt w1 z gy ge hv T) := hide hX1
  have HER1 : Hid (EB w1 rb eZ) := hide (HER.out.below hB1 HER.out.lt)
  have HR1 : Hid (RowAt w1 gy T.y) := hide hX1.ry
  have d0 : w1.cell? ⟨z, 1, none⟩ = some (.slice (some ⟨gy, 0, none⟩) n n) := hX1.cellY HL.out.symm
  have hgl1 := hX1.ry.lt
  have hzl1 := hX1.blk.lt
  clear hX1 hB1 h1 h2 hb5 c0 hgl hzl HV HN5 HER hz0
  go_upto_region 3 with (first | ((with_reducible refine wpList_bdT ?_ ?_ ?_); rfl; rfl) | ((with_reducible refine wpList_stRow ?_ (.tmp 20) (.tmp 19) ?_ gy p T.y ?_ .tmb ?_ HR1.out HP.out ?_); rfl; rfl; rfl; rfl; intro w2 hr2 hg2))
  have hX2 := HX1'.out.rowY hr2.out hg2.out
  have HX2' := hide hX2
  have hrg : rb ≠ gy := blk_ne HER1.out HR1.out.blk (by decide)
  have h5g : b5 ≠ gy := blk_ne HE5.out HR1.out.blk (by decide)
  have HER2 : Hid (EB w2 rb eZ) := hide (Blk.grown HER1.out hg2.out (fun e => hrg (Option.some.inj e)))
  have HE52 : Hid (EB w2 b5 v) := hide (Blk.grown HE5.out hg2.out (fun e => h5g (Option.some.inj e)))
  have HF2 := hide (((Frm.of_below (S := TbB z gy ge) HB.out).below HB1.out).grown hg2.out (.inl (.inr (.inl rfl))))
  have e2 : w2.cell? ⟨z, 2, none⟩ = some (.int .i64 (x1 : Int)) := by rw [hX2.c2, HX1.out]
  have e3 : w2.cell? ⟨z, 3, none⟩ = some (.int .i64 (x2 : Int)) := by rw [hX2.c3, HX2.out]
  have f2 := hX2.blk.frozen 2
  have f3 := hX2.blk.frozen 3
  have hzl2 := hX2.blk.lt
  clear hX2 hr2 hg2 hrg h5g HX1' HER1 HE5 d0 hgl1 hzl1
  go_upto_region 5 with fail
  refine name_world (fun W3 => TbAt W3 z gy ge hv ⟨T.y.set p .tmb, T.e, T.m⟩ ∧ Frm w W3 (TbB z gy ge) ∧ EB W3 rb eZ ∧ EB W3 b5 v) ⟨?_, (HF2.out.put _ _ _ (.inl rfl)).put _ _ _ (.inl rfl), ?_, ?_⟩ ?_
  · have h3 := (HX2'.out.setYF (x1 - 1)).setYT (x2 + 1)
    show TbX _ z gy ge hv (T.y.set p .tmb) T.e (cnt (T.y.set p .tmb) 1) (cnt (T.y.set p .tmb) 2) _ _ _
    rw [HK1.out, HK2.out, nat_sub1 hx0, nat_add1]
    exact h3
  · exact Blk.setOther (Blk.setOther HER2.out _ _ (blk_ne HER2.out HX2'.out.blk (by decide))) _ _ (blk_ne HER2.out HX2'.out.blk (by decide))
  · exact Blk.setOther (Blk.setOther HE52.out _ _ (blk_ne HE52.out HX2'.out.blk (by decide))) _ _ (blk_ne HE52.out HX2'.out.blk (by decide))
  rintro W3 ⟨hX3, hF3, hE3, hE5⟩
  have HX3 := hide hX3
  have HF3 := hide hF3
  have HR3 := hide hE3
  have H53 : Hid (W3.rangeAt b5 0 (eC v)) := hide hE5.rng
  clear hX3 hF3 hE3 hE5 HX2' HF2 HER2 HE52 e2 e3 f2 f3 hzl2
  go_wp2_with (first | ((with_reducible refine wpList_ldE ?_ (.tmp 5) ?_ b5 0 ?_ v H53.out ?_); rfl; rfl; rfl) | ((with_reducible refine wpList_stEB ?_ (.tmp 4) (.tmp 35) ?_ rb ?_ eZ v ?_ HR3.out ?_); rfl; rfl; rfl; rfl; intro w4 h4 hg4))
  refine ⟨rfl, _, results_cell (p := 4) (ty := ET) rfl _ _ ⟨rb, 0, none⟩ rfl (eV v) (loadE h4.out.rng), rfl, ?_⟩
  have hrl : w.heap.size ≤ rb := by rw [HRB.out]; exact Nat.le_refl _
  have hnb : ¬ TbB z gy ge rb := fun e => by have := HH.out.lt e; omega
  exact ⟨HX3.out.grown hg4.out hnb, HF3.out.grown hg4.out (.inr hrl)⟩
/-- A slot of the elder array is made a tomb. -/
theorem buryE_any (w : World) (H : TbAt w z gy ge hv T) (p : Nat) (hp : p < T.e.length) (k : KY) (v : EN) (hs : sat T.e p = .ful k v) :
    Calls Try.prog 51 #[.pointer (some ⟨z, 4, none⟩), .int .i64 (p : Int)] w fun e w' => e = .returned (eV v) ∧ TbK w w' z gy ge hv ⟨T.y, T.e.set p .tmb, T.m⟩ := by
  have h0 : T.e.length ≠ 0 := by omega
  obtain ⟨a, ha, hn⟩ := H.le h0
  obtain ⟨n, hnn⟩ : ∃ n, n = T.e.length := ⟨_, rfl⟩
  rw [← hnn] at hn
  have hn2 : n ≤ 8796093022208 := by rw [hn]; exact Nat.pow_le_pow_right (by decide) ha
  have b1 := cnt_le T.e 1
  have b2 := cnt_le T.e 2
  rw [← hnn] at b1 b2
  have k1 := cnt_set T.e p hp .tmb 1
  have k2 := cnt_set T.e p hp .tmb 2
  rw [hs] at k1 k2
  obtain ⟨x1, hx1⟩ : ∃ x, x = cnt T.e 1 := ⟨_, rfl⟩
  obtain ⟨x2, hx2⟩ : ∃ x, x = cnt T.e 2 := ⟨_, rfl⟩
  rw [← hx1] at b1 k1
  rw [← hx2] at b2 k2
  have hx0 : 0 < x1 := by simp [Slt.st] at k1; omega
  have HK1 : Hid (cnt (T.e.set p .tmb) 1 = x1 - 1) := hide (by simp [Slt.st] at k1; omega)
  have HK2 : Hid (cnt (T.e.set p .tmb) 2 = x2 + 1) := hide (by simp [Slt.st] at k2; omega)
  have hpi : (p : Int) < (n : Int) := by omega
  have HH := hide H
  have HL : Hid (T.e.length = n) := hide hnn.symm
  have HX1 := hide hx1
  have HX2 := hide hx2
  have HP := hide hp
  have HS := hide hs
  have hz0 := zero_E
  have HH0 := hide h0
  clear h0 hn ha H hnn hx1 hx2 hp hs k1 k2
  go_enter Try.func51, Try.ntmps51
  go_upto_region 1 with fail
  refine name_world (fun W => Below w.heap.size w W ∧ EB W w.heap.size eZ) ⟨below_alloc w _, EB.made w eZ⟩ ?_
  rintro W ⟨hB, hE⟩
  obtain ⟨rb, hrb⟩ : ∃ kb, kb = w.heap.size := ⟨_, rfl⟩
  rw [← hrb] at hE ⊢
  have HB := hide hB
  have HRB := hide hrb
  have hX := HH.out.below hB
  have HX : Hid (TbAt W z gy ge hv T) := hide hX
  have hV := (hX.re HH0.out).val p HP.out
  rw [HS.out] at hV
  have HV : Hid (W.rangeAt ge (p * 37 + 33) (eC v)) := hide hV
  have c0 : W.cell? ⟨z, 4, none⟩ = some (.slice (some ⟨ge, 0, none⟩) n n) := hX.cellE HH0.out HL.out.symm
  have HN5 : Hid (EB (W.alloc (.cells (eA eZ) ET)) W.heap.size eZ) := hide (EB.made W eZ)
  have HER := hide hE
  have hgl := (hX.re HH0.out).lt
  have hzl := hX.blk.lt
  clear hB hE hX hV hrb
  go_upto_region 2 with (first | ((with_reducible refine wpList_ldE ?_ (.tmp 12) ?_ ge (p * 37 + 33) ?_ v HV.out ?_); rfl; rfl; rfl) | ((with_reducible refine wpList_stEB ?_ (.tmp 5) (.tmp 13) ?_ W.heap.size ?_ eZ v ?_ HN5.out ?_); rfl; rfl; rfl; rfl; intro w1 h1 h2))
  have hB1 : Below W.heap.size W w1 := (below_alloc W _).trans (below_grownBy h2.out (Nat.le_refl _) (by simp))
  have HB1 := hide hB1
  obtain ⟨b5, hb5⟩ : ∃ b, b = W.heap.size := ⟨_, rfl⟩
  rw [← hb5] at h1 ⊢
  have HE5 := hide h1.out
  have HB5 := hide hb5
  have hX1 := HX.out.below hB1
  have HX1' : Hid (TbAt w1 z gy ge hv T) := hide hX1
  have HER1 : Hid (EB w1 rb eZ) := hide (HER.out.below hB1 HER.out.lt)
  have HR1 : Hid (RowAt w1 ge T.e) := hide (hX1.re HH0.out)
  have d0 : w1.cell? ⟨z, 4, none⟩ = some (.slice (some ⟨ge, 0, none⟩) n n) := hX1.cellE HH0.out HL.out.symm
  have hgl1 := (hX1.re HH0.out).lt
  have hzl1 := hX1.blk.lt
  clear hX1 hB1 h1 h2 hb5 c0 hgl hzl HV HN5 HER hz0
  go_upto_region 3 with (first | ((with_reducible refine wpList_bdT ?_ ?_ ?_); rfl; rfl) | ((with_reducible refine wpList_stRow ?_ (.tmp 20) (.tmp 19) ?_ ge p T.e ?_ .tmb ?_ HR1.out HP.out ?_); rfl; rfl; rfl; rfl; intro w2 hr2 hg2))
  have hX2 := HX1'.out.rowE HH0.out hr2.out hg2.out
  have HX2' := hide hX2
  have hrg : rb ≠ ge := blk_ne HER1.out HR1.out.blk (by decide)
  have h5g : b5 ≠ ge := blk_ne HE5.out HR1.out.blk (by decide)
  have HER2 : Hid (EB w2 rb eZ) := hide (Blk.grown HER1.out hg2.out (fun e => hrg (Option.some.inj e)))
  have HE52 : Hid (EB w2 b5 v) := hide (Blk.grown HE5.out hg2.out (fun e => h5g (Option.some.inj e)))
  have HF2 := hide (((Frm.of_below (S := TbB z gy ge) HB.out).below HB1.out).grown hg2.out (.inl (.inr (.inr rfl))))
  have e2 : w2.cell? ⟨z, 5, none⟩ = some (.int .i64 (x1 : Int)) := by rw [hX2.c5, HX1.out]
  have e3 : w2.cell? ⟨z, 6, none⟩ = some (.int .i64 (x2 : Int)) := by rw [hX2.c6, HX2.out]
  have f2 := hX2.blk.frozen 5
  have f3 := hX2.blk.frozen 6
  have hzl2 := hX2.blk.lt
  clear hX2 hr2 hg2 hrg h5g HX1' HER1 HE5 d0 hgl1 hzl1
  go_upto_region 5 with fail
  refine name_world (fun W3 => TbAt W3 z gy ge hv ⟨T.y, T.e.set p .tmb, T.m⟩ ∧ Frm w W3 (TbB z gy ge) ∧ EB W3 rb eZ ∧ EB W3 b5 v) ⟨?_, (HF2.out.put _ _ _ (.inl rfl)).put _ _ _ (.inl rfl), ?_, ?_⟩ ?_
  · have h3 := (HX2'.out.setEF (x1 - 1)).setET (x2 + 1)
    show TbX _ z gy ge hv T.y (T.e.set p .tmb) _ _ (cnt (T.e.set p .tmb) 1) (cnt (T.e.set p .tmb) 2) _
    rw [HK1.out, HK2.out, nat_sub1 hx0, nat_add1]
    exact h3
  · exact Blk.setOther (Blk.setOther HER2.out _ _ (blk_ne HER2.out HX2'.out.blk (by decide))) _ _ (blk_ne HER2.out HX2'.out.blk (by decide))
  · exact Blk.setOther (Blk.setOther HE52.out _ _ (blk_ne HE52.out HX2'.out.blk (by decide))) _ _ (blk_ne HE52.out HX2'.out.blk (by decide))
  rintro W3 ⟨hX3, hF3, hE3, hE5⟩
  have HX3 := hide hX3
  have HF3 := hide hF3
  have HR3 := hide hE3
  have H53 : Hid (W3.rangeAt b5 0 (eC v)) := hide hE5.rng
  clear hX3 hF3 hE3 hE5 HX2' HF2 HER2 HE52 e2 e3 f2 f3 hzl2
  go_wp2_with (first | ((with_reducible refine wpList_ldE ?_ (.tmp 5) ?_ b5 0 ?_ v H53.out ?_); rfl; rfl; rfl) | ((with_reducible refine wpList_stEB ?_ (.tmp 4) (.tmp 35) ?_ rb ?_ eZ v ?_ HR3.out ?_); rfl; rfl; rfl; rfl; intro w4 h4 hg4))
  refine ⟨rfl, _, results_cell (p := 4) (ty := ET) rfl _ _ ⟨rb, 0, none⟩ rfl (eV v) (loadE h4.out.rng), rfl, ?_⟩
  have hrl : w.heap.size ≤ rb := by rw [HRB.out]; exact Nat.le_refl _
  have hnb : ¬ TbB z gy ge rb := fun e => by have := HH.out.lt e; omega
  exact ⟨HX3.out.grown hg4.out hnb, HF3.out.grown hg4.out (.inr hrl)⟩
end
end TX
end Go.Proofs.Ytdigjpddmfolgaa
