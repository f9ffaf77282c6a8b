/- Put. -/
import Derived.Test.YtjhbebaephmcgaaVXJ
namespace Go.Proofs.Ytjhbebaephmcgaa
set_option linter.unusedVariables false
set_option linter.unusedSimpArgs false
namespace TX
set_option maxRecDepth 100000
set_option maxHeartbeats 16000000
open Go.RowKit Go.Sort

/-- The boxes of a Put: its key, its entry, its answer, the zero entry. -/
structure PB (w : World) (kb : Nat) (k : KY) (_v : EN) : Prop where
  k : KB w kb k
theorem PB.below {w w' : World} {kb : Nat} {k : KY} {v : EN} (h : PB w kb k v) (hb : Below w.heap.size w w') : PB w' kb k v := ⟨h.k.below hb⟩
theorem PB.frm {w w' : World} {kb : Nat} {k : KY} {v : EN} {S : Nat → Prop} (h : PB w kb k v) (f : Frm w w' S) (hn : ∀ b cs t, Blk w b cs t → t ≠ TT → t ≠ ST → ¬ S b) : PB w' kb k v :=
  ⟨(f.block _ (Blk.lt h.k) (hn _ _ _ h.k (by decide) (by decide))).trans h.k⟩
section
variable {z gy ge : Nat} {hv : Value} {T : TB} {F : Nat} {hf : KY → Nat}
theorem TbX.pb {w w' : World} (h : TbAt w z gy ge hv T) (f : Frm w w' (TbB z gy ge)) {kb : Nat} {k : KY} {v : EN} (p : PB w kb k v) : PB w' kb k v := p.frm f (fun _ _ _ hb h1 h2 => h.notB hb h1 h2)
/-- Put, behind its step. -/
def PutC (w : World) (z gy ge F : Nat) (hf : KY → Nat) (T : TB) (k : KY) (v : EN) (e : Ending) (w' : World) : Prop := e = .returned (ansV (stepT hf T) (seek eqK hf (stepT hf T) k).1) ∧ TbS w w' z gy ge (hvF F) (putT eqK hf T k v)
theorem put_any (w : World) (H : TbAt w z gy ge (hvF F) T) (HF : HsAt F hf) (ho : TOk T) (k : KY) (v : EN) (hG : GrowOk (⟨lay (stepT hf T).y (hf k) k v, (stepT hf T).e, (stepT hf T).m⟩ : TB)) : Calls Try.prog 7 #[.pointer (some ⟨z, 0, none⟩), kV k, eV v] w (PutC w z gy ge F hf T k v) := by
  have HH := hide H
  have HHF := hide HF
  have HO := hide ho
  have HG := hide hG
  clear H HF ho hG
  go_enter Try.func7, Try.ntmps7
  go_upto_region 2 with fail
  refine name_world (fun W => Below w.heap.size w W ∧ PB W w.heap.size k v) ⟨below_alloc w _, ⟨KB.made w k⟩⟩ ?_
  rintro W ⟨hB, hP⟩
  obtain ⟨kb, hkb⟩ : ∃ kb, kb = w.heap.size := ⟨_, rfl⟩
  rw [← hkb] at hP ⊢
  have HKB := hide hkb
  have HB := hide hB
  have HX : Hid (TbAt W z gy ge (hvF F) T) := hide (HH.out.below hB)
  have HN := hide (none_no W HX.out)
  have HStep := hide (step_any W HX.out HHF.out HO.out)
  have HP := hide hP
  clear hB hP hkb
  go_upto_region 5 with (first | (go_at_call 16; refine HN.out.mono ?_; rintro e w' ⟨rfl, hw⟩; rw [hw]; clear hw) | (go_at_call 17; refine HStep.out.mono ?_; rintro e w1 ⟨rfl, hst⟩; have HST := hide hst; clear hst))
  obtain ⟨⟨gy1, ge1, ht, hnw⟩, hfr⟩ := HST.out
  obtain ⟨T1, hT1⟩ : ∃ X, X = stepT hf T := ⟨_, rfl⟩
  have HC : Hid (∀ e wf gy2 ge2, e = Ending.returned (ansV T1 (seek eqK hf T1 k).1) → TbAt wf z gy2 ge2 (hvF F) (putG eqK hf T1 k v) → (∀ b, TbB z gy2 ge2 b → TbB z gy1 ge1 b ∨ w1.heap.size ≤ b) → Frm w1 wf (fun b => TbB z gy1 ge1 b ∨ w.heap.size ≤ b) → PutC w z gy ge F hf T k v e wf) := hide (by
    intro e wf gy2 ge2 h1 h2 h4 h3
    rw [hT1] at h1 h2
    have hs1 := HB.out.size
    have hs2 := hfr.size
    refine ⟨h1, ⟨gy2, ge2, h2, fun b hb => ?_⟩, ?_⟩
    · rcases h4 b hb with g | g
      · exact (hnw b g).imp id (fun g => Nat.le_trans hs1 g)
      · exact .inr (by omega)
    · refine ((Frm.of_below HB.out).trans hfr (fun _ _ e => e)).trans h3 (fun i hi e => ?_)
      rcases e with e | e
      · rcases hnw i e with g | g
        · exact g
        · omega
      · omega)
  have HO1 : Hid (TOk T1) := hide (by rw [hT1]; exact HO.out.step hf)
  rw [← hT1] at ht HG
  have HP1 : Hid (PB w1 kb k v) := hide (HX.out.pb hfr HP.out)
  have HT := hide ht
  have HKg : Hid (∀ d os, (grow (redrawn w1 d) os).rangeAt kb 0 (kC k)) := hide (range_regrown HP1.out.k.rng)
  have c0 : w1.cell? ⟨z, 0, none⟩ = some (.func (.func F) #[] #[]) := ht.c0
  have d0 := fun d os => cell_regrown c0 d os
  have hzW := ht.blk.lt
  have hen := HHF.out.ent
  have HHs : Hid (∀ d os, Calls Try.prog F #[kV k] (grow (redrawn w1 d) os) fun e w' => e = .returned (.int .u64 (hf k : Int)) ∧ Below (grow (redrawn w1 d) os).heap.size (grow (redrawn w1 d) os) w') := hide (fun d os => HHF.out.call _ k)
  have HKN : Hid (w.heap.size = kb) := hide HKB.out.symm
  clear hT1 HST HStep HN hfr hnw HH HX ht HP HB c0 HKB HO
  refine wp_region_quiet_below (by kernel_rfl) (by kernel_rfl) ?_
  iterate 4 quiet_step (fail)
  refine wpQuiet_val (kV k) rfl (fun w0 hw => ?_) ?_
  · obtain ⟨p0, rfl⟩ := hw
    exact run_loadO rfl rfl (run_ldK (HKg.out _ _))
  quiet_step (exact Calls.regrown_of (HHs.out _ _))
  quiet_step (fail)
  refine wpQuiet_nil ?_
  intro w2 hw2
  have hB2 : Below w1.heap.size w1 w2 := below_of hw2
  have HF2 : Hid (Frm w1 w2 (fun b => TbB z gy1 ge1 b ∨ w.heap.size ≤ b)) := hide (Frm.of_below hB2)
  have HP2 := hide (HP1.out.below hB2)
  have HT2 := hide (HT.out.below hB2)
  have HKg2 : Hid (∀ d os, (grow (redrawn w2 d) os).rangeAt kb 0 (kC k)) := hide (range_regrown HP2.out.k.rng)
  have HFY : Hid (∀ d os, Calls Try.prog 20 #[.pointer (some ⟨z, 1, none⟩), .int .u64 (hf k : Int), kV k] (grow (redrawn w2 d) os) fun e w' => e = .returned (fndV (find eqK T1.y (hf k) k)) ∧ Below (grow (redrawn w2 d) os).heap.size (grow (redrawn w2 d) os) w') := hide (fun d os => findY_any _ (HT2.out.below (below_regrown w2 d os)) (hf k) k (HHF.out.lt k))
  have hz2 := HT2.out.blk.lt
  clear hw2 hB2 HHs HKg d0 hen HT HP1 hzW
  go_upto_region 6 with fail
  refine wp_region_quiet_below (by kernel_rfl) (by kernel_rfl) ?_
  iterate 4 quiet_step (fail)
  refine wpQuiet_val (kV k) rfl (fun w0 hw => ?_) ?_
  · obtain ⟨p0, rfl⟩ := hw
    exact run_loadO rfl rfl (run_ldK (HKg2.out _ _))
  quiet_step (exact Calls.regrown_of (HFY.out _ _))
  unfold putG at HC
  cases hy : find eqK T1.y (hf k) k with
  | mk oy ny =>
    unfold fndV
    iterate 7 quiet_step (fail)
    refine wpQuiet_nil ?_
    intro w3 hw3
    have hB3 : Below w2.heap.size w2 w3 := below_of hw3
    have HF3 : Hid (Frm w1 w3 (fun b => TbB z gy1 ge1 b ∨ w.heap.size ≤ b)) := hide (HF2.out.below hB3)
    have HP3 := hide (HP2.out.below hB3)
    have HT3 := hide (HT2.out.below hB3)
    have hz3 := HT3.out.blk.lt
    clear hw3 hB3 HKg2 HFY HT2 HP2 HF2 hz2
    cases oy with
    | some p =>
      have hsk : seek eqK hf T1 k = (some (false, p), ny) := by unfold seek; rw [hy]
      obtain ⟨hp, k', v', hs', _⟩ := find_some hy
      rw [hsk] at HC
      have c1 : w3.cell? ⟨z, 1, none⟩ = some (.slice (some ⟨gy1, 0, none⟩) T1.y.length T1.y.length) := HT3.out.cellY rfl
      have hv3 : w3.cell? ⟨gy1, p * 6 + 5, none⟩ = some (eV v') := by
        have h9 := rng_one (HT3.out.ry.val p hp)
        rw [hs'] at h9
        exact h9
      have k1 : cnt (T1.y.set p (.ful k' v)) 1 = cnt T1.y 1 := by simpa [hs', Slt.st] using cnt_set T1.y p hp (.ful k' v) 1
      have k2 : cnt (T1.y.set p (.ful k' v)) 2 = cnt T1.y 2 := by simpa [hs', Slt.st] using cnt_set T1.y p hp (.ful k' v) 2
      have HK1 := hide k1
      have HK2 := hide k2
      have HA : Hid (ansV T1 (some (false, p)) = .tuple #[eV v', .bool true]) := hide (by unfold ansV; simp [valT, hs', valS])
      have HR : Hid (repS v (sat T1.y p) = .ful k' v) := hide (by rw [hs']; rfl)
      have b := HT3.out.b43.1
      have hgl := HT3.out.ry.lt
      obtain ⟨nn, hnn⟩ : ∃ n, n = T1.y.length := ⟨_, rfl⟩
      rw [← hnn] at b c1
      have HNN := hide hnn
      have hpi : (p : Int) < (nn : Int) := by omega
      have HPP := hide hp
      have HSS := hide hs'
      clear hsk hs' hy hp k1 k2 hnn
      go_upto_region 9 with fail
      have HR4 : Hid (RowAt w3 gy1 T1.y) := hide HT3.out.ry
      go_upto_region 10 with ((with_reducible refine wpList_stVal ?_ (.tmp 57) (.tmp 55) ?_ gy1 p T1.y ?_ k' v' v HSS.out ?_ HR4.out HPP.out ?_); rfl; rfl; rfl; rfl; intro w5 hr5 hg5)
      have hT5 := HT3.out.rowY hr5.out hg5.out
      have HT5 := hide hT5
      have HF5 : Hid (Frm w1 w5 (fun b => TbB z gy1 ge1 b ∨ w.heap.size ≤ b)) := hide (HF3.out.grown hg5.out (.inl (.inl (.inr (.inl rfl)))))
      clear hT5 hr5 hg5 HT3 HP3 HF3 HR4 c1 hz3 hgl hv3
      go_wp2
      go_ret2
      refine HC.out _ _ gy1 ge1 (by rw [HA.out]; rfl) ?_ (fun _ e => .inl e) HF5.out
      have h7 := HT5.out
      show TbAt w5 z gy1 ge1 _ ⟨T1.y.set p (repS v (sat T1.y p)), T1.e, T1.m⟩
      rw [HR.out]
      show TbX w5 z gy1 ge1 _ (T1.y.set p (.ful k' v)) T1.e (cnt (T1.y.set p (.ful k' v)) 1) (cnt (T1.y.set p (.ful k' v)) 2) _ _ _
      rw [HK1.out, HK2.out]
      exact h7
    | none =>
      have HYY := hide hy
      have HKg3 : Hid (∀ d os, (grow (redrawn w3 d) os).rangeAt kb 0 (kC k)) := hide (range_regrown HP3.out.k.rng)
      have HFE : Hid (∀ d os, Calls Try.prog 20 #[.pointer (some ⟨z, 4, none⟩), .int .u64 (hf k : Int), kV k] (grow (redrawn w3 d) os) fun e w' => e = .returned (fndV (find eqK T1.e (hf k) k)) ∧ Below (grow (redrawn w3 d) os).heap.size (grow (redrawn w3 d) os) w') := hide (fun d os => findE_any _ (HT3.out.below (below_regrown w3 d os)) (hf k) k (HHF.out.lt k))
      clear hy
      go_upto_region 11 with fail
      refine wp_region_quiet_below (by kernel_rfl) (by kernel_rfl) ?_
      iterate 4 quiet_step (fail)
      refine wpQuiet_val (kV k) rfl (fun w0 hw => ?_) ?_
      · obtain ⟨p0, rfl⟩ := hw
        exact run_loadO rfl rfl (run_ldK (HKg3.out _ _))
      quiet_step (exact Calls.regrown_of (HFE.out _ _))
      cases he : find eqK T1.e (hf k) k with
      | mk oe ne =>
        unfold fndV
        iterate 7 quiet_step (fail)
        refine wpQuiet_nil ?_
        intro w4 hw4
        have hB4 : Below w3.heap.size w3 w4 := below_of hw4
        have HF4 : Hid (Frm w1 w4 (fun b => TbB z gy1 ge1 b ∨ w.heap.size ≤ b)) := hide (HF3.out.below hB4)
        have HP4 := hide (HP3.out.below hB4)
        have HT4 := hide (HT3.out.below hB4)
        have hz4 := HT4.out.blk.lt
        clear hw4 hB4 HKg3 HFE HT3 HP3 HF3 hz3
        cases oe with
        | some p =>
          have hsk : seek eqK hf T1 k = (some (true, p), ny + ne) := by unfold seek; rw [HYY.out]; simp only []; rw [he]
          obtain ⟨hp, k', v', hs', _⟩ := find_some he
          rw [hsk] at HC
          have HBu := hide (buryE_any w4 HT4.out p hp k' v' hs')
          have HA : Hid (ansV T1 (some (true, p)) = .tuple #[eV v', .bool true]) := hide (by unfold ansV; simp [valT, hs', valS])
          clear hsk hs' he hp
          go_upto_region 14 with (go_at_call 19; refine HBu.out.mono ?_; rintro e w5 ⟨rfl, hk5⟩; have HK5 := hide hk5; clear hk5)
          have HF6 : Hid (Frm w1 w5 (fun b => TbB z gy1 ge1 b ∨ w.heap.size ≤ b)) := hide (HF4.out.trans HK5.out.fr (fun _ _ e => .inl e))
          have HP6 := hide (HT4.out.pb HK5.out.fr HP4.out)
          have HT6 : Hid (TbAt w5 z gy1 ge1 (hvF F) ⟨T1.y, T1.e.set p .tmb, T1.m⟩) := hide HK5.out.tb
          have HLy := hide (lay_any w5.drew (HT6.out.drewN 1) (hf k) k v (HHF.out.lt k))
          have hz6 := HT6.out.blk.lt
          clear HT4 HP4 HF4 hz4 HBu HK5
          refine wp_region_still_tail 6 (by kernel_rfl) (by kernel_rfl) ?_
          simp only [List.take_succ_cons, List.take_zero, List.drop_succ_cons, List.drop_zero]
          iterate 4 still_step
          refine wpStill_val (kV k) rfl (run_loadO rfl rfl (run_ldK (fun j v hj => HP6.out.k.rng j v hj))) ?_
          still_step
          refine wpStill_nil ?_
          go_upto_region 15 with (go_at_call 21; refine HLy.out.mono ?_; rintro e w7 ⟨rfl, hk7⟩; have HK7 := hide hk7; clear hk7)
          have HF7 : Hid (Frm w1 w7 (fun b => TbB z gy1 ge1 b ∨ w.heap.size ≤ b)) := hide ((HF6.out.drewN 1).trans HK7.out.fr (fun _ _ e => .inl e))
          clear HLy HT6 HP6 HF6 hz6
          go_wp2
          go_ret2
          exact HC.out _ _ gy1 ge1 (by rw [HA.out]; rfl) HK7.out.tb (fun _ e => .inl e) HF7.out
        | none =>
          have hsk : seek eqK hf T1 k = (none, ny + ne) := by unfold seek; rw [HYY.out]; simp only []; rw [he]
          rw [hsk] at HC
          have HLy := hide (lay_any w4.drew (HT4.out.drewN 1) (hf k) k v (HHF.out.lt k))
          have HGr : Hid (∀ w5, TbAt w5 z gy1 ge1 (hvF F) ⟨lay T1.y (hf k) k v, T1.e, T1.m⟩ → Calls Try.prog 22 #[.pointer (some ⟨z, 0, none⟩)] w5 fun e w' => e = .returned (.tuple #[]) ∧ TbS w5 w' z gy1 ge1 (hvF F) (growT ⟨lay T1.y (hf k) k v, T1.e, T1.m⟩)) := hide (fun w2 h2 => grow_any w2 h2 ⟨HO1.out.mv, HO1.out.m8, HO1.out.e8⟩ HG.out)
          clear hsk he
          go_upto_region 16 with fail
          refine wp_region_still_tail 6 (by kernel_rfl) (by kernel_rfl) ?_
          simp only [List.take_succ_cons, List.take_zero, List.drop_succ_cons, List.drop_zero]
          iterate 4 still_step
          refine wpStill_val (kV k) rfl (run_loadO rfl rfl (run_ldK (fun j v hj => HP4.out.k.rng j v hj))) ?_
          still_step
          refine wpStill_nil ?_
          go_upto_region 17 with (go_at_call 21; refine HLy.out.mono ?_; rintro e w5 ⟨rfl, hk5⟩; have HK5 := hide hk5; clear hk5)
          have HF5 : Hid (Frm w1 w5 (fun b => TbB z gy1 ge1 b ∨ w.heap.size ≤ b)) := hide ((HF4.out.drewN 1).trans HK5.out.fr (fun _ _ e => .inl e))
          have HP5 : Hid (PB w5 kb k v) := hide ((HT4.out.drewN 1).pb (T := T1) HK5.out.fr (HP4.out.below (below_dN (Below.refl _ _) 1)))
          have HT5 := hide HK5.out.tb
          have HGq := hide (HGr.out w5 HT5.out)
          have HS5 := hide HF4.out.size
          clear HLy HGr HT4 HP4 hz4 HK5
          go_upto_region 18 with (go_at_call 22; refine HGq.out.mono ?_; rintro e w6 ⟨rfl, hk6⟩; have HK6 := hide hk6; clear hk6)
          obtain ⟨⟨gy2, ge2, ht6, hnw6⟩, hfr6⟩ := HK6.out
          have HT6 := hide ht6
          have HNW6 := hide hnw6
          have HF6 : Hid (Frm w1 w6 (fun b => TbB z gy1 ge1 b ∨ w.heap.size ≤ b)) := hide (HF5.out.trans hfr6 (fun _ _ e => .inl e))
          clear ht6 hnw6 hfr6 HK6 HT5 HP5 HGq
          go_wp2
          go_ret2
          refine HC.out _ _ gy2 ge2 rfl HT6.out (fun b e => ?_) HF6.out
          have := HF5.out.size
          exact (HNW6.out b e).imp id (fun g => by omega)
end
end TX
end Go.Proofs.Ytjhbebaephmcgaa
