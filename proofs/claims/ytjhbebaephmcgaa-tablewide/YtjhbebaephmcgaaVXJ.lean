/- step and grow, any; Del. -/
import Derived.Test.YtjhbebaephmcgaaVXP
namespace Go.Proofs.Ytjhbebaephmcgaa
set_option linter.unusedVariables false
set_option linter.unusedSimpArgs false
namespace TX
set_option maxRecDepth 100000
set_option maxHeartbeats 8000000
open Go.RowKit Go.Sort

theorem Frm.thru {w W w1 wf : World} {S S' : Nat → Prop} (h1 : Frm w W S) (h2 : Frm W w1 S) (h3 : Frm w1 wf S') (hn : ∀ k, S' k → S k ∨ W.heap.size ≤ k) : Frm w wf S :=
  (h1.trans h2 (fun _ _ e => e)).trans h3 (fun i hi e => (hn i e).elim id (fun g => absurd hi (by have := h1.size; omega)))
theorem TbX.notB {w : World} {z gy ge : Nat} {hv : Value} {Y E : List SL} {yf yt ef et m : Nat} (h : TbX w z gy ge hv Y E yf yt ef et m) {b : Nat} {cs : Array Value} {t : TypeId} (hb : Blk w b cs t) (h1 : t ≠ TT) (h2 : t ≠ ST) : ¬ TbB z gy ge b := by
  rintro (rfl | rfl | rfl)
  · exact blk_ne hb h.blk h1 rfl
  · exact blk_ne hb h.ry.blk h2 rfl
  · by_cases h0 : E.length = 0
    · rw [h.nil h0] at hb
      exact blk_ne hb h.ry.blk h2 rfl
    · exact blk_ne hb (h.re h0).blk h2 rfl
section
variable {z gy ge : Nat} {hv : Value} {T : TB} {F : Nat} {hf : KY → Nat}
theorem TOk.eight (h : TOk T) (hl : T.left ≠ 0) : T.m + 8 ≤ T.e.length := by
  obtain ⟨a, ha⟩ := h.m8
  obtain ⟨b, hb⟩ := h.e8
  unfold Tb.left at hl
  rcases h.mv with ⟨h1, h2⟩ | h1 <;> omega
theorem TOk.zero (h : TOk T) (hl : T.left = 0) : T.e.length = 0 ∧ T.m = 0 := by
  unfold Tb.left at hl
  rcases h.mv with h1 | h1
  · exact h1
  · omega
theorem TOk.step (h : TOk T) (hs : KY → Nat) : TOk (stepT hs T) := by
  unfold stepT
  split
  · exact h
  · next hl =>
    have h8 := h.eight hl
    obtain ⟨l1, l2, l3⟩ := mvN_len hs 8 T
    unfold endT
    split
    · exact ⟨.inl ⟨rfl, rfl⟩, ⟨0, rfl⟩, ⟨0, rfl⟩⟩
    · next h0 =>
      unfold Tb.left at h0
      exact ⟨.inr (by omega), by rw [l3]; exact Nat.dvd_add h.m8 ⟨1, rfl⟩, by rw [l1]; exact h.e8⟩
theorem step_any (w : World) (H : TbAt w z gy ge (hvF F) T) (HF : HsAt F hf) (ho : TOk T) : Calls Try.prog 17 #[.pointer (some ⟨z, 0, none⟩)] w fun e w' => e = .returned (.tuple #[]) ∧ TbS w w' z gy ge (hvF F) (stepT hf T) := by
  unfold stepT
  by_cases hl : T.left = 0
  · rw [if_pos hl]
    exact (step_none w H hl).mono (by
      rintro e w' ⟨rfl, q, rfl⟩
      exact ⟨rfl, TbK.s ⟨H.drewN q, (Frm.refl w _).drewN q⟩⟩)
  · rw [if_neg hl]
    exact step_some w ⟨H, Frm.refl _ _⟩ HF (ho.eight hl)
theorem grow_any (w : World) (H : TbAt w z gy ge (hvF F) T) (ho : TOk T) (hG : GrowOk T) : Calls Try.prog 22 #[.pointer (some ⟨z, 0, none⟩)] w fun e w' => e = .returned (.tuple #[]) ∧ TbS w w' z gy ge (hvF F) (growT T) := by
  unfold growT
  by_cases h : T.left ≠ 0 ∨ 4 * (cnt T.y 1 + cnt T.y 2) ≤ 3 * T.y.length
  · rw [if_pos h]
    exact (grow_no w H h).mono (by
      rintro e w' ⟨rfl, q, rfl⟩
      exact ⟨rfl, TbK.s ⟨H.drewN q, (Frm.refl w _).drewN q⟩⟩)
  · rw [if_neg h]
    have hl : T.left = 0 := by omega
    have := grow_yes w H hl (ho.zero hl).2 (ho.zero hl).1 (by omega) (hG hl (by omega))
    rw [(ho.zero hl).2]
    exact this
/-- Del, behind its step. -/
def DelC (w : World) (z gy ge F : Nat) (hf : KY → Nat) (T : TB) (k : KY) (e : Ending) (w' : World) : Prop := e = .returned (ansV (stepT hf T) (seek eqK hf (stepT hf T) k).1) ∧ TbS w w' z gy ge (hvF F) (delT eqK hf T k)
theorem del_any (w : World) (H : TbAt w z gy ge (hvF F) T) (HF : HsAt F hf) (ho : TOk T) (k : KY) : Calls Try.prog 6 #[.pointer (some ⟨z, 0, none⟩), kV k] w (DelC w z gy ge F hf T k) := by
  have HH := hide H
  have HHF := hide HF
  have HO := hide ho
  clear H HF ho
  go_enter Try.func6, Try.ntmps6
  go_upto_region 2 with fail
  refine name_world (fun W => Below w.heap.size w W ∧ KB W w.heap.size k) ⟨below_alloc w _, KB.made w k⟩ ?_
  rintro W ⟨hB, hK⟩
  obtain ⟨kb, hkb⟩ : ∃ kb, kb = w.heap.size := ⟨_, rfl⟩
  rw [← hkb] at hK ⊢
  have HKB := hide hkb
  have HB := hide hB
  have HX : Hid (TbAt W z gy ge (hvF F) T) := hide (HH.out.below hB)
  have HN := hide (none_no W HX.out)
  have HStep := hide (step_any W HX.out HHF.out HO.out)
  have HK := hide hK
  have HNB : Hid (∀ b, kb ≤ b → ¬ TbB z gy ge b) := hide (fun b hb => HH.out.old (by omega))
  clear hB hK hkb
  go_upto_region 5 with (first | (go_at_call 16; refine HN.out.mono ?_; rintro e w' ⟨rfl, hw⟩; rw [hw]; clear hw) | (go_at_call 17; refine HStep.out.mono ?_; rintro e w1 ⟨rfl, hst⟩; have HST := hide hst; clear hst))
  obtain ⟨⟨gy1, ge1, ht, hnw⟩, hfr⟩ := HST.out
  obtain ⟨T1, hT1⟩ : ∃ X, X = stepT hf T := ⟨_, rfl⟩
  have HC : Hid (∀ e wf, e = Ending.returned (ansV T1 (seek eqK hf T1 k).1) → TbAt wf z gy1 ge1 (hvF F) (delG eqK hf T1 k) → Frm w1 wf (fun b => TbB z gy1 ge1 b ∨ w.heap.size ≤ b) → DelC w z gy ge F hf T k e wf) := hide (by
    intro e wf h1 h2 h3
    rw [hT1] at h1 h2
    refine ⟨h1, ⟨gy1, ge1, h2, fun b hb => (hnw b hb).imp id (fun g => Nat.le_trans HB.out.size g)⟩, ?_⟩
    refine ((Frm.of_below HB.out).trans hfr (fun _ _ e => e)).trans h3 (fun i hi e => ?_)
    rcases e with e | e
    · rcases hnw i e with g | g
      · exact g
      · have := HB.out.size; omega
    · omega)
  rw [← hT1] at ht
  have HK1 : Hid (KB w1 kb k) := hide ((hfr.block kb (Blk.lt HK.out) (HNB.out kb (Nat.le_refl _))).trans HK.out)
  have HT := hide ht
  have HKg : Hid (∀ d os, (grow (redrawn w1 d) os).rangeAt kb 0 (kC k)) := hide (range_regrown HK1.out.rng)
  have c0 : w1.cell? ⟨z, 0, none⟩ = some (.func (.func F) #[] #[]) := ht.c0
  have d0 := fun d os => cell_regrown c0 d os
  have hzW := ht.blk.lt
  have hen := HHF.out.ent
  have HHs : Hid (∀ d os, Calls Try.prog F #[kV k] (grow (redrawn w1 d) os) fun e w' => e = .returned (.int .u64 (hf k : Int)) ∧ Below (grow (redrawn w1 d) os).heap.size (grow (redrawn w1 d) os) w') := hide (fun d os => HHF.out.call _ k)
  have HSk : Hid (∀ d os, Calls Try.prog 18 #[.pointer (some ⟨z, 0, none⟩), .int .u64 (hf k : Int), kV k] (grow (redrawn w1 d) os) fun e w' => e = .returned (seekV z (seek eqK hf T1 k)) ∧ Below (grow (redrawn w1 d) os).heap.size (grow (redrawn w1 d) os) w') := hide (fun d os => seek_any _ (HT.out.below (below_regrown w1 d os)) hf k (HHF.out.lt k))
  have HKN : Hid (w.heap.size = kb) := hide HKB.out.symm
  clear hT1 HST HStep HN hfr hnw HH HX ht HK HNB HB c0 HKB
  refine wp_region_quiet_below (by kernel_rfl) (by kernel_rfl) ?_
  iterate 5 quiet_step (fail)
  refine wpQuiet_val (kV k) rfl (fun w0 hw => ?_) ?_
  · obtain ⟨p0, rfl⟩ := hw
    exact run_loadO rfl rfl (run_ldK (HKg.out _ _))
  quiet_step (exact Calls.regrown_of (HHs.out _ _))
  refine wpQuiet_val (kV k) rfl (fun w0 hw => ?_) ?_
  · obtain ⟨p0, rfl⟩ := hw
    exact run_loadO rfl rfl (run_ldK (HKg.out _ _))
  quiet_step (exact Calls.regrown_of (HSk.out _ _))
  unfold delG at HC
  cases hsk : seek eqK hf T1 k with
  | mk r n =>
    rw [hsk] at HC
    cases r with
    | none =>
      unfold seekV
      iterate 7 quiet_step (fail)
      refine wpQuiet_nil ?_
      intro W1 hw1
      have hB1 : Below w1.heap.size w1 W1 := below_of hw1
      have HB1 := hide hB1
      have HTF := hide (HT.out.below hB1)
      clear hw1 hB1 HHs HSk HKg d0 hen hsk
      go_wp2
      go_ret2
      exact HC.out _ _ rfl HTF.out (Frm.of_below HB1.out)
    | some bp =>
      obtain ⟨b, p⟩ := bp
      rcases seek_some hsk with ⟨rfl, hp, ⟨k', v', hs', _⟩, _⟩ | ⟨rfl, hp, ⟨k', v', hs', _⟩, _⟩
      · unfold seekV
        iterate 7 quiet_step (fail)
        refine wpQuiet_nil ?_
        intro W1 hw1
        have hB1 : Below w1.heap.size w1 W1 := below_of hw1
        have HB1 := hide hB1
        have HTF := hide (HT.out.below hB1)
        have HBu := hide (buryY_any W1 HTF.out p hp k' v' hs')
        have HV : Hid (valT eZ T1 (some (false, p)) = v') := hide (by simp [valT, hs', valS])
        clear hw1 hB1 HHs HSk HKg d0 hen hsk hs' hp
        go_wp2_with (go_at_call 19; refine HBu.out.mono ?_; rintro e w3 ⟨rfl, hk3⟩; have HK3 := hide hk3; clear hk3)
        go_ret2
        exact HC.out _ _ (by unfold ansV; rw [HV.out]; rfl) HK3.out.tb ((Frm.of_below HB1.out).trans HK3.out.fr (fun _ _ e => .inl e))
      · unfold seekV
        iterate 7 quiet_step (fail)
        refine wpQuiet_nil ?_
        intro W1 hw1
        have hB1 : Below w1.heap.size w1 W1 := below_of hw1
        have HB1 := hide hB1
        have HTF := hide (HT.out.below hB1)
        have HBu := hide (buryE_any W1 HTF.out p hp k' v' hs')
        have HV : Hid (valT eZ T1 (some (true, p)) = v') := hide (by simp [valT, hs', valS])
        clear hw1 hB1 HHs HSk HKg d0 hen hsk hs' hp
        go_wp2_with (go_at_call 19; refine HBu.out.mono ?_; rintro e w3 ⟨rfl, hk3⟩; have HK3 := hide hk3; clear hk3)
        go_ret2
        exact HC.out _ _ (by unfold ansV; rw [HV.out]; rfl) HK3.out.tb ((Frm.of_below HB1.out).trans HK3.out.fr (fun _ _ e => .inl e))
end
end TX
end Go.Proofs.Ytjhbebaephmcgaa
