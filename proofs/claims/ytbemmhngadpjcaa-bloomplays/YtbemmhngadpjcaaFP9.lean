/- The document's Add and Has. -/
import Derived.Test.YtbemmhngadpjcaaFP8
namespace Go.Proofs.Ytbemmhngadpjcaa
set_option linter.unusedVariables false
set_option linter.unusedSimpArgs false
open Go.RowKit

theorem RB.drewN {w : World} {z g c h : Nat} {bs : List Bool} (f : RB w z g c h bs) (n : Nat) : RB (w.drewN n) z g c h bs := ⟨f.zb, f.gb, f.hn, f.hh⟩
def RHasC (w : World) (r : Bool) (e : Ending) (w' : World) : Prop := e = .returned (.bool r) ∧ Below w.heap.size w w'
set_option maxRecDepth 20000 in
set_option maxHeartbeats 8000000 in
theorem rhas_any (w : World) (z g c h : Nat) (ws : List Nat) (f : RB w z g c h (bitsL ws)) (kb : List UInt8) (hkb : kb.length = 32) : Calls Try.prog 31 #[.pointer (some ⟨z, 0, none⟩), .agg (kb.map u8c).toArray] w (RHasC w (hasK ws (keyA kb) (keyB kb) h)) := by
  obtain ⟨K, hK⟩ : ∃ K, K = (kb.map u8c).toArray := ⟨_, rfl⟩
  have hKs : K.size = 32 := by rw [hK]; simp [hkb]
  have HKs := hide hKs
  obtain ⟨W1, hW1⟩ : ∃ W1, W1 = w.alloc (.cells K 36) := ⟨_, rfl⟩
  have hb1 : Below w.heap.size w W1 := by rw [hW1]; exact (Below.refl _ _).alloc (Nat.le_refl _) _
  have HB1 := hide hb1
  have HF1 := hide (f.below hb1)
  have HP := hide (places_any W1 z g c h ws HF1.out kb hkb)
  have HK1 : Hid (Blk W1 w.heap.size K 36) := hide (by rw [hW1]; exact Blk.made w K _)
  rw [← hK] at HP ⊢
  obtain ⟨a, ha⟩ : ∃ a, a = keyA kb := ⟨_, rfl⟩
  obtain ⟨b, hb⟩ : ∃ b, b = keyB kb := ⟨_, rfl⟩
  rw [← ha, ← hb] at HP ⊢
  have hh := f.hh
  have hlen := bitsL_len ws
  have hn := f.hn
  obtain ⟨T, hT⟩ : ∃ T, T = (bitsL ws).length := ⟨_, rfl⟩
  rw [← hT] at hn
  have HT := hide hT
  have HTL : Hid (T = 64 * ws.length) := hide (by rw [hT, hlen])
  clear f hb1 hK hKs ha hb hlen hT
  go_enter Try.func31, Try.ntmps31
  have hks := HKs.out
  go_wp2_with (first | fail | ((with_reducible refine wpList_load_blk ?_ 36 _ Try.underlying36 ?_ 32 infoKey (.tmp 3) ?_ w.heap.size ?_ K _ (by rw [← hW1]; exact HK1.out) HKs.out ?_); rfl; rfl; rfl; rfl))
  rw [← hW1]
  refine HP.out.mono ?_
  rintro e w2 ⟨vl, rfl, hO, hb2⟩
  have HB2 := hide (HB1.out.trans (hb2.mono HB1.out.size))
  have HF2 := hide (HF1.out.below hb2)
  obtain ⟨ao, cap, hvl, hao⟩ := hO.form
  rw [plsK_len] at hvl hao
  obtain ⟨gl, hgl⟩ := hao (by omega)
  subst hgl
  subst hvl
  have HO := hide hO
  have c0 : w2.cell? ⟨z, 0, none⟩ = some (.slice (some ⟨g, 0, none⟩) T c) := by rw [HT.out]; exact HF2.out.zb.cell 0
  clear hb2 HP HB1 HF1 HK1 HKs hks hW1 hO
  go_wp2
  go_loopw [6] (fun s6 wr => ∃ (k : Nat), s6 = .int .i64 k ∧ k ≤ h ∧ Hid (hasK ws a b k = true) ∧ Below w2.heap.size w2 wr) (fun s6 _ => h - (intOf s6).toNat)
  case atStart => exact ⟨0, rfl, by omega, hide rfl, Below.refl _ _⟩
  case round =>
    obtain ⟨k, rfl, hk, HN, hw⟩ := hrel
    have c0r : wr.cell? ⟨z, 0, none⟩ = some (.slice (some ⟨g, 0, none⟩) T c) := (hw.cell (World.block_lt_of_cell? _ _ c0)).trans c0
    by_cases hlt : k < h
    · have hki : (k : Int) < h := by omega
      obtain ⟨p, hp⟩ : ∃ p, p = plK a b ws.length k := ⟨_, rfl⟩
      have hpT : p < T := by
        rw [hp, HTL.out]
        exact plK_lt a b ws.length k (by have := HTL.out; omega)
      have cl : wr.cell? ⟨gl, k, none⟩ = some (.int .i64 (p : Int)) := by
        have := HO.out.at k (by rw [plsK_len]; exact hlt)
        rw [plsK_get, ← hp] at this
        exact (hw.cell (World.block_lt_of_cell? _ _ this)).trans this
      obtain ⟨t, ht⟩ : ∃ t, t = hsB ws p := ⟨_, rfl⟩
      have cg : wr.cell? ⟨g, p, none⟩ = some (.bool t) := by
        have := HF2.out.rf.at' p (by rw [← HT.out]; exact hpT)
        rw [bitsL_get, ← ht] at this
        exact (hw.cell (World.block_lt_of_cell? _ _ this)).trans this
      have hpi : (p : Int) < T := by omega
      have HS : Hid (hasK ws a b (k + 1) = t) := hide (by rw [hasK, HN.out, ← hp, ← ht]; rfl)
      have HW := hide hw
      clear hp ht hw
      cases t with
      | true =>
        go_wp2
        go_quiet (fail)
        go_wp2
        exact ⟨⟨k + 1, by go_num, by omega, HS, below_drewN' HW.out nq⟩, by simp [intOf]; omega⟩
      | false =>
        have HHf : Hid (hasK ws a b h = false) := hide (has_mono ws a b (k + 1) h (by omega) HS.out)
        go_wp2
        go_quiet (fail)
        go_wp2
        go_ret
        exact ⟨by rw [HHf.out]; rfl, below_drewN' (HB2.out.trans (HW.out.mono HB2.out.size)) nq⟩
    · have hki : ¬ (k : Int) < h := by omega
      have hkh : k = h := by omega
      have HN2 := hide HN.out
      rw [hkh] at HN2
      have HW := hide hw
      clear hkh HN hw
      go_wp2
      go_ret
      exact ⟨by rw [HN2.out]; rfl, HB2.out.trans (HW.out.mono HB2.out.size)⟩
def RAddC (w : World) (z g c h : Nat) (us : List Nat) (r : Bool) (e : Ending) (w' : World) : Prop := e = .returned (.bool r) ∧ RB w' z g c h (bitsL us) ∧ w.grownBy w' (some g)
set_option maxRecDepth 20000 in
set_option maxHeartbeats 8000000 in
theorem radd_any (w : World) (z g c h : Nat) (ws : List Nat) (f : RB w z g c h (bitsL ws)) (kb : List UInt8) (hkb : kb.length = 32) : Calls Try.prog 30 #[.pointer (some ⟨z, 0, none⟩), .agg (kb.map u8c).toArray] w (RAddC w z g c h (addK ws (keyA kb) (keyB kb) h).1 (addK ws (keyA kb) (keyB kb) h).2) := by
  obtain ⟨K, hK⟩ : ∃ K, K = (kb.map u8c).toArray := ⟨_, rfl⟩
  have hKs : K.size = 32 := by rw [hK]; simp [hkb]
  have HKs := hide hKs
  obtain ⟨W1, hW1⟩ : ∃ W1, W1 = w.alloc (.cells K 36) := ⟨_, rfl⟩
  have hb1 : Below w.heap.size w W1 := by rw [hW1]; exact (Below.refl _ _).alloc (Nat.le_refl _) _
  have HB1 := hide hb1
  have HF1 := hide (f.below hb1)
  have HP := hide (places_any W1 z g c h ws HF1.out kb hkb)
  have HK1 : Hid (Blk W1 w.heap.size K 36) := hide (by rw [hW1]; exact Blk.made w K _)
  rw [← hK] at HP ⊢
  obtain ⟨a, ha⟩ : ∃ a, a = keyA kb := ⟨_, rfl⟩
  obtain ⟨b, hb⟩ : ∃ b, b = keyB kb := ⟨_, rfl⟩
  rw [← ha, ← hb] at HP ⊢
  have hh := f.hh
  have hgl0 := f.glt
  have hlen := bitsL_len ws
  have hn := f.hn
  obtain ⟨T, hT⟩ : ∃ T, T = (bitsL ws).length := ⟨_, rfl⟩
  rw [← hT] at hn
  have HTL : Hid (T = 64 * ws.length) := hide (by rw [hT, hlen])
  clear f hb1 hK hKs ha hb hlen hT
  go_enter Try.func30, Try.ntmps30
  have hks := HKs.out
  go_wp2_with (first | fail | ((with_reducible refine wpList_load_blk ?_ 36 _ Try.underlying36 ?_ 32 infoKey (.tmp 3) ?_ w.heap.size ?_ K _ (by rw [← hW1]; exact HK1.out) HKs.out ?_); rfl; rfl; rfl; rfl))
  rw [← hW1]
  refine HP.out.mono ?_
  rintro e w2 ⟨vl, rfl, hO, hb2⟩
  have HB2 := hide (HB1.out.trans (hb2.mono HB1.out.size))
  have HF2 := hide (HF1.out.below hb2)
  obtain ⟨ao, cap, hvl, hao⟩ := hO.form
  rw [plsK_len] at hvl hao
  obtain ⟨gl, hgl⟩ := hao (by omega)
  subst hgl
  subst hvl
  have hglt := (owns_lt hO gl rfl).1
  have hgne : ¬ gl = g := by have := HB1.out.size; omega
  have HO := hide hO
  clear hb2 HP HB1 HF1 HK1 HKs hks hW1 hO hglt
  go_wp2
  go_loopw [5, 7] (fun s5 s7 wr => ∃ (k : Nat) (fr : Bool), s5 = .bool fr ∧ s7 = .int .i64 k ∧ k ≤ h ∧ Hid (fr = (addK ws a b k).2) ∧ RB wr z g c h (bitsL (addK ws a b k).1) ∧ w2.grownBy wr (some g)) (fun _ s7 _ => h - (intOf s7).toNat)
  case atStart => exact ⟨0, false, rfl, rfl, by omega, hide rfl, HF2.out, grownBy_drewN w2 0 _⟩
  case round =>
    obtain ⟨k, fr, rfl, rfl, hk, HN, hF, hG⟩ := hrel
    have HF := hide hF
    have HG := hide hG
    clear hF hG
    by_cases hlt : k < h
    · have hki : (k : Int) < h := by omega
      obtain ⟨u, hu⟩ : ∃ u, u = (addK ws a b k).1 := ⟨_, rfl⟩
      have hul : u.length = ws.length := by rw [hu, addK_len]
      rw [← hu] at HF
      obtain ⟨p, hp⟩ : ∃ p, p = plK a b ws.length k := ⟨_, rfl⟩
      have hpT : p < T := by
        rw [hp, HTL.out]
        exact plK_lt a b ws.length k (by have := HTL.out; omega)
      have hTu : (bitsL u).length = T := by rw [bitsL_len, hul]; exact HTL.out.symm
      have c0 : wr.cell? ⟨z, 0, none⟩ = some (.slice (some ⟨g, 0, none⟩) T c) := by
        have := HF.out.zb.cell 0
        rw [hTu] at this
        exact this
      have cl : wr.cell? ⟨gl, k, none⟩ = some (.int .i64 (p : Int)) := by
        have := HO.out.at k (by rw [plsK_len]; exact hlt)
        rw [plsK_get, ← hp] at this
        exact HG.out.cell this (fun e => hgne (Option.some.inj e))
      obtain ⟨t, ht⟩ : ∃ t, t = hsB u p := ⟨_, rfl⟩
      have cg : wr.cell? ⟨g, p, none⟩ = some (.bool t) := by
        have := HF.out.rf.at' p (by rw [hTu]; exact hpT)
        rw [bitsL_get, ← ht] at this
        exact this
      have fg : wr.frozen? ⟨g, p, none⟩ = false := HF.out.frozen p
      have hpi : (p : Int) < T := by omega
      have hst : bitsL (stB u p) = (bitsL u).set p true := bitsL_stB u p (by rw [hul, ← HTL.out]; exact hpT)
      have HAk : Hid (addK ws a b (k + 1) = (stB u p, fr || !t)) := hide (by rw [addK, ← hp, ← hu, ← ht, HN.out])
      have HF7 := hide (fun nq => (HF.out.drewN nq).setB p true)
      rw [← hst] at HF7
      have HG7 := hide (fun nq => grownBy_trans HG.out (grownBy_trans (grownBy_drewN wr nq (some g)) (grownBy_set (wr.drewN nq) g p (.bool true))))
      have d0 : ∀ nq, (wr.drewN nq).cell? ⟨z, 0, none⟩ = some (.slice (some ⟨g, 0, none⟩) T c) := fun _ => c0
      have dl : ∀ nq, (wr.drewN nq).cell? ⟨gl, k, none⟩ = some (.int .i64 (p : Int)) := fun _ => cl
      have dg : ∀ nq, (wr.drewN nq).cell? ⟨g, p, none⟩ = some (.bool t) := fun _ => cg
      have dfg : ∀ nq, (wr.drewN nq).frozen? ⟨g, p, none⟩ = false := fun _ => fg
      have HD := hide (And.intro d0 (And.intro dl (And.intro dg dfg)))
      clear hp ht hu hst hul hTu d0 dl dg dfg
      cases t with
      | true =>
        have HR : Hid (fr = (addK ws a b (k + 1)).2) := hide (by rw [HAk.out]; simp)
        go_wp2
        go_quiet (fail)
        obtain ⟨d0, dl, dg, dfg⟩ := HD.out
        replace d0 := d0 nq
        replace dl := dl nq
        replace dg := dg nq
        replace dfg := dfg nq
        replace HF7 := hide (HF7.out nq)
        replace HG7 := hide (HG7.out nq)
        obtain ⟨W, hW⟩ : ∃ W, W = wr.drewN nq := ⟨_, rfl⟩
        rw [← hW] at d0 dl dg dfg HF7 HG7 ⊢
        clear HD hW c0 cl cg fg
        go_wp2
        refine wp_region_still_tail 9 (by kernel_rfl) (by kernel_rfl) ?_
        simp only [List.take_succ_cons, List.take_zero, List.drop_succ_cons, List.drop_zero]
        repeat still_step
        refine wpStill_nil ?_
        go_wp2
        exact ⟨⟨k + 1, fr, rfl, by go_num, by omega, HR, by rw [HAk.out]; exact ⟨HF7.out.zb, HF7.out.gb, HF7.out.hn, HF7.out.hh⟩, ⟨HG7.out.os, HG7.out.tape, HG7.out.output, HG7.out.size, HG7.out.block⟩⟩, by simp [intOf]; omega⟩
      | false =>
        have HR : Hid (true = (addK ws a b (k + 1)).2) := hide (by rw [HAk.out]; simp)
        go_wp2
        go_quiet (fail)
        obtain ⟨d0, dl, dg, dfg⟩ := HD.out
        replace d0 := d0 nq
        replace dl := dl nq
        replace dg := dg nq
        replace dfg := dfg nq
        replace HF7 := hide (HF7.out nq)
        replace HG7 := hide (HG7.out nq)
        obtain ⟨W, hW⟩ : ∃ W, W = wr.drewN nq := ⟨_, rfl⟩
        rw [← hW] at d0 dl dg dfg HF7 HG7 ⊢
        clear HD hW c0 cl cg fg
        go_wp2
        refine wp_region_still_tail 9 (by kernel_rfl) (by kernel_rfl) ?_
        simp only [List.take_succ_cons, List.take_zero, List.drop_succ_cons, List.drop_zero]
        repeat still_step
        refine wpStill_nil ?_
        go_wp2
        exact ⟨⟨k + 1, true, rfl, by go_num, by omega, HR, by rw [HAk.out]; exact ⟨HF7.out.zb, HF7.out.gb, HF7.out.hn, HF7.out.hh⟩, ⟨HG7.out.os, HG7.out.tape, HG7.out.output, HG7.out.size, HG7.out.block⟩⟩, by simp [intOf]; omega⟩
    · have hki : ¬ (k : Int) < h := by omega
      have hkh : k = h := by omega
      have HN2 := hide HN.out
      rw [hkh] at HN2 HF
      clear hkh HN
      go_wp2
      go_ret
      exact ⟨by rw [← HN2.out]; rfl, HF.out, grownBy_trans (grownBy_below HB2.out) HG.out⟩
end Go.Proofs.Ytbemmhngadpjcaa
