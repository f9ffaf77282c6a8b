/- Pieces: what its walk does with whatever rounds. -/
import Derived.Test.YtamajnaeladehaaDoorGP3
import Derived.Test.YtamajnaeladehaaDoorRF1
import Derived.Shelf.Abstract
import Derived.Shelf.RegionOpen
import Derived.WalkKit
import Derived.OwnWalkIn
import Derived.TacticsInMore
import Derived.LoopNIn
import Derived.LoopIn
namespace Go.Proofs.YtamajnaeladehaaDoor
set_option linter.unusedVariables false
set_option linter.unusedSimpArgs false
open Go.RowKit Go.Sort
attribute [local go_sem] Oper.semAt_some

theorem OwnsB.keepR {w w' : World} {lo B : Nat} {v : Value} {xs : List UInt8} (h : OwnsB w B v xs) (k : KeepR lo w.heap.size w w') (hl : lo ≤ B) : OwnsB w' B v xs := by
  obtain ⟨hz, h1 | ⟨g, cap, cur, e, hb, hg, hr⟩⟩ := h
  · exact ⟨hz, .inl h1⟩
  · exact ⟨hz, .inr ⟨g, cap, cur, e, hb, (k.same g (by omega) (Array.getElem?_eq_some_iff.1 hg).1).trans hg, hr⟩⟩
theorem Tabs.keepR {w w' : World} (h : Tabs w) (k : KeepR 0 w.heap.size w w') : Tabs w' :=
  ⟨Nat.lt_of_lt_of_le h.size k.size, fun t ht => by
    rw [← h.tab t ht]
    unfold World.cell?
    rw [k.same 1 (by omega) h.size]⟩
/-- The walk over nothing. -/
theorem nothing_fit (n : Nat) (w : World) (mn me mx : Int) (bs : List UInt8) (hm : mayB mn me mx = false) : SeqFit Fence.wide n Tryd.prog 33 #[] recV 0 w.heap.size (pcS mn me mx bs) (pcFit mn me mx bs) w := by
  intro l J Jx W hW hJ hJx hY h0
  refine callsIn_of_wp Tryd.func33 rfl trivial ?_ rfl
  have HR : Hid ((∃ xs, pcS mn me mx bs xs ∧ J xs W) ∨ ∃ pre, Jx pre W) := hide (.inl ⟨[], ⟨fun j hj => absurd hj (by simp), fun h => by have := h.1; rw [hm] at this; cases this⟩, h0⟩)
  clear hY hJ hJx hW h0
  simp only [Tryd.ntmps33, List.size_toArray, List.length_cons, List.length_nil, Nat.reduceAdd, Nat.reduceSub, Array.replicate_succ, Array.replicate_zero, List.push_toArray, List.append_toArray, List.nil_append, List.cons_append]
  gi_wp2
  refine bodyPost_end (results_none rfl _ _ _) rfl ?_
  exact ⟨⟨_, rfl⟩, HR.out⟩
set_option maxRecDepth 20000 in
set_option maxHeartbeats 1600000 in
theorem pieces_fit (n : Nat) (w : World) (hT : Tabs w) (z y B : Nat) (v : Value) (mn me mx : Int) (bs : List UInt8) (hm : mayB mn me mx = true) (hz : Blk w z #[v] 24) (hy : Blk w y #[.int .i64 mn, .int .i64 me, .int .i64 mx] 23) (hv : OwnsB w B v bs) (hl : bs.length ≤ 140737488353000) : SeqFit Fence.wide n Tryd.prog 35 #[.pointer (some ⟨z, 0, none⟩), .pointer (some ⟨y, 0, none⟩)] recV 0 w.heap.size (pcS mn me mx bs) (pcFit mn me mx bs) w := by
  intro l J Jx W hW hJ hJx hY h0
  refine callsIn_of_wp Tryd.func35 rfl trivial ?_ rfl
  simp only [Tryd.ntmps35, List.size_toArray, List.length_cons, List.length_nil, Nat.reduceAdd, Nat.reduceSub, Array.replicate_succ, Array.replicate_zero, List.push_toArray, List.append_toArray, List.nil_append, List.cons_append]
  have HY := hide hY
  have HZ := hide hz
  have HYC := hide hy
  have HV := hide hv
  have HJ := hide hJ
  have HT := hide hT
  have HM := hide hm
  obtain ⟨ao, c, rfl, -, -⟩ := hv.slice
  have hvl : bs.length ≤ c := by have := (hv.rd).cap; omega
  have hW0 : KeepR 0 w.heap.size w W := KeepR.below hW (Nat.le_refl _)
  clear hY hz hy hv hJ hJx hW hT hm
  gi_wp2
  gi_loopw [4, 5, 6] (fun p _ _ wr => ∃ (pre : List Rec), p = .int .i64 ((posK mn me mx bs pre.length : Nat) : Int) ∧ (∀ j, j < pre.length → okP mn me mx bs j) ∧ J pre wr ∧ KeepR 0 w.heap.size w wr)
    (fun p _ _ _ => bs.length + 1 - (intOf p).toNat)
  case atStart => exact ⟨[], rfl, fun j hj => absurd hj (by simp), h0, hW0⟩
  case round =>
    clear h0 hW0
    obtain ⟨pre, rfl, hok, hJp, hbel⟩ := hrel
    have hple := posK_le pre.length hok
    have HZr := hide (HZ.out.keepR hbel (Nat.zero_le _) HZ.out.lt)
    have HYr : Hid (CutAt wr y mn me mx) := hide (HYC.out.keepR hbel (Nat.zero_le _) HYC.out.lt)
    have hcz : wr.cell? ⟨z, 0, none⟩ = some (.slice ao bs.length c) := HZr.out.cell 0
    have HVr := hide (HV.out.keepR hbel (Nat.zero_le _))
    have HTr := hide (HT.out.keepR hbel)
    have HOK := hide hok
    have HJp := hide hJp
    have HBl := hide hbel
    clear hok hJp hbel
    by_cases hk : okP mn me mx bs pre.length
    · have hlp := lenK_pos hk
      have HB0 : Hid (pcK mn me mx bs pre.length = (bs.drop (posK mn me mx bs pre.length)).take (lenK mn me mx bs pre.length)) := hide rfl
      have HN0 : Hid (posK mn me mx bs (pre.length + 1) = posK mn me mx bs pre.length + lenK mn me mx bs pre.length) := hide rfl
      have HOK2 : Hid (∀ j, j < pre.length + 1 → okP mn me mx bs j) := hide (fun j hj => by
        by_cases e : j = pre.length
        · rw [e]; exact hk
        · exact HOK.out j (by omega))
      have HF : Hid (firstP mn me mx (bs.drop (posK mn me mx bs pre.length)) = (lenK mn me mx bs pre.length, (firstP mn me mx (bs.drop (posK mn me mx bs pre.length))).2)) := hide rfl
      have hkk := hk.2
      obtain ⟨q, hq⟩ : ∃ q, q = posK mn me mx bs pre.length := ⟨_, rfl⟩
      obtain ⟨m, hmm⟩ : ∃ m, m = lenK mn me mx bs pre.length := ⟨_, rfl⟩
      rw [← hq] at hlp HB0 HN0 HF hkk hple ⊢
      rw [← hmm] at hlp HB0 HN0 HF
      obtain ⟨f, hf⟩ : ∃ f, f = (firstP mn me mx (bs.drop q)).2 := ⟨_, rfl⟩
      rw [← hf] at HF
      have HQ := hide hq
      have hki : (q : Int) < bs.length := by omega
      have hww := below_regrown wr
      have HLd := hide (fun d os => loadAt_cut (HYr.out.below (hww d os)))
      have hdl2 : ((bs.drop q).take (bs.length - q)) = bs.drop q := List.take_of_length_le (by rw [List.length_drop]; exact Nat.le_refl _)
      have HFi := hide (fun d os => first_any (Sort.grow (redrawn wr d) os) (HTr.out.below (hww d os) HTr.out.size) mn me mx (sliced ao q bs.length c 1) _ ((HVr.out.rd.below (hww d os)).sliced q bs.length (by omega) (Nat.le_refl _)))
      rw [hdl2, HF.out, show pairV (m, f) = .tuple #[.int .i64 (m : Int), .bool f] from rfl] at HFi
      have HSl := hide (fun W => slice_lo ao bs.length c q (by omega) (q : Int) rfl W)
      obtain ⟨t, ht⟩ : ∃ t, t = q + m := ⟨_, rfl⟩
      have hqm : (q : Int) + (m : Int) = (t : Int) := by omega
      have htl : t ≤ bs.length := by omega
      have HQM : Hid (t = q + m) := hide ht
      have HS2 := hide (fun W => slice_lh ao bs.length c q t (by omega) (by omega) (q : Int) (t : Int) rfl rfl W)
      have HRs := hide (HVr.out.rd.sliced q t (by omega) htl)
      rw [show t - q = m from by omega, ← HB0.out] at HRs
      obtain ⟨sv, hsv⟩ : ∃ sv, sv = sliced ao q bs.length c 1 := ⟨_, rfl⟩
      obtain ⟨su, hsu⟩ : ∃ su, su = sliced ao q t c 1 := ⟨_, rfl⟩
      rw [← hsv] at HFi HSl
      rw [← hsu] at HS2 HRs
      have f2 := fun dd os => cell_regrown hcz dd os
      clear hq hmm hf hdl2 hsv hsu hk hww ht
      gi_wp2
      refine wpIn_wide.2 ?_
      refine wp_region_quiet_below (by kernel_rfl) (by kernel_rfl) ?_
      refine wpQuiet_val (cutV mn me mx) rfl (fun w hw => ?_) ?_
      · obtain ⟨p, rfl⟩ := hw
        exact run_load rfl rfl (HLd.out _ _)
      quiet_step (fail)
      quiet_step (fail)
      refine wpQuiet_val sv rfl (fun w hw => ?_) ?_
      · exact run_sliceLo rfl rfl rfl (HSl.out w)
      quiet_step (exact Calls.regrown_of (HFi.out _ _))
      repeat quiet_step (fail)
      refine wpQuiet_nil ?_
      intro w2 hw'
      obtain ⟨⟨dq, osq⟩, hw''⟩ := hw'
      have hb2 := below_regrown wr dq osq
      rw [← show w2 = Sort.grow (redrawn wr dq) osq from hw''] at hb2
      have hcz2 : w2.cell? ⟨z, 0, none⟩ = some (.slice ao bs.length c) := (hb2.cell (block_lt_of_cell' hcz)).trans hcz
      have HB2 := hide hb2
      have HCl := hide (clone_any w2 su _ (HRs.out.below hb2) (by rw [HB0.out, List.length_take, List.length_drop]; omega))
      have hs2 := HS2.out
      clear hw'' hb2 f2 hcz HFi HLd HS2
      gi_wp2
      refine ⟨trivial, fun h => (by cases h), ?_⟩
      refine (callsIn_wide.2 HCl.out).mono ?_
      rintro e w1 ⟨v1, rfl, hO1, hb1⟩
      obtain ⟨ao1, c1, rfl, -, -⟩ := hO1.slice
      have hb01 := HB2.out.trans (hb1.mono HB2.out.size)
      have HB1 := hide (HBl.out.trans (KeepR.below hb01 HBl.out.size))
      have hFit : pcFit mn me mx bs pre (q, pcK mn me mx bs pre.length, .slice ao1 (pcK mn me mx bs pre.length).length c1) wr w1 := ⟨fun j hj => HOK2.out j (by omega), HQ.out, rfl, own_lower hO1 HB2.out.size⟩
      obtain ⟨fn, tmps, assign, bod, hy, hR⟩ := HY.out pre (q, pcK mn me mx bs pre.length, .slice ao1 (pcK mn me mx bs pre.length).length c1) wr w1 HJp.out hb01 hFit
      unfold recV at hy
      dsimp only at hy
      have HR := hide hR
      clear hO1 hb1 hb01 hFit hR HCl hcz2
      gi_wp2
      refine ⟨fun h => (by cases h), ?_⟩
      refine HR.out.mono ?_
      rintro e W3 (⟨rfl, hJ3, hk3⟩ | ⟨rfl, hJx3⟩)
      · have HJ3 := hide hJ3
        have HB3 := hide (HB1.out.trans hk3)
        clear hJ3 hk3
        gi_wp2
        go_roundw
        case rel =>
          refine ⟨pre ++ [(q, pcK mn me mx bs pre.length, .slice ao1 (pcK mn me mx bs pre.length).length c1)], ?_, ?_, HJ3.out, HB3.out⟩
          · rw [List.length_append, List.length_singleton, HN0.out, ← HQM.out]
          · rw [List.length_append, List.length_singleton]; exact HOK2.out
        case measure => simp [intOf]; omega
      · have HX3 := hide hJx3
        clear hJx3
        gi_wp2
        refine bodyPost_ret (results_none rfl _ _ _) rfl ?_
        exact ⟨⟨_, rfl⟩, .inr ⟨_, HX3.out⟩⟩
    · have HK := hide hk
      have hq : posK mn me mx bs pre.length = bs.length := by
        have : ¬ posK mn me mx bs pre.length < bs.length := fun h => hk ⟨HM.out, h⟩
        omega
      rw [hq]
      have hki : ¬ (bs.length : Int) < (bs.length : Int) := by omega
      clear hk hq hple
      gi_wp2
      refine bodyPost_end (results_none rfl _ _ _) rfl ?_
      exact ⟨⟨_, rfl⟩, .inl ⟨pre, ⟨HOK.out, HK.out⟩, HJp.out⟩⟩
end Go.Proofs.YtamajnaeladehaaDoor
