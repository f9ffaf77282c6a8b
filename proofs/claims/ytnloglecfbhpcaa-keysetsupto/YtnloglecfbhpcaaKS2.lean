/- The document's set: Add. -/
import Derived.Test.YtnloglecfbhpcaaKS1
namespace Go.Proofs.Ytnloglecfbhpcaa
set_option linter.unusedVariables false
set_option linter.unusedSimpArgs false
open Go.RowKit Go.Sort
set_option maxRecDepth 100000
set_option maxHeartbeats 8000000

/-- What Add leaves. -/
def RaddC (w : World) (z : Nat) (R : List (List UInt8)) (x : List UInt8) (e : Ending) (w' : World) : Prop := e = .returned (.bool (!decide (x ∈ R))) ∧ ∃ ao n c, RsAt w' z ao n c (addK x R) ∧ w.grownBy w' (some z)
theorem radd_fin {w W0 wr : World} {B0 z : Nat} {v : Value} {am a1 : Option Addr} {mm n1 c1 : Nat} {R : List (List UInt8)} (hv : v = .slice a1 n1 c1) (h0 : Below w.heap.size w W0) (hb : Below B0 W0 wr) (e0 : B0 = W0.heap.size) (hz : z < B0) (hk : Blk wr z #[v] 48) (hr : KRow wr am R) (hm : mm = R.length) (cap : Nat) :
    RsAt (wr.setCell ⟨z, 0, none⟩ (.slice am mm cap)) z am mm cap R ∧ w.grownBy (wr.setCell ⟨z, 0, none⟩ (.slice am mm cap)) (some z) := by
  refine ⟨⟨hk.set 0 _, hm, hr.keepU (KeepU.grown (grownBy_set wr z 0 _) (NoU.blk hk (fun u hu q e => by rw [List.mem_singleton.1 hu, hv] at e; cases e)))⟩, ?_⟩
  exact grownBy_trans (grownBy_below (h0.trans (hb.mono (by have := h0.size; omega)))) (grownBy_set _ _ _ _)
theorem radd_has (w : World) (z : Nat) (ao : Option Addr) (n c : Nat) (R : List (List UInt8)) (x : List UInt8) (hx : x.length = 32) (h : RsAt w z ao n c R) (hl : n ≤ 4398046511104) (hin : x ∈ R) : Calls Try.prog 16 #[.pointer (some ⟨z, 0, none⟩), keyV x] w (RaddC w z R x) := by
  have hB : Below w.heap.size w (w.alloc (.cells (x.map u8c).toArray 38)) := (Below.refl _ _).alloc (Nat.le_refl _) _
  have HKX : Hid (KeyAt (w.alloc (.cells (x.map u8c).toArray 38)) w.heap.size x) := hide ⟨Blk.made w _ _, hx⟩
  have HR := hide (h.below hB)
  have HH := hide (rhas_any _ z ao n c R x hx HR.out hl)
  rw [decide_eq_true hin] at HH
  have HB := hide hB
  have HIn := hide hin
  clear h hB hl hin
  show Calls Try.prog 16 #[.pointer (some ⟨z, 0, none⟩), .agg (x.map u8c).toArray] w _
  go_enter Try.func16, Try.ntmps16
  go_wp2_with (first | ((with_reducible refine wpList_key (.tmp 3) w.heap.size x HKX.out ?_ ?_ ?_ ?_); rfl; rfl; rfl) | (go_at_call 18; (with_reducible refine HH.out.mono ?_); rintro e w2 ⟨rfl, hb2⟩))
  go_ret
  refine ⟨by rw [decide_eq_true HIn.out]; rfl, ao, n, c, ?_, grownBy_below (HB.out.trans (hb2.mono HB.out.size))⟩
  unfold addK
  rw [if_pos HIn.out]
  exact HR.out.below hb2
theorem radd_new (w : World) (z : Nat) (ao : Option Addr) (n c : Nat) (R : List (List UInt8)) (x : List UInt8) (hx : x.length = 32) (h : RsAt w z ao n c R) (hl : n ≤ 4398046510976) (hin : x ∉ R) : Calls Try.prog 16 #[.pointer (some ⟨z, 0, none⟩), keyV x] w (RaddC w z R x) := by
  obtain ⟨W, hW⟩ : ∃ W, W = w.alloc (.cells (x.map u8c).toArray 38) := ⟨_, rfl⟩
  have hB : Below w.heap.size w W := by rw [hW]; exact (Below.refl _ _).alloc (Nat.le_refl _) _
  have HRw : Hid (RwS w z w.heap.size ao n c R x W) := hide ⟨h.below hB, by rw [hW]; exact ⟨Blk.made w _ _, hx⟩, hB⟩
  have HH := hide (rhas_any W z ao n c R x hx HRw.out.rs (by omega))
  rw [decide_eq_false hin] at HH
  have HX := hide hx
  have HIn := hide hin
  have HN := hide h.len
  have HZ0 := hide h.blk.lt
  have H32 := hide h.row.len
  have HKX := hide HRw.out.key
  clear h hB hx hin
  show Calls Try.prog 16 #[.pointer (some ⟨z, 0, none⟩), .agg (x.map u8c).toArray] w _
  go_enter Try.func16, Try.ntmps16
  go_upto_region 1 with fail
  rw [← hW]
  clear hW
  obtain ⟨zk, hzk⟩ : ∃ zk, zk = w.heap.size := ⟨_, rfl⟩
  rw [← hzk] at HRw HKX ⊢
  have HZK := hide hzk
  clear hzk
  go_upto_region 6 with (first | ((with_reducible refine wpList_key (.tmp 3) zk x HKX.out ?_ ?_ ?_ ?_); rfl; rfl; rfl) | (go_at_call 18; (with_reducible refine HH.out.mono ?_); rintro e W0 ⟨rfl, hb2⟩; have HB2 := hide hb2; clear hb2))
  have HR0 := hide (HRw.out.below HB2.out)
  clear HH HKX HRw HB2
  obtain ⟨B0, hB0⟩ : ∃ B0, B0 = W0.heap.size := ⟨_, rfl⟩
  have HB0 := hide hB0
  have HRF : Hid (∀ w', Below B0 W0 w' → RwS w z zk ao n c R x w') := hide (fun w' hb => HR0.out.below (by rw [← hB0]; exact hb))
  have HZR : Hid (z < B0) := hide (by rw [hB0]; exact HR0.out.rs.blk.lt)
  have HW0 : Hid (Below w.heap.size w W0) := hide HR0.out.bel
  clear hB0 HR0
  go_loopw [5, 6, 7] (fun t b u wr => ∃ (i : Nat) (laid : Bool) (am : Option Addr) (mm cap : Nat) (M : List (List UInt8)), u = .int .i64 i ∧ i ≤ n ∧ b = .bool laid ∧ t = .slice am mm cap ∧ mm = M.length ∧ OwnQ wr B0 (.slice am mm cap) M ∧ LayP x R i laid M ∧ Below B0 W0 wr) (fun _ _ u _ => n - (intOf u).toNat)
  case atStart => exact ⟨0, false, none, 0, 0, [], rfl, by omega, rfl, rfl, rfl, World.ownsRow_nil _ _ _ _, .inr ⟨rfl, fun y hy => by simp at hy, by simp⟩, by rw [HB0.out]; exact Below.refl _ _⟩
  case round =>
    obtain ⟨i, laid, am, mm, cap, M, rfl, hi, rfl, rfl, hmm, hO, hLay, hBr⟩ := hrel
    have HMM := hide hmm
    have HLAY := hide hLay
    have HBwr := hide hBr
    have HOwr := hide hO
    have HML : Hid (M.length + 2 ≤ 4398046511104) := hide (by have := hLay.len; have := HN.out; omega)
    have cz : wr.cell? ⟨z, 0, none⟩ = some (.slice ao n c) := by rw [(HRF.out wr hBr).rs.blk.cell]; rfl
    clear hmm hLay hO hBr
    by_cases hlt : i < n
    · have hii : (i : Int) < (n : Int) := by omega
      have hil : i < R.length := by rw [← HN.out]; exact hlt
      obtain ⟨y, hy⟩ : ∃ y, y = R[i] := ⟨_, rfl⟩
      obtain ⟨g, o, rfl, hrd⟩ := (HRF.out wr HBwr.out).rs.row.at' i hil
      have hyl : y.length = 32 := by rw [hy]; exact H32.out _ (List.getElem_mem _)
      rw [← hy] at hrd
      have HRD : Hid (∀ w', Below B0 W0 w' → w'.rangeAt g (o + i * 32) (y.map u8c) ∧ KeyAt w' zk x ∧ w'.cell? ⟨z, 0, none⟩ = some (.slice (some ⟨g, o, none⟩) n c)) := hide (fun w' hb => by
        obtain ⟨g', o', e', h2⟩ := (HRF.out w' hb).rs.row.at' i hil
        cases e'
        exact ⟨by rw [hy]; exact h2, (HRF.out w' hb).key, by rw [(HRF.out w' hb).rs.blk.cell]; rfl⟩)
      have HY := hide hyl
      have HYE : Hid (∀ h : i < R.length, y = R[i]) := hide (fun _ => hy)
      have HIL := hide hil
      clear hrd hyl hy hil
      go_upto_region 8 with fail
      cases laid with
      | true =>
        clear cz
        refine wp_region_quiet_below (by kernel_rfl) (by kernel_rfl) ?_
        iterate 2 quiet_step (fail)
        refine wpQuiet_move_nos 22 2 true 10 rfl (fun _ _ => rfl) rfl rfl ((by decide : (22 : Nat) < 58)) ?_ ?_
        · intro x hx
          simp only [List.take_succ_cons, List.take_zero, List.mem_cons, List.not_mem_nil, or_false] at hx
          rcases hx with rfl | rfl | rfl | rfl | rfl | rfl | rfl | rfl | rfl | rfl <;> exact ⟨rfl, _, rfl, by decide⟩
        simp only [List.take_succ_cons, List.take_zero, List.drop_succ_cons, List.drop_zero, List.foldl_cons, List.foldl_nil, Act.put, List.setIfInBounds_toArray, List.set_cons_zero, List.set_cons_succ]
        quiet_step (fail)
        refine wpQuiet_nil ?_
        intro wd hw1
        have hb1 : RowKit.Below wr.heap.size wr wd := below_of hw1
        have HBwd : Hid (Below B0 W0 wd) := hide (HBwr.out.trans (hb1.mono (by have := HBwr.out.size; have := HB0.out; omega)))
        have HOwd := hide (HOwr.out.below hb1)
        clear hw1 hb1 HOwr HBwr
        go_upto_region 11 with fail
        have HRY := hide (HRD.out _ HBwd.out).1
        have cz := (HRD.out _ HBwd.out).2.2
        have HL_wz : Hid ((M).length + 1 ≤ 4398046511104) := hide (by have := HMM.out; have := HML.out; first | omega | (simp only [List.length_append, List.length_singleton]; omega))
        have HZ_wz : Hid (B0 ≤ (wd.alloc (.cells (y.map u8c).toArray 38)).heap.size) := hide (by have := HBwd.out.size; have := HB0.out; simp; omega)
        have HOA_wz : Hid (OwnQ (wd.alloc (.cells (y.map u8c).toArray 38)) B0 (.slice am mm cap) (M)) := hide (HOwd.out.below ((Below.refl _ _).alloc (Nat.le_refl _) _))
        have HBK_wz : Hid (Blk (wd.alloc (.cells (y.map u8c).toArray 38)) wd.heap.size (y.map u8c).toArray 38) := hide (Blk.made wd _ _)
        go_upto_region 7 with (first | ((with_reducible refine wpList_load_keyAt (.tmp 44) g (o + i * 32) y HY.out HRY.out ?_ ?_ ?_ ?_); rfl; rfl; rfl) | ((with_reducible refine wpList_bsQ (.tmp 45) y HY.out ?_ ?_ ?_ ?_); rfl; rfl; rfl) | ((with_reducible refine wpList_appendQ ?_ (.tmp 38) (.tmp 46) ?_ B0 (.slice am mm cap) (M) ?_ HOA_wz.out wd.heap.size ?_ y HY.out HBK_wz.out HL_wz.out HZ_wz.out ?_); rfl; rfl; rfl; rfl; intro v_wz wz O_wz G_wz))
        have HBwz : Hid (Below B0 W0 wz) := hide (by
          have ha : Below wd.heap.size wd (wd.alloc (.cells (y.map u8c).toArray 38)) := (Below.refl _ _).alloc (Nat.le_refl _) _
          have hown := HOA_wz.out.own
          have h3 : Below B0 (wd.alloc (.cells (y.map u8c).toArray 38)) wz := (Below.refl _ _).grown G_wz.out HZ_wz.out (fun g hg => hown g hg)
          exact (HBwd.out.trans (ha.mono (by have := HBwd.out.size; have := HB0.out; omega))).trans h3)
        obtain ⟨amwz, capwz, hv_wz, _⟩ := O_wz.out.form
        subst hv_wz
        obtain ⟨mwz, hm_wz⟩ : ∃ q, q = (M ++ [y]).length := ⟨_, rfl⟩
        have HMwz := hide hm_wz
        rw [← hm_wz] at O_wz ⊢
        have HOwz := O_wz
        clear HL_wz HZ_wz HOA_wz HBK_wz G_wz hm_wz O_wz
        clear cz HRY
        go_wp2
        exact ⟨⟨i + 1, true, amwz, mwz, capwz, M ++ [y], by go_num, by omega, rfl, rfl, HMwz.out, HOwz.out, HLAY.out.kept HIL.out (HYE.out HIL.out), HBwz.out⟩, by simp [intOf]; omega⟩
      | false =>
        have HCm : Hid (∀ d os, Calls Try.prog 38 #[keyV x, keyV y] (grow (redrawn wr d) os) fun e w'' => e = .returned (.int .i64 (cmpK x y)) ∧ ∃ p : Regrown, w'' = grow (redrawn wr p.d) p.os) := hide (fun d os => Calls.regrown_of (rcompare_any x y HX.out HY.out _))
        have HRG := hide (range_regrown (HRD.out _ HBwr.out).1)
        have HKG := hide (range_regrown (range_blk (HRD.out _ HBwr.out).2.1.1))
        have czr := fun d os => cell_regrown (HRD.out _ HBwr.out).2.2 d os
        clear cz
        refine wp_region_quiet_below (by kernel_rfl) (by kernel_rfl) ?_
        iterate 3 quiet_step (fail)
        refine wpQuiet_val (keyV x) rfl (fun w0 hw => ?_) ?_
        · obtain ⟨p0, rfl⟩ := hw
          refine run_loadK rfl rfl HX.out ?_
          have := HKG.out p0.d p0.os
          rwa [List.toList_toArray] at this
        iterate 6 quiet_step (fail)
        refine wpQuiet_val (keyV y) rfl (fun w0 hw => ?_) ?_
        · obtain ⟨p0, rfl⟩ := hw
          exact run_loadK rfl rfl HY.out (HRG.out _ _)
        quiet_step (exact HCm.out _ _)
        quiet_step (fail)
        quiet_step (fail)
        refine wpQuiet_nil ?_
        intro wd hw1
        have hb1 : RowKit.Below wr.heap.size wr wd := below_of hw1
        have HBwd : Hid (Below B0 W0 wd) := hide (HBwr.out.trans (hb1.mono (by have := HBwr.out.size; have := HB0.out; omega)))
        have HOwd := hide (HOwr.out.below hb1)
        clear hw1 hb1 HOwr HBwr HCm HRG HKG czr
        by_cases hlc : cmpK x y < 0
        · have HLC := hide hlc
          rw [show decide (cmpK x y < 0) = true from decide_eq_true hlc]
          clear hlc
          have HKX := hide (HRD.out _ HBwd.out).2.1
          go_upto_region 9 with fail
          have HL_we : Hid ((M).length + 1 ≤ 4398046511104) := hide (by have := HMM.out; have := HML.out; first | omega | (simp only [List.length_append, List.length_singleton]; omega))
          have HZ_we : Hid (B0 ≤ (wd.alloc (.cells (x.map u8c).toArray 38)).heap.size) := hide (by have := HBwd.out.size; have := HB0.out; simp; omega)
          have HOA_we : Hid (OwnQ (wd.alloc (.cells (x.map u8c).toArray 38)) B0 (.slice am mm cap) (M)) := hide (HOwd.out.below ((Below.refl _ _).alloc (Nat.le_refl _) _))
          have HBK_we : Hid (Blk (wd.alloc (.cells (x.map u8c).toArray 38)) wd.heap.size (x.map u8c).toArray 38) := hide (Blk.made wd _ _)
          go_upto_region 10 with (first | ((with_reducible refine wpList_key (.tmp 3) zk x HKX.out ?_ ?_ ?_ ?_); rfl; rfl; rfl) | ((with_reducible refine wpList_bsQ (.tmp 35) x HX.out ?_ ?_ ?_ ?_); rfl; rfl; rfl) | ((with_reducible refine wpList_appendQ ?_ (.tmp 34) (.tmp 36) ?_ B0 (.slice am mm cap) (M) ?_ HOA_we.out wd.heap.size ?_ x HX.out HBK_we.out HL_we.out HZ_we.out ?_); rfl; rfl; rfl; rfl; intro v_we we O_we G_we))
          have HBwe : Hid (Below B0 W0 we) := hide (by
            have ha : Below wd.heap.size wd (wd.alloc (.cells (x.map u8c).toArray 38)) := (Below.refl _ _).alloc (Nat.le_refl _) _
            have hown := HOA_we.out.own
            have h3 : Below B0 (wd.alloc (.cells (x.map u8c).toArray 38)) we := (Below.refl _ _).grown G_we.out HZ_we.out (fun g hg => hown g hg)
            exact (HBwd.out.trans (ha.mono (by have := HBwd.out.size; have := HB0.out; omega))).trans h3)
          obtain ⟨amwe, capwe, hv_we, _⟩ := O_we.out.form
          subst hv_we
          obtain ⟨mwe, hm_we⟩ : ∃ q, q = (M ++ [x]).length := ⟨_, rfl⟩
          have HMwe := hide hm_we
          rw [← hm_we] at O_we ⊢
          have HOwe := O_we
          clear HL_we HZ_we HOA_we HBK_we G_we hm_we O_we
          go_upto_region 11 with fail
          have HRY := hide (HRD.out _ HBwe.out).1
          have cz := (HRD.out _ HBwe.out).2.2
          have HL_wz : Hid ((M ++ [x]).length + 1 ≤ 4398046511104) := hide (by have := HMM.out; have := HML.out; first | omega | (simp only [List.length_append, List.length_singleton]; omega))
          have HZ_wz : Hid (B0 ≤ (we.alloc (.cells (y.map u8c).toArray 38)).heap.size) := hide (by have := HBwe.out.size; have := HB0.out; simp; omega)
          have HOA_wz : Hid (OwnQ (we.alloc (.cells (y.map u8c).toArray 38)) B0 (.slice amwe mwe capwe) (M ++ [x])) := hide (HOwe.out.below ((Below.refl _ _).alloc (Nat.le_refl _) _))
          have HBK_wz : Hid (Blk (we.alloc (.cells (y.map u8c).toArray 38)) we.heap.size (y.map u8c).toArray 38) := hide (Blk.made we _ _)
          go_upto_region 7 with (first | ((with_reducible refine wpList_load_keyAt (.tmp 44) g (o + i * 32) y HY.out HRY.out ?_ ?_ ?_ ?_); rfl; rfl; rfl) | ((with_reducible refine wpList_bsQ (.tmp 45) y HY.out ?_ ?_ ?_ ?_); rfl; rfl; rfl) | ((with_reducible refine wpList_appendQ ?_ (.tmp 38) (.tmp 46) ?_ B0 (.slice amwe mwe capwe) (M ++ [x]) ?_ HOA_wz.out we.heap.size ?_ y HY.out HBK_wz.out HL_wz.out HZ_wz.out ?_); rfl; rfl; rfl; rfl; intro v_wz wz O_wz G_wz))
          have HBwz : Hid (Below B0 W0 wz) := hide (by
            have ha : Below we.heap.size we (we.alloc (.cells (y.map u8c).toArray 38)) := (Below.refl _ _).alloc (Nat.le_refl _) _
            have hown := HOA_wz.out.own
            have h3 : Below B0 (we.alloc (.cells (y.map u8c).toArray 38)) wz := (Below.refl _ _).grown G_wz.out HZ_wz.out (fun g hg => hown g hg)
            exact (HBwe.out.trans (ha.mono (by have := HBwe.out.size; have := HB0.out; omega))).trans h3)
          obtain ⟨amwz, capwz, hv_wz, _⟩ := O_wz.out.form
          subst hv_wz
          obtain ⟨mwz, hm_wz⟩ : ∃ q, q = (M ++ [x] ++ [y]).length := ⟨_, rfl⟩
          have HMwz := hide hm_wz
          rw [← hm_wz] at O_wz ⊢
          have HOwz := O_wz
          clear HL_wz HZ_wz HOA_wz HBK_wz G_wz hm_wz O_wz
          clear cz HRY
          go_wp2
          exact ⟨⟨i + 1, true, amwz, mwz, capwz, M ++ [x] ++ [y], by go_num, by omega, rfl, rfl, HMwz.out, HOwz.out, HLAY.out.laid HIL.out (HYE.out HIL.out) HLC.out, HBwz.out⟩, by simp [intOf]; omega⟩
        · have HLC := hide hlc
          rw [show decide (cmpK x y < 0) = false from decide_eq_false hlc]
          clear hlc
          go_upto_region 11 with fail
          have HRY := hide (HRD.out _ HBwd.out).1
          have cz := (HRD.out _ HBwd.out).2.2
          have HL_wz : Hid ((M).length + 1 ≤ 4398046511104) := hide (by have := HMM.out; have := HML.out; first | omega | (simp only [List.length_append, List.length_singleton]; omega))
          have HZ_wz : Hid (B0 ≤ (wd.alloc (.cells (y.map u8c).toArray 38)).heap.size) := hide (by have := HBwd.out.size; have := HB0.out; simp; omega)
          have HOA_wz : Hid (OwnQ (wd.alloc (.cells (y.map u8c).toArray 38)) B0 (.slice am mm cap) (M)) := hide (HOwd.out.below ((Below.refl _ _).alloc (Nat.le_refl _) _))
          have HBK_wz : Hid (Blk (wd.alloc (.cells (y.map u8c).toArray 38)) wd.heap.size (y.map u8c).toArray 38) := hide (Blk.made wd _ _)
          go_upto_region 7 with (first | ((with_reducible refine wpList_load_keyAt (.tmp 44) g (o + i * 32) y HY.out HRY.out ?_ ?_ ?_ ?_); rfl; rfl; rfl) | ((with_reducible refine wpList_bsQ (.tmp 45) y HY.out ?_ ?_ ?_ ?_); rfl; rfl; rfl) | ((with_reducible refine wpList_appendQ ?_ (.tmp 38) (.tmp 46) ?_ B0 (.slice am mm cap) (M) ?_ HOA_wz.out wd.heap.size ?_ y HY.out HBK_wz.out HL_wz.out HZ_wz.out ?_); rfl; rfl; rfl; rfl; intro v_wz wz O_wz G_wz))
          have HBwz : Hid (Below B0 W0 wz) := hide (by
            have ha : Below wd.heap.size wd (wd.alloc (.cells (y.map u8c).toArray 38)) := (Below.refl _ _).alloc (Nat.le_refl _) _
            have hown := HOA_wz.out.own
            have h3 : Below B0 (wd.alloc (.cells (y.map u8c).toArray 38)) wz := (Below.refl _ _).grown G_wz.out HZ_wz.out (fun g hg => hown g hg)
            exact (HBwd.out.trans (ha.mono (by have := HBwd.out.size; have := HB0.out; omega))).trans h3)
          obtain ⟨amwz, capwz, hv_wz, _⟩ := O_wz.out.form
          subst hv_wz
          obtain ⟨mwz, hm_wz⟩ : ∃ q, q = (M ++ [y]).length := ⟨_, rfl⟩
          have HMwz := hide hm_wz
          rw [← hm_wz] at O_wz ⊢
          have HOwz := O_wz
          clear HL_wz HZ_wz HOA_wz HBK_wz G_wz hm_wz O_wz
          clear cz HRY
          go_wp2
          exact ⟨⟨i + 1, false, amwz, mwz, capwz, M ++ [y], by go_num, by omega, rfl, rfl, HMwz.out, HOwz.out, HLAY.out.past HIL.out (HYE.out HIL.out) HLC.out, HBwz.out⟩, by simp [intOf]; omega⟩
    · have hii : ¬ (i : Int) < (n : Int) := by omega
      have HIM : Hid (R.length ≤ i) := hide (by rw [← HN.out]; omega)
      clear hlt
      cases laid with
      | true =>
        go_upto_region 14 with fail
        have HE : Hid (M = insK x R) := hide (HLAY.out.endT HIM.out)
        have czf := (HRF.out wr HBwr.out).rs.blk.frozen 0
        have HG : Hid (∃ n', mm = n' ∧ n' = (insK x R).length) := hide ⟨mm, rfl, by rw [← HE.out]; exact HMM.out⟩
        have HKR : Hid (KRow wr am (insK x R)) := hide (ownQ_krow (n := mm) (cap := cap) (B := B0) (by intro q hq; rcases (mem_insK x R q).1 hq with e | e; exact e ▸ HX.out; exact H32.out q e) (by rw [← HE.out]; exact HOwr.out))
        have HFin := hide (radd_fin rfl HW0.out HBwr.out HB0.out HZR.out (HRF.out wr HBwr.out).rs.blk HKR.out (show mm = (insK x R).length by rw [HMM.out, HE.out]) cap)
        clear HKR HG HOwr
        go_wp2
        go_ret
        exact ⟨by rw [decide_eq_false HIn.out]; rfl, am, mm, cap, by unfold addK; rw [if_neg HIn.out]; exact HFin.out.1, HFin.out.2⟩
      | false =>
        have HKX := hide (HRF.out wr HBwr.out).key
        have HL_we : Hid ((M).length + 1 ≤ 4398046511104) := hide (by have := HMM.out; have := HML.out; first | omega | (simp only [List.length_append, List.length_singleton]; omega))
        have HZ_we : Hid (B0 ≤ (wr.alloc (.cells (x.map u8c).toArray 38)).heap.size) := hide (by have := HBwr.out.size; have := HB0.out; simp; omega)
        have HOA_we : Hid (OwnQ (wr.alloc (.cells (x.map u8c).toArray 38)) B0 (.slice am mm cap) (M)) := hide (HOwr.out.below ((Below.refl _ _).alloc (Nat.le_refl _) _))
        have HBK_we : Hid (Blk (wr.alloc (.cells (x.map u8c).toArray 38)) wr.heap.size (x.map u8c).toArray 38) := hide (Blk.made wr _ _)
        go_upto_region 14 with (first | ((with_reducible refine wpList_key (.tmp 3) zk x HKX.out ?_ ?_ ?_ ?_); rfl; rfl; rfl) | ((with_reducible refine wpList_bsQ (.tmp 51) x HX.out ?_ ?_ ?_ ?_); rfl; rfl; rfl) | ((with_reducible refine wpList_appendQ ?_ (.tmp 50) (.tmp 52) ?_ B0 (.slice am mm cap) (M) ?_ HOA_we.out wr.heap.size ?_ x HX.out HBK_we.out HL_we.out HZ_we.out ?_); rfl; rfl; rfl; rfl; intro v_we we O_we G_we))
        have HBwe : Hid (Below B0 W0 we) := hide (by
          have ha : Below wr.heap.size wr (wr.alloc (.cells (x.map u8c).toArray 38)) := (Below.refl _ _).alloc (Nat.le_refl _) _
          have hown := HOA_we.out.own
          have h3 : Below B0 (wr.alloc (.cells (x.map u8c).toArray 38)) we := (Below.refl _ _).grown G_we.out HZ_we.out (fun g hg => hown g hg)
          exact (HBwr.out.trans (ha.mono (by have := HBwr.out.size; have := HB0.out; omega))).trans h3)
        obtain ⟨amwe, capwe, hv_we, _⟩ := O_we.out.form
        subst hv_we
        obtain ⟨mwe, hm_we⟩ : ∃ q, q = (M ++ [x]).length := ⟨_, rfl⟩
        have HMwe := hide hm_we
        rw [← hm_we] at O_we ⊢
        have HOwe := O_we
        clear HL_we HZ_we HOA_we HBK_we G_we hm_we O_we
        have cz := (HRF.out we HBwe.out).rs.blk.cell 0
        have HE : Hid (M ++ [x] = insK x R) := hide (HLAY.out.endF HIM.out)
        have czf := (HRF.out we HBwe.out).rs.blk.frozen 0
        have HKR : Hid (KRow we amwe (insK x R)) := hide (ownQ_krow (n := mwe) (cap := capwe) (B := B0) (by intro q hq; rcases (mem_insK x R q).1 hq with e | e; exact e ▸ HX.out; exact H32.out q e) (by rw [← HE.out]; exact HOwe.out))
        have HFin := hide (radd_fin rfl HW0.out HBwe.out HB0.out HZR.out (HRF.out we HBwe.out).rs.blk HKR.out (show mwe = (insK x R).length by rw [HMwe.out, HE.out]) capwe)
        clear HKR HOwe
        go_wp2
        go_ret
        exact ⟨by rw [decide_eq_false HIn.out]; rfl, amwe, mwe, capwe, by unfold addK; rw [if_neg HIn.out]; exact HFin.out.1, HFin.out.2⟩
end Go.Proofs.Ytnloglecfbhpcaa
