/- The document's set: Add whole, Del. -/
import Derived.Test.YtnloglecfbhpcaaKS2
namespace Go.Proofs.Ytnloglecfbhpcaa
set_option linter.unusedVariables false
set_option linter.unusedSimpArgs false
open Go.RowKit Go.Sort
set_option maxRecDepth 100000
set_option maxHeartbeats 8000000

def RsB (w : World) (z : Nat) (R : List (List UInt8)) : Prop := ∃ ao n c, RsAt w z ao n c R
theorem RsB.below {w w' : World} {z : Nat} {R : List (List UInt8)} (h : RsB w z R) (hb : Below w.heap.size w w') : RsB w' z R := by
  obtain ⟨ao, n, c, h⟩ := h
  exact ⟨ao, n, c, h.below hb⟩
theorem RsB.lt {w : World} {z : Nat} {R : List (List UInt8)} (h : RsB w z R) : z < w.heap.size := by
  obtain ⟨ao, n, c, h⟩ := h
  exact h.blk.lt
theorem RsB.noU {w : World} {z : Nat} {R : List (List UInt8)} (h : RsB w z R) : NoU w z := by
  obtain ⟨ao, n, c, h⟩ := h
  exact h.noU
theorem RsB.keep {w w' : World} {z : Nat} {R : List (List UInt8)} (h : RsB w z R) (hk : KeepU w w') (hz : w'.heap[z]? = w.heap[z]?) : RsB w' z R := by
  obtain ⟨ao, n, c, h⟩ := h
  exact ⟨ao, n, c, hz.trans h.blk, h.len, h.row.keepU hk⟩
theorem RsB.grown {w w' : World} {z r : Nat} {R : List (List UInt8)} (h : RsB w z R) (hg : w.grownBy w' (some r)) (hne : z ≠ r) (hr : NoU w r) : RsB w' z R :=
  h.keep (KeepU.grown hg hr) (hg.block z h.lt (fun e => hne (Option.some.inj e)))
def RaddB (w : World) (z : Nat) (R : List (List UInt8)) (x : List UInt8) (e : Ending) (w' : World) : Prop := e = .returned (.bool (!decide (x ∈ R))) ∧ RsB w' z (addK x R) ∧ w.grownBy w' (some z)
theorem radd_any (w : World) (z : Nat) (R : List (List UInt8)) (x : List UInt8) (hx : x.length = 32) (h : RsB w z R) (hl : R.length ≤ 4398046510976) : Calls Try.prog 16 #[.pointer (some ⟨z, 0, none⟩), keyV x] w (RaddB w z R x) := by
  obtain ⟨ao, n, c, h⟩ := h
  by_cases hin : x ∈ R
  · exact (radd_has w z ao n c R x hx h (by have := h.len; omega) hin).mono (fun e w' ⟨h1, ao, n, c, h2, h3⟩ => ⟨h1, ⟨ao, n, c, h2⟩, h3⟩)
  · exact (radd_new w z ao n c R x hx h (by have := h.len; omega) hin).mono (fun e w' ⟨h1, ao, n, c, h2, h3⟩ => ⟨h1, ⟨ao, n, c, h2⟩, h3⟩)
theorem rhasB (w : World) (z : Nat) (R : List (List UInt8)) (x : List UInt8) (hx : x.length = 32) (h : RsB w z R) (hl : R.length ≤ 4398046511104) : Calls Try.prog 18 #[.pointer (some ⟨z, 0, none⟩), keyV x] w fun e w' => e = .returned (.bool (decide (x ∈ R))) ∧ Below w.heap.size w w' := by
  obtain ⟨ao, n, c, h⟩ := h
  exact rhas_any w z ao n c R x hx h (by have := h.len; omega)
/-- The list without a key. -/
def delK (x : List UInt8) (R : List (List UInt8)) : List (List UInt8) := R.filter fun y => !(y == x)
theorem mem_delK (x : List UInt8) (R : List (List UInt8)) (y : List UInt8) : y ∈ delK x R ↔ y ∈ R ∧ y ≠ x := by
  unfold delK
  rw [List.mem_filter]
  simp
theorem delK_in {x y : List UInt8} {R : List (List UInt8)} {i : Nat} (hi : i < R.length) (hy : y = R[i]) (hne : (y == x) = false) : delK x (R.take (i + 1)) = delK x (R.take i) ++ [y] := by
  unfold delK
  rw [take_snoc hi hy, List.filter_append, show List.filter (fun z => !(z == x)) [y] = [y] by simp [hne]]
theorem delK_out {x y : List UInt8} {R : List (List UInt8)} {i : Nat} (hi : i < R.length) (hy : y = R[i]) (he : (y == x) = true) : delK x (R.take (i + 1)) = delK x (R.take i) := by
  unfold delK
  rw [take_snoc hi hy, List.filter_append, show List.filter (fun z => !(z == x)) [y] = [] by simp [he], List.append_nil]
theorem delK_no {x : List UInt8} {R : List (List UInt8)} (h : x ∉ R) : delK x R = R := by
  unfold delK
  rw [List.filter_eq_self]
  intro y hy
  have : y ≠ x := fun e => h (e ▸ hy)
  simp [this]
theorem delK_len (x : List UInt8) (R : List (List UInt8)) : (delK x R).length ≤ R.length := List.length_filter_le _ _
theorem take_len_le {R : List (List UInt8)} (i : Nat) : (R.take i).length ≤ R.length := by rw [List.length_take]; omega
def RdelB (w : World) (z : Nat) (R : List (List UInt8)) (x : List UInt8) (e : Ending) (w' : World) : Prop := e = .returned (.bool (decide (x ∈ R))) ∧ RsB w' z (delK x R) ∧ w.grownBy w' (some z)
theorem rdel_no (w : World) (z : Nat) (R : List (List UInt8)) (x : List UInt8) (hx : x.length = 32) (h : RsB w z R) (hl : R.length ≤ 4398046510976) (hin : x ∉ R) : Calls Try.prog 28 #[.pointer (some ⟨z, 0, none⟩), keyV x] w (RdelB w z R x) := by
  have hB : Below w.heap.size w (w.alloc (.cells (x.map u8c).toArray 38)) := (Below.refl _ _).alloc (Nat.le_refl _) _
  have HKX : Hid (KeyAt (w.alloc (.cells (x.map u8c).toArray 38)) w.heap.size x) := hide ⟨Blk.made w _ _, hx⟩
  have HR := hide (h.below hB)
  have HH := hide (rhasB _ z R x hx HR.out (by omega))
  rw [decide_eq_false hin] at HH
  have HB := hide hB
  have HIn := hide hin
  clear h hB hl hin
  show Calls Try.prog 28 #[.pointer (some ⟨z, 0, none⟩), .agg (x.map u8c).toArray] w _
  go_enter Try.func28, Try.ntmps28
  go_wp2_with (first | ((with_reducible refine wpList_key (.tmp 3) w.heap.size x HKX.out ?_ ?_ ?_ ?_); rfl; rfl; rfl) | (go_at_call 18; (with_reducible refine HH.out.mono ?_); rintro e w2 ⟨rfl, hb2⟩))
  go_ret
  refine ⟨by rw [decide_eq_false HIn.out]; rfl, ?_, grownBy_below (HB.out.trans (hb2.mono HB.out.size))⟩
  rw [delK_no HIn.out]
  exact HR.out.below hb2
theorem rdel_yes (w : World) (z : Nat) (ao : Option Addr) (n c : Nat) (R : List (List UInt8)) (x : List UInt8) (hx : x.length = 32) (h : RsAt w z ao n c R) (hl : n ≤ 4398046510976) (hin : x ∈ R) : Calls Try.prog 28 #[.pointer (some ⟨z, 0, none⟩), keyV x] w (RdelB w z R x) := by
  obtain ⟨W, hW⟩ : ∃ W, W = w.alloc (.cells (x.map u8c).toArray 38) := ⟨_, rfl⟩
  have hB : Below w.heap.size w W := by rw [hW]; exact (Below.refl _ _).alloc (Nat.le_refl _) _
  have HRw : Hid (RwS w z w.heap.size ao n c R x W) := hide ⟨h.below hB, by rw [hW]; exact ⟨Blk.made w _ _, hx⟩, hB⟩
  have HH := hide (rhas_any W z ao n c R x hx HRw.out.rs (by omega))
  rw [decide_eq_true hin] at HH
  have HX := hide hx
  have HIn := hide hin
  have HN := hide h.len
  have H32 := hide h.row.len
  have HKX := hide HRw.out.key
  clear h hB hx hin
  show Calls Try.prog 28 #[.pointer (some ⟨z, 0, none⟩), .agg (x.map u8c).toArray] w _
  go_enter Try.func28, Try.ntmps28
  go_upto_region 1 with fail
  rw [← hW]
  clear hW
  obtain ⟨zk, hzk⟩ : ∃ zk, zk = w.heap.size := ⟨_, rfl⟩
  rw [← hzk] at HRw HKX ⊢
  have HZK := hide hzk
  clear hzk
  go_upto_region 5 with (first | ((with_reducible refine wpList_key (.tmp 3) zk x HKX.out ?_ ?_ ?_ ?_); rfl; rfl; rfl) | (go_at_call 18; (with_reducible refine HH.out.mono ?_); rintro e W0 ⟨rfl, hb2⟩; have HB2 := hide hb2; clear hb2))
  have HR0 := hide (HRw.out.below HB2.out)
  clear HH HKX HRw HB2
  obtain ⟨B0, hB0⟩ : ∃ B0, B0 = W0.heap.size := ⟨_, rfl⟩
  have HB0 := hide hB0
  have HRF : Hid (∀ w', Below B0 W0 w' → RwS w z zk ao n c R x w') := hide (fun w' hb => HR0.out.below (by rw [← hB0]; exact hb))
  have HZR : Hid (z < B0) := hide (by rw [hB0]; exact HR0.out.rs.blk.lt)
  have HW0 : Hid (Below w.heap.size w W0) := hide HR0.out.bel
  clear hB0 HR0
  go_loopw [5, 6] (fun t u wr => ∃ (i : Nat) (am : Option Addr) (mm cap : Nat), u = .int .i64 i ∧ i ≤ n ∧ t = .slice am mm cap ∧ mm = (delK x (R.take i)).length ∧ OwnQ wr B0 (.slice am mm cap) (delK x (R.take i)) ∧ Below B0 W0 wr) (fun _ u _ => n - (intOf u).toNat)
  case atStart => exact ⟨0, none, 0, 0, rfl, by omega, rfl, rfl, World.ownsRow_nil _ _ _ _, by rw [HB0.out]; exact Below.refl _ _⟩
  case round =>
    obtain ⟨i, am, mm, cap, rfl, hi, rfl, hmm, hO, hBr⟩ := hrel
    obtain ⟨M, hM⟩ : ∃ M, M = delK x (R.take i) := ⟨_, rfl⟩
    rw [← hM] at hmm hO
    have HME := hide hM
    have HMM := hide hmm
    have HBwr := hide hBr
    have HOwr := hide hO
    have HML : Hid (M.length + 2 ≤ 4398046511104) := hide (by have h1 := delK_len x (R.take i); have h2 := take_len_le (R := R) i; rw [← hM] at h1; have := HN.out; omega)
    have cz : wr.cell? ⟨z, 0, none⟩ = some (.slice ao n c) := by rw [(HRF.out wr hBr).rs.blk.cell]; rfl
    clear hmm hO hBr hM
    by_cases hlt : i < n
    · have hii : (i : Int) < (n : Int) := by omega
      have hil : i < R.length := by rw [← HN.out]; exact hlt
      obtain ⟨y, hy⟩ : ∃ y, y = R[i] := ⟨_, rfl⟩
      obtain ⟨g, o, rfl, hrd⟩ := (HRF.out wr HBwr.out).rs.row.at' i hil
      have hyl : y.length = 32 := by rw [hy]; exact H32.out _ (List.getElem_mem _)
      rw [← hy] at hrd
      have HRD : Hid (∀ w', Below B0 W0 w' → w'.rangeAt g (o + i * 32) (y.map u8c) ∧ KeyAt w' zk x ∧ w'.cell? ⟨z, 0, none⟩ = some (.slice (some ⟨g, o, none⟩) n c)) := hide (fun w' hb => by
        obtain ⟨g', o', e', h2⟩ := (HRF.out w' hb).rs.row.at' i hil
        cases e'
        exact ⟨by rw [hy]; exact h2, (HRF.out w' hb).key, by rw [(HRF.out w' hb).rs.blk.cell]; rfl⟩)
      have HY := hide hyl
      have HYE : Hid (∀ h : i < R.length, y = R[i]) := hide (fun _ => hy)
      have HIL := hide hil
      clear hrd hyl hy hil
      go_upto_region 7 with fail
      have HRG := hide (range_regrown (HRD.out _ HBwr.out).1)
      have HKG := hide (range_regrown (range_blk (HRD.out _ HBwr.out).2.1.1))
      have czr := fun d os => cell_regrown (HRD.out _ HBwr.out).2.2 d os
      clear cz
      refine wp_region_quiet_below (by kernel_rfl) (by kernel_rfl) ?_
      iterate 6 quiet_step (fail)
      refine wpQuiet_val (keyV y) rfl (fun w0 hw => ?_) ?_
      · obtain ⟨p0, rfl⟩ := hw
        exact run_loadK rfl rfl HY.out (HRG.out _ _)
      refine wpQuiet_val (keyV x) rfl (fun w0 hw => ?_) ?_
      · obtain ⟨p0, rfl⟩ := hw
        refine run_loadK rfl rfl HX.out ?_
        have := HKG.out p0.d p0.os
        rwa [List.toList_toArray] at this
      refine wpQuiet_val (.bool (!(y == x))) rfl (fun w0 _ => run_neqKK rfl rfl rfl HY.out HX.out w0) ?_
      refine wpQuiet_nil ?_
      intro wd hw1
      have hb1 : RowKit.Below wr.heap.size wr wd := below_of hw1
      have HBwd : Hid (Below B0 W0 wd) := hide (HBwr.out.trans (hb1.mono (by have := HBwr.out.size; have := HB0.out; omega)))
      have HOwd := hide (HOwr.out.below hb1)
      clear hw1 hb1 HOwr HBwr HRG HKG czr
      cases he : (y == x) with
      | false =>
        have HE := hide (delK_in HIL.out (HYE.out HIL.out) he)
        rw [← HME.out] at HE
        clear he
        go_upto_region 8 with fail
        have HRY := hide (HRD.out _ HBwd.out).1
        have cz := (HRD.out _ HBwd.out).2.2
        have HL_wz : Hid ((M).length + 1 ≤ 4398046511104) := hide (by have := HMM.out; have := HML.out; first | omega | (simp only [List.length_append, List.length_singleton]; omega))
        have HZ_wz : Hid (B0 ≤ (wd.alloc (.cells (y.map u8c).toArray 38)).heap.size) := hide (by have := HBwd.out.size; have := HB0.out; simp; omega)
        have HOA_wz : Hid (OwnQ (wd.alloc (.cells (y.map u8c).toArray 38)) B0 (.slice am mm cap) (M)) := hide (HOwd.out.below ((Below.refl _ _).alloc (Nat.le_refl _) _))
        have HBK_wz : Hid (Blk (wd.alloc (.cells (y.map u8c).toArray 38)) wd.heap.size (y.map u8c).toArray 38) := hide (Blk.made wd _ _)
        go_upto_region 6 with (first | ((with_reducible refine wpList_load_keyAt (.tmp 35) g (o + i * 32) y HY.out HRY.out ?_ ?_ ?_ ?_); rfl; rfl; rfl) | ((with_reducible refine wpList_bsQ (.tmp 36) y HY.out ?_ ?_ ?_ ?_); rfl; rfl; rfl) | ((with_reducible refine wpList_appendQ ?_ (.tmp 29) (.tmp 37) ?_ B0 (.slice am mm cap) (M) ?_ HOA_wz.out wd.heap.size ?_ y HY.out HBK_wz.out HL_wz.out HZ_wz.out ?_); rfl; rfl; rfl; rfl; intro v_wz wz O_wz G_wz))
        have HBwz : Hid (Below B0 W0 wz) := hide (by
          have ha : Below wd.heap.size wd (wd.alloc (.cells (y.map u8c).toArray 38)) := (Below.refl _ _).alloc (Nat.le_refl _) _
          have hown := HOA_wz.out.own
          have h3 : Below B0 (wd.alloc (.cells (y.map u8c).toArray 38)) wz := (Below.refl _ _).grown G_wz.out HZ_wz.out (fun g hg => hown g hg)
          exact (HBwd.out.trans (ha.mono (by have := HBwd.out.size; have := HB0.out; omega))).trans h3)
        obtain ⟨amwz, capwz, hv_wz, _⟩ := O_wz.out.form
        subst hv_wz
        obtain ⟨mwz, hm_wz⟩ : ∃ q, q = (M ++ [y]).length := ⟨_, rfl⟩
        have HMwz := hide hm_wz
        rw [← hm_wz] at O_wz ⊢
        have HOwz := O_wz
        clear HL_wz HZ_wz HOA_wz HBK_wz G_wz hm_wz O_wz
        clear cz HRY
        go_wp2
        exact ⟨⟨i + 1, amwz, mwz, capwz, by go_num, by omega, rfl, by rw [HE.out]; exact HMwz.out, by rw [HE.out]; exact HOwz.out, HBwz.out⟩, by simp [intOf]; omega⟩
      | true =>
        have HE := hide (delK_out HIL.out (HYE.out HIL.out) he)
        rw [← HME.out] at HE
        clear he
        go_wp2
        exact ⟨⟨i + 1, am, mm, cap, by go_num, by omega, rfl, by rw [HE.out]; exact HMM.out, by rw [HE.out]; exact HOwd.out, HBwd.out⟩, by simp [intOf]; omega⟩
    · have hii : ¬ (i : Int) < (n : Int) := by omega
      have HE : Hid (M = delK x R) := hide (by rw [HME.out, List.take_of_length_le (by have := HN.out; omega)])
      clear hlt
      go_upto_region 9 with fail
      have czf := (HRF.out wr HBwr.out).rs.blk.frozen 0
      have HKR : Hid (KRow wr am (delK x R)) := hide (ownQ_krow (n := mm) (cap := cap) (B := B0) (by intro q hq; exact H32.out q ((mem_delK x R q).1 hq).1) (by rw [← HE.out]; exact HOwr.out))
      have HFin := hide (radd_fin rfl HW0.out HBwr.out HB0.out HZR.out (HRF.out wr HBwr.out).rs.blk HKR.out (show mm = (delK x R).length by rw [HMM.out, HE.out]) cap)
      clear HKR HOwr
      go_wp2
      go_ret
      exact ⟨by rw [decide_eq_true HIn.out]; rfl, ⟨am, mm, cap, HFin.out.1⟩, HFin.out.2⟩
theorem rdel_any (w : World) (z : Nat) (R : List (List UInt8)) (x : List UInt8) (hx : x.length = 32) (h : RsB w z R) (hl : R.length ≤ 4398046510976) : Calls Try.prog 28 #[.pointer (some ⟨z, 0, none⟩), keyV x] w (RdelB w z R x) := by
  by_cases hin : x ∈ R
  · obtain ⟨ao, n, c, h⟩ := h
    exact rdel_yes w z ao n c R x hx h (by have := h.len; omega) hin
  · exact rdel_no w z R x hx h hl hin
end Go.Proofs.Ytnloglecfbhpcaa
