/- All lengths: the document's way. -/
import Derived.Test.YtamajnaeladehaaDoorGF9
namespace Go.Proofs.YtamajnaeladehaaDoor
set_option linter.unusedVariables false
set_option linter.unusedSimpArgs false
open Go.RowKit

set_option maxRecDepth 20000 in
set_option maxHeartbeats 2000000 in
theorem rcut_any (w : World) (mn me mx : Int) (v : Value) (xs : List UInt8) (hv : RdA w v xs) (hx2 : xs.length ≤ 17592186043000) : Calls Tryd.prog 9 #[cutV mn me mx, v] w (CutC w mn me mx xs) := by
  have HCh := hide (fun w => rcheck_any mn me mx w)
  have HB0 : Hid (Below (w.heap.size + 1) (w.alloc (.cells #[.int .i64 mn, .int .i64 me, .int .i64 mx] 23)) (w.alloc (.cells #[.int .i64 mn, .int .i64 me, .int .i64 mx] 23))) := hide (Below.refl _ _)
  have HB00 := hide ((Below.refl w.heap.size w).alloc (Nat.le_refl _) (.cells #[.int .i64 mn, .int .i64 me, .int .i64 mx] 23))
  have HL0 : Hid (CutAt (w.alloc (.cells #[.int .i64 mn, .int .i64 me, .int .i64 mx] 23)) w.heap.size mn me mx) := hide (Blk.made w #[.int .i64 mn, .int .i64 me, .int .i64 mx] 23)
  have HS0 : Hid ((w.alloc (.cells #[.int .i64 mn, .int .i64 me, .int .i64 mx] 23)).heap.size = w.heap.size + 1) := hide (by simp)
  have HR := hide (hv.below HB00.out)
  unfold cutV
  cases hm : mayB mn me mx with
  | false =>
    have hc : chk mn me mx = 50 := by simp [chk, hm]
    have HF : Hid (cutR mn me mx xs = []) := hide (by simp [cutR, hm])
    rw [hc] at HCh
    have HC := hide hc
    clear hc hm hv
    go_enter Tryd.func9, Tryd.ntmps9
    go_wp2_with fail
    refine (HCh.out _).mono ?_
    rintro e w1 ⟨rfl, hb1⟩
    have HB1 := hide (HB00.out.trans (hb1.mono HB00.out.size))
    clear hb1
    go_wp2
    go_ret2
    exact ⟨_, by rw [HC.out]; rfl, by rw [HF.out]; exact World.ownsRow_nil _ _ _ _, HB1.out⟩
  | true =>
    have hc : chk mn me mx = 0 := by simp [chk, hm]
    have HF : Hid (cutR mn me mx xs = cutL mn me mx xs) := hide (by simp [cutR, hm])
    rw [hc] at HCh
    have HC := hide hc
    have HM := hide hm
    obtain ⟨ao, c, rfl, hxl⟩ := hv.slice
    obtain ⟨W0, hW0⟩ : ∃ W0, W0 = w.alloc (.cells #[.int .i64 mn, .int .i64 me, .int .i64 mx] 23) := ⟨_, rfl⟩
    clear hc hm hv
    go_enter Tryd.func9, Tryd.ntmps9
    go_wp2_with fail
    rw [← hW0] at HR HB0 HL0 HB00 HS0 ⊢
    refine (HCh.out _).mono ?_
    rintro e w1 ⟨rfl, hb1⟩
    rw [HS0.out] at hb1
    have HB1 := hide hb1
    have HL1 := hide (HL0.out.below (hb1.mono (by rw [HS0.out]; exact Nat.le_refl _)))
    clear hb1 HB0 HL0 hW0
    go_wp2
    go_loopw [6, 7] (fun lv iv wr => ∃ (va : Value) (k : Nat) (done : List Int), va = lv ∧ k ≤ xs.length ∧ iv = .int .i64 k ∧ OwnsI wr (w.heap.size + 1) va done ∧ done.length ≤ k ∧ cutL mn me mx xs = done ++ cutL mn me mx (xs.drop k) ∧ CutAt wr w.heap.size mn me mx ∧ Below (w.heap.size + 1) W0 wr) (fun _ i _ => xs.length - (intOf i).toNat)
    case atStart =>
      exact ⟨_, 0, [], rfl, by omega, rfl, World.ownsRow_nil _ _ _ _, by simp, by simp, HL1.out, HB1.out⟩
    case round =>
      clear HL1 HB1
      obtain ⟨va, k, done, rfl, hk, rfl, hO, hdl, hcut, hL, hB⟩ := hrel
      have HL := hide hL
      have HB := hide hB
      have HO := hide hO
      have HRr := hide (HR.out.below (show Below W0.heap.size W0 wr by rw [HS0.out]; exact hB))
      have HCu := hide hcut
      have hsz : w.heap.size + 1 ≤ wr.heap.size := by rw [← HS0.out]; exact hB.size
      clear hL hB hO hcut
      by_cases hlt : k < xs.length
      · have hki : (k : Int) < xs.length := by omega
        have hww := below_regrown wr
        have HLd := hide (fun d os => loadAt_cut (HL.out.below (hww d os)))
        have hdl2 : ((xs.drop k).take (xs.length - k)) = xs.drop k := List.take_of_length_le (by rw [List.length_drop]; exact Nat.le_refl _)
        have HFi := hide (fun d os => rfirst_any (Sort.grow (redrawn wr d) os) mn me mx (sliced ao k xs.length c 1) _ ((HRr.out.below (hww d os)).sliced k xs.length (by omega) (Nat.le_refl _)) (by rw [hdl2, List.length_drop]; omega))
        rw [hdl2] at HFi
        have HSl := hide (fun W => slice_lo ao xs.length c k (by omega) (k : Int) rfl W)
        obtain ⟨sv, hsv⟩ : ∃ sv, sv = sliced ao k xs.length c 1 := ⟨_, rfl⟩
        rw [← hsv] at HFi HSl
        have hb := firstP_bounds HM.out (xs.drop k) (by rw [List.length_drop]; omega)
        have HCc := hide (cutL_cons HM.out (xs.drop k) (by rw [List.length_drop]; omega))
        obtain ⟨n, hn⟩ : ∃ n, n = (firstP mn me mx (xs.drop k)).1 := ⟨_, rfl⟩
        obtain ⟨f, hf⟩ : ∃ f, f = (firstP mn me mx (xs.drop k)).2 := ⟨_, rfl⟩
        have hpr : pairV (firstP mn me mx (xs.drop k)) = .tuple #[.int .i64 (n : Int), .bool f] := by rw [hn, hf]; rfl
        rw [hpr] at HFi
        rw [← hn] at hb HCc
        rw [List.length_drop] at hb
        rw [List.drop_drop] at HCc
        clear hn hf hpr hdl2 hsv hww
        go_wp2
        refine wp_region_quiet_below (by kernel_rfl) (by kernel_rfl) ?_
        refine wpQuiet_val (cutV mn me mx) rfl (fun w hw => ?_) ?_
        · obtain ⟨p, rfl⟩ := hw
          exact run_load rfl rfl (HLd.out _ _)
        quiet_step (fail)
        quiet_step (fail)
        refine wpQuiet_val sv rfl (fun w hw => ?_) ?_
        · exact run_sliceLo rfl rfl rfl (HSl.out w)
        quiet_step (exact Calls.regrown_of (HFi.out _ _))
        quiet_step (fail)
        quiet_step (fail)
        quiet_step (fail)
        quiet_step (fail)
        quiet_step (fail)
        refine wpQuiet_nil ?_
        intro w2 hw'
        obtain ⟨⟨dq, osq⟩, hw''⟩ := hw'
        have hb2 := below_regrown wr dq osq
        rw [← hw''] at hb2
        clear hw''
        have HO2 := hide (HO.out.below hb2)
        have HL2 := hide (HL.out.below hb2)
        have hsz2 : w.heap.size + 1 ≤ w2.heap.size := Nat.le_trans hsz hb2.size
        have HBB := hide (HB.out.trans (hb2.mono hsz))
        clear hb2
        go_wp2_with (at_builtin; refine wpList_append_int rfl _ _ rfl (w.heap.size + 1) _ done rfl ?d1 w2.heap.size 1 rfl (n : Int) (n : Int) rfl ?d2 ?d3 ?d4 ?_)
        case d1 => exact HO2.out.below ((Below.refl _ _).alloc (Nat.le_refl _) _)
        case d2 => exact (Blk.made w2 _ _).cell 0
        case d3 => omega
        case d4 => simp; omega
        intro v' w3 HO3 HG3 HX3
        have HL3 : Hid (CutAt w3 w.heap.size mn me mx) := hide (CutAt.grown (Blk.alloc HL2.out _) HG3.out (fun e => by have := (owns_lt HO2.out _ e.symm).1; omega))
        have HB3 := hide (own_below (HBB.out.alloc hsz2 _) (OwnsI.below HO2.out ((Below.refl _ _).alloc (Nat.le_refl _) _)) (by simp; omega) HG3.out)
        clear HL2 HO2 HBB HG3 HX3 HFi
        go_wp2
        refine ⟨⟨_, k + n, done ++ [(n : Int)], rfl, by omega, by go_num, HO3.out, by simp; omega, ?_, HL3.out, HB3.out⟩, by simp [intOf]; omega⟩
        rw [HCu.out, HCc.out]; simp
      · have hki : ¬ (k : Int) < xs.length := by omega
        have hk0 : k = xs.length := by omega
        have HFin : Hid (done = cutR mn me mx xs) := hide (by rw [HF.out, HCu.out, hk0, List.drop_of_length_le (Nat.le_refl _), cutL_nil, List.append_nil])
        clear hk0
        go_wp2
        go_ret2
        refine ⟨_, by rw [HC.out]; rfl, ?_, ?_⟩
        · rw [← HFin.out]; exact own_base HO.out (by omega)
        · exact HB00.out.trans (HB.out.mono (by omega))
end Go.Proofs.YtamajnaeladehaaDoor
