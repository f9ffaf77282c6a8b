/- Short, for sets that may be nil. -/
import Derived.Test.YtnloglecfbhpcaaKQ0
import Derived.Test.YtnloglecfbhpcaaKS7
namespace Go.Proofs.Ytnloglecfbhpcaa
set_option linter.unusedVariables false
set_option linter.unusedSimpArgs false
open Go.RowKit Go.Shelf
set_option maxRecDepth 100000
attribute [local go_sem] Oper.semAt_some

set_option maxHeartbeats 4000000 in
theorem short_in (w : World) (q : Option Addr) (S : List (List UInt8)) (k : List UInt8) (hk : k.length = 32) (hin : k ∈ S) (hA : SetQ w q S) (hn : S.length ≤ 4398046510976) : Calls Try.prog 23 #[.pointer q, keyV k] w (ShortC w S k) := by
  obtain ⟨N, hN⟩ : ∃ N, N = w.heap.size := ⟨_, rfl⟩
  have HW : Hid (∀ W, W = w.alloc (.cells (k.map u8c).toArray 38) → KeyAt W N k ∧ Below N w W ∧ SetQ W q S) := hide (fun W e => by
    subst e
    have b1 : Below w.heap.size w (w.alloc (.cells (k.map u8c).toArray 38)) := (Below.refl _ _).alloc (Nat.le_refl _) _
    rw [hN]
    exact ⟨⟨Blk.made w _ _, hk⟩, b1, hA.below b1⟩)
  have HN := hide hN
  have HLn := hide hn
  have HIn := hide hin
  have HK32 := hide hk
  clear hA hn hin
  unfold keyV
  refine (callsIn_wide (n := 5)).1 ?_
  refine callsIn_of_wp_marks Try.func23 rfl trivial ?_ rfl
  refine wpIn_wide.2 ?_
  simp only [Try.ntmps23, List.size_toArray, List.length_cons, List.length_nil, Nat.reduceAdd, Nat.reduceSub, Array.replicate_succ, Array.replicate_zero, List.push_toArray, List.append_toArray, List.nil_append, List.cons_append]
  go_upto_region 1 with fail
  rw [← hN]
  clear hN
  refine name_worldK (fun W => KeyAt W N k ∧ Below N w W ∧ SetQ W q S) (HW.out _ rfl) ?_
  rintro W0 ⟨hk0, hb0, hs0⟩
  have HHas := hide (has_q W0 q S k HK32.out hs0)
  rw [show decide (k ∈ S) = true from decide_eq_true HIn.out] at HHas
  have HK0 := hide hk0
  have HB0 := hide hb0
  have HS0 := hide hs0
  clear HW hk0 hb0 hs0
  go_upto_region 3 with (first | ((with_reducible refine wpList_key (.tmp 3) N k HK0.out ?_ ?_ ?_ ?_); rfl; rfl; rfl) | (go_at_call 13; refine HHas.out.mono ?_; rintro e w1 ⟨rfl, hb1⟩; have HB1 := hide hb1; clear hb1))
  obtain ⟨n1, hn1⟩ : ∃ n1, n1 = w1.heap.size := ⟨_, rfl⟩
  have HW1 : Hid (∀ W, W = w1.alloc (.cells #[.int .i64 4] 3) → ShS w N n1 k [] W ∧ SetQ W q S) := hide (fun W e => by
    subst e
    have b1 : Below w1.heap.size w1 (w1.alloc (.cells #[.int .i64 4] 3)) := (Below.refl _ _).alloc (Nat.le_refl _) _
    have k1 := HK0.out.below HB1.out
    have hz := k1.1.lt
    rw [hn1]
    exact ⟨⟨k1.below b1, ⟨4, Blk.made w1 _ _, ShO.nil k⟩, (HB0.out.trans (HB1.out.mono (by have := HK0.out.1.lt; omega))).trans (b1.mono (by omega)), hz⟩, (HS0.out.below HB1.out).below b1⟩)
  clear HHas HK0 HB0 HS0 HB1
  go_upto_region 4 with fail
  rw [← hn1]
  clear hn1
  refine name_worldK (fun W => ShS w N n1 k [] W ∧ SetQ W q S) (HW1.out _ rfl) ?_
  rintro W2 ⟨hU2, hS2⟩
  have HAl := hide (all_q W2 q S hS2 (by have := HLn.out; omega))
  have HU2 := hide hU2
  clear HW1 hU2 hS2
  go_upto_region 5 with (go_at_call 11; refine HAl.out.mono ?_; rintro e w3 ⟨b3, ao, cap, ks, rfl, k1, k2, k3, k4, k5, k6⟩; have K1 := hide k1; have K2 := hide k2; have K3 := hide k3; have K4 := hide k4; have K5 := hide k5; have K6 := hide k6; clear k1 k2 k3 k4 k5 k6; unfold riF)
  have HU3 := hide (HU2.out.below K6.out)
  have hN3 : N ≤ w3.heap.size := by have := HU3.out.kb.1.lt; omega
  have HNe : Hid (ks ≠ [] → n1 ≠ gOf ao) := hide (fun h0 => by
    obtain ⟨m, h1, _⟩ := HU3.out.nb
    exact krow_ne_int K2.out h1 h0)
  have HKL : Hid (ks.length ≤ S.length) := hide (by
    exact List.Nodup.length_le_of_subset (rising_nodup K3.out) (fun y hy => ((K4.out y).1 hy).2))
  clear HAl HU2 K5 K6
  refine (wpIn_wide (n := 5)).1 ?_
  refine wpIn_rangeKl rfl (by omega) (gf := 36) (lb := #[.pointer (some ⟨b3, 0, none⟩)]) rfl trivial (enters_of Try.func36 (by kernel_rfl) rfl) (rising_fit (5 - 1) w3 b3 ao cap ks K1.out K2.out (by have := HKL.out; have := HLn.out; omega)) (Below.refl _ _) (KeepR.keeping (gOf ao)) (fun _ => rfl)
    (fun pre W => ShS w N n1 k pre W)
    (fun _ _ _ => False)
    (ShS.ownFrom hN3)
    (fun _ _ _ _ _ h _ _ => h)
    HU3.out (fun A B h => KeepR.below h) ?round ?done ?stop
  case round =>
    rintro l pre x Wp W1 hU1 hbW hfit
    have HC1 := hide (hU1.below hbW)
    have HX := hide x.2
    have hlen := hfit.length_le
    have HNg := hide (HNe.out (by intro e; rw [e] at hlen; simp at hlen))
    clear hU1 hbW hfit hlen
    refine ⟨fun a₁ W₂ => a₁ = { tmps := #[.pointer q, .agg (k.map u8c).toArray, undef, .pointer (some ⟨N, 0, none⟩), .string ⟨#[]⟩, .int .i64 0, .pointer (some ⟨n1, 0, none⟩), .pointer (some ⟨W1.heap.size, 0, none⟩), .pointer q, keyV k, .bool true, .bool false, .pointer q, .func (.func 36) #[] #[.pointer (some ⟨b3, 0, none⟩)], keyV x.1, undef, undef, undef, undef, undef, undef, undef, undef, undef, undef, undef, undef, undef], defers := [] } ∧ KeyAt W₂ W1.heap.size x.1, ?asg, ?bd⟩
    case asg =>
      intro K hK
      unfold keV
      simp only [List.zip_toArray, List.zip_cons_cons, List.zip_nil_right, List.foldl_toArray, List.foldl_cons, List.foldl_nil, List.setIfInBounds_toArray, List.set_cons_succ, List.set_cons_zero]
      gi_wp2_with ((with_reducible refine wpListIn_put_keyK ?_ (.tmp 7) (.tmp 14) ?_ W1.heap.size ?_ W1 ?_ ?_ x.1 HX.out ?_ ?_); rfl; rfl; rfl; rfl; rfl; rfl; intro w2 HK2 hb2)
      exact hK _ _ ⟨rfl, HK2.out⟩ hb2
    case bd =>
      rintro a₁ W₂ q o' ⟨rfl, hk⟩ hb2 hlo hle
      have hC2 := HC1.out.below hb2
      have hC3 : ShS w N n1 k pre (W₂.putObj l o') := (ShS.ownFrom hN3).putObj o' hC2 hle hlo rfl
      have hne : W1.heap.size ≠ l := fun e => by
        have h1 := hk.1
        unfold Blk at h1
        rw [e, hlo] at h1
        cases h1
      have hk3 : KeyAt (W₂.putObj l o') W1.heap.size x.1 := ⟨(World.putObj_heap_other hne).trans hk.1, hk.2⟩
      refine name_worldInK' (fun V => ShS w N n1 k pre V ∧ KeyAt V W1.heap.size x.1) ⟨hC3, hk3⟩ ?_
      rintro V ⟨hCV, hKV⟩
      have HCV := hide hCV
      have HKV := hide hKV
      have HKB := hide hCV.kb
      have hg1 := keysGuard .neq x.1 k
      have hn1 := keysNeq x.1 k x.2 HK32.out
      clear hC2 hC3 hne hk3 hk hb2 hlo hle hCV hKV
      by_cases hxk : x.1 = k
      · have HE := hide (show ShS w N n1 k (pre ++ [x]) V from by
          obtain ⟨m, h1, h2⟩ := HCV.out.nb
          exact ⟨HCV.out.kb, ⟨m, h1, h2.same x hxk⟩, HCV.out.bel, HCV.out.ne⟩)
        rw [show (x.1 == k) = true from beq_iff_eq.2 hxk] at hn1
        clear hxk
        gi_wp2_with (first | ((with_reducible refine wpListIn_keyK (.tmp 7) W1.heap.size x.1 HKV.out ?_ ?_ ?_ ?_); rfl; rfl; rfl) | ((with_reducible refine wpListIn_keyK (.tmp 3) N k HKB.out ?_ ?_ ?_ ?_); rfl; rfl; rfl))
        exact ⟨KeepsLD.below (Below.refl _ _), KeepR.below (Below.refl _ _), HE.out⟩
      · rw [show (x.1 == k) = false from beq_eq_false_iff_ne.2 hxk] at hn1
        have HXK := hide hxk
        clear hxk
        gi_wp2_with (first | ((with_reducible refine wpListIn_keyK (.tmp 7) W1.heap.size x.1 HKV.out ?_ ?_ ?_ ?_); rfl; rfl; rfl) | ((with_reducible refine wpListIn_keyK (.tmp 3) N k HKB.out ?_ ?_ ?_ ?_); rfl; rfl; rfl))
        obtain ⟨j, hj⟩ := shK_ex HK32.out HX.out (fun e => HXK.out e.symm)
        have HCs := hide (fun dd os => shared_at HK32.out HX.out (fun e => HXK.out e.symm) hj (Sort.grow (redrawn V dd) os))
        have HMk := hide (fun dd os => (HKB.out.below (below_regrown V dd os)).load)
        have HMx := hide (fun dd os => (HKV.out.below (below_regrown V dd os)).load)
        obtain ⟨m, hm1, hm2⟩ := HCV.out.nb
        have HNx := hide (hm2.next x HK32.out HXK.out hj)
        have HM1 := hide hm1
        have c6 : V.cell? ⟨n1, 0, none⟩ = some (.int .i64 m) := by rw [hm1.cell]; rfl
        have x6 := fun d os => cell_regrown c6 d os
        have hml := hm2.le
        have hjl := hj.lt
        clear hg1 hn1 c6 hm1 hm2 hj
        refine wpIn_round_tail 6 (by kernel_rfl) (by kernel_rfl) (by kernel_rfl) ?_
        quiet_step (fail)
        refine wpQuiet_val (keyV k) rfl (fun w hw => ?_) ?_
        · obtain ⟨p, rfl⟩ := hw
          exact run_load rfl rfl (HMk.out _ _)
        refine wpQuiet_val (keyV x.1) rfl (fun w hw => ?_) ?_
        · obtain ⟨p, rfl⟩ := hw
          exact run_load rfl rfl (HMx.out _ _)
        quiet_step (exact Calls.regrown_of (HCs.out _ _))
        quiet_step (fail)
        quiet_step (fail)
        refine wpQuiet_nil ?_
        intro w10 hw'
        obtain ⟨m', hm'⟩ : ∃ m', m' = max m (j + 1) := ⟨_, rfl⟩
        rw [← hm'] at HNx
        rw [show max ((m : Nat) : Int) (IntKind.i64.wrap ((j : Int) + 1)) = ((m' : Nat) : Int) from by
          rw [hm', show IntKind.i64.wrap ((j : Int) + 1) = (j : Int) + 1 from by simp [go_sem, IntKind.wrap]; omega]
          omega]
        obtain ⟨⟨dq, osq⟩, hw''⟩ := hw'
        have hb10 := below_regrown V dq osq
        rw [← show w10 = Sort.grow (redrawn V dq) osq from hw''] at hb10
        have hC10 := HCV.out.below hb10
        have hM10 := HM1.out.below hb10 HM1.out.lt
        have c10 : w10.cell? ⟨n1, 0, none⟩ = some (.int .i64 m) := by rw [hM10.cell]; rfl
        have f10 := hM10.frozen 0
        have l10 := hM10.lt
        have HE : Hid (ShS w N n1 k (pre ++ [x]) (w10.setCell ⟨n1, 0, none⟩ (.int .i64 (m' : Int)))) := hide ⟨hC10.kb.set _ _ (Nat.ne_of_lt hC10.ne), ⟨m', hM10.set 0 _, HNx.out⟩, hC10.bel.setCell (Nat.le_of_lt hC10.ne) _, hC10.ne⟩
        have HKL1 : Hid (KeepsLD V (w10.setCell ⟨n1, 0, none⟩ (.int .i64 (m' : Int)))) := hide ((KeepsLD.below hb10).trans (KeepsLD.grown (grownBy_set _ _ _ _) (fun q e => by have h := hM10; unfold Blk at h; rw [h] at e; cases e) (fun q e => by have h := hM10; unfold Blk at h; rw [h] at e; cases e)))
        have HKR1 : Hid (KeepR (gOf ao) V (w10.setCell ⟨n1, 0, none⟩ (.int .i64 (m' : Int)))) := hide ((KeepR.below hb10).trans (KeepR.grown (grownBy_set _ _ _ _) (fun e => HNg.out (Option.some.inj e))))
        clear hw'' hb10 hC10 hM10 HM1 x6 HNx HCs HMk HMx hm'
        gi_wp2
        exact ⟨HKL1.out, HKR1.out, HE.out⟩
  case stop =>
    rintro D c pre W3 hD hS hK
    exact hS.elim
  case done =>
    rintro D xs W4 hD hxs hU4 hK4
    obtain ⟨m, hm1, hm2⟩ := hU4.nb
    have HC := hide (fun dd os => hex_any k HK32.out (Sort.grow (redrawn W4 dd) os))
    have HML := hide (fun dd os => (hU4.kb.below (below_regrown W4 dd os)).load)
    have c6 : W4.cell? ⟨n1, 0, none⟩ = some (.int .i64 m) := by rw [hm1.cell]; rfl
    have x6 := fun d os => cell_regrown c6 d os
    have hml := hm2.le
    have hhl : (hexOf k).length = 64 := by rw [hexOf_len, HK32.out]
    have hsz : (⟨(hexOf k).toArray⟩ : ByteArray).size = 64 := hhl
    have HM2 := hide hm2
    have HU4 := hide hU4
    have HK4 := hide hK4
    have HXS : Hid (xs.map Subtype.val = ks) := hide hxs
    clear c6 hm1 hm2 hU4 hK4 hxs
    go_upto_region 8 with fail
    refine wp_region_quiet_below (by kernel_rfl) (by kernel_rfl) ?_
    refine wpQuiet_val (keyV k) rfl (fun w hw => ?_) ?_
    · obtain ⟨p, rfl⟩ := hw
      exact run_load rfl rfl (HML.out _ _)
    quiet_step (exact Calls.regrown_of (HC.out _ _))
    quiet_step (fail)
    refine wpQuiet_val (.string ⟨((hexOf k).take m).toArray⟩) rfl (fun w hw => run_cut (hexOf k) m (by omega) rfl rfl rfl) ?_
    quiet_step (fail)
    quiet_step (fail)
    refine wpQuiet_nil ?_
    intro w10 hw'
    obtain ⟨⟨dq, osq⟩, hw''⟩ := hw'
    have hb10 := below_regrown W4 dq osq
    rw [← show w10 = Sort.grow (redrawn W4 dq) osq from hw''] at hb10
    have HD10 : Hid (w10.heap[D]? = some (.deferred (some []))) := hide (heap_grows hb10 HK4.out)
    have HR : Hid (ShortC w S k (.returned (.tuple #[.string ⟨((hexOf k).take m).toArray⟩, .int .i64 0])) (w10.putObj D (.deferred none))) := hide (by
      have hm2 := HM2.out
      refine ⟨m, rfl, hm2.ge, hm2.le, fun x hx hl hne => ?_, fun h4 => ?_, ?_⟩
      · obtain ⟨y, hy, rfl⟩ := List.mem_map.1 (show x ∈ xs.map Subtype.val by rw [HXS.out]; exact (K4.out x).2 ⟨hl, hx⟩)
        exact hm2.diff y hy hne
      · obtain ⟨y, hy, h1, h2⟩ := hm2.one h4
        have := (K4.out y.1).1 (by rw [← HXS.out]; exact List.mem_map.2 ⟨y, hy, rfl⟩)
        exact ⟨y.1, this.2, this.1, h1, h2⟩
      · rw [← HN.out]
        exact below_put (HU4.out.bel.trans (hb10.mono (by have := HU4.out.kb.1.lt; omega))) D _ (by omega))
    clear hw'' hb10 HC HML x6 HM2 HU4 HK4 hhl hsz
    go_wp2
    exact leaveT (t := 4) (u := 5) rfl HD10.out rfl rfl HR.out
end Go.Proofs.Ytnloglecfbhpcaa
