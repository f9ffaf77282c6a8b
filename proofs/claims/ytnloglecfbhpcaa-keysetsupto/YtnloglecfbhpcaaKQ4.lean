/- Find, for sets that may be nil. -/
import Derived.Test.YtnloglecfbhpcaaKQ3
namespace Go.Proofs.Ytnloglecfbhpcaa
set_option linter.unusedVariables false
set_option linter.unusedSimpArgs false
open Go.RowKit Go.Shelf
set_option maxRecDepth 100000
attribute [local go_sem] Oper.semAt_some

def FindG (w : World) (S : List (List UInt8)) (p : List UInt8) (e : Ending) (w' : World) : Prop := ∃ (k : List UInt8) (m : Int), e = .returned (.tuple #[keyV k, .int .i64 m]) ∧ k.length = 32 ∧ Below w.heap.size w w' ∧ FindP S p k m
set_option maxHeartbeats 4000000 in
theorem find_good (w : World) (q : Option Addr) (S : List (List UInt8)) (p : List UInt8) (hp : p.length ≤ 64) (hpd : allDig p = true) (h32 : ∀ x ∈ S, x.length = 32) (hA : SetQ w q S) (hn : S.length ≤ 4398046510976) : Calls Try.prog 21 #[.pointer q, .string ⟨p.toArray⟩] w (FindG w S p) := by
  have hzk := zero_key
  obtain ⟨N, hN⟩ : ∃ N, N = w.heap.size := ⟨_, rfl⟩
  have HW : Hid (∀ W, W = ((w.alloc (.cells #[.string ⟨p.toArray⟩] 9)).alloc (.cells keyZ 38)).alloc (.cells #[.int .i64 0] 59) → (Blk W N #[.string ⟨p.toArray⟩] 9 ∧ KeyAt W (N + 1) zK ∧ Blk W (N + 2) #[.int .i64 0] 59 ∧ Below N w W ∧ SetQ W q S) ∧ N + 3 ≤ W.heap.size) := hide (fun W e => by
    subst e
    have b1 : Below w.heap.size w (((w.alloc (.cells #[.string ⟨p.toArray⟩] 9)).alloc (.cells keyZ 38)).alloc (.cells #[.int .i64 0] 59)) := (((Below.refl _ _).alloc (Nat.le_refl _) _).alloc (by simp) _).alloc (by simp; omega) _
    rw [hN]
    refine ⟨⟨((Blk.made w _ _).alloc _).alloc _, ⟨(blk_made1 w _ _ _ _).alloc _, rfl⟩, ?_, b1, hA.below b1⟩, by simp⟩
    have := Blk.made ((w.alloc (.cells #[.string ⟨p.toArray⟩] 9)).alloc (.cells keyZ 38)) #[.int .i64 0] 59
    rw [World.size_alloc, World.size_alloc] at this
    exact this)
  have HN := hide hN
  have HLn := hide hn
  have H32 := hide h32
  have HP := hide hp
  have HD := hide (fun W => digits_any p (by omega) W)
  rw [hpd] at HD
  have hpi : ¬ (64 : Int) < (p.length : Int) := by omega
  clear hA hn h32 hpd
  refine (callsIn_wide (n := 5)).1 ?_
  refine callsIn_of_wp_marks Try.func21 rfl trivial ?_ rfl
  refine wpIn_wide.2 ?_
  simp only [Try.ntmps21, List.size_toArray, List.length_cons, List.length_nil, Nat.reduceAdd, Nat.reduceSub, Array.replicate_succ, Array.replicate_zero, List.push_toArray, List.append_toArray, List.nil_append, List.cons_append]
  go_upto_region 1 with fail
  rw [← hN]
  clear hN
  refine name_worldK (fun W => (Blk W N #[.string ⟨p.toArray⟩] 9 ∧ KeyAt W (N + 1) zK ∧ Blk W (N + 2) #[.int .i64 0] 59 ∧ Below N w W ∧ SetQ W q S) ∧ N + 3 ≤ W.heap.size) (HW.out _ rfl) ?_
  rintro W0 ⟨hf0, hz0⟩
  obtain ⟨no, hno⟩ : ∃ no, no = W0.heap.size := ⟨_, rfl⟩
  have c3 : W0.cell? ⟨N, 0, none⟩ = some (.string ⟨p.toArray⟩) := by rw [hf0.1.cell]; rfl
  have l3 := hf0.1.lt
  have HW1 : Hid (∀ W, W = (W0.alloc (.cells keyZ 38)).alloc (.cells #[.bool false] 4) → FiS w N no p none W ∧ SetQ W q S) := hide (fun W e => by
    subst e
    have b1 : Below W0.heap.size W0 ((W0.alloc (.cells keyZ 38)).alloc (.cells #[.bool false] 4)) := ((Below.refl _ _).alloc (Nat.le_refl _) _).alloc (by simp) _
    obtain ⟨f1, f2, f3, f4, f5⟩ := hf0
    rw [hno]
    exact ⟨⟨f1.below b1 f1.lt, f2.below b1, f3.below b1 f3.lt, ⟨(Blk.made W0 _ _).alloc _, rfl⟩, blk_made1 W0 _ _ _ _, f4.trans (b1.mono (by omega)), hz0⟩, f5.below b1⟩)
  clear HW hf0
  go_upto_region 5 with (go_at_call 40; refine (HD.out _).mono ?_; rintro e w' ⟨rfl, hw⟩; rw [hw]; clear hw)
  rw [← hno]
  clear hno HD c3 l3 hz0
  refine name_worldK (fun W => FiS w N no p none W ∧ SetQ W q S) (HW1.out _ rfl) ?_
  rintro W2 ⟨hU2, hS2⟩
  have HAl := hide (all_q W2 q S hS2 (by have := HLn.out; omega))
  have HU2 := hide hU2
  clear HW1 hU2 hS2
  go_upto_region 6 with (go_at_call 11; refine HAl.out.mono ?_; rintro e w3 ⟨b3, ao, cap, ks, rfl, k1, k2, k3, k4, k5, k6⟩; have K1 := hide k1; have K2 := hide k2; have K3 := hide k3; have K4 := hide k4; have K5 := hide k5; have K6 := hide k6; clear k1 k2 k3 k4 k5 k6; unfold riF)
  have HU3 := hide (HU2.out.below K6.out)
  have hN3 : N ≤ w3.heap.size := by have := HU3.out.sb.lt; omega
  have HNe : Hid (ks ≠ [] → no + 1 < gOf ao) := hide (fun h0 => by
    obtain ⟨g, o, e, _⟩ := K2.out.at' 0 (by cases ks with | nil => exact absurd rfl h0 | cons => simp)
    have h1 := K5.out.2 _ e
    have h2 := HU2.out.fb.lt
    rw [e]
    show no + 1 < g
    have h3 : W2.heap.size ≤ g := h1
    omega)
  have HKL : Hid (ks.length ≤ S.length) := hide (by
    exact List.Nodup.length_le_of_subset (rising_nodup K3.out) (fun y hy => ((K4.out y).1 hy).2))
  clear HAl HU2 K5 K6
  refine (wpIn_wide (n := 5)).1 ?_
  refine wpIn_rangeKl rfl (by omega) (gf := 36) (lb := #[.pointer (some ⟨b3, 0, none⟩)]) rfl trivial (enters_of Try.func36 (by kernel_rfl) rfl) (rising_fit (5 - 1) w3 b3 ao cap ks K1.out K2.out (by have := HKL.out; have := HLn.out; omega)) (Below.refl _ _) (KeepR.keeping (gOf ao)) (fun _ => rfl)
    (fun pre W => ∃ fo, FiS w N no p fo W ∧ FiO p pre fo)
    (fun c _ W => c = .ret ∧ FiT w N 32 zK W ∧ TwoB ks p)
    (FiS.ownFrom hN3)
    (fun c => FiT.ownFrom c hN3)
    ⟨none, HU3.out, fun x hx => by cases hx⟩ (fun A B h => KeepR.below h) ?round ?done ?stop
  case round =>
    rintro l pre x Wp W1 ⟨fo, hU1, hO1⟩ hbW hfit
    have HC1 := hide (hU1.below hbW)
    have HO1 := hide hO1
    have HX := hide x.2
    have hlen := hfit.length_le
    have HNg := hide (HNe.out (by intro e; rw [e] at hlen; simp at hlen))
    have HNi : Hid (∀ y ∈ pre, y.1 ≠ x.1) := hide (fun y hy e => by
      have hnd := (rising_nodup K3.out).sublist hfit.sublist
      rw [List.map_append, List.map_singleton] at hnd
      exact (List.nodup_append.1 hnd).2.2 _ (List.mem_map.2 ⟨y, hy, rfl⟩) x.1 (by simp) e)
    have HIk : Hid (∀ y ∈ pre ++ [x], y.1 ∈ ks) := hide (fun y hy => hfit.subset (List.mem_map.2 ⟨y, hy, rfl⟩))
    clear hU1 hbW hfit hlen hO1
    refine ⟨fun a₁ W₂ => a₁ = { tmps := #[.pointer q, .string ⟨p.toArray⟩, undef, .pointer (some ⟨N, 0, none⟩), .pointer (some ⟨N + 1, 0, none⟩), .pointer (some ⟨N + 2, 0, none⟩), .pointer (some ⟨no, 0, none⟩), .pointer (some ⟨no + 1, 0, none⟩), .pointer (some ⟨W1.heap.size, 0, none⟩), .string ⟨p.toArray⟩, .int .i64 p.length, .bool false, .bool false, .string ⟨p.toArray⟩, .bool true, .bool false, .bool false, undef, .pointer q, .func (.func 36) #[] #[.pointer (some ⟨b3, 0, none⟩)], keyV x.1, undef, undef, undef, undef, undef, undef, undef, undef, undef, undef, undef], defers := [] } ∧ KeyAt W₂ W1.heap.size x.1, ?asg, ?bd⟩
    case asg =>
      intro K hK
      unfold keV
      simp only [List.zip_toArray, List.zip_cons_cons, List.zip_nil_right, List.foldl_toArray, List.foldl_cons, List.foldl_nil, List.setIfInBounds_toArray, List.set_cons_succ, List.set_cons_zero]
      gi_wp2_with ((with_reducible refine wpListIn_put_keyK ?_ (.tmp 8) (.tmp 20) ?_ W1.heap.size ?_ W1 ?_ ?_ x.1 HX.out ?_ ?_); rfl; rfl; rfl; rfl; rfl; rfl; intro w2 HK2 hb2)
      exact hK _ _ ⟨rfl, HK2.out⟩ hb2
    case bd =>
      rintro a₁ W₂ qq o' ⟨rfl, hk⟩ hb2 hlo hle
      have hC2 := HC1.out.below hb2
      have hC3 : FiS w N no p fo (W₂.putObj l o') := by
        have hr2 : ∀ r, some l = some r → ∃ o : Obj, W₂.heap[r]? = some o ∧ o.isCells = false := fun r e => by cases e; exact ⟨_, hlo, rfl⟩
        have hg := grownBy_putObj' W₂ l o'
        exact ⟨hC2.sb.keptRowK hg hr2, ⟨hC2.rk.1.keptRowK hg hr2, hC2.rk.2⟩, hC2.re.keptRowK hg hr2, ⟨hC2.ob.1.keptRowK hg hr2, hC2.ob.2⟩, hC2.fb.keptRowK hg hr2, below_put hC2.bel l o' (by omega), hC2.ne⟩
      have hne : W1.heap.size ≠ l := fun e => by
        have h1 := hk.1
        unfold Blk at h1
        rw [e, hlo] at h1
        cases h1
      have hk3 : KeyAt (W₂.putObj l o') W1.heap.size x.1 := ⟨(World.putObj_heap_other hne).trans hk.1, hk.2⟩
      refine name_worldInK' (fun V => FiS w N no p fo V ∧ KeyAt V W1.heap.size x.1) ⟨hC3, hk3⟩ ?_
      rintro V ⟨hCV, hKV⟩
      have HBg := hide (begins_any x.1 x.2 p HP.out V)
      have c3 : V.cell? ⟨N, 0, none⟩ = some (.string ⟨p.toArray⟩) := by rw [hCV.sb.cell]; rfl
      have l3 := hCV.sb.lt
      have HCV := hide hCV
      have HKV := hide hKV
      clear hC2 hC3 hne hk3 hk hb2 hlo hle hCV hKV
      gi_wp2_with ((with_reducible refine wpListIn_keyK (.tmp 8) W1.heap.size x.1 HKV.out ?_ ?_ ?_ ?_); rfl; rfl; rfl)
      refine ⟨trivial, (CallsIn.inRound l (callsIn_wide.2 HBg.out)).mono ?_⟩
      rintro e V2 ⟨rfl, hbV2⟩
      have HC2 := hide (HCV.out.below hbV2)
      have HK2 := hide (HKV.out.below hbV2)
      have HLD2 := hide (KeepsLD.below hbV2)
      have HKR2 : Hid (KeepR (gOf ao) V V2) := hide (KeepR.below hbV2)
      clear hbV2 HBg c3 l3
      by_cases hbx : begK x.1 p = true
      · rw [hbx]
        have HBX := hide hbx
        clear hbx
        have c7 : V2.cell? ⟨no + 1, 0, none⟩ = some (.bool fo.isSome) := by rw [HC2.out.fb.cell]; rfl
        have l7 := HC2.out.fb.lt
        cases fo with
        | none =>
          have HE := hide (HO1.out.yes x HBX.out)
          have HOb : Hid (KeyAt V2 no zK) := hide HC2.out.ob
          rw [show (none : Option (List UInt8)).isSome = false from rfl] at c7
          gi_wp2_with (first | ((with_reducible refine wpListIn_keyK (.tmp 8) W1.heap.size x.1 HK2.out ?_ ?_ ?_ ?_); rfl; rfl; rfl) | ((with_reducible refine wpListIn_store_keyK ?_ (.tmp 6) (.tmp 27) ?_ no ?_ zK x.1 HOb.out HX.out ?_ ?_); rfl; rfl; rfl; rfl; intro w4 HK4 HG4; generalize hG : wpListIn _ _ _ _ _ _ _ _ = G))
          have hne0 := HC2.out.ne
          have hfb4 : Blk w4 (no + 1) #[.bool false] 4 := HC2.out.fb.grown HG4.out (fun e => by have := Option.some.inj e; omega)
          have c8 : w4.cell? ⟨no + 1, 0, none⟩ = some (.bool false) := by rw [hfb4.cell]; rfl
          have f8 := hfb4.frozen 0
          have l8 := hfb4.lt
          have hg5 := grownBy_set w4 (no + 1) 0 (.bool true)
          have HE5 : Hid (FiS w N no p (some x.1) (w4.setCell ⟨no + 1, 0, none⟩ (.bool true))) := hide ⟨(HC2.out.sb.grown HG4.out (fun e => by have := Option.some.inj e; omega)).grown hg5 (fun e => by have := Option.some.inj e; omega), (HC2.out.rk.grown HG4.out (fun e => by have := Option.some.inj e; omega)).grown hg5 (fun e => by have := Option.some.inj e; omega), (HC2.out.re.grown HG4.out (fun e => by have := Option.some.inj e; omega)).grown hg5 (fun e => by have := Option.some.inj e; omega), HK4.out.grown hg5 (fun e => by have := Option.some.inj e; omega), hfb4.set 0 _, below_kept (below_kept HC2.out.bel (by have := HC2.out.sb.lt; omega) HG4.out (fun r e => by cases e; exact Nat.le_refl _) (show N ≤ no by omega)) (by have := HC2.out.sb.lt; have := HG4.out.size; omega) hg5 (fun r e => by cases e; exact Nat.le_refl _) (show N ≤ no + 1 by omega), hne0⟩
          have HL5 : Hid (KeepsLD V (w4.setCell ⟨no + 1, 0, none⟩ (.bool true))) := hide ((HLD2.out.trans (KeepsLD.grown HG4.out (fun q e => by have h := HC2.out.ob.1; unfold Blk at h; rw [h] at e; cases e) (fun q e => by have h := HC2.out.ob.1; unfold Blk at h; rw [h] at e; cases e))).trans (KeepsLD.grown hg5 (fun q e => by have h := hfb4; unfold Blk at h; rw [h] at e; cases e) (fun q e => by have h := hfb4; unfold Blk at h; rw [h] at e; cases e)))
          have HR5 : Hid (KeepR (gOf ao) V (w4.setCell ⟨no + 1, 0, none⟩ (.bool true))) := hide ((HKR2.out.trans (KeepR.grown HG4.out (fun e => by have := Option.some.inj e; have := HNg.out; omega))).trans (KeepR.grown hg5 (fun e => by have := Option.some.inj e; have := HNg.out; omega)))
          subst hG
          clear hg5 hfb4 HOb HC2 HK4 HG4 c7 l7
          gi_wp2
          exact ⟨HL5.out, HR5.out, some x.1, HE5.out, HE.out⟩
        | some k =>
          have HTw : Hid (TwoB ks p) := hide (by
            obtain ⟨⟨y, h1, h2, h3⟩, _⟩ := HO1.out
            exact ⟨y.1, HIk.out y (List.mem_append.2 (.inl h1)), x.1, HIk.out x (List.mem_append.2 (.inr (List.mem_singleton.2 rfl))), HNi.out y h1, h3, HBX.out⟩)
          have HRk := hide HC2.out.rk
          have hz32 : keyZ.size = 32 := rfl
          have hzn : ¬ keyZ = #[] := fun e => by rw [e] at hz32; cases hz32
          rw [show (some k : Option (List UInt8)).isSome = true from rfl] at c7
          gi_wp2_with ((with_reducible refine wpListIn_store_keyK ?_ (.tmp 4) (.tmp 26) ?_ (N + 1) ?_ zK zK HRk.out ?_ ?_ ?_); rfl; rfl; rfl; rfl; rfl; intro w4 HK4 HG4; generalize hG : wpListIn _ _ _ _ _ _ _ _ = G)
          have hre4 : Blk w4 (N + 2) #[.int .i64 0] 59 := HC2.out.re.grown HG4.out (fun e => by have := Option.some.inj e; omega)
          have c8 : w4.cell? ⟨N + 2, 0, none⟩ = some (.int .i64 0) := by rw [hre4.cell]; rfl
          have f8 := hre4.frozen 0
          have l8 := hre4.lt
          have hg5 := grownBy_set w4 (N + 2) 0 (.int .i64 32)
          have HE5 : Hid (FiT w N 32 zK (w4.setCell ⟨N + 2, 0, none⟩ (.int .i64 32))) := hide ⟨HK4.out.grown hg5 (fun e => by have := Option.some.inj e; omega), hre4.set 0 _, below_kept (below_kept HC2.out.bel (by have := HC2.out.sb.lt; omega) HG4.out (fun r e => by cases e; exact Nat.le_refl _) (show N ≤ N + 1 by omega)) (by have := HC2.out.sb.lt; have := HG4.out.size; omega) hg5 (fun r e => by cases e; exact Nat.le_refl _) (show N ≤ N + 2 by omega)⟩
          have HL5 : Hid (KeepsLD V (w4.setCell ⟨N + 2, 0, none⟩ (.int .i64 32))) := hide ((HLD2.out.trans (KeepsLD.grown HG4.out (fun q e => by have h := HC2.out.rk.1; unfold Blk at h; rw [h] at e; cases e) (fun q e => by have h := HC2.out.rk.1; unfold Blk at h; rw [h] at e; cases e))).trans (KeepsLD.grown hg5 (fun q e => by have h := hre4; unfold Blk at h; rw [h] at e; cases e) (fun q e => by have h := hre4; unfold Blk at h; rw [h] at e; cases e)))
          subst hG
          clear hg5 hre4 HRk HC2 HK4 HG4 c7 l7
          gi_wp2
          exact ⟨HL5.out, rfl, HE5.out, HTw.out⟩
      · have hbf : begK x.1 p = false := by simpa using hbx
        rw [hbf]
        have HE := hide (HO1.out.no x hbf)
        clear hbx hbf
        gi_wp2
        exact ⟨HLD2.out, HKR2.out, fo, HC2.out, HE.out⟩
  case stop =>
    rintro D c pre W3 hD ⟨rfl, hT, hTw⟩ hK
    have HT := hide hT
    have HK := hide hK
    have HR : Hid (FindG w S p (.returned (.tuple #[keyV zK, .int .i64 32])) (W3.putObj D (.deferred none))) := hide ⟨zK, 32, rfl, rfl, by rw [← HN.out]; exact below_put hT.bel D _ (by omega), .inr (.inr ⟨rfl, rfl, by
      obtain ⟨x, h1, y, h2, h3⟩ := hTw
      have k1 := (K4.out x).1 h1
      have k2 := (K4.out y).1 h2
      exact ⟨x, k1.2, y, k2.2, h3⟩⟩)⟩
    clear hT hTw hK
    refine wpIn_wide.2 ?_
    go_wp2
    exact leaveCC (t := 4) (u := 5) rfl HK.out rfl rfl HT.out HR.out
  case done =>
    rintro D xs W4 hD hxs ⟨fo, hU4, hO4⟩ hK4
    have HXS : Hid (xs.map Subtype.val = ks) := hide hxs
    cases fo with
    | none =>
      have HNo : Hid (∀ x ∈ S, begK x p = false) := hide (fun x hx => by
        obtain ⟨y, hy, rfl⟩ := List.mem_map.1 (show x ∈ xs.map Subtype.val by rw [HXS.out]; exact (K4.out x).2 ⟨H32.out x hx, hx⟩)
        exact hO4 y hy)
      have c7 : W4.cell? ⟨no + 1, 0, none⟩ = some (.bool false) := by rw [hU4.fb.cell]; rfl
      have l7 := hU4.fb.lt
      have HU4 := hide hU4
      have HRk := hide hU4.rk
      have HK4 := hide hK4
      have hz32 : keyZ.size = 32 := rfl
      have hzn : ¬ keyZ = #[] := fun e => by rw [e] at hz32; cases hz32
      clear hU4 hO4 hK4 hxs
      go_wp2_with ((with_reducible refine wpList_store_keyK ?_ (.tmp 4) (.tmp 30) ?_ (N + 1) ?_ zK zK HRk.out ?_ ?_ ?_); rfl; rfl; rfl; rfl; rfl; intro w4 HK5 HG4; generalize hG : wpList _ _ _ _ _ _ = G)
      have hre4 : Blk w4 (N + 2) #[.int .i64 0] 59 := HU4.out.re.grown HG4.out (fun e => by have := Option.some.inj e; omega)
      have c8 : w4.cell? ⟨N + 2, 0, none⟩ = some (.int .i64 0) := by rw [hre4.cell]; rfl
      have f8 := hre4.frozen 0
      have l8 := hre4.lt
      have hg5 := grownBy_set w4 (N + 2) 0 (.int .i64 31)
      have HE5 : Hid (FiT w N 31 zK (w4.setCell ⟨N + 2, 0, none⟩ (.int .i64 31))) := hide ⟨HK5.out.grown hg5 (fun e => by have := Option.some.inj e; omega), hre4.set 0 _, below_kept (below_kept HU4.out.bel (by have := HU4.out.sb.lt; omega) HG4.out (fun r e => by cases e; exact Nat.le_refl _) (show N ≤ N + 1 by omega)) (by have := HU4.out.sb.lt; have := HG4.out.size; omega) hg5 (fun r e => by cases e; exact Nat.le_refl _) (show N ≤ N + 2 by omega)⟩
      have HD5 : Hid ((w4.setCell ⟨N + 2, 0, none⟩ (.int .i64 31)).heap[D]? = some (.deferred (some []))) := hide (((KeepsLD.grown HG4.out (fun q e => by have h := HU4.out.rk.1; unfold Blk at h; rw [h] at e; cases e) (fun q e => by have h := HU4.out.rk.1; unfold Blk at h; rw [h] at e; cases e)).trans (KeepsLD.grown hg5 (fun q e => by have h := hre4; unfold Blk at h; rw [h] at e; cases e) (fun q e => by have h := hre4; unfold Blk at h; rw [h] at e; cases e))).df _ _ HK4.out)
      have HR : Hid (FindG w S p (.returned (.tuple #[keyV zK, .int .i64 31])) ((w4.setCell ⟨N + 2, 0, none⟩ (.int .i64 31)).putObj D (.deferred none))) := hide ⟨zK, 31, rfl, rfl, by rw [← HN.out]; exact below_put HE5.out.bel D _ (by omega), .inr (.inl ⟨rfl, rfl, HNo.out⟩)⟩
      subst hG
      clear hg5 hre4 HRk HK5 HG4 HU4 HK4
      go_wp2
      exact leaveCC (t := 4) (u := 5) rfl HD5.out rfl rfl HE5.out HR.out
    | some k =>
      have HKl : Hid (k.length = 32) := hide (by obtain ⟨⟨y, _, rfl, _⟩, _⟩ := hO4; exact y.2)
      have HKin : Hid (k ∈ S ∧ begK k p = true) := hide (by
        obtain ⟨⟨y, h1, rfl, h2⟩, _⟩ := hO4
        exact ⟨((K4.out y.1).1 (by rw [← HXS.out]; exact List.mem_map.2 ⟨y, h1, rfl⟩)).2, h2⟩)
      have HOn : Hid (∀ x ∈ S, begK x p = true → x = k) := hide (fun x hx hb => by
        have hl := H32.out x hx
        obtain ⟨y, hy, rfl⟩ := List.mem_map.1 (show x ∈ xs.map Subtype.val by rw [HXS.out]; exact (K4.out x).2 ⟨hl, hx⟩)
        exact hO4.2 y hy hb)
      have c7 : W4.cell? ⟨no + 1, 0, none⟩ = some (.bool true) := by rw [hU4.fb.cell]; rfl
      have l7 := hU4.fb.lt
      have HU4 := hide hU4
      have HOb : Hid (KeyAt W4 no k) := hide hU4.ob
      have HRk := hide hU4.rk
      have HK4 := hide hK4
      clear hU4 hO4 hK4 hxs
      go_wp2_with (first | ((with_reducible refine wpList_key (.tmp 6) no k HOb.out ?_ ?_ ?_ ?_); rfl; rfl; rfl) | ((with_reducible refine wpList_store_keyK ?_ (.tmp 4) (.tmp 31) ?_ (N + 1) ?_ zK k HRk.out HKl.out ?_ ?_); rfl; rfl; rfl; rfl; intro w4 HK5 HG4; generalize hG : wpList _ _ _ _ _ _ = G))
      have hre4 : Blk w4 (N + 2) #[.int .i64 0] 59 := HU4.out.re.grown HG4.out (fun e => by have := Option.some.inj e; omega)
      have c8 : w4.cell? ⟨N + 2, 0, none⟩ = some (.int .i64 0) := by rw [hre4.cell]; rfl
      have f8 := hre4.frozen 0
      have l8 := hre4.lt
      have hg5 := grownBy_set w4 (N + 2) 0 (.int .i64 0)
      have HE5 : Hid (FiT w N 0 k (w4.setCell ⟨N + 2, 0, none⟩ (.int .i64 0))) := hide ⟨HK5.out.grown hg5 (fun e => by have := Option.some.inj e; omega), hre4.set 0 _, below_kept (below_kept HU4.out.bel (by have := HU4.out.sb.lt; omega) HG4.out (fun r e => by cases e; exact Nat.le_refl _) (show N ≤ N + 1 by omega)) (by have := HU4.out.sb.lt; have := HG4.out.size; omega) hg5 (fun r e => by cases e; exact Nat.le_refl _) (show N ≤ N + 2 by omega)⟩
      have HD5 : Hid ((w4.setCell ⟨N + 2, 0, none⟩ (.int .i64 0)).heap[D]? = some (.deferred (some []))) := hide (((KeepsLD.grown HG4.out (fun q e => by have h := HU4.out.rk.1; unfold Blk at h; rw [h] at e; cases e) (fun q e => by have h := HU4.out.rk.1; unfold Blk at h; rw [h] at e; cases e)).trans (KeepsLD.grown hg5 (fun q e => by have h := hre4; unfold Blk at h; rw [h] at e; cases e) (fun q e => by have h := hre4; unfold Blk at h; rw [h] at e; cases e))).df _ _ HK4.out)
      have HR : Hid (FindG w S p (.returned (.tuple #[keyV k, .int .i64 0])) ((w4.setCell ⟨N + 2, 0, none⟩ (.int .i64 0)).putObj D (.deferred none))) := hide ⟨k, 0, rfl, HKl.out, by rw [← HN.out]; exact below_put HE5.out.bel D _ (by omega), .inl ⟨rfl, HKin.out.1, HKin.out.2, HOn.out⟩⟩
      subst hG
      clear hg5 hre4 HRk HOb HK5 HG4 HU4 HK4
      go_wp2
      exact leaveCC (t := 4) (u := 5) rfl HD5.out rfl rfl HE5.out HR.out
set_option maxHeartbeats 4000000 in
theorem find_bad (w : World) (q : Option Addr) (p : List UInt8) (hpl : p.length ≤ 9223372036854775807) (hb : goodP p = false) : Calls Try.prog 21 #[.pointer q, .string ⟨p.toArray⟩] w fun e w' => e = .returned (.tuple #[keyV zK, .int .i64 30]) ∧ Below w.heap.size w w' := by
  have hzk := zero_key
  obtain ⟨N, hN⟩ : ∃ N, N = w.heap.size := ⟨_, rfl⟩
  have HW : Hid (∀ W, W = ((w.alloc (.cells #[.string ⟨p.toArray⟩] 9)).alloc (.cells keyZ 38)).alloc (.cells #[.int .i64 0] 59) → (Blk W N #[.string ⟨p.toArray⟩] 9 ∧ Blk W (N + 1) keyZ 38 ∧ Blk W (N + 2) #[.int .i64 0] 59 ∧ Below N w W) ∧ N + 3 ≤ W.heap.size) := hide (fun W e => by
    subst e
    have b1 : Below w.heap.size w (((w.alloc (.cells #[.string ⟨p.toArray⟩] 9)).alloc (.cells keyZ 38)).alloc (.cells #[.int .i64 0] 59)) := (((Below.refl _ _).alloc (Nat.le_refl _) _).alloc (by simp) _).alloc (by simp; omega) _
    rw [hN]
    refine ⟨⟨((Blk.made w _ _).alloc _).alloc _, (blk_made1 w _ _ _ _).alloc _, ?_, b1⟩, by simp⟩
    have := Blk.made ((w.alloc (.cells #[.string ⟨p.toArray⟩] 9)).alloc (.cells keyZ 38)) #[.int .i64 0] 59
    rw [World.size_alloc, World.size_alloc] at this
    exact this)
  have HN := hide hN
  have HD := hide (fun W => digits_any p hpl W)
  have HZS : Hid (keyZ.size = 32) := hide rfl
  have HU1 : Hid (keyZ.all (·.oneCell') = true) := hide (all_oneCell_toArray (u8c_one _))
  have hps : (⟨p.toArray⟩ : ByteArray).size = p.length := rfl
  go_enter Try.func21, Try.ntmps21
  go_upto_region 1 with fail
  rw [← hN]
  clear hN
  refine name_worldK (fun W => (Blk W N #[.string ⟨p.toArray⟩] 9 ∧ Blk W (N + 1) keyZ 38 ∧ Blk W (N + 2) #[.int .i64 0] 59 ∧ Below N w W) ∧ N + 3 ≤ W.heap.size) (HW.out _ rfl) ?_
  rintro W0 ⟨⟨h1, h2, h3, h4⟩, h5⟩
  have c3 : W0.cell? ⟨N, 0, none⟩ = some (.string ⟨p.toArray⟩) := by rw [h1.cell]; rfl
  have H2 := hide h2
  have H3 := hide h3
  have H4 := hide h4
  have H5 := hide h5
  clear h1 h2 h3 h4 h5 HW
  by_cases hp : p.length ≤ 64
  · have hpi : ¬ (64 : Int) < (p.length : Int) := by omega
    have hd : allDig p = false := by
      cases h : allDig p with
      | false => rfl
      | true => rw [goodP_yes hp h] at hb; cases hb
    rw [hd] at HD
    clear hd hb hp
    go_wp2_with (first | (go_at_call 40; refine (HD.out _).mono ?_; rintro e w' ⟨rfl, hw⟩; rw [hw]; clear hw) | ((with_reducible refine wpList_store_blk ?_ 38 (.tmp 4) (.tmp 17) ?_ (N + 1) 32 keyZ keyZ 38 HZS.out HZS.out ?_ ?_ H2.out infoKey HU1.out ?_); rfl; rfl; rfl; rfl; intro w9 hk9 hg9; have HK9 := hide hk9; have HG9 := hide hg9; have hb9 := (H3.out.grown hg9 (fun e => by have := Option.some.inj e; omega)); have c9 := hb9.cell 0; have f9 := hb9.frozen 0; have H9 := hide hb9; clear hk9 hg9 hb9))
    have hg5 := grownBy_set w9 (N + 2) 0 (.int .i64 30)
    refine bodyPost_ret (results_cc rfl _ _ ⟨N + 1, 0, none⟩ ⟨N + 2, 0, none⟩ rfl rfl (.agg keyZ) (.int .i64 30) (loadBlkT (HK9.out.grown hg5 (fun e => by have := Option.some.inj e; omega)) 38 _ Try.underlying38 rfl 32 infoKey HZS.out) (load_errno ((H9.out.set 0 (.int .i64 30)).cell 0))) rfl ?_
    exact ⟨rfl, by rw [← HN.out]; exact below_kept (below_kept H4.out (by have := H5.out; omega) HG9.out (fun r e => by cases e; exact Nat.le_refl _) (show N ≤ N + 1 by omega)) (by have := H5.out; have := HG9.out.size; omega) hg5 (fun r e => by cases e; exact Nat.le_refl _) (show N ≤ N + 2 by omega)⟩
  · have hpi : (64 : Int) < (p.length : Int) := by omega
    clear hb hp
    go_wp2_with ((with_reducible refine wpList_store_blk ?_ 38 (.tmp 4) (.tmp 17) ?_ (N + 1) 32 keyZ keyZ 38 HZS.out HZS.out ?_ ?_ H2.out infoKey HU1.out ?_); rfl; rfl; rfl; rfl; intro w9 hk9 hg9; have HK9 := hide hk9; have HG9 := hide hg9; have hb9 := (H3.out.grown hg9 (fun e => by have := Option.some.inj e; omega)); have c9 := hb9.cell 0; have f9 := hb9.frozen 0; have H9 := hide hb9; clear hk9 hg9 hb9)
    have hg5 := grownBy_set w9 (N + 2) 0 (.int .i64 30)
    refine bodyPost_ret (results_cc rfl _ _ ⟨N + 1, 0, none⟩ ⟨N + 2, 0, none⟩ rfl rfl (.agg keyZ) (.int .i64 30) (loadBlkT (HK9.out.grown hg5 (fun e => by have := Option.some.inj e; omega)) 38 _ Try.underlying38 rfl 32 infoKey HZS.out) (load_errno ((H9.out.set 0 (.int .i64 30)).cell 0))) rfl ?_
    exact ⟨rfl, by rw [← HN.out]; exact below_kept (below_kept H4.out (by have := H5.out; omega) HG9.out (fun r e => by cases e; exact Nat.le_refl _) (show N ≤ N + 1 by omega)) (by have := H5.out; have := HG9.out.size; omega) hg5 (fun r e => by cases e; exact Nat.le_refl _) (show N ≤ N + 2 by omega)⟩
theorem find_q (w : World) (q : Option Addr) (S : List (List UInt8)) (p : List UInt8) (hpl : p.length ≤ 9223372036854775807) (h32 : ∀ x ∈ S, x.length = 32) (hA : SetQ w q S) (hn : S.length ≤ 4398046510976) : Calls Try.prog 21 #[.pointer q, .string ⟨p.toArray⟩] w (FindA w S p) := by
  cases hg : goodP p with
  | false => exact (find_bad w q p hpl hg).mono (fun e w' ⟨h1, h2⟩ => ⟨zK, 30, h1, rfl, h2, .inl ⟨hg, rfl, rfl⟩⟩)
  | true =>
    have hp : p.length ≤ 64 := by
      unfold goodP at hg
      rw [Bool.and_eq_true] at hg
      exact of_decide_eq_true hg.1
    have hd : allDig p = true := by
      unfold goodP at hg
      rw [Bool.and_eq_true] at hg
      exact hg.2
    exact (find_good w q S p hp hd h32 hA hn).mono (fun e w' ⟨k, m, h1, h2, h3, h4⟩ => ⟨k, m, h1, h2, h3, .inr ⟨hg, h4⟩⟩)
end Go.Proofs.Ytnloglecfbhpcaa
