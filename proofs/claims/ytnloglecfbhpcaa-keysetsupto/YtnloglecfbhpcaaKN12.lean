/- Both, Minus. -/
import Derived.Test.YtnloglecfbhpcaaKN11
namespace Go.Proofs.Ytnloglecfbhpcaa
set_option linter.unusedVariables false
set_option linter.unusedSimpArgs false
open Go.RowKit Go.Shelf
set_option maxRecDepth 100000
attribute [local go_sem] Oper.semAt_some

/-- Of some keys those that are in a set, or are not. -/
def selK (Bs : List (List UInt8)) (yes : Bool) (pre : List K32) : List K32 := pre.filter fun x => decide (x.1 ∈ Bs) == yes
theorem selK_in (Bs : List (List UInt8)) (yes : Bool) (pre : List K32) (x : K32) (h : decide (x.1 ∈ Bs) = yes) : addTo [] (selK Bs yes (pre ++ [x])) = addK x.1 (addTo [] (selK Bs yes pre)) := by
  unfold selK
  rw [List.filter_append, show List.filter (fun x : K32 => decide (x.1 ∈ Bs) == yes) [x] = [x] by simp [h], addTo_snoc]
theorem selK_out (Bs : List (List UInt8)) (yes : Bool) (pre : List K32) (x : K32) (h : decide (x.1 ∈ Bs) = !yes) : selK Bs yes (pre ++ [x]) = selK Bs yes pre := by
  unfold selK
  rw [List.filter_append, show List.filter (fun x : K32 => decide (x.1 ∈ Bs) == yes) [x] = [] by simp [h], List.append_nil]
theorem mem_selK (Bs : List (List UInt8)) (yes : Bool) (pre : List K32) (y : List UInt8) : y ∈ addTo [] (selK Bs yes pre) ↔ (y ∈ pre.map Subtype.val ∧ decide (y ∈ Bs) = yes) := by
  rw [mem_addTo]
  unfold selK
  constructor
  · rintro (h | h)
    · cases h
    · obtain ⟨q, hq, rfl⟩ := List.mem_map.1 h
      obtain ⟨h1, h2⟩ := List.mem_filter.1 hq
      exact ⟨List.mem_map.2 ⟨q, h1, rfl⟩, by simpa using h2⟩
  · rintro ⟨h, h2⟩
    obtain ⟨q, hq, rfl⟩ := List.mem_map.1 h
    exact .inr (List.mem_map.2 ⟨q, List.mem_filter.2 ⟨hq, by simpa using h2⟩, rfl⟩)
/-- The set that is being made, and the other one's box. -/
structure UbS (w : World) (N bx zu bu zb : Nat) (S : List (List UInt8)) (W : World) : Prop where
  un : UnS w N bx zu bu S W
  bb : Blk W N #[.pointer (some ⟨zb, 0, none⟩)] 25
theorem UbS.below {w W W' : World} {N bx zu bu zb : Nat} {S : List (List UInt8)} (h : UbS w N bx zu bu zb S W) (hb : Below W.heap.size W W') : UbS w N bx zu bu zb S W' :=
  ⟨h.un.below hb (by have := h.un.st.blk.lt; have := h.un.nz; omega), h.bb.below hb h.bb.lt⟩
theorem UbS.ownFrom {w : World} {N bx zu bu zb B : Nat} {f : List K32 → List (List UInt8)} (hB : N ≤ B) (hbu : bu < B) : OwnFrom B (fun pre W => UbS w N bx zu bu zb (f pre) W) :=
  fun s A C row h hg hr => ⟨UnS.ownFrom hB hbu s A C row h.un hg hr, h.bb.keptRowK hg (fun r e => (hr r e).2)⟩
theorem UbS.add {w V W' : World} {N bx zu bu zb g : Nat} {S : List (List UInt8)} (h : UbS w N bx zu bu zb S V) (hN : N ≤ bu) (k : List UInt8) (hs : SetAt W' zu bu (addK k S)) (hg : V.grownBy W' (some bu)) : UbS w N bx zu bu zb (addK k S) W' ∧ KeepR g V W' ∧ KeepsLD V W' := by
  obtain ⟨h1, h2, h3⟩ := h.un.add (g := g) hN k hs hg
  refine ⟨⟨h1, h.bb.grown hg (fun e => ?_)⟩, h2, h3⟩
  obtain ⟨D, ⟨es, clock, hb, _⟩, _⟩ := h.un.st.set
  have := h.bb
  unfold Blk at this
  rw [Option.some.inj e, hb] at this
  cases this
set_option maxHeartbeats 4000000 in
theorem both_any (w : World) (za ba zb bb : Nat) (A Bs : List (List UInt8)) (hA : SetAt w za ba A) (hB : SetAt w zb bb Bs) (hn : A.length ≤ 4398046510976) : Calls Try.prog 31 #[.pointer (some ⟨za, 0, none⟩), .pointer (some ⟨zb, 0, none⟩)] w fun e W => ∃ U, (NewC w U e W ∧ U.Nodup) ∧ ∀ x : List UInt8, x ∈ U ↔ (x.length = 32 ∧ x ∈ A ∧ x ∈ Bs) := by
  obtain ⟨N, hN⟩ : ∃ N, N = w.heap.size := ⟨_, rfl⟩
  have bw : Below w.heap.size w (w.alloc (.cells #[.pointer (some ⟨zb, 0, none⟩)] 25)) := (Below.refl _ _).alloc (Nat.le_refl _) _
  have HW0 : Hid (∀ W, W = w.alloc (.cells #[.pointer (some ⟨zb, 0, none⟩)] 25) → Blk W N #[.pointer (some ⟨zb, 0, none⟩)] 25 ∧ Below N w W ∧ N < W.heap.size) := hide (fun W e => by
    subst e
    rw [hN]
    exact ⟨Blk.made w _ _, bw, by simp⟩)
  have HA := hide hA
  have HB := hide hB
  have HN := hide hN
  have HLn := hide hn
  clear hA hB hn bw
  refine (callsIn_wide (n := 5)).1 ?_
  refine callsIn_of_wp_marks Try.func31 rfl trivial ?_ rfl
  refine wpIn_wide.2 ?_
  simp only [Try.ntmps31, List.size_toArray, List.length_cons, List.length_nil, Nat.reduceAdd, Nat.reduceSub, Array.replicate_succ, Array.replicate_zero, List.push_toArray, List.append_toArray, List.nil_append, List.cons_append]
  go_upto_region 1 with fail
  rw [← hN]
  clear hN
  refine name_worldK (fun W => Blk W N #[.pointer (some ⟨zb, 0, none⟩)] 25 ∧ Below N w W ∧ N < W.heap.size) (HW0.out _ rfl) ?_
  rintro W0 ⟨hk0, hb0, hn0⟩
  have HNew := hide (newSet_any W0 none 0 0 [] rfl ⟨fun i hi => absurd hi (Nat.not_lt_zero _), fun k hk => (by cases hk)⟩ (by decide))
  have HK0 := hide hk0
  have HB0 := hide hb0
  have HN0 := hide hn0
  clear hk0 hb0 hn0 HW0
  go_upto_region 2 with (go_at_call 6; refine HNew.out.mono ?_; rintro e w1 ⟨zu, bu, rfl, hz, hbu, hs, hb1⟩; have HZ := hide hz; have HBU := hide hbu; have HS1 := hide hs; have HB1 := hide hb1; clear hz hbu hs hb1)
  have HW : Hid (UbS w N w1.heap.size zu bu zb [] (w1.alloc (.cells #[.pointer (some ⟨zu, 0, none⟩)] 25)) ∧ SetAt (w1.alloc (.cells #[.pointer (some ⟨zu, 0, none⟩)] 25)) za ba A ∧ bu < (w1.alloc (.cells #[.pointer (some ⟨zu, 0, none⟩)] 25)).heap.size ∧ N ≤ bu) := hide (by
    have b1 : Below w1.heap.size w1 (w1.alloc (.cells #[.pointer (some ⟨zu, 0, none⟩)] 25)) := (Below.refl _ _).alloc (Nat.le_refl _) _
    have hn0 := HN0.out
    have b2 : Below N w (w1.alloc (.cells #[.pointer (some ⟨zu, 0, none⟩)] 25)) := HB0.out.trans ((HB1.out.mono (by omega)).trans (b1.mono (by have := HB1.out.size; omega)))
    have b2' : Below w.heap.size w (w1.alloc (.cells #[.pointer (some ⟨zu, 0, none⟩)] 25)) := by rw [← HN.out]; exact b2
    have hl := HS1.out.set.lt
    have k1 := HK0.out.below HB1.out HK0.out.lt
    have hz1 := HZ.out
    have hz2 := HBU.out
    exact ⟨⟨⟨Blk.made w1 _ _, HS1.out.below b1, b2, by omega⟩, k1.below b1 k1.lt⟩, HA.out.below b2', by simp; omega, by omega⟩)
  refine name_worldK (fun W => UbS w N w1.heap.size zu bu zb [] W ∧ SetAt W za ba A ∧ bu < W.heap.size ∧ N ≤ bu) HW.out ?_
  rintro W2 ⟨hU, hA2, hbl, hNb⟩
  generalize w1.heap.size = bx at *
  have HAl := hide (all_any W2 za ba A hA2 (by have := HLn.out; omega))
  have HU := hide hU
  have HNB := hide hNb
  clear HW HNew HS1 HB1 HZ HBU hU hA2 HA hNb HK0 HB0 HN0
  go_upto_region 3 with (go_at_call 11; refine HAl.out.mono ?_; rintro e w3 ⟨b3, ao, cap, ks, rfl, k1, k2, k3, k4, k5, k6⟩; have K1 := hide k1; have K2 := hide k2; have K3 := hide k3; have K4 := hide k4; have K5 := hide k5; have K6 := hide k6; clear k1 k2 k3 k4 k5 k6; unfold riF)
  have hsz3 : W2.heap.size ≤ w3.heap.size := K6.out.size
  have hN3 : N ≤ w3.heap.size := by have := HNB.out; omega
  have hbu3 : bu < w3.heap.size := by omega
  have HU3 := hide (HU.out.below K6.out)
  have HKL : Hid (ks.length ≤ A.length) := hide (by
    exact List.Nodup.length_le_of_subset (rising_nodup K3.out) (fun y hy => ((K4.out y).1 hy).2))
  clear HAl HU K5 K6
  refine (wpIn_wide (n := 5)).1 ?_
  refine wpIn_rangeKl rfl (by omega) (gf := 36) (lb := #[.pointer (some ⟨b3, 0, none⟩)]) rfl trivial (enters_of Try.func36 (by kernel_rfl) rfl) (rising_fit (5 - 1) w3 b3 ao cap ks K1.out K2.out (by have := HKL.out; have := HLn.out; omega)) (Below.refl _ _) (KeepR.keeping (gOf ao)) (fun _ => rfl)
    (fun pre W => UbS w N bx zu bu zb (addTo [] (selK Bs true pre)) W)
    (fun _ _ _ => False)
    (UbS.ownFrom hN3 hbu3)
    (fun _ _ _ _ _ h _ _ => h)
    HU3.out (fun A B h => KeepR.below h) ?round ?done ?stop
  case round =>
    rintro l pre x Wp W1 hU1 hbW hfit
    have HC1 := hide (hU1.below hbW)
    have HX := hide x.2
    have HPL : Hid ((addTo [] (selK Bs true pre)).length < maxLen) := hide (by
      have h1 := addTo_len [] (selK Bs true pre)
      have h0 : (selK Bs true pre).length ≤ pre.length := List.length_filter_le _ _
      have h2 : pre.length ≤ ks.length := by
        have h3 := hfit.length_le
        simp at h3
        omega
      have := HKL.out
      have := HLn.out
      unfold maxLen
      simp at h1
      omega)
    clear hU1 hbW hfit
    refine ⟨fun a₁ W₂ => a₁ = { tmps := #[.pointer (some ⟨za, 0, none⟩), .pointer (some ⟨zb, 0, none⟩), undef, .pointer (some ⟨N, 0, none⟩), .pointer none, .pointer (some ⟨bx, 0, none⟩), .pointer (some ⟨W1.heap.size, 0, none⟩), .pointer (some ⟨zu, 0, none⟩), .pointer (some ⟨za, 0, none⟩), .func (.func 36) #[] #[.pointer (some ⟨b3, 0, none⟩)], keyV x.1, undef, undef, undef, undef, undef, undef, undef], defers := [] } ∧ KeyAt W₂ W1.heap.size x.1, ?asg, ?bd⟩
    case asg =>
      intro K hK
      unfold keV
      simp only [List.zip_toArray, List.zip_cons_cons, List.zip_nil_right, List.foldl_toArray, List.foldl_cons, List.foldl_nil, List.setIfInBounds_toArray, List.set_cons_succ, List.set_cons_zero]
      gi_wp2_with ((with_reducible refine wpListIn_put_keyK ?_ (.tmp 6) (.tmp 10) ?_ W1.heap.size ?_ W1 ?_ ?_ x.1 HX.out ?_ ?_); rfl; rfl; rfl; rfl; rfl; rfl; intro w2 HK2 hb2)
      exact hK _ _ ⟨rfl, HK2.out⟩ hb2
    case bd =>
      rintro a₁ W₂ q o' ⟨rfl, hk⟩ hb2 hlo hle
      have hC2 := HC1.out.below hb2
      have hC3 : UbS w N bx zu bu zb (addTo [] (selK Bs true pre)) (W₂.putObj l o') := (UbS.ownFrom (f := fun _ => addTo [] (selK Bs true pre)) hN3 hbu3).putObj (s := pre) o' hC2 hle hlo rfl
      have hne : W1.heap.size ≠ l := fun e => by
        have h1 := hk.1
        unfold Blk at h1
        rw [e, hlo] at h1
        cases h1
      have hk3 : KeyAt (W₂.putObj l o') W1.heap.size x.1 := ⟨(World.putObj_heap_other hne).trans hk.1, hk.2⟩
      refine name_worldInK' (fun V => UbS w N bx zu bu zb (addTo [] (selK Bs true pre)) V ∧ KeyAt V W1.heap.size x.1) ⟨hC3, hk3⟩ ?_
      rintro V ⟨hUV, hKV⟩
      have hbV : Below w.heap.size w V := by have := hUV.un.bel; rw [HN.out] at this; exact this
      have HHas := hide (has_any V zb bb Bs x.1 x.2 (HB.out.below hbV))
      have c3 : V.cell? ⟨N, 0, none⟩ = some (.pointer (some ⟨zb, 0, none⟩)) := by rw [hUV.bb.cell]; rfl
      have l3 := hUV.bb.lt
      have HUV := hide hUV
      have HKV := hide hKV
      clear hC2 hC3 hne hk3 hk hb2 hlo hle hUV hKV hbV
      gi_wp2_with ((with_reducible refine wpListIn_keyK (.tmp 6) W1.heap.size x.1 HKV.out ?_ ?_ ?_ ?_); rfl; rfl; rfl)
      refine ⟨trivial, (CallsIn.inRound l (callsIn_wide.2 HHas.out)).mono ?_⟩
      rintro e V2 ⟨rfl, hbV2⟩
      have HUV2 := hide (HUV.out.below hbV2)
      have HKV2 := hide (HKV.out.below hbV2)
      have HLD2 := hide (KeepsLD.below hbV2)
      have HKR2 : Hid (KeepR (gOf ao) V V2) := hide (KeepR.below hbV2)
      clear hbV2 HHas c3 l3
      by_cases hin : x.1 ∈ Bs
      · have hdi : decide (x.1 ∈ Bs) = true := by simpa using hin
        rw [hdi]
        clear hin
        have HAdd := hide (add_any V2 zu bu (addTo [] (selK Bs true pre)) x.1 x.2 HUV2.out.un.st HPL.out)
        have c5 : V2.cell? ⟨bx, 0, none⟩ = some (.pointer (some ⟨zu, 0, none⟩)) := by rw [HUV2.out.un.bk.cell]; rfl
        have l5 := HUV2.out.un.bk.lt
        gi_wp2_with ((with_reducible refine wpListIn_keyK (.tmp 6) W1.heap.size x.1 HKV2.out ?_ ?_ ?_ ?_); rfl; rfl; rfl)
        refine ⟨trivial, (CallsIn.inRound l (callsIn_wide.2 HAdd.out)).mono ?_⟩
        rintro e W' ⟨rfl, hs, hg⟩
        have HE := hide (HUV2.out.add (g := gOf ao) HNB.out x.1 hs hg)
        have HEq := hide (selK_in Bs true pre x hdi)
        clear hs hg HAdd
        gi_wp2
        exact ⟨HLD2.out.trans HE.out.2.2, HKR2.out.trans HE.out.2.1, by show UbS w N bx zu bu zb (addTo [] (selK Bs true (pre ++ [x]))) W'; rw [HEq.out]; exact HE.out.1⟩
      · have hdi : decide (x.1 ∈ Bs) = false := by simpa using hin
        rw [hdi]
        clear hin
        have HEq := hide (selK_out Bs true pre x hdi)
        gi_wp2
        exact ⟨HLD2.out, HKR2.out, by show UbS w N bx zu bu zb (addTo [] (selK Bs true (pre ++ [x]))) V2; rw [HEq.out]; exact HUV2.out⟩
  case stop =>
    rintro D c pre W3 hD hS hK
    exact hS.elim
  case done =>
    rintro D xs W4 hD hxs hU4 hK4
    have c5 : W4.cell? ⟨bx, 0, none⟩ = some (.pointer (some ⟨zu, 0, none⟩)) := by rw [hU4.un.bk.cell]; rfl
    have l5 := hU4.un.bk.lt
    have HR : Hid (∃ U, (NewC w U (.returned (.pointer (some ⟨zu, 0, none⟩))) (W4.putObj D (.deferred none)) ∧ U.Nodup) ∧ ∀ x : List UInt8, x ∈ U ↔ (x.length = 32 ∧ x ∈ A ∧ x ∈ Bs)) := hide (by
      have hg1 := grownBy_putObj' W4 D (.deferred none)
      have n1 : zu ≠ D := fun e => by
        have := hU4.un.st.blk
        unfold Blk at this
        rw [e, hK4] at this
        cases this
      have n2 : bu ≠ D := fun e => by
        obtain ⟨D0, ⟨es, clock, hb, _⟩, _⟩ := hU4.un.st.set
        rw [e, hK4] at hb
        cases hb
      have st1 := hU4.un.st.grown hg1 (by simpa using n1) (by simpa using n2)
      refine ⟨_, ⟨⟨zu, bu, rfl, by rw [← HN.out]; exact hU4.un.nz, by rw [← HN.out]; exact HNB.out, st1, ?_⟩, addTo_nodup _ _ List.nodup_nil⟩, fun x => ?_⟩
      · rw [← HN.out]
        exact below_put hU4.un.bel D _ (by omega)
      · rw [mem_selK, show xs.map Subtype.val = ks from hxs, K4.out x]
        constructor
        · rintro ⟨⟨h1, h2⟩, h3⟩
          exact ⟨h1, h2, by simpa using h3⟩
        · rintro ⟨h1, h2, h3⟩
          exact ⟨⟨h1, h2⟩, by simpa using h3⟩)
    have HK := hide hK4
    clear hU4 hK4 hxs hD
    go_wp2
    exact leave1K (t := 4) (v := .pointer (some ⟨zu, 0, none⟩)) rfl HK.out rfl HR.out
set_option maxHeartbeats 4000000 in
theorem minus_any (w : World) (za ba zb bb : Nat) (A Bs : List (List UInt8)) (hA : SetAt w za ba A) (hB : SetAt w zb bb Bs) (hn : A.length ≤ 4398046510976) : Calls Try.prog 33 #[.pointer (some ⟨za, 0, none⟩), .pointer (some ⟨zb, 0, none⟩)] w fun e W => ∃ U, (NewC w U e W ∧ U.Nodup) ∧ ∀ x : List UInt8, x ∈ U ↔ (x.length = 32 ∧ x ∈ A ∧ ¬ x ∈ Bs) := by
  obtain ⟨N, hN⟩ : ∃ N, N = w.heap.size := ⟨_, rfl⟩
  have bw : Below w.heap.size w (w.alloc (.cells #[.pointer (some ⟨zb, 0, none⟩)] 25)) := (Below.refl _ _).alloc (Nat.le_refl _) _
  have HW0 : Hid (∀ W, W = w.alloc (.cells #[.pointer (some ⟨zb, 0, none⟩)] 25) → Blk W N #[.pointer (some ⟨zb, 0, none⟩)] 25 ∧ Below N w W ∧ N < W.heap.size) := hide (fun W e => by
    subst e
    rw [hN]
    exact ⟨Blk.made w _ _, bw, by simp⟩)
  have HA := hide hA
  have HB := hide hB
  have HN := hide hN
  have HLn := hide hn
  clear hA hB hn bw
  refine (callsIn_wide (n := 5)).1 ?_
  refine callsIn_of_wp_marks Try.func33 rfl trivial ?_ rfl
  refine wpIn_wide.2 ?_
  simp only [Try.ntmps33, List.size_toArray, List.length_cons, List.length_nil, Nat.reduceAdd, Nat.reduceSub, Array.replicate_succ, Array.replicate_zero, List.push_toArray, List.append_toArray, List.nil_append, List.cons_append]
  go_upto_region 1 with fail
  rw [← hN]
  clear hN
  refine name_worldK (fun W => Blk W N #[.pointer (some ⟨zb, 0, none⟩)] 25 ∧ Below N w W ∧ N < W.heap.size) (HW0.out _ rfl) ?_
  rintro W0 ⟨hk0, hb0, hn0⟩
  have HNew := hide (newSet_any W0 none 0 0 [] rfl ⟨fun i hi => absurd hi (Nat.not_lt_zero _), fun k hk => (by cases hk)⟩ (by decide))
  have HK0 := hide hk0
  have HB0 := hide hb0
  have HN0 := hide hn0
  clear hk0 hb0 hn0 HW0
  go_upto_region 2 with (go_at_call 6; refine HNew.out.mono ?_; rintro e w1 ⟨zu, bu, rfl, hz, hbu, hs, hb1⟩; have HZ := hide hz; have HBU := hide hbu; have HS1 := hide hs; have HB1 := hide hb1; clear hz hbu hs hb1)
  have HW : Hid (UbS w N w1.heap.size zu bu zb [] (w1.alloc (.cells #[.pointer (some ⟨zu, 0, none⟩)] 25)) ∧ SetAt (w1.alloc (.cells #[.pointer (some ⟨zu, 0, none⟩)] 25)) za ba A ∧ bu < (w1.alloc (.cells #[.pointer (some ⟨zu, 0, none⟩)] 25)).heap.size ∧ N ≤ bu) := hide (by
    have b1 : Below w1.heap.size w1 (w1.alloc (.cells #[.pointer (some ⟨zu, 0, none⟩)] 25)) := (Below.refl _ _).alloc (Nat.le_refl _) _
    have hn0 := HN0.out
    have b2 : Below N w (w1.alloc (.cells #[.pointer (some ⟨zu, 0, none⟩)] 25)) := HB0.out.trans ((HB1.out.mono (by omega)).trans (b1.mono (by have := HB1.out.size; omega)))
    have b2' : Below w.heap.size w (w1.alloc (.cells #[.pointer (some ⟨zu, 0, none⟩)] 25)) := by rw [← HN.out]; exact b2
    have hl := HS1.out.set.lt
    have k1 := HK0.out.below HB1.out HK0.out.lt
    have hz1 := HZ.out
    have hz2 := HBU.out
    exact ⟨⟨⟨Blk.made w1 _ _, HS1.out.below b1, b2, by omega⟩, k1.below b1 k1.lt⟩, HA.out.below b2', by simp; omega, by omega⟩)
  refine name_worldK (fun W => UbS w N w1.heap.size zu bu zb [] W ∧ SetAt W za ba A ∧ bu < W.heap.size ∧ N ≤ bu) HW.out ?_
  rintro W2 ⟨hU, hA2, hbl, hNb⟩
  generalize w1.heap.size = bx at *
  have HAl := hide (all_any W2 za ba A hA2 (by have := HLn.out; omega))
  have HU := hide hU
  have HNB := hide hNb
  clear HW HNew HS1 HB1 HZ HBU hU hA2 HA hNb HK0 HB0 HN0
  go_upto_region 3 with (go_at_call 11; refine HAl.out.mono ?_; rintro e w3 ⟨b3, ao, cap, ks, rfl, k1, k2, k3, k4, k5, k6⟩; have K1 := hide k1; have K2 := hide k2; have K3 := hide k3; have K4 := hide k4; have K5 := hide k5; have K6 := hide k6; clear k1 k2 k3 k4 k5 k6; unfold riF)
  have hsz3 : W2.heap.size ≤ w3.heap.size := K6.out.size
  have hN3 : N ≤ w3.heap.size := by have := HNB.out; omega
  have hbu3 : bu < w3.heap.size := by omega
  have HU3 := hide (HU.out.below K6.out)
  have HKL : Hid (ks.length ≤ A.length) := hide (by
    exact List.Nodup.length_le_of_subset (rising_nodup K3.out) (fun y hy => ((K4.out y).1 hy).2))
  clear HAl HU K5 K6
  refine (wpIn_wide (n := 5)).1 ?_
  refine wpIn_rangeKl rfl (by omega) (gf := 36) (lb := #[.pointer (some ⟨b3, 0, none⟩)]) rfl trivial (enters_of Try.func36 (by kernel_rfl) rfl) (rising_fit (5 - 1) w3 b3 ao cap ks K1.out K2.out (by have := HKL.out; have := HLn.out; omega)) (Below.refl _ _) (KeepR.keeping (gOf ao)) (fun _ => rfl)
    (fun pre W => UbS w N bx zu bu zb (addTo [] (selK Bs false pre)) W)
    (fun _ _ _ => False)
    (UbS.ownFrom hN3 hbu3)
    (fun _ _ _ _ _ h _ _ => h)
    HU3.out (fun A B h => KeepR.below h) ?round ?done ?stop
  case round =>
    rintro l pre x Wp W1 hU1 hbW hfit
    have HC1 := hide (hU1.below hbW)
    have HX := hide x.2
    have HPL : Hid ((addTo [] (selK Bs false pre)).length < maxLen) := hide (by
      have h1 := addTo_len [] (selK Bs false pre)
      have h0 : (selK Bs false pre).length ≤ pre.length := List.length_filter_le _ _
      have h2 : pre.length ≤ ks.length := by
        have h3 := hfit.length_le
        simp at h3
        omega
      have := HKL.out
      have := HLn.out
      unfold maxLen
      simp at h1
      omega)
    clear hU1 hbW hfit
    refine ⟨fun a₁ W₂ => a₁ = { tmps := #[.pointer (some ⟨za, 0, none⟩), .pointer (some ⟨zb, 0, none⟩), undef, .pointer (some ⟨N, 0, none⟩), .pointer none, .pointer (some ⟨bx, 0, none⟩), .pointer (some ⟨W1.heap.size, 0, none⟩), .pointer (some ⟨zu, 0, none⟩), .pointer (some ⟨za, 0, none⟩), .func (.func 36) #[] #[.pointer (some ⟨b3, 0, none⟩)], keyV x.1, undef, undef, undef, undef, undef, undef, undef, undef], defers := [] } ∧ KeyAt W₂ W1.heap.size x.1, ?asg, ?bd⟩
    case asg =>
      intro K hK
      unfold keV
      simp only [List.zip_toArray, List.zip_cons_cons, List.zip_nil_right, List.foldl_toArray, List.foldl_cons, List.foldl_nil, List.setIfInBounds_toArray, List.set_cons_succ, List.set_cons_zero]
      gi_wp2_with ((with_reducible refine wpListIn_put_keyK ?_ (.tmp 6) (.tmp 10) ?_ W1.heap.size ?_ W1 ?_ ?_ x.1 HX.out ?_ ?_); rfl; rfl; rfl; rfl; rfl; rfl; intro w2 HK2 hb2)
      exact hK _ _ ⟨rfl, HK2.out⟩ hb2
    case bd =>
      rintro a₁ W₂ q o' ⟨rfl, hk⟩ hb2 hlo hle
      have hC2 := HC1.out.below hb2
      have hC3 : UbS w N bx zu bu zb (addTo [] (selK Bs false pre)) (W₂.putObj l o') := (UbS.ownFrom (f := fun _ => addTo [] (selK Bs false pre)) hN3 hbu3).putObj (s := pre) o' hC2 hle hlo rfl
      have hne : W1.heap.size ≠ l := fun e => by
        have h1 := hk.1
        unfold Blk at h1
        rw [e, hlo] at h1
        cases h1
      have hk3 : KeyAt (W₂.putObj l o') W1.heap.size x.1 := ⟨(World.putObj_heap_other hne).trans hk.1, hk.2⟩
      refine name_worldInK' (fun V => UbS w N bx zu bu zb (addTo [] (selK Bs false pre)) V ∧ KeyAt V W1.heap.size x.1) ⟨hC3, hk3⟩ ?_
      rintro V ⟨hUV, hKV⟩
      have hbV : Below w.heap.size w V := by have := hUV.un.bel; rw [HN.out] at this; exact this
      have HHas := hide (has_any V zb bb Bs x.1 x.2 (HB.out.below hbV))
      have c3 : V.cell? ⟨N, 0, none⟩ = some (.pointer (some ⟨zb, 0, none⟩)) := by rw [hUV.bb.cell]; rfl
      have l3 := hUV.bb.lt
      have HUV := hide hUV
      have HKV := hide hKV
      clear hC2 hC3 hne hk3 hk hb2 hlo hle hUV hKV hbV
      gi_wp2_with ((with_reducible refine wpListIn_keyK (.tmp 6) W1.heap.size x.1 HKV.out ?_ ?_ ?_ ?_); rfl; rfl; rfl)
      refine ⟨trivial, (CallsIn.inRound l (callsIn_wide.2 HHas.out)).mono ?_⟩
      rintro e V2 ⟨rfl, hbV2⟩
      have HUV2 := hide (HUV.out.below hbV2)
      have HKV2 := hide (HKV.out.below hbV2)
      have HLD2 := hide (KeepsLD.below hbV2)
      have HKR2 : Hid (KeepR (gOf ao) V V2) := hide (KeepR.below hbV2)
      clear hbV2 HHas c3 l3
      by_cases hin : x.1 ∈ Bs
      · have hdi : decide (x.1 ∈ Bs) = true := by simpa using hin
        rw [hdi]
        clear hin
        have HEq := hide (selK_out Bs false pre x hdi)
        gi_wp2
        exact ⟨HLD2.out, HKR2.out, by show UbS w N bx zu bu zb (addTo [] (selK Bs false (pre ++ [x]))) V2; rw [HEq.out]; exact HUV2.out⟩
      · have hdi : decide (x.1 ∈ Bs) = false := by simpa using hin
        rw [hdi]
        clear hin
        have HAdd := hide (add_any V2 zu bu (addTo [] (selK Bs false pre)) x.1 x.2 HUV2.out.un.st HPL.out)
        have c5 : V2.cell? ⟨bx, 0, none⟩ = some (.pointer (some ⟨zu, 0, none⟩)) := by rw [HUV2.out.un.bk.cell]; rfl
        have l5 := HUV2.out.un.bk.lt
        gi_wp2_with ((with_reducible refine wpListIn_keyK (.tmp 6) W1.heap.size x.1 HKV2.out ?_ ?_ ?_ ?_); rfl; rfl; rfl)
        refine ⟨trivial, (CallsIn.inRound l (callsIn_wide.2 HAdd.out)).mono ?_⟩
        rintro e W' ⟨rfl, hs, hg⟩
        have HE := hide (HUV2.out.add (g := gOf ao) HNB.out x.1 hs hg)
        have HEq := hide (selK_in Bs false pre x hdi)
        clear hs hg HAdd
        gi_wp2
        exact ⟨HLD2.out.trans HE.out.2.2, HKR2.out.trans HE.out.2.1, by show UbS w N bx zu bu zb (addTo [] (selK Bs false (pre ++ [x]))) W'; rw [HEq.out]; exact HE.out.1⟩
  case stop =>
    rintro D c pre W3 hD hS hK
    exact hS.elim
  case done =>
    rintro D xs W4 hD hxs hU4 hK4
    have c5 : W4.cell? ⟨bx, 0, none⟩ = some (.pointer (some ⟨zu, 0, none⟩)) := by rw [hU4.un.bk.cell]; rfl
    have l5 := hU4.un.bk.lt
    have HR : Hid (∃ U, (NewC w U (.returned (.pointer (some ⟨zu, 0, none⟩))) (W4.putObj D (.deferred none)) ∧ U.Nodup) ∧ ∀ x : List UInt8, x ∈ U ↔ (x.length = 32 ∧ x ∈ A ∧ ¬ x ∈ Bs)) := hide (by
      have hg1 := grownBy_putObj' W4 D (.deferred none)
      have n1 : zu ≠ D := fun e => by
        have := hU4.un.st.blk
        unfold Blk at this
        rw [e, hK4] at this
        cases this
      have n2 : bu ≠ D := fun e => by
        obtain ⟨D0, ⟨es, clock, hb, _⟩, _⟩ := hU4.un.st.set
        rw [e, hK4] at hb
        cases hb
      have st1 := hU4.un.st.grown hg1 (by simpa using n1) (by simpa using n2)
      refine ⟨_, ⟨⟨zu, bu, rfl, by rw [← HN.out]; exact hU4.un.nz, by rw [← HN.out]; exact HNB.out, st1, ?_⟩, addTo_nodup _ _ List.nodup_nil⟩, fun x => ?_⟩
      · rw [← HN.out]
        exact below_put hU4.un.bel D _ (by omega)
      · rw [mem_selK, show xs.map Subtype.val = ks from hxs, K4.out x]
        constructor
        · rintro ⟨⟨h1, h2⟩, h3⟩
          exact ⟨h1, h2, by simpa using h3⟩
        · rintro ⟨h1, h2, h3⟩
          exact ⟨⟨h1, h2⟩, by simpa using h3⟩)
    have HK := hide hK4
    clear hU4 hK4 hxs hD
    go_wp2
    exact leave1K (t := 4) (v := .pointer (some ⟨zu, 0, none⟩)) rfl HK.out rfl HR.out
end Go.Proofs.Ytnloglecfbhpcaa
