/- Union, for sets that may be nil. -/
import Derived.Test.YtnloglecfbhpcaaKQ0
namespace Go.Proofs.Ytnloglecfbhpcaa
set_option linter.unusedVariables false
set_option linter.unusedSimpArgs false
open Go.RowKit Go.Shelf
set_option maxRecDepth 100000
attribute [local go_sem] Oper.semAt_some

set_option maxHeartbeats 4000000 in
theorem union_q (w : World) (qa qb : Option Addr) (A Bs : List (List UInt8)) (hA : SetQ w qa A) (hB : SetQ w qb Bs) (hn : A.length + Bs.length ≤ 4398046510976) : Calls Try.prog 29 #[.pointer qa, .pointer qb] w fun e W => ∃ U, (NewC w U e W ∧ U.Nodup) ∧ ∀ x : List UInt8, x ∈ U ↔ (x.length = 32 ∧ (x ∈ A ∨ x ∈ Bs)) := by
  obtain ⟨N, hN⟩ : ∃ N, N = w.heap.size := ⟨_, rfl⟩
  have HNew := hide (newSet_any w none 0 0 [] rfl ⟨fun i hi => absurd hi (Nat.not_lt_zero _), fun k hk => (by cases hk)⟩ (by decide))
  have HA := hide hA
  have HB := hide hB
  have HN := hide hN
  have HLn := hide hn
  clear hA hB hn
  refine (callsIn_wide (n := 5)).1 ?_
  refine callsIn_of_wp_marks Try.func29 rfl trivial ?_ rfl
  refine wpIn_wide.2 ?_
  simp only [Try.ntmps29, List.size_toArray, List.length_cons, List.length_nil, Nat.reduceAdd, Nat.reduceSub, Array.replicate_succ, Array.replicate_zero, List.push_toArray, List.append_toArray, List.nil_append, List.cons_append]
  go_upto_region 2 with (go_at_call 6; refine HNew.out.mono ?_; rintro e w1 ⟨zu, bu, rfl, hz, hbu, hs, hb1⟩; have HZ := hide hz; have HBU := hide hbu; have HS1 := hide hs; have HB1 := hide hb1; clear hz hbu hs hb1)
  have HW : Hid (UnS w N w1.heap.size zu bu [] (w1.alloc (.cells #[.pointer (some ⟨zu, 0, none⟩)] 25)) ∧ SetQ (w1.alloc (.cells #[.pointer (some ⟨zu, 0, none⟩)] 25)) qa A ∧ bu < (w1.alloc (.cells #[.pointer (some ⟨zu, 0, none⟩)] 25)).heap.size ∧ N ≤ bu) := hide (by
    have b1 : Below w1.heap.size w1 (w1.alloc (.cells #[.pointer (some ⟨zu, 0, none⟩)] 25)) := (Below.refl _ _).alloc (Nat.le_refl _) _
    have b2 := HB1.out.trans (b1.mono HB1.out.size)
    have hl := HS1.out.set.lt
    refine ⟨⟨Blk.made w1 _ _, HS1.out.below b1, by rw [hN]; exact b2, by rw [hN]; exact HZ.out⟩, HA.out.below b2, by simp; omega, by rw [hN]; exact HBU.out⟩)
  refine name_worldK (fun W => UnS w N w1.heap.size zu bu [] W ∧ SetQ W qa A ∧ bu < W.heap.size ∧ N ≤ bu) HW.out ?_
  rintro W2 ⟨hU, hA2, hbl, hNb⟩
  generalize w1.heap.size = bx at *
  have HAl := hide (all_q W2 qa A hA2 (by have := HLn.out; omega))
  have HU := hide hU
  have HNB := hide hNb
  clear HW HNew HS1 HB1 HZ HBU hU hA2 HA hNb
  go_upto_region 3 with (go_at_call 11; refine HAl.out.mono ?_; rintro e w3 ⟨b3, ao, cap, ks, rfl, k1, k2, k3, k4, k5, k6⟩; have K1 := hide k1; have K2 := hide k2; have K3 := hide k3; have K4 := hide k4; have K5 := hide k5; have K6 := hide k6; clear k1 k2 k3 k4 k5 k6; unfold riF)
  have hsz3 : W2.heap.size ≤ w3.heap.size := K6.out.size
  have hN3 : N ≤ w3.heap.size := by have := HNB.out; omega
  have hbu3 : bu < w3.heap.size := by omega
  have HU3 := hide (HU.out.below K6.out (by have := HNB.out; omega))
  have HKL : Hid (ks.length ≤ A.length) := hide (by
    exact List.Nodup.length_le_of_subset (rising_nodup K3.out) (fun y hy => ((K4.out y).1 hy).2))
  clear HAl HU K5 K6
  refine (wpIn_wide (n := 5)).1 ?_
  refine wpIn_rangeKl rfl (by omega) (gf := 36) (lb := #[.pointer (some ⟨b3, 0, none⟩)]) rfl trivial (enters_of Try.func36 (by kernel_rfl) rfl) (rising_fit (5 - 1) w3 b3 ao cap ks K1.out K2.out (by have := HKL.out; have := HLn.out; omega)) (Below.refl _ _) (KeepR.keeping (gOf ao)) (fun _ => rfl)
    (fun pre W => UnS w N bx zu bu (addTo [] pre) W)
    (fun _ _ _ => False)
    (UnS.ownFrom hN3 hbu3)
    (fun _ _ _ _ _ h _ _ => h)
    HU3.out (fun A B h => KeepR.below h) ?round ?done ?stop
  case round =>
    rintro l pre x Wp W1 hU1 hbW hfit
    have HC1 := hide (hU1.below hbW (by have := hU1.st.blk.lt; have := hU1.nz; omega))
    have HX := hide x.2
    have HPL : Hid ((addTo [] pre).length < maxLen) := hide (by
      have h1 := addTo_len [] pre
      have h2 : pre.length ≤ ks.length := by
        have h3 := hfit.length_le
        simp at h3
        omega
      have := HKL.out
      have := HLn.out
      unfold maxLen
      simp at h1
      omega)
    clear hU1 hbW hfit
    refine ⟨fun a₁ W₂ => a₁ = { tmps := #[.pointer qa, .pointer qb, undef, undef, .pointer none, .pointer (some ⟨bx, 0, none⟩), .pointer (some ⟨W1.heap.size, 0, none⟩), undef, .pointer (some ⟨zu, 0, none⟩), .pointer qa, .func (.func 36) #[] #[.pointer (some ⟨b3, 0, none⟩)], keyV x.1, undef, undef, undef, undef, undef, undef, undef, undef, undef, undef], defers := [] } ∧ KeyAt W₂ W1.heap.size x.1, ?asg, ?bd⟩
    case asg =>
      intro K hK
      unfold keV
      simp only [List.zip_toArray, List.zip_cons_cons, List.zip_nil_right, List.foldl_toArray, List.foldl_cons, List.foldl_nil, List.setIfInBounds_toArray, List.set_cons_succ, List.set_cons_zero]
      gi_wp2_with ((with_reducible refine wpListIn_put_keyK ?_ (.tmp 6) (.tmp 11) ?_ W1.heap.size ?_ W1 ?_ ?_ x.1 HX.out ?_ ?_); rfl; rfl; rfl; rfl; rfl; rfl; intro w2 HK2 hb2)
      exact hK _ _ ⟨rfl, HK2.out⟩ hb2
    case bd =>
      rintro a₁ W₂ q o' ⟨rfl, hk⟩ hb2 hlo hle
      have hC2 := HC1.out.below hb2 (by have := HC1.out.st.blk.lt; have := HC1.out.nz; omega)
      have hC3 : UnS w N bx zu bu (addTo [] pre) (W₂.putObj l o') := (UnS.ownFrom (f := fun _ => addTo [] pre) hN3 hbu3).putObj (s := pre) o' hC2 hle hlo rfl
      have hne : W1.heap.size ≠ l := fun e => by
        have h1 := hk.1
        unfold Blk at h1
        rw [e, hlo] at h1
        cases h1
      have hk3 : KeyAt (W₂.putObj l o') W1.heap.size x.1 := ⟨(World.putObj_heap_other hne).trans hk.1, hk.2⟩
      refine name_worldInK' (fun V => UnS w N bx zu bu (addTo [] pre) V ∧ KeyAt V W1.heap.size x.1) ⟨hC3, hk3⟩ ?_
      rintro V ⟨hUV, hKV⟩
      have c5 : V.cell? ⟨bx, 0, none⟩ = some (.pointer (some ⟨zu, 0, none⟩)) := by rw [hUV.bk.cell]; rfl
      have l5 := hUV.bk.lt
      have HUV := hide hUV
      have HKV := hide hKV
      have HAdd := hide (add_any V zu bu (addTo [] pre) x.1 x.2 hUV.st HPL.out)
      clear hC2 hC3 hne hk3 hk hb2 hlo hle hUV hKV
      gi_wp2_with ((with_reducible refine wpListIn_keyK (.tmp 6) W1.heap.size x.1 HKV.out ?_ ?_ ?_ ?_); rfl; rfl; rfl)
      refine ⟨trivial, (CallsIn.inRound l (callsIn_wide.2 HAdd.out)).mono ?_⟩
      rintro e W' ⟨rfl, hs, hg⟩
      have HE := hide (HUV.out.add (g := gOf ao) HNB.out x.1 hs hg)
      clear hs hg HAdd
      gi_wp2
      exact ⟨HE.out.2.2, HE.out.2.1, by show UnS w N bx zu bu (addTo [] (pre ++ [x])) W'; rw [addTo_snoc]; exact HE.out.1⟩
  case stop =>
    rintro D c pre W3 hD hS hK
    exact hS.elim
  case done =>
    rintro D xs W4 hD hxs hU4 hK4
    have hb4 : Below w.heap.size w W4 := by have := hU4.bel; rw [HN.out] at this; exact this
    have HAl2 := hide (all_q W4 qb Bs (HB.out.below hb4) (by have := HLn.out; omega))
    have HXS := hide hxs
    have HU4 := hide hU4
    have HD4 : Hid (DfS D W4) := hide hK4
    have HDN : Hid (N ≤ D) := hide (by omega)
    have hsz4 : N ≤ W4.heap.size ∧ bu < W4.heap.size ∧ D < W4.heap.size := ⟨by have := hU4.st.blk.lt; have := hU4.nz; omega, hU4.st.set.lt, (Array.getElem?_eq_some_iff.1 hK4).1⟩
    obtain ⟨s1, s2, s3⟩ := hsz4
    clear hxs hU4 hK4 hb4 hD HU3 K1 K2
    go_upto_region 6 with (go_at_call 11; refine HAl2.out.mono ?_; rintro e w5 ⟨b4, ao2, cap2, ks2, rfl, k1, k2, k3, k4, k5, k6⟩; have M1 := hide k1; have M2 := hide k2; have M3 := hide k3; have M4 := hide k4; have M6 := hide k6; clear k1 k2 k3 k4 k5 k6; unfold riF)
    have hsz5 : W4.heap.size ≤ w5.heap.size := M6.out.size
    have hN5 : N ≤ w5.heap.size := by omega
    have hbu5 : bu < w5.heap.size := by omega
    have hD5 : D < w5.heap.size := by omega
    have HU5 := hide (HU4.out.below M6.out s1)
    have HD5 : Hid (DfS D w5) := hide ((M6.out.block D s3).trans HD4.out)
    have HKL2 : Hid (ks2.length ≤ Bs.length) := hide (by
      exact List.Nodup.length_le_of_subset (rising_nodup M3.out) (fun y hy => ((M4.out y).1 hy).2))
    have HXL : Hid (xs.length ≤ A.length) := hide (by
      have h1 : (xs.map Subtype.val).length ≤ A.length := by rw [show xs.map Subtype.val = ks from HXS.out]; exact HKL.out
      simpa using h1)
    clear HAl2 HU4 HD4 M6
    refine (wpIn_wide (n := 5)).1 ?_
    refine wpIn_rangeKl rfl (by omega) (gf := 36) (lb := #[.pointer (some ⟨b4, 0, none⟩)]) rfl trivial (enters_of Try.func36 (by kernel_rfl) rfl) (rising_fit (5 - 1) w5 b4 ao2 cap2 ks2 M1.out M2.out (by have := HKL2.out; have := HLn.out; omega)) (Below.refl _ _) (KeepR.keeping (gOf ao2)) (fun _ => rfl)
      (fun pre W => UnS w N bx zu bu (addTo (addTo [] xs) pre) W ∧ DfS D W)
      (fun _ _ _ => False)
      (UnS.ownFrom2 hN5 hbu5 hD5)
      (fun _ _ _ _ _ h _ _ => h)
      ⟨HU5.out, HD5.out⟩ (fun A B h => KeepR.below h) ?round ?done ?stop
    case round =>
      rintro l pre x Wp V1 ⟨hU1, hd1⟩ hbW hfit
      have HC1 := hide (hU1.below hbW (by have := hU1.st.blk.lt; have := hU1.nz; omega))
      have HDD : Hid (DfS D V1) := hide ((hbW.block D (Array.getElem?_eq_some_iff.1 hd1).1).trans hd1)
      have HX := hide x.2
      have HPL : Hid ((addTo (addTo [] xs) pre).length < maxLen) := hide (by
        have h1 := addTo_len (addTo [] xs) pre
        have h0 := addTo_len [] xs
        have h2 : pre.length ≤ ks2.length := by
          have h3 := hfit.length_le
          simp at h3
          omega
        have := HKL2.out
        have := HXL.out
        have := HLn.out
        unfold maxLen
        simp at h0
        omega)
      clear hU1 hbW hfit hd1
      refine ⟨fun a₁ W₂ => a₁ = { tmps := #[.pointer qa, .pointer qb, undef, undef, .pointer none, .pointer (some ⟨bx, 0, none⟩), undef, .pointer (some ⟨V1.heap.size, 0, none⟩), .pointer (some ⟨zu, 0, none⟩), .pointer qa, .func (.func 36) #[] #[.pointer (some ⟨b3, 0, none⟩)], undef, undef, undef, undef, .pointer qb, .func (.func 36) #[] #[.pointer (some ⟨b4, 0, none⟩)], keyV x.1, undef, undef, undef, undef], defers := [] } ∧ KeyAt W₂ V1.heap.size x.1, ?asg, ?bd⟩
      case asg =>
        intro K hK
        unfold keV
        simp only [List.zip_toArray, List.zip_cons_cons, List.zip_nil_right, List.foldl_toArray, List.foldl_cons, List.foldl_nil, List.setIfInBounds_toArray, List.set_cons_succ, List.set_cons_zero]
        gi_wp2_with ((with_reducible refine wpListIn_put_keyK ?_ (.tmp 7) (.tmp 17) ?_ V1.heap.size ?_ V1 ?_ ?_ x.1 HX.out ?_ ?_); rfl; rfl; rfl; rfl; rfl; rfl; intro w2 HK2 hb2)
        exact hK _ _ ⟨rfl, HK2.out⟩ hb2
      case bd =>
        rintro a₁ W₂ q o' ⟨rfl, hk⟩ hb2 hlo hle
        have hC2 := HC1.out.below hb2 (by have := HC1.out.st.blk.lt; have := HC1.out.nz; omega)
        have hD2 : DfS D W₂ := (hb2.block D (Array.getElem?_eq_some_iff.1 HDD.out).1).trans HDD.out
        have hC3 := (UnS.ownFrom2 (w := w) (bx := bx) (zu := zu) (f := fun _ => addTo (addTo [] xs) pre) hN5 hbu5 hD5).putObj (s := pre) o' ⟨hC2, hD2⟩ hle hlo rfl
        have hne : V1.heap.size ≠ l := fun e => by
          have h1 := hk.1
          unfold Blk at h1
          rw [e, hlo] at h1
          cases h1
        have hk3 : KeyAt (W₂.putObj l o') V1.heap.size x.1 := ⟨(World.putObj_heap_other hne).trans hk.1, hk.2⟩
        refine name_worldInK' (fun V => (UnS w N bx zu bu (addTo (addTo [] xs) pre) V ∧ DfS D V) ∧ KeyAt V V1.heap.size x.1) ⟨hC3, hk3⟩ ?_
        rintro V ⟨⟨hUV, hdV⟩, hKV⟩
        have c5 : V.cell? ⟨bx, 0, none⟩ = some (.pointer (some ⟨zu, 0, none⟩)) := by rw [hUV.bk.cell]; rfl
        have l5 := hUV.bk.lt
        have HUV := hide hUV
        have HKV := hide hKV
        have HDV := hide hdV
        have HAdd := hide (add_any V zu bu (addTo (addTo [] xs) pre) x.1 x.2 hUV.st HPL.out)
        clear hC2 hC3 hne hk3 hk hb2 hlo hle hUV hKV hdV hD2
        gi_wp2_with ((with_reducible refine wpListIn_keyK (.tmp 7) V1.heap.size x.1 HKV.out ?_ ?_ ?_ ?_); rfl; rfl; rfl)
        refine ⟨trivial, (CallsIn.inRound l (callsIn_wide.2 HAdd.out)).mono ?_⟩
        rintro e W' ⟨rfl, hs, hg⟩
        have HE := hide (HUV.out.add (g := gOf ao2) HNB.out x.1 hs hg)
        clear hs hg HAdd
        gi_wp2
        exact ⟨HE.out.2.2, HE.out.2.1, (by show UnS w N bx zu bu (addTo (addTo [] xs) (pre ++ [x])) W'; rw [addTo_snoc]; exact HE.out.1), HE.out.2.2.df _ _ HDV.out⟩
    case stop =>
      rintro D c pre W3 hD hS hK
      exact hS.elim
    case done =>
      rintro D2 ys W6 hD2 hys ⟨hU6, hd6⟩ hK6
      have c5 : W6.cell? ⟨bx, 0, none⟩ = some (.pointer (some ⟨zu, 0, none⟩)) := by rw [hU6.bk.cell]; rfl
      have l5 := hU6.bk.lt
      have hdn : D ≠ D2 := by omega
      have hDN := HDN.out
      have HR : Hid (∃ U, (NewC w U (.returned (.pointer (some ⟨zu, 0, none⟩))) ((W6.putObj D2 (.deferred none)).putObj D (.deferred none)) ∧ U.Nodup) ∧ ∀ x : List UInt8, x ∈ U ↔ (x.length = 32 ∧ (x ∈ A ∨ x ∈ Bs))) := hide (by
        have hg1 := grownBy_putObj' W6 D2 (.deferred none)
        have hg2 := grownBy_putObj' (W6.putObj D2 (.deferred none)) D (.deferred none)
        have hd6' : (W6.putObj D2 (.deferred none)).heap[D]? = some (.deferred (some [])) := (World.putObj_heap_other hdn).trans hd6
        have mne : ∀ {V : World} {r : Nat}, SetAt V zu bu (addTo (addTo [] xs) ys) → V.heap[r]? = some (.deferred (some [])) → zu ≠ r ∧ bu ≠ r := by
          intro V r hs hr
          refine ⟨fun e => ?_, fun e => ?_⟩
          · have := hs.blk
            unfold Blk at this
            rw [e, hr] at this
            cases this
          · obtain ⟨D0, ⟨es, clock, hb, _⟩, _⟩ := hs.set
            rw [e, hr] at hb
            cases hb
        obtain ⟨n1, n2⟩ := mne hU6.st hK6
        have st1 := hU6.st.grown hg1 (by simpa using n1) (by simpa using n2)
        obtain ⟨n3, n4⟩ := mne st1 hd6'
        have st2 := st1.grown hg2 (by simpa using n3) (by simpa using n4)
        refine ⟨_, ⟨⟨zu, bu, rfl, by rw [← HN.out]; exact hU6.nz, by rw [← HN.out]; exact HNB.out, st2, ?_⟩, addTo_nodup _ _ (addTo_nodup _ _ List.nodup_nil)⟩, fun x => ?_⟩
        · rw [← HN.out]
          exact below_put (below_put hU6.bel D2 _ (by omega)) D _ hDN
        · rw [mem_addTo, mem_addTo, show xs.map Subtype.val = ks from HXS.out, show ys.map Subtype.val = ks2 from hys, K4.out x, M4.out x]
          constructor
          · rintro ((h | h) | h)
            · cases h
            · exact ⟨h.1, .inl h.2⟩
            · exact ⟨h.1, .inr h.2⟩
          · rintro ⟨h1, h2 | h2⟩
            · exact .inl (.inr ⟨h1, h2⟩)
            · exact .inr ⟨h1, h2⟩)
      have HK6 : Hid (DfS D2 W6) := hide hK6
      have HD6 := hide hd6
      have HDD := hide hdn
      clear hU6 hd6 hK6 hys hD2 hdn
      go_wp2
      exact leave2K (t := 4) (v := .pointer (some ⟨zu, 0, none⟩)) rfl HK6.out HD6.out HDD.out rfl HR.out
end Go.Proofs.Ytnloglecfbhpcaa

/- Both, Minus, for sets that may be nil. -/
namespace Go.Proofs.Ytnloglecfbhpcaa
set_option linter.unusedVariables false
set_option linter.unusedSimpArgs false
open Go.RowKit Go.Shelf
set_option maxRecDepth 100000
attribute [local go_sem] Oper.semAt_some

structure UqS (w : World) (N bx zu bu : Nat) (qb : Option Addr) (S : List (List UInt8)) (W : World) : Prop where
  un : UnS w N bx zu bu S W
  bb : Blk W N #[.pointer qb] 25
theorem UqS.below {w W W' : World} {N bx zu bu : Nat} {qb : Option Addr} {S : List (List UInt8)} (h : UqS w N bx zu bu qb S W) (hb : Below W.heap.size W W') : UqS w N bx zu bu qb S W' :=
  ⟨h.un.below hb (by have := h.un.st.blk.lt; have := h.un.nz; omega), h.bb.below hb h.bb.lt⟩
theorem UqS.ownFrom {w : World} {N bx zu bu B : Nat} {qb : Option Addr} {f : List K32 → List (List UInt8)} (hB : N ≤ B) (hbu : bu < B) : OwnFrom B (fun pre W => UqS w N bx zu bu qb (f pre) W) :=
  fun s A C row h hg hr => ⟨UnS.ownFrom hB hbu s A C row h.un hg hr, h.bb.keptRowK hg (fun r e => (hr r e).2)⟩
theorem UqS.add {w V W' : World} {N bx zu bu g : Nat} {qb : Option Addr} {S : List (List UInt8)} (h : UqS w N bx zu bu qb S V) (hN : N ≤ bu) (k : List UInt8) (hs : SetAt W' zu bu (addK k S)) (hg : V.grownBy W' (some bu)) : UqS w N bx zu bu qb (addK k S) W' ∧ KeepR g V W' ∧ KeepsLD V W' := by
  obtain ⟨h1, h2, h3⟩ := h.un.add (g := g) hN k hs hg
  refine ⟨⟨h1, h.bb.grown hg (fun e => ?_)⟩, h2, h3⟩
  obtain ⟨D, ⟨es, clock, hb, _⟩, _⟩ := h.un.st.set
  have := h.bb
  unfold Blk at this
  rw [Option.some.inj e, hb] at this
  cases this
set_option maxHeartbeats 4000000 in
theorem both_q (w : World) (qa qb : Option Addr) (A Bs : List (List UInt8)) (hA : SetQ w qa A) (hB : SetQ w qb Bs) (hn : A.length ≤ 4398046510976) : Calls Try.prog 31 #[.pointer qa, .pointer qb] w fun e W => ∃ U, (NewC w U e W ∧ U.Nodup) ∧ ∀ x : List UInt8, x ∈ U ↔ (x.length = 32 ∧ x ∈ A ∧ x ∈ Bs) := by
  obtain ⟨N, hN⟩ : ∃ N, N = w.heap.size := ⟨_, rfl⟩
  have bw : Below w.heap.size w (w.alloc (.cells #[.pointer qb] 25)) := (Below.refl _ _).alloc (Nat.le_refl _) _
  have HW0 : Hid (∀ W, W = w.alloc (.cells #[.pointer qb] 25) → Blk W N #[.pointer qb] 25 ∧ Below N w W ∧ N < W.heap.size) := hide (fun W e => by
    subst e
    rw [hN]
    exact ⟨Blk.made w _ _, bw, by simp⟩)
  have HA := hide hA
  have HB := hide hB
  have HN := hide hN
  have HLn := hide hn
  clear hA hB hn bw
  refine (callsIn_wide (n := 5)).1 ?_
  refine callsIn_of_wp_marks Try.func31 rfl trivial ?_ rfl
  refine wpIn_wide.2 ?_
  simp only [Try.ntmps31, List.size_toArray, List.length_cons, List.length_nil, Nat.reduceAdd, Nat.reduceSub, Array.replicate_succ, Array.replicate_zero, List.push_toArray, List.append_toArray, List.nil_append, List.cons_append]
  go_upto_region 1 with fail
  rw [← hN]
  clear hN
  refine name_worldK (fun W => Blk W N #[.pointer qb] 25 ∧ Below N w W ∧ N < W.heap.size) (HW0.out _ rfl) ?_
  rintro W0 ⟨hk0, hb0, hn0⟩
  have HNew := hide (newSet_any W0 none 0 0 [] rfl ⟨fun i hi => absurd hi (Nat.not_lt_zero _), fun k hk => (by cases hk)⟩ (by decide))
  have HK0 := hide hk0
  have HB0 := hide hb0
  have HN0 := hide hn0
  clear hk0 hb0 hn0 HW0
  go_upto_region 2 with (go_at_call 6; refine HNew.out.mono ?_; rintro e w1 ⟨zu, bu, rfl, hz, hbu, hs, hb1⟩; have HZ := hide hz; have HBU := hide hbu; have HS1 := hide hs; have HB1 := hide hb1; clear hz hbu hs hb1)
  have HW : Hid (UqS w N w1.heap.size zu bu qb [] (w1.alloc (.cells #[.pointer (some ⟨zu, 0, none⟩)] 25)) ∧ SetQ (w1.alloc (.cells #[.pointer (some ⟨zu, 0, none⟩)] 25)) qa A ∧ bu < (w1.alloc (.cells #[.pointer (some ⟨zu, 0, none⟩)] 25)).heap.size ∧ N ≤ bu) := hide (by
    have b1 : Below w1.heap.size w1 (w1.alloc (.cells #[.pointer (some ⟨zu, 0, none⟩)] 25)) := (Below.refl _ _).alloc (Nat.le_refl _) _
    have hn0 := HN0.out
    have b2 : Below N w (w1.alloc (.cells #[.pointer (some ⟨zu, 0, none⟩)] 25)) := HB0.out.trans ((HB1.out.mono (by omega)).trans (b1.mono (by have := HB1.out.size; omega)))
    have b2' : Below w.heap.size w (w1.alloc (.cells #[.pointer (some ⟨zu, 0, none⟩)] 25)) := by rw [← HN.out]; exact b2
    have hl := HS1.out.set.lt
    have k1 := HK0.out.below HB1.out HK0.out.lt
    have hz1 := HZ.out
    have hz2 := HBU.out
    exact ⟨⟨⟨Blk.made w1 _ _, HS1.out.below b1, b2, by omega⟩, k1.below b1 k1.lt⟩, HA.out.below b2', by simp; omega, by omega⟩)
  refine name_worldK (fun W => UqS w N w1.heap.size zu bu qb [] W ∧ SetQ W qa A ∧ bu < W.heap.size ∧ N ≤ bu) HW.out ?_
  rintro W2 ⟨hU, hA2, hbl, hNb⟩
  generalize w1.heap.size = bx at *
  have HAl := hide (all_q W2 qa A hA2 (by have := HLn.out; omega))
  have HU := hide hU
  have HNB := hide hNb
  clear HW HNew HS1 HB1 HZ HBU hU hA2 HA hNb HK0 HB0 HN0
  go_upto_region 3 with (go_at_call 11; refine HAl.out.mono ?_; rintro e w3 ⟨b3, ao, cap, ks, rfl, k1, k2, k3, k4, k5, k6⟩; have K1 := hide k1; have K2 := hide k2; have K3 := hide k3; have K4 := hide k4; have K5 := hide k5; have K6 := hide k6; clear k1 k2 k3 k4 k5 k6; unfold riF)
  have hsz3 : W2.heap.size ≤ w3.heap.size := K6.out.size
  have hN3 : N ≤ w3.heap.size := by have := HNB.out; omega
  have hbu3 : bu < w3.heap.size := by omega
  have HU3 := hide (HU.out.below K6.out)
  have HKL : Hid (ks.length ≤ A.length) := hide (by
    exact List.Nodup.length_le_of_subset (rising_nodup K3.out) (fun y hy => ((K4.out y).1 hy).2))
  clear HAl HU K5 K6
  refine (wpIn_wide (n := 5)).1 ?_
  refine wpIn_rangeKl rfl (by omega) (gf := 36) (lb := #[.pointer (some ⟨b3, 0, none⟩)]) rfl trivial (enters_of Try.func36 (by kernel_rfl) rfl) (rising_fit (5 - 1) w3 b3 ao cap ks K1.out K2.out (by have := HKL.out; have := HLn.out; omega)) (Below.refl _ _) (KeepR.keeping (gOf ao)) (fun _ => rfl)
    (fun pre W => UqS w N bx zu bu qb (addTo [] (selK Bs true pre)) W)
    (fun _ _ _ => False)
    (UqS.ownFrom hN3 hbu3)
    (fun _ _ _ _ _ h _ _ => h)
    HU3.out (fun A B h => KeepR.below h) ?round ?done ?stop
  case round =>
    rintro l pre x Wp W1 hU1 hbW hfit
    have HC1 := hide (hU1.below hbW)
    have HX := hide x.2
    have HPL : Hid ((addTo [] (selK Bs true pre)).length < maxLen) := hide (by
      have h1 := addTo_len [] (selK Bs true pre)
      have h0 : (selK Bs true pre).length ≤ pre.length := List.length_filter_le _ _
      have h2 : pre.length ≤ ks.length := by
        have h3 := hfit.length_le
        simp at h3
        omega
      have := HKL.out
      have := HLn.out
      unfold maxLen
      simp at h1
      omega)
    clear hU1 hbW hfit
    refine ⟨fun a₁ W₂ => a₁ = { tmps := #[.pointer qa, .pointer qb, undef, .pointer (some ⟨N, 0, none⟩), .pointer none, .pointer (some ⟨bx, 0, none⟩), .pointer (some ⟨W1.heap.size, 0, none⟩), .pointer (some ⟨zu, 0, none⟩), .pointer qa, .func (.func 36) #[] #[.pointer (some ⟨b3, 0, none⟩)], keyV x.1, undef, undef, undef, undef, undef, undef, undef], defers := [] } ∧ KeyAt W₂ W1.heap.size x.1, ?asg, ?bd⟩
    case asg =>
      intro K hK
      unfold keV
      simp only [List.zip_toArray, List.zip_cons_cons, List.zip_nil_right, List.foldl_toArray, List.foldl_cons, List.foldl_nil, List.setIfInBounds_toArray, List.set_cons_succ, List.set_cons_zero]
      gi_wp2_with ((with_reducible refine wpListIn_put_keyK ?_ (.tmp 6) (.tmp 10) ?_ W1.heap.size ?_ W1 ?_ ?_ x.1 HX.out ?_ ?_); rfl; rfl; rfl; rfl; rfl; rfl; intro w2 HK2 hb2)
      exact hK _ _ ⟨rfl, HK2.out⟩ hb2
    case bd =>
      rintro a₁ W₂ q o' ⟨rfl, hk⟩ hb2 hlo hle
      have hC2 := HC1.out.below hb2
      have hC3 : UqS w N bx zu bu qb (addTo [] (selK Bs true pre)) (W₂.putObj l o') := (UqS.ownFrom (f := fun _ => addTo [] (selK Bs true pre)) hN3 hbu3).putObj (s := pre) o' hC2 hle hlo rfl
      have hne : W1.heap.size ≠ l := fun e => by
        have h1 := hk.1
        unfold Blk at h1
        rw [e, hlo] at h1
        cases h1
      have hk3 : KeyAt (W₂.putObj l o') W1.heap.size x.1 := ⟨(World.putObj_heap_other hne).trans hk.1, hk.2⟩
      refine name_worldInK' (fun V => UqS w N bx zu bu qb (addTo [] (selK Bs true pre)) V ∧ KeyAt V W1.heap.size x.1) ⟨hC3, hk3⟩ ?_
      rintro V ⟨hUV, hKV⟩
      have hbV : Below w.heap.size w V := by have := hUV.un.bel; rw [HN.out] at this; exact this
      have HHas := hide (has_q V qb Bs x.1 x.2 (HB.out.below hbV))
      have c3 : V.cell? ⟨N, 0, none⟩ = some (.pointer qb) := by rw [hUV.bb.cell]; rfl
      have l3 := hUV.bb.lt
      have HUV := hide hUV
      have HKV := hide hKV
      clear hC2 hC3 hne hk3 hk hb2 hlo hle hUV hKV hbV
      gi_wp2_with ((with_reducible refine wpListIn_keyK (.tmp 6) W1.heap.size x.1 HKV.out ?_ ?_ ?_ ?_); rfl; rfl; rfl)
      refine ⟨trivial, (CallsIn.inRound l (callsIn_wide.2 HHas.out)).mono ?_⟩
      rintro e V2 ⟨rfl, hbV2⟩
      have HUV2 := hide (HUV.out.below hbV2)
      have HKV2 := hide (HKV.out.below hbV2)
      have HLD2 := hide (KeepsLD.below hbV2)
      have HKR2 : Hid (KeepR (gOf ao) V V2) := hide (KeepR.below hbV2)
      clear hbV2 HHas c3 l3
      by_cases hin : x.1 ∈ Bs
      · have hdi : decide (x.1 ∈ Bs) = true := by simpa using hin
        rw [hdi]
        clear hin
        have HAdd := hide (add_any V2 zu bu (addTo [] (selK Bs true pre)) x.1 x.2 HUV2.out.un.st HPL.out)
        have c5 : V2.cell? ⟨bx, 0, none⟩ = some (.pointer (some ⟨zu, 0, none⟩)) := by rw [HUV2.out.un.bk.cell]; rfl
        have l5 := HUV2.out.un.bk.lt
        gi_wp2_with ((with_reducible refine wpListIn_keyK (.tmp 6) W1.heap.size x.1 HKV2.out ?_ ?_ ?_ ?_); rfl; rfl; rfl)
        refine ⟨trivial, (CallsIn.inRound l (callsIn_wide.2 HAdd.out)).mono ?_⟩
        rintro e W' ⟨rfl, hs, hg⟩
        have HE := hide (HUV2.out.add (g := gOf ao) HNB.out x.1 hs hg)
        have HEq := hide (selK_in Bs true pre x hdi)
        clear hs hg HAdd
        gi_wp2
        exact ⟨HLD2.out.trans HE.out.2.2, HKR2.out.trans HE.out.2.1, by show UqS w N bx zu bu qb (addTo [] (selK Bs true (pre ++ [x]))) W'; rw [HEq.out]; exact HE.out.1⟩
      · have hdi : decide (x.1 ∈ Bs) = false := by simpa using hin
        rw [hdi]
        clear hin
        have HEq := hide (selK_out Bs true pre x hdi)
        gi_wp2
        exact ⟨HLD2.out, HKR2.out, by show UqS w N bx zu bu qb (addTo [] (selK Bs true (pre ++ [x]))) V2; rw [HEq.out]; exact HUV2.out⟩
  case stop =>
    rintro D c pre W3 hD hS hK
    exact hS.elim
  case done =>
    rintro D xs W4 hD hxs hU4 hK4
    have c5 : W4.cell? ⟨bx, 0, none⟩ = some (.pointer (some ⟨zu, 0, none⟩)) := by rw [hU4.un.bk.cell]; rfl
    have l5 := hU4.un.bk.lt
    have HR : Hid (∃ U, (NewC w U (.returned (.pointer (some ⟨zu, 0, none⟩))) (W4.putObj D (.deferred none)) ∧ U.Nodup) ∧ ∀ x : List UInt8, x ∈ U ↔ (x.length = 32 ∧ x ∈ A ∧ x ∈ Bs)) := hide (by
      have hg1 := grownBy_putObj' W4 D (.deferred none)
      have n1 : zu ≠ D := fun e => by
        have := hU4.un.st.blk
        unfold Blk at this
        rw [e, hK4] at this
        cases this
      have n2 : bu ≠ D := fun e => by
        obtain ⟨D0, ⟨es, clock, hb, _⟩, _⟩ := hU4.un.st.set
        rw [e, hK4] at hb
        cases hb
      have st1 := hU4.un.st.grown hg1 (by simpa using n1) (by simpa using n2)
      refine ⟨_, ⟨⟨zu, bu, rfl, by rw [← HN.out]; exact hU4.un.nz, by rw [← HN.out]; exact HNB.out, st1, ?_⟩, addTo_nodup _ _ List.nodup_nil⟩, fun x => ?_⟩
      · rw [← HN.out]
        exact below_put hU4.un.bel D _ (by omega)
      · rw [mem_selK, show xs.map Subtype.val = ks from hxs, K4.out x]
        constructor
        · rintro ⟨⟨h1, h2⟩, h3⟩
          exact ⟨h1, h2, by simpa using h3⟩
        · rintro ⟨h1, h2, h3⟩
          exact ⟨⟨h1, h2⟩, by simpa using h3⟩)
    have HK := hide hK4
    clear hU4 hK4 hxs hD
    go_wp2
    exact leave1K (t := 4) (v := .pointer (some ⟨zu, 0, none⟩)) rfl HK.out rfl HR.out
set_option maxHeartbeats 4000000 in
theorem minus_q (w : World) (qa qb : Option Addr) (A Bs : List (List UInt8)) (hA : SetQ w qa A) (hB : SetQ w qb Bs) (hn : A.length ≤ 4398046510976) : Calls Try.prog 33 #[.pointer qa, .pointer qb] w fun e W => ∃ U, (NewC w U e W ∧ U.Nodup) ∧ ∀ x : List UInt8, x ∈ U ↔ (x.length = 32 ∧ x ∈ A ∧ ¬ x ∈ Bs) := by
  obtain ⟨N, hN⟩ : ∃ N, N = w.heap.size := ⟨_, rfl⟩
  have bw : Below w.heap.size w (w.alloc (.cells #[.pointer qb] 25)) := (Below.refl _ _).alloc (Nat.le_refl _) _
  have HW0 : Hid (∀ W, W = w.alloc (.cells #[.pointer qb] 25) → Blk W N #[.pointer qb] 25 ∧ Below N w W ∧ N < W.heap.size) := hide (fun W e => by
    subst e
    rw [hN]
    exact ⟨Blk.made w _ _, bw, by simp⟩)
  have HA := hide hA
  have HB := hide hB
  have HN := hide hN
  have HLn := hide hn
  clear hA hB hn bw
  refine (callsIn_wide (n := 5)).1 ?_
  refine callsIn_of_wp_marks Try.func33 rfl trivial ?_ rfl
  refine wpIn_wide.2 ?_
  simp only [Try.ntmps33, List.size_toArray, List.length_cons, List.length_nil, Nat.reduceAdd, Nat.reduceSub, Array.replicate_succ, Array.replicate_zero, List.push_toArray, List.append_toArray, List.nil_append, List.cons_append]
  go_upto_region 1 with fail
  rw [← hN]
  clear hN
  refine name_worldK (fun W => Blk W N #[.pointer qb] 25 ∧ Below N w W ∧ N < W.heap.size) (HW0.out _ rfl) ?_
  rintro W0 ⟨hk0, hb0, hn0⟩
  have HNew := hide (newSet_any W0 none 0 0 [] rfl ⟨fun i hi => absurd hi (Nat.not_lt_zero _), fun k hk => (by cases hk)⟩ (by decide))
  have HK0 := hide hk0
  have HB0 := hide hb0
  have HN0 := hide hn0
  clear hk0 hb0 hn0 HW0
  go_upto_region 2 with (go_at_call 6; refine HNew.out.mono ?_; rintro e w1 ⟨zu, bu, rfl, hz, hbu, hs, hb1⟩; have HZ := hide hz; have HBU := hide hbu; have HS1 := hide hs; have HB1 := hide hb1; clear hz hbu hs hb1)
  have HW : Hid (UqS w N w1.heap.size zu bu qb [] (w1.alloc (.cells #[.pointer (some ⟨zu, 0, none⟩)] 25)) ∧ SetQ (w1.alloc (.cells #[.pointer (some ⟨zu, 0, none⟩)] 25)) qa A ∧ bu < (w1.alloc (.cells #[.pointer (some ⟨zu, 0, none⟩)] 25)).heap.size ∧ N ≤ bu) := hide (by
    have b1 : Below w1.heap.size w1 (w1.alloc (.cells #[.pointer (some ⟨zu, 0, none⟩)] 25)) := (Below.refl _ _).alloc (Nat.le_refl _) _
    have hn0 := HN0.out
    have b2 : Below N w (w1.alloc (.cells #[.pointer (some ⟨zu, 0, none⟩)] 25)) := HB0.out.trans ((HB1.out.mono (by omega)).trans (b1.mono (by have := HB1.out.size; omega)))
    have b2' : Below w.heap.size w (w1.alloc (.cells #[.pointer (some ⟨zu, 0, none⟩)] 25)) := by rw [← HN.out]; exact b2
    have hl := HS1.out.set.lt
    have k1 := HK0.out.below HB1.out HK0.out.lt
    have hz1 := HZ.out
    have hz2 := HBU.out
    exact ⟨⟨⟨Blk.made w1 _ _, HS1.out.below b1, b2, by omega⟩, k1.below b1 k1.lt⟩, HA.out.below b2', by simp; omega, by omega⟩)
  refine name_worldK (fun W => UqS w N w1.heap.size zu bu qb [] W ∧ SetQ W qa A ∧ bu < W.heap.size ∧ N ≤ bu) HW.out ?_
  rintro W2 ⟨hU, hA2, hbl, hNb⟩
  generalize w1.heap.size = bx at *
  have HAl := hide (all_q W2 qa A hA2 (by have := HLn.out; omega))
  have HU := hide hU
  have HNB := hide hNb
  clear HW HNew HS1 HB1 HZ HBU hU hA2 HA hNb HK0 HB0 HN0
  go_upto_region 3 with (go_at_call 11; refine HAl.out.mono ?_; rintro e w3 ⟨b3, ao, cap, ks, rfl, k1, k2, k3, k4, k5, k6⟩; have K1 := hide k1; have K2 := hide k2; have K3 := hide k3; have K4 := hide k4; have K5 := hide k5; have K6 := hide k6; clear k1 k2 k3 k4 k5 k6; unfold riF)
  have hsz3 : W2.heap.size ≤ w3.heap.size := K6.out.size
  have hN3 : N ≤ w3.heap.size := by have := HNB.out; omega
  have hbu3 : bu < w3.heap.size := by omega
  have HU3 := hide (HU.out.below K6.out)
  have HKL : Hid (ks.length ≤ A.length) := hide (by
    exact List.Nodup.length_le_of_subset (rising_nodup K3.out) (fun y hy => ((K4.out y).1 hy).2))
  clear HAl HU K5 K6
  refine (wpIn_wide (n := 5)).1 ?_
  refine wpIn_rangeKl rfl (by omega) (gf := 36) (lb := #[.pointer (some ⟨b3, 0, none⟩)]) rfl trivial (enters_of Try.func36 (by kernel_rfl) rfl) (rising_fit (5 - 1) w3 b3 ao cap ks K1.out K2.out (by have := HKL.out; have := HLn.out; omega)) (Below.refl _ _) (KeepR.keeping (gOf ao)) (fun _ => rfl)
    (fun pre W => UqS w N bx zu bu qb (addTo [] (selK Bs false pre)) W)
    (fun _ _ _ => False)
    (UqS.ownFrom hN3 hbu3)
    (fun _ _ _ _ _ h _ _ => h)
    HU3.out (fun A B h => KeepR.below h) ?round ?done ?stop
  case round =>
    rintro l pre x Wp W1 hU1 hbW hfit
    have HC1 := hide (hU1.below hbW)
    have HX := hide x.2
    have HPL : Hid ((addTo [] (selK Bs false pre)).length < maxLen) := hide (by
      have h1 := addTo_len [] (selK Bs false pre)
      have h0 : (selK Bs false pre).length ≤ pre.length := List.length_filter_le _ _
      have h2 : pre.length ≤ ks.length := by
        have h3 := hfit.length_le
        simp at h3
        omega
      have := HKL.out
      have := HLn.out
      unfold maxLen
      simp at h1
      omega)
    clear hU1 hbW hfit
    refine ⟨fun a₁ W₂ => a₁ = { tmps := #[.pointer qa, .pointer qb, undef, .pointer (some ⟨N, 0, none⟩), .pointer none, .pointer (some ⟨bx, 0, none⟩), .pointer (some ⟨W1.heap.size, 0, none⟩), .pointer (some ⟨zu, 0, none⟩), .pointer qa, .func (.func 36) #[] #[.pointer (some ⟨b3, 0, none⟩)], keyV x.1, undef, undef, undef, undef, undef, undef, undef, undef], defers := [] } ∧ KeyAt W₂ W1.heap.size x.1, ?asg, ?bd⟩
    case asg =>
      intro K hK
      unfold keV
      simp only [List.zip_toArray, List.zip_cons_cons, List.zip_nil_right, List.foldl_toArray, List.foldl_cons, List.foldl_nil, List.setIfInBounds_toArray, List.set_cons_succ, List.set_cons_zero]
      gi_wp2_with ((with_reducible refine wpListIn_put_keyK ?_ (.tmp 6) (.tmp 10) ?_ W1.heap.size ?_ W1 ?_ ?_ x.1 HX.out ?_ ?_); rfl; rfl; rfl; rfl; rfl; rfl; intro w2 HK2 hb2)
      exact hK _ _ ⟨rfl, HK2.out⟩ hb2
    case bd =>
      rintro a₁ W₂ q o' ⟨rfl, hk⟩ hb2 hlo hle
      have hC2 := HC1.out.below hb2
      have hC3 : UqS w N bx zu bu qb (addTo [] (selK Bs false pre)) (W₂.putObj l o') := (UqS.ownFrom (f := fun _ => addTo [] (selK Bs false pre)) hN3 hbu3).putObj (s := pre) o' hC2 hle hlo rfl
      have hne : W1.heap.size ≠ l := fun e => by
        have h1 := hk.1
        unfold Blk at h1
        rw [e, hlo] at h1
        cases h1
      have hk3 : KeyAt (W₂.putObj l o') W1.heap.size x.1 := ⟨(World.putObj_heap_other hne).trans hk.1, hk.2⟩
      refine name_worldInK' (fun V => UqS w N bx zu bu qb (addTo [] (selK Bs false pre)) V ∧ KeyAt V W1.heap.size x.1) ⟨hC3, hk3⟩ ?_
      rintro V ⟨hUV, hKV⟩
      have hbV : Below w.heap.size w V := by have := hUV.un.bel; rw [HN.out] at this; exact this
      have HHas := hide (has_q V qb Bs x.1 x.2 (HB.out.below hbV))
      have c3 : V.cell? ⟨N, 0, none⟩ = some (.pointer qb) := by rw [hUV.bb.cell]; rfl
      have l3 := hUV.bb.lt
      have HUV := hide hUV
      have HKV := hide hKV
      clear hC2 hC3 hne hk3 hk hb2 hlo hle hUV hKV hbV
      gi_wp2_with ((with_reducible refine wpListIn_keyK (.tmp 6) W1.heap.size x.1 HKV.out ?_ ?_ ?_ ?_); rfl; rfl; rfl)
      refine ⟨trivial, (CallsIn.inRound l (callsIn_wide.2 HHas.out)).mono ?_⟩
      rintro e V2 ⟨rfl, hbV2⟩
      have HUV2 := hide (HUV.out.below hbV2)
      have HKV2 := hide (HKV.out.below hbV2)
      have HLD2 := hide (KeepsLD.below hbV2)
      have HKR2 : Hid (KeepR (gOf ao) V V2) := hide (KeepR.below hbV2)
      clear hbV2 HHas c3 l3
      by_cases hin : x.1 ∈ Bs
      · have hdi : decide (x.1 ∈ Bs) = true := by simpa using hin
        rw [hdi]
        clear hin
        have HEq := hide (selK_out Bs false pre x hdi)
        gi_wp2
        exact ⟨HLD2.out, HKR2.out, by show UqS w N bx zu bu qb (addTo [] (selK Bs false (pre ++ [x]))) V2; rw [HEq.out]; exact HUV2.out⟩
      · have hdi : decide (x.1 ∈ Bs) = false := by simpa using hin
        rw [hdi]
        clear hin
        have HAdd := hide (add_any V2 zu bu (addTo [] (selK Bs false pre)) x.1 x.2 HUV2.out.un.st HPL.out)
        have c5 : V2.cell? ⟨bx, 0, none⟩ = some (.pointer (some ⟨zu, 0, none⟩)) := by rw [HUV2.out.un.bk.cell]; rfl
        have l5 := HUV2.out.un.bk.lt
        gi_wp2_with ((with_reducible refine wpListIn_keyK (.tmp 6) W1.heap.size x.1 HKV2.out ?_ ?_ ?_ ?_); rfl; rfl; rfl)
        refine ⟨trivial, (CallsIn.inRound l (callsIn_wide.2 HAdd.out)).mono ?_⟩
        rintro e W' ⟨rfl, hs, hg⟩
        have HE := hide (HUV2.out.add (g := gOf ao) HNB.out x.1 hs hg)
        have HEq := hide (selK_in Bs false pre x hdi)
        clear hs hg HAdd
        gi_wp2
        exact ⟨HLD2.out.trans HE.out.2.2, HKR2.out.trans HE.out.2.1, by show UqS w N bx zu bu qb (addTo [] (selK Bs false (pre ++ [x]))) W'; rw [HEq.out]; exact HE.out.1⟩
  case stop =>
    rintro D c pre W3 hD hS hK
    exact hS.elim
  case done =>
    rintro D xs W4 hD hxs hU4 hK4
    have c5 : W4.cell? ⟨bx, 0, none⟩ = some (.pointer (some ⟨zu, 0, none⟩)) := by rw [hU4.un.bk.cell]; rfl
    have l5 := hU4.un.bk.lt
    have HR : Hid (∃ U, (NewC w U (.returned (.pointer (some ⟨zu, 0, none⟩))) (W4.putObj D (.deferred none)) ∧ U.Nodup) ∧ ∀ x : List UInt8, x ∈ U ↔ (x.length = 32 ∧ x ∈ A ∧ ¬ x ∈ Bs)) := hide (by
      have hg1 := grownBy_putObj' W4 D (.deferred none)
      have n1 : zu ≠ D := fun e => by
        have := hU4.un.st.blk
        unfold Blk at this
        rw [e, hK4] at this
        cases this
      have n2 : bu ≠ D := fun e => by
        obtain ⟨D0, ⟨es, clock, hb, _⟩, _⟩ := hU4.un.st.set
        rw [e, hK4] at hb
        cases hb
      have st1 := hU4.un.st.grown hg1 (by simpa using n1) (by simpa using n2)
      refine ⟨_, ⟨⟨zu, bu, rfl, by rw [← HN.out]; exact hU4.un.nz, by rw [← HN.out]; exact HNB.out, st1, ?_⟩, addTo_nodup _ _ List.nodup_nil⟩, fun x => ?_⟩
      · rw [← HN.out]
        exact below_put hU4.un.bel D _ (by omega)
      · rw [mem_selK, show xs.map Subtype.val = ks from hxs, K4.out x]
        constructor
        · rintro ⟨⟨h1, h2⟩, h3⟩
          exact ⟨h1, h2, by simpa using h3⟩
        · rintro ⟨h1, h2, h3⟩
          exact ⟨⟨h1, h2⟩, by simpa using h3⟩)
    have HK := hide hK4
    clear hU4 hK4 hxs hD
    go_wp2
    exact leave1K (t := 4) (v := .pointer (some ⟨zu, 0, none⟩)) rfl HK.out rfl HR.out
end Go.Proofs.Ytnloglecfbhpcaa
