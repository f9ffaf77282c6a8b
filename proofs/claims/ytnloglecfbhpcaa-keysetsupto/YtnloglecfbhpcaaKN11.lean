/- Union: the rounds that put keys into a set. -/
import Derived.Test.YtnloglecfbhpcaaKB2
import Derived.Test.YtnloglecfbhpcaaKRF3
namespace Go.Proofs.Ytnloglecfbhpcaa
set_option linter.unusedVariables false
set_option linter.unusedSimpArgs false
open Go.RowKit Go.Shelf
set_option maxRecDepth 100000
attribute [local go_sem] Oper.semAt_some

def addTo (S : List (List UInt8)) (pre : List K32) : List (List UInt8) := pre.foldl (fun S x => addK x.1 S) S
theorem addTo_snoc (S : List (List UInt8)) (pre : List K32) (x : K32) : addTo S (pre ++ [x]) = addK x.1 (addTo S pre) := by simp [addTo]
theorem addTo_len (S : List (List UInt8)) (pre : List K32) : (addTo S pre).length ≤ S.length + pre.length := by
  induction pre generalizing S with
  | nil => simp [addTo]
  | cons x pre ih =>
    have h1 := ih (addK x.1 S)
    have h2 := addK_len x.1 S
    have e : addTo S (x :: pre) = addTo (addK x.1 S) pre := rfl
    rw [e, List.length_cons]
    omega
theorem insK_nodup (k : List UInt8) : ∀ S : List (List UInt8), S.Nodup → k ∉ S → (insK k S).Nodup := by
  intro S hS hk
  have hm : ∀ T : List (List UInt8), ∀ x, x ∈ insK k T ↔ x = k ∨ x ∈ T := mem_insK k
  induction S with
  | nil => simp [insK]
  | cons a S ih =>
    unfold insK
    split
    · exact List.nodup_cons.2 ⟨hk, hS⟩
    · refine List.nodup_cons.2 ⟨fun h => ?_, ih (List.nodup_cons.1 hS).2 (fun h => hk (List.mem_cons_of_mem _ h))⟩
      rcases (hm S a).1 h with e | e
      · exact hk (by rw [e]; simp)
      · exact (List.nodup_cons.1 hS).1 e
theorem addK_nodup (k : List UInt8) (S : List (List UInt8)) (h : S.Nodup) : (addK k S).Nodup := by
  unfold addK
  split
  · exact h
  · rename_i hk
    exact insK_nodup k S h hk
theorem addTo_nodup (pre : List K32) : ∀ S : List (List UInt8), S.Nodup → (addTo S pre).Nodup := by
  induction pre with
  | nil => exact fun S h => h
  | cons x pre ih => exact fun S h => ih _ (addK_nodup x.1 S h)
theorem mem_addTo (S : List (List UInt8)) (pre : List K32) (y : List UInt8) : y ∈ addTo S pre ↔ y ∈ S ∨ y ∈ pre.map Subtype.val := by
  induction pre generalizing S with
  | nil => simp [addTo]
  | cons x pre ih =>
    have e : addTo S (x :: pre) = addTo (addK x.1 S) pre := rfl
    rw [e, ih, mem_addK, List.map_cons, List.mem_cons]
    constructor
    · rintro ((h | h) | h)
      · exact .inr (.inl h)
      · exact .inl h
      · exact .inr (.inr h)
    · rintro (h | h | h)
      · exact .inl (.inr h)
      · exact .inl (.inl h)
      · exact .inr h
/-- A set that is being made, its box. -/
structure UnS (w : World) (N bx zu bu : Nat) (S : List (List UInt8)) (W : World) : Prop where
  bk : Blk W bx #[.pointer (some ⟨zu, 0, none⟩)] 25
  st : SetAt W zu bu S
  bel : Below N w W
  nz : N ≤ zu
theorem UnS.below {w W W' : World} {N bx zu bu : Nat} {S : List (List UInt8)} (h : UnS w N bx zu bu S W) (hb : Below W.heap.size W W') (hN : N ≤ W.heap.size) : UnS w N bx zu bu S W' :=
  ⟨h.bk.below hb h.bk.lt, h.st.below hb, h.bel.trans (hb.mono hN), h.nz⟩
theorem cells_ne {W : World} {b r : Nat} {cs : Array Value} {t : TypeId} (h : Blk W b cs t) (hr : ∃ o : Obj, W.heap[r]? = some o ∧ o.isCells = false) : b ≠ r := fun e => by
  obtain ⟨o, h1, h2⟩ := hr
  unfold Blk at h
  rw [e, h1] at h
  cases h
  cases h2
theorem UnS.ownFrom {w : World} {N bx zu bu B : Nat} {f : List K32 → List (List UInt8)} (hB : N ≤ B) (hbu : bu < B) : OwnFrom B (fun pre W => UnS w N bx zu bu (f pre) W) :=
  fun s A C row h hg hr => by
    have hr2 : ∀ r, row = some r → ∃ o : Obj, A.heap[r]? = some o ∧ o.isCells = false := fun r e => (hr r e).2
    refine ⟨h.bk.keptRowK hg hr2, h.st.grown hg (fun e => cells_ne h.st.blk (hr2 zu e.symm) rfl) (fun e => by have := (hr bu e.symm).1; omega), ⟨hg.os.trans h.bel.os, hg.tape.trans h.bel.tape, hg.output.trans h.bel.output, Nat.le_trans h.bel.size hg.size, fun k hk => (hg.block k (Nat.lt_of_lt_of_le hk ?_) (fun e => by have := (hr k e.symm).1; omega)).trans (h.bel.block k hk)⟩, h.nz⟩
    have := h.st.blk.lt
    have := h.nz
    omega
theorem rising_nodup {ks : List (List UInt8)} (h : Rising ks) : ks.Nodup := by
  unfold Rising at h
  rw [List.pairwise_iff_getElem] at h
  refine List.pairwise_iff_getElem.2 (fun i j hi hj hij e => ?_)
  have := h i j hi hj hij
  rw [e, cmpK_self] at this
  omega
/-- What was deferred is still there. -/
def DfS (D : Nat) (W : World) : Prop := W.heap[D]? = some (.deferred (some []))
theorem UnS.ownFrom2 {w : World} {N bx zu bu B D : Nat} {f : List K32 → List (List UInt8)} (hB : N ≤ B) (hbu : bu < B) (hD : D < B) : OwnFrom B (fun pre W => UnS w N bx zu bu (f pre) W ∧ DfS D W) :=
  fun s A C row h hg hr => ⟨UnS.ownFrom hB hbu s A C row h.1 hg hr, (hg.block D (Array.getElem?_eq_some_iff.1 h.2).1 (fun e => by have := (hr D e.symm).1; omega)).trans h.2⟩
theorem leave2K {fn : Func} {t : Tmp} {R : Ending → World → Prop} (hres : fn.results = #[.tmp t]) {tmps : Array Value} {W : World} {D1 D2 : Nat} {v : Value} (e2 : DfS D2 W) (e1 : DfS D1 W) (hne : D1 ≠ D2) (hv : tmps.getD t undef = v) (hR : R (.returned v) ((W.putObj D2 (.deferred none)).putObj D1 (.deferred none))) :
    bodyPostM Fence.wide 5 Try.prog fn R .ret { tmps := tmps, defers := [{ target := .collected D2, args := #[] }, { target := .collected D1, args := #[] }] } W := by
  have e1' : (W.putObj D2 (.deferred none)).heap[D1]? = some (.deferred (some [])) := (World.putObj_heap_other hne).trans e1
  refine ⟨by simp, .inl ⟨_, _, rfl, run_takeDeferred e2, ?_⟩⟩
  refine ⟨by simp, .inl ⟨_, _, rfl, run_takeDeferred e1', ?_⟩⟩
  have hv' : tmps[t]?.getD undef = v := by simpa using hv
  exact ⟨v, by simp [results, hres, hv'], hR⟩
/-- A key more in the set: what stays. -/
theorem UnS.add {w V W' : World} {N bx zu bu g : Nat} {S : List (List UInt8)} (h : UnS w N bx zu bu S V) (hN : N ≤ bu) (k : List UInt8) (hs : SetAt W' zu bu (addK k S)) (hg : V.grownBy W' (some bu)) : UnS w N bx zu bu (addK k S) W' ∧ KeepR g V W' ∧ KeepsLD V W' := by
  have hm : ∃ es c, V.heap[bu]? = some (.map es c) := by
    obtain ⟨D, ⟨es, clock, hb, _⟩, _⟩ := h.st.set
    exact ⟨es, clock, hb⟩
  obtain ⟨es, c, hm⟩ := hm
  refine ⟨⟨h.bk.grown hg (fun e => ?_), hs, h.bel.trans (below_grownBy hg hN (by have := h.st.blk.lt; have := h.nz; omega)), h.nz⟩, ⟨hg.size, fun cs t fz h1 => hg.block g (Array.getElem?_eq_some_iff.1 h1).1 (fun e => ?_)⟩, KeepsLD.grown hg (fun q e => ?_) (fun d e => ?_)⟩
  · have := h.bk
    unfold Blk at this
    rw [Option.some.inj e, hm] at this
    cases this
  · rw [Option.some.inj e, hm] at h1
    cases h1
  · rw [hm] at e; cases e
  · rw [hm] at e; cases e
set_option maxHeartbeats 4000000 in
theorem union_any (w : World) (za ba zb bb : Nat) (A Bs : List (List UInt8)) (hA : SetAt w za ba A) (hB : SetAt w zb bb Bs) (hn : A.length + Bs.length ≤ 4398046510976) : Calls Try.prog 29 #[.pointer (some ⟨za, 0, none⟩), .pointer (some ⟨zb, 0, none⟩)] w fun e W => ∃ U, (NewC w U e W ∧ U.Nodup) ∧ ∀ x : List UInt8, x ∈ U ↔ (x.length = 32 ∧ (x ∈ A ∨ x ∈ Bs)) := by
  obtain ⟨N, hN⟩ : ∃ N, N = w.heap.size := ⟨_, rfl⟩
  have HNew := hide (newSet_any w none 0 0 [] rfl ⟨fun i hi => absurd hi (Nat.not_lt_zero _), fun k hk => (by cases hk)⟩ (by decide))
  have HA := hide hA
  have HB := hide hB
  have HN := hide hN
  have HLn := hide hn
  clear hA hB hn
  refine (callsIn_wide (n := 5)).1 ?_
  refine callsIn_of_wp_marks Try.func29 rfl trivial ?_ rfl
  refine wpIn_wide.2 ?_
  simp only [Try.ntmps29, List.size_toArray, List.length_cons, List.length_nil, Nat.reduceAdd, Nat.reduceSub, Array.replicate_succ, Array.replicate_zero, List.push_toArray, List.append_toArray, List.nil_append, List.cons_append]
  go_upto_region 2 with (go_at_call 6; refine HNew.out.mono ?_; rintro e w1 ⟨zu, bu, rfl, hz, hbu, hs, hb1⟩; have HZ := hide hz; have HBU := hide hbu; have HS1 := hide hs; have HB1 := hide hb1; clear hz hbu hs hb1)
  have HW : Hid (UnS w N w1.heap.size zu bu [] (w1.alloc (.cells #[.pointer (some ⟨zu, 0, none⟩)] 25)) ∧ SetAt (w1.alloc (.cells #[.pointer (some ⟨zu, 0, none⟩)] 25)) za ba A ∧ bu < (w1.alloc (.cells #[.pointer (some ⟨zu, 0, none⟩)] 25)).heap.size ∧ N ≤ bu) := hide (by
    have b1 : Below w1.heap.size w1 (w1.alloc (.cells #[.pointer (some ⟨zu, 0, none⟩)] 25)) := (Below.refl _ _).alloc (Nat.le_refl _) _
    have b2 := HB1.out.trans (b1.mono HB1.out.size)
    have hl := HS1.out.set.lt
    refine ⟨⟨Blk.made w1 _ _, HS1.out.below b1, by rw [hN]; exact b2, by rw [hN]; exact HZ.out⟩, HA.out.below b2, by simp; omega, by rw [hN]; exact HBU.out⟩)
  refine name_worldK (fun W => UnS w N w1.heap.size zu bu [] W ∧ SetAt W za ba A ∧ bu < W.heap.size ∧ N ≤ bu) HW.out ?_
  rintro W2 ⟨hU, hA2, hbl, hNb⟩
  generalize w1.heap.size = bx at *
  have HAl := hide (all_any W2 za ba A hA2 (by have := HLn.out; omega))
  have HU := hide hU
  have HNB := hide hNb
  clear HW HNew HS1 HB1 HZ HBU hU hA2 HA hNb
  go_upto_region 3 with (go_at_call 11; refine HAl.out.mono ?_; rintro e w3 ⟨b3, ao, cap, ks, rfl, k1, k2, k3, k4, k5, k6⟩; have K1 := hide k1; have K2 := hide k2; have K3 := hide k3; have K4 := hide k4; have K5 := hide k5; have K6 := hide k6; clear k1 k2 k3 k4 k5 k6; unfold riF)
  have hsz3 : W2.heap.size ≤ w3.heap.size := K6.out.size
  have hN3 : N ≤ w3.heap.size := by have := HNB.out; omega
  have hbu3 : bu < w3.heap.size := by omega
  have HU3 := hide (HU.out.below K6.out (by have := HNB.out; omega))
  have HKL : Hid (ks.length ≤ A.length) := hide (by
    exact List.Nodup.length_le_of_subset (rising_nodup K3.out) (fun y hy => ((K4.out y).1 hy).2))
  clear HAl HU K5 K6
  refine (wpIn_wide (n := 5)).1 ?_
  refine wpIn_rangeKl rfl (by omega) (gf := 36) (lb := #[.pointer (some ⟨b3, 0, none⟩)]) rfl trivial (enters_of Try.func36 (by kernel_rfl) rfl) (rising_fit (5 - 1) w3 b3 ao cap ks K1.out K2.out (by have := HKL.out; have := HLn.out; omega)) (Below.refl _ _) (KeepR.keeping (gOf ao)) (fun _ => rfl)
    (fun pre W => UnS w N bx zu bu (addTo [] pre) W)
    (fun _ _ _ => False)
    (UnS.ownFrom hN3 hbu3)
    (fun _ _ _ _ _ h _ _ => h)
    HU3.out (fun A B h => KeepR.below h) ?round ?done ?stop
  case round =>
    rintro l pre x Wp W1 hU1 hbW hfit
    have HC1 := hide (hU1.below hbW (by have := hU1.st.blk.lt; have := hU1.nz; omega))
    have HX := hide x.2
    have HPL : Hid ((addTo [] pre).length < maxLen) := hide (by
      have h1 := addTo_len [] pre
      have h2 : pre.length ≤ ks.length := by
        have h3 := hfit.length_le
        simp at h3
        omega
      have := HKL.out
      have := HLn.out
      unfold maxLen
      simp at h1
      omega)
    clear hU1 hbW hfit
    refine ⟨fun a₁ W₂ => a₁ = { tmps := #[.pointer (some ⟨za, 0, none⟩), .pointer (some ⟨zb, 0, none⟩), undef, undef, .pointer none, .pointer (some ⟨bx, 0, none⟩), .pointer (some ⟨W1.heap.size, 0, none⟩), undef, .pointer (some ⟨zu, 0, none⟩), .pointer (some ⟨za, 0, none⟩), .func (.func 36) #[] #[.pointer (some ⟨b3, 0, none⟩)], keyV x.1, undef, undef, undef, undef, undef, undef, undef, undef, undef, undef], defers := [] } ∧ KeyAt W₂ W1.heap.size x.1, ?asg, ?bd⟩
    case asg =>
      intro K hK
      unfold keV
      simp only [List.zip_toArray, List.zip_cons_cons, List.zip_nil_right, List.foldl_toArray, List.foldl_cons, List.foldl_nil, List.setIfInBounds_toArray, List.set_cons_succ, List.set_cons_zero]
      gi_wp2_with ((with_reducible refine wpListIn_put_keyK ?_ (.tmp 6) (.tmp 11) ?_ W1.heap.size ?_ W1 ?_ ?_ x.1 HX.out ?_ ?_); rfl; rfl; rfl; rfl; rfl; rfl; intro w2 HK2 hb2)
      exact hK _ _ ⟨rfl, HK2.out⟩ hb2
    case bd =>
      rintro a₁ W₂ q o' ⟨rfl, hk⟩ hb2 hlo hle
      have hC2 := HC1.out.below hb2 (by have := HC1.out.st.blk.lt; have := HC1.out.nz; omega)
      have hC3 : UnS w N bx zu bu (addTo [] pre) (W₂.putObj l o') := (UnS.ownFrom (f := fun _ => addTo [] pre) hN3 hbu3).putObj (s := pre) o' hC2 hle hlo rfl
      have hne : W1.heap.size ≠ l := fun e => by
        have h1 := hk.1
        unfold Blk at h1
        rw [e, hlo] at h1
        cases h1
      have hk3 : KeyAt (W₂.putObj l o') W1.heap.size x.1 := ⟨(World.putObj_heap_other hne).trans hk.1, hk.2⟩
      refine name_worldInK' (fun V => UnS w N bx zu bu (addTo [] pre) V ∧ KeyAt V W1.heap.size x.1) ⟨hC3, hk3⟩ ?_
      rintro V ⟨hUV, hKV⟩
      have c5 : V.cell? ⟨bx, 0, none⟩ = some (.pointer (some ⟨zu, 0, none⟩)) := by rw [hUV.bk.cell]; rfl
      have l5 := hUV.bk.lt
      have HUV := hide hUV
      have HKV := hide hKV
      have HAdd := hide (add_any V zu bu (addTo [] pre) x.1 x.2 hUV.st HPL.out)
      clear hC2 hC3 hne hk3 hk hb2 hlo hle hUV hKV
      gi_wp2_with ((with_reducible refine wpListIn_keyK (.tmp 6) W1.heap.size x.1 HKV.out ?_ ?_ ?_ ?_); rfl; rfl; rfl)
      refine ⟨trivial, (CallsIn.inRound l (callsIn_wide.2 HAdd.out)).mono ?_⟩
      rintro e W' ⟨rfl, hs, hg⟩
      have HE := hide (HUV.out.add (g := gOf ao) HNB.out x.1 hs hg)
      clear hs hg HAdd
      gi_wp2
      exact ⟨HE.out.2.2, HE.out.2.1, by show UnS w N bx zu bu (addTo [] (pre ++ [x])) W'; rw [addTo_snoc]; exact HE.out.1⟩
  case stop =>
    rintro D c pre W3 hD hS hK
    exact hS.elim
  case done =>
    rintro D xs W4 hD hxs hU4 hK4
    have hb4 : Below w.heap.size w W4 := by have := hU4.bel; rw [HN.out] at this; exact this
    have HAl2 := hide (all_any W4 zb bb Bs (HB.out.below hb4) (by have := HLn.out; omega))
    have HXS := hide hxs
    have HU4 := hide hU4
    have HD4 : Hid (DfS D W4) := hide hK4
    have HDN : Hid (N ≤ D) := hide (by omega)
    have hsz4 : N ≤ W4.heap.size ∧ bu < W4.heap.size ∧ D < W4.heap.size := ⟨by have := hU4.st.blk.lt; have := hU4.nz; omega, hU4.st.set.lt, (Array.getElem?_eq_some_iff.1 hK4).1⟩
    obtain ⟨s1, s2, s3⟩ := hsz4
    clear hxs hU4 hK4 hb4 hD HU3 K1 K2
    go_upto_region 6 with (go_at_call 11; refine HAl2.out.mono ?_; rintro e w5 ⟨b4, ao2, cap2, ks2, rfl, k1, k2, k3, k4, k5, k6⟩; have M1 := hide k1; have M2 := hide k2; have M3 := hide k3; have M4 := hide k4; have M6 := hide k6; clear k1 k2 k3 k4 k5 k6; unfold riF)
    have hsz5 : W4.heap.size ≤ w5.heap.size := M6.out.size
    have hN5 : N ≤ w5.heap.size := by omega
    have hbu5 : bu < w5.heap.size := by omega
    have hD5 : D < w5.heap.size := by omega
    have HU5 := hide (HU4.out.below M6.out s1)
    have HD5 : Hid (DfS D w5) := hide ((M6.out.block D s3).trans HD4.out)
    have HKL2 : Hid (ks2.length ≤ Bs.length) := hide (by
      exact List.Nodup.length_le_of_subset (rising_nodup M3.out) (fun y hy => ((M4.out y).1 hy).2))
    have HXL : Hid (xs.length ≤ A.length) := hide (by
      have h1 : (xs.map Subtype.val).length ≤ A.length := by rw [show xs.map Subtype.val = ks from HXS.out]; exact HKL.out
      simpa using h1)
    clear HAl2 HU4 HD4 M6
    refine (wpIn_wide (n := 5)).1 ?_
    refine wpIn_rangeKl rfl (by omega) (gf := 36) (lb := #[.pointer (some ⟨b4, 0, none⟩)]) rfl trivial (enters_of Try.func36 (by kernel_rfl) rfl) (rising_fit (5 - 1) w5 b4 ao2 cap2 ks2 M1.out M2.out (by have := HKL2.out; have := HLn.out; omega)) (Below.refl _ _) (KeepR.keeping (gOf ao2)) (fun _ => rfl)
      (fun pre W => UnS w N bx zu bu (addTo (addTo [] xs) pre) W ∧ DfS D W)
      (fun _ _ _ => False)
      (UnS.ownFrom2 hN5 hbu5 hD5)
      (fun _ _ _ _ _ h _ _ => h)
      ⟨HU5.out, HD5.out⟩ (fun A B h => KeepR.below h) ?round ?done ?stop
    case round =>
      rintro l pre x Wp V1 ⟨hU1, hd1⟩ hbW hfit
      have HC1 := hide (hU1.below hbW (by have := hU1.st.blk.lt; have := hU1.nz; omega))
      have HDD : Hid (DfS D V1) := hide ((hbW.block D (Array.getElem?_eq_some_iff.1 hd1).1).trans hd1)
      have HX := hide x.2
      have HPL : Hid ((addTo (addTo [] xs) pre).length < maxLen) := hide (by
        have h1 := addTo_len (addTo [] xs) pre
        have h0 := addTo_len [] xs
        have h2 : pre.length ≤ ks2.length := by
          have h3 := hfit.length_le
          simp at h3
          omega
        have := HKL2.out
        have := HXL.out
        have := HLn.out
        unfold maxLen
        simp at h0
        omega)
      clear hU1 hbW hfit hd1
      refine ⟨fun a₁ W₂ => a₁ = { tmps := #[.pointer (some ⟨za, 0, none⟩), .pointer (some ⟨zb, 0, none⟩), undef, undef, .pointer none, .pointer (some ⟨bx, 0, none⟩), undef, .pointer (some ⟨V1.heap.size, 0, none⟩), .pointer (some ⟨zu, 0, none⟩), .pointer (some ⟨za, 0, none⟩), .func (.func 36) #[] #[.pointer (some ⟨b3, 0, none⟩)], undef, undef, undef, undef, .pointer (some ⟨zb, 0, none⟩), .func (.func 36) #[] #[.pointer (some ⟨b4, 0, none⟩)], keyV x.1, undef, undef, undef, undef], defers := [] } ∧ KeyAt W₂ V1.heap.size x.1, ?asg, ?bd⟩
      case asg =>
        intro K hK
        unfold keV
        simp only [List.zip_toArray, List.zip_cons_cons, List.zip_nil_right, List.foldl_toArray, List.foldl_cons, List.foldl_nil, List.setIfInBounds_toArray, List.set_cons_succ, List.set_cons_zero]
        gi_wp2_with ((with_reducible refine wpListIn_put_keyK ?_ (.tmp 7) (.tmp 17) ?_ V1.heap.size ?_ V1 ?_ ?_ x.1 HX.out ?_ ?_); rfl; rfl; rfl; rfl; rfl; rfl; intro w2 HK2 hb2)
        exact hK _ _ ⟨rfl, HK2.out⟩ hb2
      case bd =>
        rintro a₁ W₂ q o' ⟨rfl, hk⟩ hb2 hlo hle
        have hC2 := HC1.out.below hb2 (by have := HC1.out.st.blk.lt; have := HC1.out.nz; omega)
        have hD2 : DfS D W₂ := (hb2.block D (Array.getElem?_eq_some_iff.1 HDD.out).1).trans HDD.out
        have hC3 := (UnS.ownFrom2 (w := w) (bx := bx) (zu := zu) (f := fun _ => addTo (addTo [] xs) pre) hN5 hbu5 hD5).putObj (s := pre) o' ⟨hC2, hD2⟩ hle hlo rfl
        have hne : V1.heap.size ≠ l := fun e => by
          have h1 := hk.1
          unfold Blk at h1
          rw [e, hlo] at h1
          cases h1
        have hk3 : KeyAt (W₂.putObj l o') V1.heap.size x.1 := ⟨(World.putObj_heap_other hne).trans hk.1, hk.2⟩
        refine name_worldInK' (fun V => (UnS w N bx zu bu (addTo (addTo [] xs) pre) V ∧ DfS D V) ∧ KeyAt V V1.heap.size x.1) ⟨hC3, hk3⟩ ?_
        rintro V ⟨⟨hUV, hdV⟩, hKV⟩
        have c5 : V.cell? ⟨bx, 0, none⟩ = some (.pointer (some ⟨zu, 0, none⟩)) := by rw [hUV.bk.cell]; rfl
        have l5 := hUV.bk.lt
        have HUV := hide hUV
        have HKV := hide hKV
        have HDV := hide hdV
        have HAdd := hide (add_any V zu bu (addTo (addTo [] xs) pre) x.1 x.2 hUV.st HPL.out)
        clear hC2 hC3 hne hk3 hk hb2 hlo hle hUV hKV hdV hD2
        gi_wp2_with ((with_reducible refine wpListIn_keyK (.tmp 7) V1.heap.size x.1 HKV.out ?_ ?_ ?_ ?_); rfl; rfl; rfl)
        refine ⟨trivial, (CallsIn.inRound l (callsIn_wide.2 HAdd.out)).mono ?_⟩
        rintro e W' ⟨rfl, hs, hg⟩
        have HE := hide (HUV.out.add (g := gOf ao2) HNB.out x.1 hs hg)
        clear hs hg HAdd
        gi_wp2
        exact ⟨HE.out.2.2, HE.out.2.1, (by show UnS w N bx zu bu (addTo (addTo [] xs) (pre ++ [x])) W'; rw [addTo_snoc]; exact HE.out.1), HE.out.2.2.df _ _ HDV.out⟩
    case stop =>
      rintro D c pre W3 hD hS hK
      exact hS.elim
    case done =>
      rintro D2 ys W6 hD2 hys ⟨hU6, hd6⟩ hK6
      have c5 : W6.cell? ⟨bx, 0, none⟩ = some (.pointer (some ⟨zu, 0, none⟩)) := by rw [hU6.bk.cell]; rfl
      have l5 := hU6.bk.lt
      have hdn : D ≠ D2 := by omega
      have hDN := HDN.out
      have HR : Hid (∃ U, (NewC w U (.returned (.pointer (some ⟨zu, 0, none⟩))) ((W6.putObj D2 (.deferred none)).putObj D (.deferred none)) ∧ U.Nodup) ∧ ∀ x : List UInt8, x ∈ U ↔ (x.length = 32 ∧ (x ∈ A ∨ x ∈ Bs))) := hide (by
        have hg1 := grownBy_putObj' W6 D2 (.deferred none)
        have hg2 := grownBy_putObj' (W6.putObj D2 (.deferred none)) D (.deferred none)
        have hd6' : (W6.putObj D2 (.deferred none)).heap[D]? = some (.deferred (some [])) := (World.putObj_heap_other hdn).trans hd6
        have mne : ∀ {V : World} {r : Nat}, SetAt V zu bu (addTo (addTo [] xs) ys) → V.heap[r]? = some (.deferred (some [])) → zu ≠ r ∧ bu ≠ r := by
          intro V r hs hr
          refine ⟨fun e => ?_, fun e => ?_⟩
          · have := hs.blk
            unfold Blk at this
            rw [e, hr] at this
            cases this
          · obtain ⟨D0, ⟨es, clock, hb, _⟩, _⟩ := hs.set
            rw [e, hr] at hb
            cases hb
        obtain ⟨n1, n2⟩ := mne hU6.st hK6
        have st1 := hU6.st.grown hg1 (by simpa using n1) (by simpa using n2)
        obtain ⟨n3, n4⟩ := mne st1 hd6'
        have st2 := st1.grown hg2 (by simpa using n3) (by simpa using n4)
        refine ⟨_, ⟨⟨zu, bu, rfl, by rw [← HN.out]; exact hU6.nz, by rw [← HN.out]; exact HNB.out, st2, ?_⟩, addTo_nodup _ _ (addTo_nodup _ _ List.nodup_nil)⟩, fun x => ?_⟩
        · rw [← HN.out]
          exact below_put (below_put hU6.bel D2 _ (by omega)) D _ hDN
        · rw [mem_addTo, mem_addTo, show xs.map Subtype.val = ks from HXS.out, show ys.map Subtype.val = ks2 from hys, K4.out x, M4.out x]
          constructor
          · rintro ((h | h) | h)
            · cases h
            · exact ⟨h.1, .inl h.2⟩
            · exact ⟨h.1, .inr h.2⟩
          · rintro ⟨h1, h2 | h2⟩
            · exact .inl (.inr ⟨h1, h2⟩)
            · exact .inr ⟨h1, h2⟩)
      have HK6 : Hid (DfS D2 W6) := hide hK6
      have HD6 := hide hd6
      have HDD := hide hdn
      clear hU6 hd6 hK6 hys hD2 hdn
      go_wp2
      exact leave2K (t := 4) (v := .pointer (some ⟨zu, 0, none⟩)) rfl HK6.out HD6.out HDD.out rfl HR.out
end Go.Proofs.Ytnloglecfbhpcaa
