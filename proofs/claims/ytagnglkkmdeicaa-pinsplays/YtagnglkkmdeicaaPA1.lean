/- slices.Collect over the iterator of a set's All. -/
import Derived.Test.YtagnglkkmdeicaaKKm
import Derived.Test.YtagnglkkmdeicaaKRF3
namespace Go.Proofs.Ytagnglkkmdeicaa
set_option linter.unusedVariables false
set_option linter.unusedSimpArgs false
open Go.RowKit Go.Shelf
set_option maxRecDepth 100000
attribute [local go_sem] Oper.semAt_some

/-- Between two rounds of told. -/
structure ToS (w : World) (N B : Nat) (pre : List K32) (W : World) : Prop where
  out : ∃ v, Blk W N #[v] 42 ∧ W.ownsRow B 30 32 v pre.length (rowK pre)
  bel : Below N w W
  big : B ≤ W.heap.size
theorem ToS.ownFrom {w : World} {N B C : Nat} (hB : N ≤ C) : OwnFrom C (fun pre W => ToS w N B pre W) :=
  fun s A C row h hg hr => by
    have hr2 : ∀ r, row = some r → ∃ o : Obj, A.heap[r]? = some o ∧ o.isCells = false := fun r e => (hr r e).2
    obtain ⟨v, h1, h2⟩ := h.out
    exact ⟨⟨v, h1.keptRowK hg hr2, owns_keptK h2 hg hr2⟩, ⟨hg.os.trans h.bel.os, hg.tape.trans h.bel.tape, hg.output.trans h.bel.output, Nat.le_trans h.bel.size hg.size, fun k hk => (hg.block k (by have := h1.lt; omega) (fun e => by have := (hr k e.symm).1; omega)).trans (h.bel.block k hk)⟩, Nat.le_trans h.big hg.size⟩
theorem ToS.below {w W W' : World} {N B : Nat} {pre : List K32} (h : ToS w N B pre W) (hb : Below W.heap.size W W') : ToS w N B pre W' := by
  obtain ⟨v, h1, h2⟩ := h.out
  exact ⟨⟨v, h1.below hb h1.lt, owns_belowK h2 hb⟩, h.bel.trans (hb.mono (by have := h1.lt; omega)), Nat.le_trans h.big hb.size⟩
/-- A row's block is another than a box of a list. -/
theorem krow_ne {W : World} {ao : Option Addr} {ks : List (List UInt8)} {N : Nat} {v : Value} (hr : KRow W ao ks) (hb : Blk W N #[v] 42) (hv : ∀ b : UInt8, v ≠ u8c b) (h0 : ks ≠ []) : N ≠ gOf ao ∧ gOf ao < W.heap.size := by
  cases ks with
  | nil => exact absurd rfl h0
  | cons k r =>
    obtain ⟨g, o, rfl, hrd⟩ := hr.at' 0 (by simp)
    have hl := hr.len k (by simp)
    obtain ⟨b0, hb0⟩ : ∃ b0, k[0]? = some b0 := ⟨_, List.getElem?_eq_getElem (by omega)⟩
    have hc := hrd 0 (u8c b0) (by simp [List.getElem?_map, hb0])
    refine ⟨fun e => ?_, World.block_lt_of_cell? W _ hc⟩
    have e' : N = g := e
    rw [← e', hb.cell] at hc
    generalize o + 0 * 32 + 0 = i at hc
    cases i with
    | zero => simp at hc; exact hv b0 hc
    | succ i => simp at hc
theorem own_lowerTo {w : World} {B C s n : Nat} {e : TypeId} {v : Value} {ys : List Value} (h : w.ownsRow B e s v n ys) (hc : C ≤ B) : w.ownsRow C e s v n ys := by
  obtain ⟨h0, h1 | ⟨g, cap, cur, rfl, hb, hh, hx⟩⟩ := h
  · exact ⟨h0, .inl h1⟩
  · exact ⟨h0, .inr ⟨g, cap, cur, rfl, by omega, hh, hx⟩⟩
theorem keepsLD_own {w w' : World} {B s n : Nat} {e : TypeId} {v : Value} {ys : List Value} (h : w.ownsRow B e s v n ys) (hg : w.grownBy w' v.ownBlock) : KeepsLD w w' := by
  have hk := own_typeK h
  refine ⟨fun i q e => (hg.block i (Array.getElem?_eq_some_iff.1 e).1 (fun e2 => ?_)).trans e, fun i d e => (hg.block i (Array.getElem?_eq_some_iff.1 e).1 (fun e2 => ?_)).trans e⟩
  · obtain ⟨cs, t, fz, h1, _⟩ := hk i e2.symm
    rw [h1] at e
    cases e
  · obtain ⟨cs, t, fz, h1, _⟩ := hk i e2.symm
    rw [h1] at e
    cases e
theorem own_notBlock {w : World} {B s n g : Nat} {e : TypeId} {v : Value} {ys : List Value} (h : w.ownsRow B e s v n ys) (hg : g < B) : v.ownBlock ≠ some g := fun e => by
  obtain ⟨h0, ⟨h1, h2⟩ | ⟨g', cap, cur, rfl, hb, hh, hx⟩⟩ := h
  · rw [h1] at e; cases e
  · have : g' = g := Option.some.inj e
    omega
/-- What Collect leaves. -/
def CollA (w : World) (ks : List (List UInt8)) (e : Ending) (w' : World) : Prop := ∃ v xs, e = .returned v ∧ xs.map Subtype.val = ks ∧ w'.ownsRow w.heap.size 30 32 v xs.length (rowK xs) ∧ Below w.heap.size w w'
set_option maxHeartbeats 4000000 in
theorem appendAll_any (w : World) (b3 : Nat) (ao : Option Addr) (cap : Nat) (ks : List (List UInt8)) (hb : Blk w b3 #[.slice ao ks.length cap] 42) (hk : KRow w ao ks) (hn : ks.length ≤ 4398046510976) : Calls Try.prog 48 #[.slice none 0 0, riF b3] w (CollA w ks) := by
  obtain ⟨N, hN⟩ : ∃ N, N = w.heap.size := ⟨_, rfl⟩
  have HW : Hid (∀ W, W = w.alloc (.cells #[.slice none 0 0] 42) → Blk W N #[.slice none 0 0] 42 ∧ Below N w W ∧ Blk W b3 #[.slice ao ks.length cap] 42 ∧ KRow W ao ks) := hide (fun W e => by
    subst e
    have b1 : Below w.heap.size w (w.alloc (.cells #[.slice none 0 0] 42)) := (Below.refl _ _).alloc (Nat.le_refl _) _
    rw [hN]
    exact ⟨Blk.made w _ _, b1, hb.below b1 hb.lt, hk.below b1⟩)
  have HN := hide hN
  have HLn := hide hn
  clear hb hk hn
  unfold riF
  refine (callsIn_wide (n := 5)).1 ?_
  refine callsIn_of_wp_marks Try.func48 rfl trivial ?_ rfl
  refine wpIn_wide.2 ?_
  simp only [Try.ntmps48, List.size_toArray, List.length_cons, List.length_nil, Nat.reduceAdd, Nat.reduceSub, Array.replicate_succ, Array.replicate_zero, List.push_toArray, List.append_toArray, List.nil_append, List.cons_append]
  go_upto_region 1 with fail
  rw [← hN]
  clear hN
  refine name_worldK (fun W => Blk W N #[.slice none 0 0] 42 ∧ Below N w W ∧ Blk W b3 #[.slice ao ks.length cap] 42 ∧ KRow W ao ks) (HW.out _ rfl) ?_
  rintro w3 ⟨hB3, hb3, hk1, hk2⟩
  have K1 := hide hk1
  have K2 := hide hk2
  have hN3 : N < w3.heap.size := hB3.lt
  have HNe : Hid (ks ≠ [] → N ≠ gOf ao ∧ gOf ao < w3.heap.size) := hide (krow_ne K2.out hB3 (fun b e => by cases e))
  have HU3 : Hid (ToS w N w3.heap.size [] w3) := hide ⟨⟨_, hB3, World.ownsRow_nil _ _ _ _⟩, hb3, Nat.le_refl _⟩
  clear HW hB3 hb3 hk1 hk2
  go_wp2
  refine (wpIn_wide (n := 5)).1 ?_
  refine wpIn_rangeKl rfl (by omega) (gf := 50) (lb := #[.pointer (some ⟨b3, 0, none⟩)]) rfl trivial (enters_of Try.func50 (by kernel_rfl) rfl) (rising_fit (5 - 1) w3 b3 ao cap ks K1.out K2.out (by have := HLn.out; omega)) (Below.refl _ _) (KeepR.keeping (gOf ao)) (fun _ => rfl)
    (fun pre W => ToS w N w3.heap.size pre W)
    (fun _ _ _ => False)
    (ToS.ownFrom (Nat.le_of_lt hN3))
    (fun _ _ _ _ _ h _ _ => h)
    HU3.out (fun A B h => KeepR.below h) ?round ?done ?stop
  case round =>
    rintro l pre x Wp W1 hU1 hbW hfit
    have HC1 := hide (hU1.below hbW)
    have HX := hide x.2
    have hlen := hfit.length_le
    have HPL : Hid (pre.length + 1 ≤ 4398046511104) := hide (by
      simp at hlen
      have := HLn.out
      omega)
    have HNg := hide (HNe.out (by intro e; rw [e] at hlen; simp at hlen))
    generalize hB0 : w3.heap.size = B0 at *
    clear hU1 hbW hfit hlen
    refine ⟨fun a₁ W₂ => a₁ = { tmps := #[.slice none 0 0, .func (.func 50) #[] #[.pointer (some ⟨b3, 0, none⟩)], .pointer (some ⟨N, 0, none⟩), undef, .slice none 0 0, .pointer (some ⟨W1.heap.size, 0, none⟩), .func (.func 50) #[] #[.pointer (some ⟨b3, 0, none⟩)], keyV x.1, undef, undef, undef, undef, undef], defers := [] } ∧ KeyAt W₂ W1.heap.size x.1, ?asg, ?bd⟩
    case asg =>
      intro K hK
      unfold keV
      simp only [List.zip_toArray, List.zip_cons_cons, List.zip_nil_right, List.foldl_toArray, List.foldl_cons, List.foldl_nil, List.setIfInBounds_toArray, List.set_cons_succ, List.set_cons_zero]
      gi_wp2_with ((with_reducible refine wpListIn_put_keyK ?_ (.tmp 5) (.tmp 7) ?_ W1.heap.size ?_ W1 ?_ ?_ x.1 HX.out ?_ ?_); rfl; rfl; rfl; rfl; rfl; rfl; intro w2 HK2 hb2)
      exact hK _ _ ⟨rfl, HK2.out⟩ hb2
    case bd =>
      rintro a₁ W₂ q o' ⟨rfl, hk⟩ hb2 hlo hle
      have hC2 := HC1.out.below hb2
      have hC3 : ToS w N B0 pre (W₂.putObj l o') := (ToS.ownFrom (C := B0) (Nat.le_of_lt hN3)).putObj o' hC2 hle hlo rfl
      have hne : W1.heap.size ≠ l := fun e => by
        have h1 := hk.1
        unfold Blk at h1
        rw [e, hlo] at h1
        cases h1
      have hk3 : KeyAt (W₂.putObj l o') W1.heap.size x.1 := ⟨(World.putObj_heap_other hne).trans hk.1, hk.2⟩
      refine name_worldInK' (fun V => ToS w N B0 pre V ∧ KeyAt V W1.heap.size x.1) ⟨hC3, hk3⟩ ?_
      rintro V ⟨hCV, hKV⟩
      obtain ⟨v, hv1, hv2⟩ := hCV.out
      obtain ⟨ao', cap', rfl⟩ := own_formK hv2
      obtain ⟨p, hp⟩ : ∃ p, p = pre.length := ⟨_, rfl⟩
      rw [← hp] at hv1
      have c2 : V.cell? ⟨N, 0, none⟩ = some (.slice ao' p cap') := by rw [hv1.cell]; rfl
      have l2 := hv1.lt
      have HV1 := hide hv1
      have HKV := hide hKV
      have bA : Below V.heap.size V (V.alloc (.cells (x.1.map u8c).toArray 30)) := (Below.refl _ _).alloc (Nat.le_refl _) _
      have HO1 : Hid ((V.alloc (.cells (x.1.map u8c).toArray 30)).ownsRow B0 30 32 (.slice ao' p cap') pre.length (rowK pre)) := hide (by rw [hp]; exact owns_belowK hv2 bA)
      have HBk : Hid (Blk (V.alloc (.cells (x.1.map u8c).toArray 30)) V.heap.size (x.1.map u8c).toArray 30) := hide (Blk.made V _ _)
      have HBs : Hid (B0 ≤ (V.alloc (.cells (x.1.map u8c).toArray 30)).heap.size) := hide (by have := bA.size; have := hCV.big; omega)
      have HBl := hide hCV.bel
      have HBA := hide bA
      clear hC2 hC3 hne hk3 hk hb2 hlo hle hCV hKV hv1 hv2 bA hp
      gi_wp2_with (first | ((with_reducible refine wpListIn_keyK (.tmp 5) W1.heap.size x.1 HKV.out ?_ ?_ ?_ ?_); rfl; rfl; rfl) | ((with_reducible refine wpListIn_bsK (.tmp 9) x.1 HX.out ?_ ?_ ?_ ?_); rfl; rfl; rfl) | (gi_at_builtin; refine wpListIn_append_keyK rfl (.tmp 8) (.tmp 10) rfl B0 (.slice ao' p cap') pre rfl HO1.out V.heap.size rfl x HBk.out HPL.out HBs.out ?_; intro v' w4 HO3 HG3 HL3; generalize hG : wpListIn _ _ _ _ _ _ _ _ = G))
      obtain ⟨ao3, cap3, hf3⟩ := own_formK HO3.out
      subst hf3
      generalize hl3 : (pre ++ [x]).length = p3 at *
      have HB3 : Hid (Blk w4 N #[.slice ao' p cap'] 42) := hide (((HV1.out.below HBA.out HV1.out.lt)).grown HG3.out (fun e => blk_own_neK (HV1.out.below HBA.out HV1.out.lt) HO1.out (by decide) _ e.symm rfl))
      have c3 : w4.cell? ⟨N, 0, none⟩ = some (.slice ao' p cap') := by rw [HB3.out.cell]; rfl
      have f3 := HB3.out.frozen 0
      have l3 := HB3.out.lt
      have HBw : Hid (Below N w w4) := hide (by
        have h1 : Below N w (V.alloc (.cells (x.1.map u8c).toArray 30)) := HBl.out.trans (HBA.out.mono (by omega))
        exact own_below h1 (own_lowerTo HO1.out (Nat.le_of_lt hN3)) (by have := HBs.out; omega) HG3.out)
      have HKM : Hid (KeepR (gOf ao) V w4) := hide ((KeepR.below HBA.out).trans (KeepR.grown HG3.out (own_notBlock HO1.out HNg.out.2)))
      have HKO : Hid (KeepsLD V w4) := hide ((KeepsLD.below HBA.out).trans (keepsLD_own HO1.out HG3.out))
      have HS4 : Hid (ToS w N B0 (pre ++ [x]) (w4.setCell ⟨N, 0, none⟩ (.slice ao3 p3 cap3))) := hide ⟨⟨_, HB3.out.set 0 _, by
        rw [hl3]
        exact owns_grownK HO3.out (grownBy_set _ _ _ _) (fun g e1 e2 => blk_own_neK HB3.out HO3.out (by decide) g e1 (Option.some.inj e2))⟩, HBw.out.setCell (Nat.le_refl _) _, by
        have h1 := HBs.out
        have h2 := HG3.out.size
        simp only [World.size_setCell]
        omega⟩
      have HKM4 : Hid (KeepR (gOf ao) V (w4.setCell ⟨N, 0, none⟩ (.slice ao3 p3 cap3))) := hide (HKM.out.trans (KeepR.grown (grownBy_set _ _ _ _) (fun e => HNg.out.1 (Option.some.inj e))))
      have HKO4 : Hid (KeepsLD V (w4.setCell ⟨N, 0, none⟩ (.slice ao3 p3 cap3))) := hide (HKO.out.trans (KeepsLD.grown (grownBy_set _ _ _ _) (fun q e => by have h := HB3.out; unfold Blk at h; rw [h] at e; cases e) (fun q e => by have h := HB3.out; unfold Blk at h; rw [h] at e; cases e)))
      subst hG
      clear HO1 HBk HBs HO3 HG3 HL3 HV1 HB3 HBw HKM HKO hl3 c2 l2
      gi_wp2
      exact ⟨HKO4.out, HKM4.out, HS4.out⟩
  case stop =>
    rintro D c pre W3 hD hS hK
    exact hS.elim
  case done =>
    rintro D xs W3 hD hxs hC3 hK
    obtain ⟨v, hv1, hv2⟩ := hC3.out
    obtain ⟨ao', cap', rfl⟩ := own_formK hv2
    have c2 : W3.cell? ⟨N, 0, none⟩ = some (.slice ao' xs.length cap') := by rw [hv1.cell]; rfl
    have l2 := hv1.lt
    have HR : Hid (CollA w ks (.returned (.slice ao' xs.length cap')) (W3.putObj D (.deferred none))) := hide ⟨_, xs, rfl, hxs, by
      rw [← HN.out]
      exact owns_keptK (own_lowerTo hv2 (Nat.le_of_lt hN3)) (grownBy_putObj' W3 D (.deferred none)) (fun r e => by cases e; exact ⟨_, hK, rfl⟩), by
      rw [← HN.out]
      exact below_put hC3.bel D _ (by omega)⟩
    have HK := hide hK
    generalize xs.length = m at *
    clear hv1 hv2 hxs hC3 hK hD
    go_wp2
    exact leave1K (t := 4) (v := .slice ao' m cap') rfl HK.out rfl HR.out
theorem collectAll_any (w : World) (b3 : Nat) (ao : Option Addr) (cap : Nat) (ks : List (List UInt8)) (hb : Blk w b3 #[.slice ao ks.length cap] 42) (hk : KRow w ao ks) (hn : ks.length ≤ 4398046510976) : Calls Try.prog 45 #[riF b3] w (CollA w ks) := by
  have HA := hide (appendAll_any w b3 ao cap ks hb hk hn)
  clear hb hk
  unfold riF at HA ⊢
  go_enter Try.func45, Try.ntmps45
  go_wp2_with (go_at_call 48; refine HA.out.mono ?_; rintro e w' ⟨v, xs, rfl, h1, h2, h3⟩; have H1 := hide h1; have H2 := hide h2; have H3 := hide h3; obtain ⟨ao', cap', hf⟩ := own_formK h2; subst hf; clear h1 h2 h3)
  go_ret
  exact ⟨_, xs, rfl, H1.out, H2.out, H3.out⟩
end Go.Proofs.Ytagnglkkmdeicaa
