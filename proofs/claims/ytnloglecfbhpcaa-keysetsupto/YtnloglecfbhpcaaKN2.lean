/- Sets: Next, what lies in memory while it goes through the map. -/
import Derived.Test.YtnloglecfbhpcaaKN1
import Derived.Test.YtnloglecfbhpcaaKP2
namespace Go.Proofs.Ytnloglecfbhpcaa
set_option linter.unusedVariables false
set_option linter.unusedSimpArgs false
open Go.RowKit
open Go.Maps (Keyed)
set_option maxRecDepth 100000

theorem name_worldK {P : Program} {c : Code} {Q : Exit → Act → World → Prop} {a : Act} {w : World} (R : World → Prop) (h : R w) (k : ∀ W, R W → c.wp P Q a W) : c.wp P Q a w := k w h
theorem undMapK : Try.prog.underlying 53 = some (.map 38 71) := by kernel_rfl
/-- The memory of a walk through a set. -/
structure NxM (w : World) (N b n : Nat) (D : DataW Unit) (after least : List UInt8) (left : Lit → Bool) (cnt : Nat) (W : World) : Prop where
  rg : W.ranges Try.prog 38 unitElem b (N + 3) n D left cnt
  ka : KeyAt W N after
  kz : Blk W (N + 1) keyZ 38
  kl : KeyAt W (N + 2) least
  bel : Below N w W
section
variable {w : World} {N b n : Nat} {D : DataW Unit} {after least : List UInt8} {left : Lit → Bool} {cnt : Nat}
theorem NxM.sz {W : World} (h : NxM w N b n D after least left cnt W) : N + 4 ≤ W.heap.size := h.rg.lt
theorem NxM.below {W W' : World} (h : NxM w N b n D after least left cnt W) (hb : Below W.heap.size W W') : NxM w N b n D after least left cnt W' :=
  ⟨h.rg.kept (grownBy_below hb (row := none)) (by simp) (by simp), h.ka.below hb, h.kz.below hb h.kz.lt, h.kl.below hb, h.bel.trans (hb.mono (by have := h.sz; omega))⟩
theorem NxM.next {W W' : World} {left' : Lit → Bool} {cnt' : Nat} (h : NxM w N b n D after least left cnt W) (hr : W'.ranges Try.prog 38 unitElem b (N + 3) n D left' cnt') (hg : W.grownBy W' (some (N + 3))) : NxM w N b n D after least left' cnt' W' :=
  ⟨hr, h.ka.grown hg (by simp), h.kz.grown hg (by simp), h.kl.grown hg (by simp), h.bel.trans (below_grownBy hg (by omega) (by have := h.sz; omega))⟩
theorem NxM.store {W W' : World} (h : NxM w N b n D after least left cnt W) (hb : b ≠ N + 2) (x : List UInt8) (hx : KeyAt W' (N + 2) x) (hg : W.grownBy W' (some (N + 2))) : NxM w N b n D after x left cnt W' :=
  ⟨h.rg.kept hg (by simpa using hb) (by simp), h.ka.grown hg (by simp), h.kz.grown hg (by simp), hx, h.bel.trans (below_grownBy hg (by omega) (by have := h.sz; omega))⟩
end
/-- Those that have been met. -/
def Met (S : List (List UInt8)) (left : Lit → Bool) (x : List UInt8) : Prop := x.length = 32 ∧ x ∈ S ∧ left (.string x) = false
theorem met_next {S : List (List UInt8)} {left : Lit → Bool} {x : List UInt8} (h32 : x.length = 32) (hS : x ∈ S) (y : List UInt8) : Met S (fun z => left z && !z.sameKey (.string x)) y ↔ Met S left y ∨ y = x := by
  unfold Met
  constructor
  · rintro ⟨h1, h2, h3⟩
    cases hl : left (.string y) with
    | false => exact .inl ⟨h1, h2, rfl⟩
    | true =>
      have h4 : (left (.string y) && !(Lit.string y).sameKey (.string x)) = false := h3
      rw [hl, Bool.true_and] at h4
      have hs : (Lit.string y).sameKey (.string x) = true := by simpa using h4
      have := WideAt.sameKey_eq hs
      exact .inr (by injection this)
  · rintro (⟨h1, h2, h3⟩ | rfl)
    · exact ⟨h1, h2, by simp [h3]⟩
    · refine ⟨h32, hS, ?_⟩
      have : (Lit.string y).sameKey (.string y) = true := by simp [Lit.sameKey]
      simp [this]
theorem LeastN.congr {V V' : List UInt8 → Prop} {after k : List UInt8} {any ok : Bool} (h : LeastN V after any k ok) (hv : ∀ y, V y ↔ V' y) : LeastN V' after any k ok := by
  rcases h with ⟨h1, h2, h3, h4⟩ | ⟨h1, h2, h3⟩
  · exact .inl ⟨h1, (hv k).1 h2, h3, fun x hx => h4 x ((hv x).2 hx)⟩
  · exact .inr ⟨h1, h2, fun x hx => h3 x ((hv x).2 hx)⟩
def LtK (a b : List UInt8) : Prop := cmpK a b < 0
theorem keyV_toArray (x : List UInt8) : Value.agg (x.map u8c).toArray = keyV x := rfl
def NextC (w : World) (S : List (List UInt8)) (after : List UInt8) (any : Bool) (e : Ending) (w' : World) : Prop := ∃ k ok, e = .returned (.tuple #[keyV k, .bool ok]) ∧ k.length = 32 ∧ LeastN (fun x => x.length = 32 ∧ x ∈ S) after any k ok ∧ Below w.heap.size w w'
abbrev K32 := { x : List UInt8 // x.length = 32 }
theorem invKey (key : Value) (kl : Lit) (h : keyOf Try.prog 38 key = some kl) : ∃ x : K32, key = (fun y : K32 => keyV y.1) x := by
  obtain ⟨k, hk, hv, _⟩ := keyOf_inv key kl h
  exact ⟨⟨k, hk⟩, hv⟩
theorem invUnit (v : Value) (y : DataW Unit × List MemPlace) (h : unitElem v = some y) : ∃ c : Unit, v = (fun _ : Unit => Value.agg #[]) c := ⟨(), (unitElem_inv h).1⟩
set_option maxHeartbeats 4000000 in
theorem next_any (w : World) (z b : Nat) (S : List (List UInt8)) (after : List UInt8) (any : Bool) (ha : after.length = 32) (h : SetAt w z b S) : Calls Try.prog 19 #[.pointer (some ⟨z, 0, none⟩), keyV after, .bool any] w (NextC w S after any) := by
  obtain ⟨N, hN⟩ : ∃ N, N = w.heap.size := ⟨_, rfl⟩
  obtain ⟨D, hown, hhas, _⟩ := h.set
  have hzN : z < N := by rw [hN]; exact h.blk.lt
  have hbN : b < N := by rw [hN]; exact h.set.lt
  have HW : Hid (∀ W, W = ((w.alloc (.cells (after.map u8c).toArray 38)).alloc (.cells keyZ 38)).alloc (.cells keyZ 38) → KeyAt W N after ∧ Blk W (N + 1) keyZ 38 ∧ Blk W (N + 2) keyZ 38 ∧ W.cell? ⟨z, 0, none⟩ = some (.map (some b)) ∧ z < W.heap.size ∧ W.ownsMap Try.prog 38 unitElem b S.length D ∧ W.heap.size = N + 3 ∧ Below N w W) := hide (fun W e => by
    subst e
    have b1 : Below w.heap.size w (w.alloc (.cells (after.map u8c).toArray 38)) := (Below.refl _ _).alloc (Nat.le_refl _) _
    have b2 := b1.alloc (by simp) (.cells keyZ 38)
    have b3 := b2.alloc (by simp; omega) (.cells keyZ 38)
    have k1 : KeyAt (w.alloc (.cells (after.map u8c).toArray 38)) N after := by rw [hN]; exact ⟨Blk.made w _ _, ha⟩
    have z2 := Blk.made (w.alloc (.cells (after.map u8c).toArray 38)) keyZ 38
    rw [World.size_alloc, ← hN] at z2
    have z3 := Blk.made ((w.alloc (.cells (after.map u8c).toArray 38)).alloc (.cells keyZ 38)) keyZ 38
    rw [World.size_alloc, World.size_alloc, ← hN] at z3
    refine ⟨⟨(k1.1.alloc _).alloc _, ha⟩, z2.alloc _, z3, ?_, ?_, ?_, by simp; omega, by rw [hN]; exact b3⟩
    · rw [b3.cell (p := ⟨z, 0, none⟩) h.blk.lt, h.blk.cell]; rfl
    · have := b3.size; omega
    · exact hown.kept (grownBy_below b3 (row := none)) (by simp))
  have HHas := hide hhas
  have HN := hide hN
  have HA := hide ha
  have HBN := hide hbN
  clear h hown hhas hzN hbN
  unfold keyV
  go_enter Try.func19, Try.ntmps19
  go_upto_region 5 with fail
  refine name_worldK (fun W => KeyAt W N after ∧ Blk W (N + 1) keyZ 38 ∧ Blk W (N + 2) keyZ 38 ∧ W.cell? ⟨z, 0, none⟩ = some (.map (some b)) ∧ z < W.heap.size ∧ W.ownsMap Try.prog 38 unitElem b S.length D ∧ W.heap.size = N + 3 ∧ Below N w W) (HW.out _ rfl) ?_
  rintro W ⟨hka, hkz, hkl, hc, hzl, hown, hsz, hbel⟩
  rw [← hN]
  have HKA := hide hka
  have HKZ := hide hkz
  have HKL := hide hkl
  have HBE := hide hbel
  have HSZ := hide hsz
  clear HW hka hkz hkl hbel hN
  go_wp2_with (at_range; refine wpList_range_own W rfl (.tmp 17) 53 rfl 38 71 keyedK undMapK unitElem b S.length D rfl hown ?_; intro W2 hr2 hg2 hs2; rw [hsz] at hr2 ⊢; have HR2 := hide hr2; have HG2 := hide hg2; clear hr2 hg2 hs2 hown hc hzl hsz)
  have hM0 : NxM w N b S.length D after (List.replicate 32 0) (Maps.has D) (Maps.size D) W2 := by
    have hb2 : Below W.heap.size W W2 := ⟨HG2.out.os, HG2.out.tape, HG2.out.output, HG2.out.size, fun i hi => HG2.out.block i hi (by simp)⟩
    exact ⟨HR2.out, HKA.out.below hb2, HKZ.out.below hb2 HKZ.out.lt, ⟨HKL.out.below hb2 HKL.out.lt, by simp⟩, HBE.out.trans (hb2.mono (by have := HSZ.out; omega))⟩
  have HM0 := hide hM0
  clear hM0 HR2 HG2 HKA HKZ HKL HBE HSZ
  simp only [Act.put, List.setIfInBounds_toArray, List.set_cons_zero, List.set_cons_succ]
  go_loopw [9] (fun t wr => ∃ (ok : Bool) (least : List UInt8) (left : Lit → Bool) (cnt : Nat), t = .bool ok ∧ (∀ x : List UInt8, x.length = 32 → left (.string x) = true → x ∈ S) ∧ LeastN (Met S left) after any least ok ∧ NxM w N b S.length D after least left cnt wr) (fun _ wr => wr.rangeLeft b (N + 3))
  case atStart =>
    refine ⟨false, _, _, _, rfl, fun x hx h => ?_, LeastN.begin after any (fun y hy => ?_), HM0.out⟩
    · rw [HHas.out x hx] at h; simpa using h
    · obtain ⟨h1, h2, h3⟩ := hy
      rw [HHas.out y h1] at h3
      simp [h2] at h3
  case round =>
    clear HM0
    obtain ⟨ok, least, left, cnt, rfl, hlf, hL, hM⟩ := hrel
    have HM := hide hM
    have HL := hide hL
    have HLF := hide hlf
    have hcl := hM.rg.left_eq
    have HCL := hide hcl
    have HLN := hide hM.kl.2
    clear hM hL hlf hcl
    go_wp2_with (at_next; refine wpList_next_ranges wr rfl (.tmp 18) rfl 38 keyedK unitElem (fun y : K32 => keyV y.1) (fun _ : Unit => Value.agg #[]) invKey invUnit b (N + 3) S.length D left cnt rfl HM.out.rg ?_ ?_)
    · intro h0 hall
      have HR : Hid (LeastN (fun x => x.length = 32 ∧ x ∈ S) after any least ok) := hide (HL.out.congr (fun y => ⟨fun h => ⟨h.1, h.2.1⟩, fun h => ⟨h.1, h.2, hall _⟩⟩))
      have HUS : Hid ((least.map u8c).toArray.size = 32) := hide (by simp [HLN.out])
      have HU1 := hide (all_oneCell_toArray (u8c_one least))
      have HZS : Hid (keyZ.size = 32) := hide rfl
      have HKL := hide HM.out.kl
      have HKZ := hide HM.out.kz
      clear h0 hall
      go_wp2_with (first | ((with_reducible refine wpList_key (.tmp 8) (N + 2) least HKL.out ?_ ?_ ?_ ?_); rfl; rfl; rfl) | ((with_reducible refine wpList_store_blk ?_ 38 (.tmp 6) (.tmp 40) ?_ (N + 1) 32 keyZ (least.map u8c).toArray 38 HUS.out HZS.out ?_ ?_ HKZ.out infoKey HU1.out ?_); rfl; rfl; rfl; rfl; intro w9 hk9 hg9; have HK9 := hide hk9; have HG9 := hide hg9; clear hk9 hg9))
      refine bodyPost_ret (results_cell2 rfl _ _ _ rfl _ (loadBlkT HK9.out 38 _ Try.underlying38 rfl 32 infoKey HUS.out)) rfl ?_
      exact ⟨least, ok, rfl, HLN.out, HR.out, by rw [← HN.out]; exact HM.out.bel.trans (below_grownBy HG9.out (by omega) (by have := HM.out.sz; omega))⟩
    · intro x hx kl y1 y2 w1 cnt1 hkey hlk hv hat hrg hlt hg hs hen
      have hkl : kl = .string x := by
        rw [keyOf_key x hx] at hkey
        exact (Option.some.inj hkey).symm
      subst hkl
      have hxS : x ∈ S := HLF.out x hx hlk
      have HM1 := hide (HM.out.next hrg hg)
      have HLF1 : Hid (∀ y : List UInt8, y.length = 32 → (fun z : Lit => left z && !z.sameKey (.string x)) (.string y) = true → y ∈ S) := hide (fun y hy h => HLF.out y hy (by
        have h' : (left (.string y) && !(Lit.string y).sameKey (.string x)) = true := h
        rw [Bool.and_eq_true] at h'
        exact h'.1))
      have HMet := hide (fun y => met_next (left := left) hx hxS y)
      have HX := hide hx
      have HLT : Hid (∀ W' : World, W'.ranges Try.prog 38 unitElem b (N + 3) S.length D (fun z => left z && !z.sameKey (.string x)) cnt1 → W'.rangeLeft b (N + 3) < wr.rangeLeft b (N + 3)) := hide (fun W' h => by rw [h.left_eq, HCL.out]; exact hlt)
      obtain ⟨left1, hl1⟩ : ∃ l, l = (fun z : Lit => left z && !z.sameKey (.string x)) := ⟨_, rfl⟩
      rw [← hl1] at HM1 HLF1 HLT
      have HMet1 : Hid (∀ y, Met S left1 y ↔ Met S left y ∨ y = x) := hide (by rw [hl1]; exact HMet.out)
      clear hkey hlk hv hat hrg hlt hg hs hx hxS HMet hl1
      cases any with
      | true =>
        go_upto_region 9 with ((with_reducible refine wpList_put_key ?_ (.tmp 10) (.tmp 22) ?_ w1.heap.size ?_ w1 ?_ ?_ x HX.out ?_ ?_); rfl; rfl; rfl; rfl; rfl; rfl; intro w2 HK2 hb2; have HM2 := hide (HM1.out.below hb2); clear hb2)
        clear hen
        cases ok with
        | false =>
          have HKX := hide HK2.out
          have HKLo := hide HM2.out.kl.1
          have HUS : Hid ((x.map u8c).toArray.size = 32) := hide (by simp [HX.out])
          have HU1 := hide (all_oneCell_toArray (u8c_one x))
          have HLS : Hid ((least.map u8c).toArray.size = 32) := hide (by simp [HLN.out])
          go_wp2_with (first | ((with_reducible refine wpList_key (.tmp 10) w1.heap.size x HKX.out ?_ ?_ ?_ ?_); rfl; rfl; rfl) | ((with_reducible refine wpList_store_blk ?_ 38 (.tmp 8) (.tmp 39) ?_ (N + 2) 32 (least.map u8c).toArray (x.map u8c).toArray 38 HUS.out HLS.out ?_ ?_ HKLo.out infoKey HU1.out ?_); rfl; rfl; rfl; rfl; intro w9 hk9 hg9; have HM9 := hide (HM2.out.store (by have := HBN.out; omega) x ⟨hk9, HX.out⟩ hg9); clear hk9 hg9))
          go_roundw
          case rel => exact ⟨true, x, left1, cnt1, rfl, HLF1.out, HL.out.take HMet1.out (.inl rfl) (.inl rfl), HM9.out⟩
          case measure => exact HLT.out _ HM9.out.rg
        | true =>
          have HC := hide (fun W => compare_any x least HX.out HLN.out W)
          have HKL1 := hide HM2.out.kl
          have HKX1 := hide HK2.out
          by_cases hlt2 : cmpK x least < 0
          · have HLT2 : Hid (LtK x least) := hide hlt2
            generalize cmpK x least = cc at *
            go_upto_region 10 with (first | ((with_reducible refine wpList_key (.tmp 10) w1.heap.size x HKX1.out ?_ ?_ ?_ ?_); rfl; rfl; rfl) | ((with_reducible refine wpList_key (.tmp 8) (N + 2) least HKL1.out ?_ ?_ ?_ ?_); rfl; rfl; rfl) | (go_at_call 39; (with_reducible refine (HC.out _).mono ?_); rintro e w5 ⟨rfl, hb5⟩; have HM5 := hide (HM2.out.below hb5); have HK5 := hide (HK2.out.below hb5); clear hb5))
            clear HC hlt2 HKX1 HKL1
            have HKX := hide HK5.out
            have HKLo := hide HM5.out.kl.1
            have HUS : Hid ((x.map u8c).toArray.size = 32) := hide (by simp [HX.out])
            have HU1 := hide (all_oneCell_toArray (u8c_one x))
            have HLS : Hid ((least.map u8c).toArray.size = 32) := hide (by simp [HLN.out])
            go_wp2_with (first | ((with_reducible refine wpList_key (.tmp 10) w1.heap.size x HKX.out ?_ ?_ ?_ ?_); rfl; rfl; rfl) | ((with_reducible refine wpList_store_blk ?_ 38 (.tmp 8) (.tmp 39) ?_ (N + 2) 32 (least.map u8c).toArray (x.map u8c).toArray 38 HUS.out HLS.out ?_ ?_ HKLo.out infoKey HU1.out ?_); rfl; rfl; rfl; rfl; intro w9 hk9 hg9; have HM9 := hide (HM5.out.store (by have := HBN.out; omega) x ⟨hk9, HX.out⟩ hg9); clear hk9 hg9))
            go_roundw
            case rel => exact ⟨true, x, left1, cnt1, rfl, HLF1.out, HL.out.take HMet1.out (.inl rfl) (.inr HLT2.out), HM9.out⟩
            case measure => exact HLT.out _ HM9.out.rg
          · have HLT2 : Hid (¬ LtK x least) := hide hlt2
            generalize cmpK x least = cc at *
            go_wp2_with (first | ((with_reducible refine wpList_key (.tmp 10) w1.heap.size x HKX1.out ?_ ?_ ?_ ?_); rfl; rfl; rfl) | ((with_reducible refine wpList_key (.tmp 8) (N + 2) least HKL1.out ?_ ?_ ?_ ?_); rfl; rfl; rfl) | (go_at_call 39; (with_reducible refine (HC.out _).mono ?_); rintro e w5 ⟨rfl, hb5⟩; have HM5 := hide (HM2.out.below hb5); have HK5 := hide (HK2.out.below hb5); clear hb5))
            have HM9 := hide HM5.out
            go_roundw
            case rel => exact ⟨true, least, left1, cnt1, rfl, HLF1.out, HL.out.keep HMet1.out HLT2.out, HM9.out⟩
            case measure => exact HLT.out _ HM9.out.rg
      | false =>
        have HC1 := hide (fun W => compare_any x after HX.out HA.out W)
        have HKA1 : Hid (∀ W, NxM w N b S.length D after least left1 cnt1 W → KeyAt W N after) := hide (fun W h => h.ka)
        by_cases hle : cmpK x after ≤ 0
        · have HLE : Hid (¬ FitsN after false x) := hide (fun h => h.elim (fun e => by cases e) (fun e => by omega))
          generalize cmpK x after = ca at *
          go_wp2_with (first | ((with_reducible refine wpList_put_key ?_ (.tmp 10) (.tmp 22) ?_ w1.heap.size ?_ w1 ?_ ?_ x HX.out ?_ ?_); rfl; rfl; rfl; rfl; rfl; rfl; intro w2 HK2 hb2; have HM2 := hide (HM1.out.below hb2); clear hb2) | ((with_reducible refine wpList_key (.tmp 10) w1.heap.size x HK2.out ?_ ?_ ?_ ?_); rfl; rfl; rfl) | ((with_reducible refine wpList_key (.tmp 4) N after HM2.out.ka ?_ ?_ ?_ ?_); rfl; rfl; rfl) | (go_at_call 39; (with_reducible refine (HC1.out _).mono ?_); rintro e w3 ⟨rfl, hb3⟩; have HM3 := hide (HM2.out.below hb3); have HK3 := hide (HK2.out.below hb3); clear hb3))
          have HM9 := hide HM3.out
          go_roundw
          case rel => exact ⟨ok, least, left1, cnt1, rfl, HLF1.out, HL.out.skip HMet1.out HLE.out, HM9.out⟩
          case measure => exact HLT.out _ HM9.out.rg
        · have HFT : Hid (FitsN after false x) := hide (.inr (by omega))
          generalize cmpK x after = ca at *
          go_upto_region 9 with (first | ((with_reducible refine wpList_put_key ?_ (.tmp 10) (.tmp 22) ?_ w1.heap.size ?_ w1 ?_ ?_ x HX.out ?_ ?_); rfl; rfl; rfl; rfl; rfl; rfl; intro w2 HK2 hb2; have HM2 := hide (HM1.out.below hb2); clear hb2) | ((with_reducible refine wpList_key (.tmp 10) w1.heap.size x HK2.out ?_ ?_ ?_ ?_); rfl; rfl; rfl) | ((with_reducible refine wpList_key (.tmp 4) N after HM2.out.ka ?_ ?_ ?_ ?_); rfl; rfl; rfl) | (go_at_call 39; (with_reducible refine (HC1.out _).mono ?_); rintro e w3 ⟨rfl, hb3⟩; have HM3 := hide (HM2.out.below hb3); have HK3 := hide (HK2.out.below hb3); clear hb3))
          clear hen HC1 hle
          cases ok with
          | false =>
            have HKX := hide HK3.out
            have HKLo := hide HM3.out.kl.1
            have HUS : Hid ((x.map u8c).toArray.size = 32) := hide (by simp [HX.out])
            have HU1 := hide (all_oneCell_toArray (u8c_one x))
            have HLS : Hid ((least.map u8c).toArray.size = 32) := hide (by simp [HLN.out])
            go_wp2_with (first | ((with_reducible refine wpList_key (.tmp 10) w1.heap.size x HKX.out ?_ ?_ ?_ ?_); rfl; rfl; rfl) | ((with_reducible refine wpList_store_blk ?_ 38 (.tmp 8) (.tmp 39) ?_ (N + 2) 32 (least.map u8c).toArray (x.map u8c).toArray 38 HUS.out HLS.out ?_ ?_ HKLo.out infoKey HU1.out ?_); rfl; rfl; rfl; rfl; intro w9 hk9 hg9; have HM9 := hide (HM3.out.store (by have := HBN.out; omega) x ⟨hk9, HX.out⟩ hg9); clear hk9 hg9))
            go_roundw
            case rel => exact ⟨true, x, left1, cnt1, rfl, HLF1.out, HL.out.take HMet1.out HFT.out (.inl rfl), HM9.out⟩
            case measure => exact HLT.out _ HM9.out.rg
          | true =>
            have HC := hide (fun W => compare_any x least HX.out HLN.out W)
            have HKL1 := hide HM3.out.kl
            have HKX1 := hide HK3.out
            by_cases hlt2 : cmpK x least < 0
            · have HLT2 : Hid (LtK x least) := hide hlt2
              generalize cmpK x least = cc at *
              go_upto_region 10 with (first | ((with_reducible refine wpList_key (.tmp 10) w1.heap.size x HKX1.out ?_ ?_ ?_ ?_); rfl; rfl; rfl) | ((with_reducible refine wpList_key (.tmp 8) (N + 2) least HKL1.out ?_ ?_ ?_ ?_); rfl; rfl; rfl) | (go_at_call 39; (with_reducible refine (HC.out _).mono ?_); rintro e w5 ⟨rfl, hb5⟩; have HM5 := hide (HM3.out.below hb5); have HK5 := hide (HK3.out.below hb5); clear hb5))
              clear HC hlt2 HKX1 HKL1
              have HKX := hide HK5.out
              have HKLo := hide HM5.out.kl.1
              have HUS : Hid ((x.map u8c).toArray.size = 32) := hide (by simp [HX.out])
              have HU1 := hide (all_oneCell_toArray (u8c_one x))
              have HLS : Hid ((least.map u8c).toArray.size = 32) := hide (by simp [HLN.out])
              go_wp2_with (first | ((with_reducible refine wpList_key (.tmp 10) w1.heap.size x HKX.out ?_ ?_ ?_ ?_); rfl; rfl; rfl) | ((with_reducible refine wpList_store_blk ?_ 38 (.tmp 8) (.tmp 39) ?_ (N + 2) 32 (least.map u8c).toArray (x.map u8c).toArray 38 HUS.out HLS.out ?_ ?_ HKLo.out infoKey HU1.out ?_); rfl; rfl; rfl; rfl; intro w9 hk9 hg9; have HM9 := hide (HM5.out.store (by have := HBN.out; omega) x ⟨hk9, HX.out⟩ hg9); clear hk9 hg9))
              go_roundw
              case rel => exact ⟨true, x, left1, cnt1, rfl, HLF1.out, HL.out.take HMet1.out HFT.out (.inr HLT2.out), HM9.out⟩
              case measure => exact HLT.out _ HM9.out.rg
            · have HLT2 : Hid (¬ LtK x least) := hide hlt2
              generalize cmpK x least = cc at *
              go_wp2_with (first | ((with_reducible refine wpList_key (.tmp 10) w1.heap.size x HKX1.out ?_ ?_ ?_ ?_); rfl; rfl; rfl) | ((with_reducible refine wpList_key (.tmp 8) (N + 2) least HKL1.out ?_ ?_ ?_ ?_); rfl; rfl; rfl) | (go_at_call 39; (with_reducible refine (HC.out _).mono ?_); rintro e w5 ⟨rfl, hb5⟩; have HM5 := hide (HM3.out.below hb5); have HK5 := hide (HK3.out.below hb5); clear hb5))
              have HM9 := hide HM5.out
              go_roundw
              case rel => exact ⟨true, least, left1, cnt1, rfl, HLF1.out, HL.out.keep HMet1.out HLT2.out, HM9.out⟩
              case measure => exact HLT.out _ HM9.out.rg
end Go.Proofs.Ytnloglecfbhpcaa
