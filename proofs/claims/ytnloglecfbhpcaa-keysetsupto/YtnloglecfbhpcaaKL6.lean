/- KeySets: the law. -/
import Derived.Test.YtnloglecfbhpcaaKL6r
import Derived.Test.YtnloglecfbhpcaaKM5
namespace Go.Proofs.Ytnloglecfbhpcaa
set_option linter.unusedVariables false
set_option linter.unusedSimpArgs false
open Go.RowKit Go.Sort Go.Shelf
set_option maxRecDepth 100000
set_option maxHeartbeats 16000000

theorem iSK : (Try.prog.info? SPT).map (·.size) = some 38 := by kernel_rfl
theorem run_ldSK {w : World} {b o : Nat} {s : SK} (h32 : s.key.length = 32) (h : w.rangeAt b o (skC s)) : (Instr.loadAt SPT (.pointer (some ⟨b, o, none⟩))).run Try.prog w = .ok (skV s) w :=
  run_loadAt_mid (P := Try.prog) w b o SPT (skC s) _ h Try.underlying41 rfl (by rw [skC_len h32]; exact iSK)
/-- While the three are made. -/
def preA (E : Nat → EL) (i : Nat) : Array Value := #[.pointer (if 0 < i then (E 0).q else none), .pointer (if 1 < i then (E 1).q else none), .pointer (if 2 < i then (E 2).q else none), .pointer (if 0 < i then some ⟨(E 0).z, 0, none⟩ else none), .pointer (if 1 < i then some ⟨(E 1).z, 0, none⟩ else none), .pointer (if 2 < i then some ⟨(E 2).z, 0, none⟩ else none), .bool false, .bool false, .bool false, .slice none 0 0]
def zW : Array Value := #[.pointer none, .pointer none, .pointer none, .pointer none, .pointer none, .pointer none, .bool false, .bool false, .bool false, .slice none 0 0]
theorem preA_zero (E : Nat → EL) : preA E 0 = zW := rfl
theorem preA_put (E : Nat → EL) (e' : EL) {zp i : Nat} (hi : i < 3) (hq : e'.q = some ⟨zp, 0, none⟩) : (((preA E i).setIfInBounds i (.pointer (some ⟨zp, 0, none⟩))).setIfInBounds (3 + i) (.pointer (some ⟨e'.z, 0, none⟩))).setIfInBounds (6 + i) (.bool false) = preA (up E i e') (i + 1) := by
  rcases three_cases hi with rfl | rfl | rfl <;> simp [preA, up, hq]
structure PreS (TK : List (List UInt8)) (w0 W : World) (N wz : Nat) (E : Nat → EL) (i : Nat) : Prop where
  bel : Below N w0 W
  wb : Blk W wz (preA E i) WT
  lo : N ≤ wz
  el : ∀ k, k < i → ElS TK W (E k) ∧ (E k).q ≠ none
  low : ∀ k, k < i → N ≤ (E k).z ∧ N ≤ (E k).b
  ap : ∀ k l, k < i → l < i → k ≠ l → (E k).z ≠ (E l).z ∧ (E k).b ≠ (E l).b
theorem PreS.step {TK : List (List UInt8)} {w0 W w1 w2 w3 : World} {N wz : Nat} {E : Nat → EL} {i : Nat} (h : PreS TK w0 W N wz E i) (hi : i < 3) {zp b zn : Nat} (h1 : W.heap.size ≤ b) (hS : SetAt w1 zp b []) (hb1 : Below W.heap.size W w1) (hz : w1.heap.size ≤ zn) (hr : RsB w2 zn []) (hb2 : Below w1.heap.size w1 w2) (hg : w2.grownBy w3 (some wz))
    (hw : Blk w3 wz ((((preA E i).setIfInBounds i (.pointer (some ⟨zp, 0, none⟩))).setIfInBounds (3 + i) (.pointer (some ⟨zn, 0, none⟩))).setIfInBounds (6 + i) (.bool false)) WT) : PreS TK w0 w3 N wz (up E i ⟨some ⟨zp, 0, none⟩, b, zn, []⟩) (i + 1) := by
  have hsz : N ≤ W.heap.size := by have := h.lo; have := h.wb.lt; omega
  have hbb : Below W.heap.size W w2 := hb1.trans (hb2.mono hb1.size)
  have hwb2 := h.wb.below hbb h.wb.lt
  have hT : Tch (fun k => k = wz) w2 w3 := Tch.grown hg rfl
  have hnu : NoU w2 wz := NoU.blk hwb2 (fun v hv u e => by
    simp only [preA, List.mem_cons, List.not_mem_nil, or_false] at hv
    rcases hv with rfl | rfl | rfl | rfl | rfl | rfl | rfl | rfl | rfl | rfl <;> cases e)
  have hkv : KeepV w2 w3 := KeepV.tch hT (fun k hk => by rw [hk]; exact hnu) (fun k cs hk hb2 => by rw [hk] at hb2; exact blk_ne hb2 hwb2 (by decide) rfl)
  have stay : ∀ {e : EL}, ElS TK w2 e → ElS TK w3 e := fun {e} he => by
    obtain ⟨ar, nr, cr, hrr⟩ := he.rs
    refine he.stay (f := e) hT hkv (fun e => blk_ne hrr.blk hwb2 (by decide) e) (fun hq e2 => ?_) (fun zp hz2 e2 => ?_)
    · rcases he.set with ⟨h1q, _⟩ | ⟨zp', S, h1q, h2, _⟩
      · exact hq h1q
      · obtain ⟨es, clock, hm⟩ := h2.map
        rw [e2] at hm
        exact map_noBlk hm hwb2
    · rcases he.set with ⟨h1q, _⟩ | ⟨zp', S, h1q, h2, _⟩
      · rw [h1q] at hz2; cases hz2
      · rw [h1q] at hz2
        cases hz2
        exact blk_ne h2.blk hwb2 (by decide) e2
  have hzl : ∀ k, k < i → (E k).z < W.heap.size := fun k hk => (h.el k hk).1.rs.lt
  have hbl : ∀ k, k < i → (E k).b < W.heap.size := fun k hk => by
    rcases (h.el k hk).1.set with ⟨h1, _⟩ | ⟨zp, S, _, h2, _⟩
    · exact absurd h1 (h.el k hk).2
    · obtain ⟨es, clock, hm⟩ := h2.map
      exact (Array.getElem?_eq_some_iff.1 hm).1
  have hs1 := hb1.size
  refine ⟨?_, ?_, h.lo, fun k hk => ?_, fun k hk => ?_, fun k l hk hl hne => ?_⟩
  · exact hT.bel (h.bel.trans (hbb.mono hsz)) (Nat.le_trans hsz hbb.size) (fun k hk => by rw [hk]; exact h.lo)
  · rw [preA_put E ⟨some ⟨zp, 0, none⟩, b, zn, []⟩ hi rfl] at hw
    exact hw
  · by_cases e : k = i
    · subst e
      rw [up_same]
      exact ⟨stay ⟨.inr ⟨zp, [], rfl, hS.below hb2, List.nodup_nil, fun x => Iff.rfl⟩, hr, rising_nil, fun x hx => by cases hx⟩, fun e => by cases e⟩
    · rw [up_other E _ e]
      exact ⟨stay ((h.el k (by omega)).1.below hbb), (h.el k (by omega)).2⟩
  · by_cases e : k = i
    · subst e
      rw [up_same]
      exact ⟨by show N ≤ zn; omega, by show N ≤ b; omega⟩
    · rw [up_other E _ e]
      exact h.low k (by omega)
  · by_cases e : k = i
    · subst e
      rw [up_same, up_other E _ (fun e => hne e.symm)]
      have h3 := hzl l (by omega)
      have h4 := hbl l (by omega)
      exact ⟨by show zn ≠ _; omega, by show b ≠ _; omega⟩
    · rw [up_other E _ e]
      by_cases e2 : l = i
      · subst e2
        rw [up_same]
        have h3 := hzl k (by omega)
        have h4 := hbl k (by omega)
        exact ⟨by show _ ≠ zn; omega, by show _ ≠ b; omega⟩
      · rw [up_other E _ e2]
        exact h.ap k l (by omega) (by omega) hne
theorem PreS.done {TK : List (List UInt8)} {w0 W : World} {N wz : Nat} {E : Nat → EL} (h : PreS TK w0 W N wz E 3) : LwS TK w0 W N wz E (.slice none 0 0) [] := by
  refine ⟨h.bel, ?_, h.lo, fun k hk => (h.el k hk).1, fun k hk => ⟨(h.low k hk).1, fun _ => (h.low k hk).2⟩, fun k l hk hl hne => ⟨(h.ap k l hk hl hne).1, fun _ _ => (h.ap k l hk hl hne).2⟩, ⟨rfl, .inl ⟨rfl, rfl⟩⟩, fun z hz => (by cases hz), fun b hb => (by cases hb)⟩
  have e : wA E (.slice none 0 0) = preA E 3 := by
    have hn : ∀ k, k < 3 → (E k).q.isNone = false := fun k hk => by
      have := (h.el k hk).2
      cases hq : (E k).q with
      | none => exact absurd hq this
      | some a => rfl
    unfold wA preA
    rw [hn 0 (by decide), hn 1 (by decide), hn 2 (by decide)]
    rfl
  rw [e]
  exact h.wb
/-- A row of steps. -/
def SkR (w : World) (v : Value) (SC : List SK) : Prop := ∃ ao c, v = .slice ao SC.length c ∧ ∀ W, Below w.heap.size w W → ∀ (i : Nat) (s : SK), SC[i]? = some s → ∃ h so, ao = some ⟨h, so, none⟩ ∧ W.rangeAt h (so + i * 38) (skC s)
theorem Blk.range {w : World} {b : Nat} {cs : Array Value} {t : TypeId} (h : Blk w b cs t) : w.rangeAt b 0 cs.toList := fun j u hj => by
  rw [Nat.zero_add, h.cell, ← Array.getElem?_toList]
  exact hj
theorem zero_W (W : World) : (zeroValue WT).run Try.prog W = .ok (.agg zW) W := by kernel_rfl
theorem made_set (w2 : World) (x y : Value) : Blk ((w2.alloc (.cells #[.nilFunc, .slice none 0 0] KPT)).setCells w2.heap.size 0 [x, y]) w2.heap.size #[x, y] KPT ∧ Below w2.heap.size w2 ((w2.alloc (.cells #[.nilFunc, .slice none 0 0] KPT)).setCells w2.heap.size 0 [x, y]) := by
  obtain ⟨k1, k2⟩ := setCells_blk (Blk.made w2 #[.nilFunc, .slice none 0 0] KPT) #[x, y] rfl
  exact ⟨k1, below_grownBy (grownBy_trans (World.grownBy_alloc w2 _ _) k2) (Nat.le_refl _) (Nat.le_refl _)⟩
theorem made_set2 {W w2 : World} (hb : Below (W.alloc (.cells #[.nilFunc, .slice none 0 0] KPT)).heap.size (W.alloc (.cells #[.nilFunc, .slice none 0 0] KPT)) w2) (x y : Value) : Blk w2 W.heap.size #[.nilFunc, .slice none 0 0] KPT ∧ Blk (w2.setCells W.heap.size 0 [x, y]) W.heap.size #[x, y] KPT ∧ w2.grownBy (w2.setCells W.heap.size 0 [x, y]) (some W.heap.size) ∧ Below W.heap.size W (w2.setCells W.heap.size 0 [x, y]) := by
  have h0 := Blk.made W #[.nilFunc, .slice none 0 0] KPT
  have h1 := h0.below hb h0.lt
  obtain ⟨k1, k2⟩ := setCells_blk h1 #[x, y] rfl
  exact ⟨h1, k1, k2, below_grownBy (grownBy_trans (World.grownBy_alloc W _ _) (grownBy_trans (grownBy_below hb) k2)) (Nat.le_refl _) (Nat.le_refl _)⟩
def Three (W : World) (wz j z : Nat) (q : Option Addr) (rv : Value) : Prop := W.cell? ⟨wz, j, none⟩ = some (.pointer q) ∧ W.cell? ⟨wz, 3 + j, none⟩ = some (.pointer (some ⟨z, 0, none⟩)) ∧ W.cell? ⟨z, 0, none⟩ = some rv
theorem ent_ready {TK : List (List UInt8)} {w0 W : World} {N wz : Nat} {E : Nat → EL} {kv : Value} {KS : List (Value × Value)} (h : LwS TK w0 W N wz E kv KS) {j : Nat} (hj : j < 3) (htk : TK.length ≤ 2199023255488) :
    ∃ ao n c, n = (E j).R.length ∧ (E j).R.length ≤ 4398046510976 ∧ (∀ w2, Below W.heap.size W w2 → Three w2 wz j (E j).z (E j).q (.slice ao n c) ∧ KRow w2 ao (E j).R ∧ (Calls Try.prog 11 #[.pointer (E j).q] w2 fun e w' => ∃ lb, e = .returned (riF lb) ∧ ItK w' lb (E j).R ∧ Below w2.heap.size w2 w') ∧ (Calls Try.prog 12 #[.pointer (E j).q] w2 fun e w' => e = .returned (.int .i64 (n : Int)) ∧ w' = w2)) := by
  obtain ⟨ao, n, c, hrs⟩ := (h.el j hj).rs
  have hl := (h.el j hj).len
  refine ⟨ao, n, c, hrs.len, by omega, fun w2 hb => ?_⟩
  have h2 := h.below hb
  have hr2 := hrs.below hb
  obtain ⟨S, g1, g2, g3, g4, g5⟩ := (h2.el j hj).q
  refine ⟨⟨h2.cP hj, h2.cR hj, by rw [hr2.blk.cell]; rfl⟩, hr2.row, (all_q w2 _ S g1 (by omega)).mono (fun e w' ⟨bx, ar, cap, ks, e1, k1, k2, k3, k4, k5, k6⟩ => ?_), ?_⟩
  · have e2 : ks = (E j).R := rising_ext k3 (h2.el j hj).ri (fun x => (k4 x).trans ⟨fun h2 => (g3 x).1 h2.2, fun h3 => ⟨(h2.el j hj).l32 x h3, (g3 x).2 h3⟩⟩)
    rw [← e2]
    exact ⟨bx, e1, ⟨ar, cap, k1, k2⟩, k6⟩
  · rw [hrs.len, ← g5]
    exact klen_q w2 _ S g1
theorem sets_law (w0 : World) (v : Value) (SC : List SK) (TK : List (List UInt8)) (hS : SkR w0 v SC) (hK : ∀ s ∈ SC, SkOk TK w0 w0.heap.size s) (hM : SC.length ≤ 1048576) (htk : TK.length ≤ 2199023255488) : Calls Try.prog 3 #[v] w0 fun e w' => e = .returned (.bool true) ∧ Below w0.heap.size w0 w' := by
  obtain ⟨N, hN⟩ : ∃ N, N = w0.heap.size := ⟨_, rfl⟩
  obtain ⟨ao, c, rfl, hr⟩ := hS
  obtain ⟨n, hn⟩ : ∃ n, n = SC.length := ⟨_, rfl⟩
  rw [← hN] at hr hK
  have HSC := hide hr
  have HOk := hide hK
  have HN := hide hN
  have HNn := hide hn
  have HNm : Hid (n ≤ 1048576) := hide (by omega)
  have HTK := hide htk
  rw [← hn]
  have HW := hide (works_any w0)
  rw [← hN] at HW
  have hz0 := zero_W
  clear hr hK hn hM htk
  go_enter Try.func3, Try.ntmps3
  go_upto_region 5 with (go_at_call 4; (with_reducible refine HW.out.mono ?_); rintro e w1 ⟨rfl, hb⟩; have HB1 := hide hb; clear hb)
  refine name_world (fun D => Below w1.heap.size w1 D ∧ Blk D w1.heap.size zW WT) ⟨below_alloc w1 _, Blk.made w1 _ _⟩ ?_
  rintro W1 ⟨hB, hS⟩
  obtain ⟨wz, hwz⟩ : ∃ wz, wz = w1.heap.size := ⟨_, rfl⟩
  rw [← hwz] at hS ⊢
  have HP0 : Hid (PreS TK w0 W1 N wz (fun _ => ⟨none, 0, 0, []⟩) 0) := hide ⟨HB1.out.trans (hB.mono (by have := HB1.out.size; have := HN.out; omega)), hS, by have := HB1.out.size; have := HN.out; omega, fun k hk => absurd hk (by omega), fun k hk => absurd hk (by omega), fun k l hk => absurd hk (by omega)⟩
  clear hB hS hwz HB1 HW
  go_loopw [4] (fun t wr => ∃ (i : Nat) (E : Nat → EL), t = .int .i64 i ∧ i ≤ 3 ∧ PreS TK w0 wr N wz E i) (fun t _ => 3 - (intOf t).toNat)
  case atStart => exact ⟨0, _, rfl, by omega, HP0.out⟩
  case round =>
    obtain ⟨i, E, rfl, hi, hP⟩ := hrel
    have HP := hide hP
    clear hP HP0
    by_cases hlt : i < 3
    · have hji : (i : Int) < 3 := by omega
      have HI := hide hlt
      have HC1 := hide (newSet_any wr none 0 0 [] rfl ⟨fun i h => by simp at h, fun k h => by cases h⟩ (by omega))
      have HC2 : Hid (∀ w, Calls Try.prog 7 #[.slice none 0 0] w (RnewC w [])) := hide (fun w => rnewset_any w none 0 0 [] rfl ⟨fun i h => by simp at h, fun k h => by cases h⟩ (by omega))
      go_upto_region 6 with (first | (go_at_call 6; (with_reducible refine HC1.out.mono ?_); rintro e w1 ⟨zp, b, rfl, _, hb, hs, hb1⟩; have HBl := hide hb; have HS1 := hide hs; have HB1 := hide hb1; clear hb hs hb1) | (go_at_call 7; (with_reducible refine (HC2.out _).mono ?_); rintro e w2 ⟨zn, rfl, hzn, hrn, hb2⟩; have HZn := hide hzn; have HRn := hide hrn; have HB2 := hide hb2; have HC3 := hide (put_any w2 wz i zp zn HI.out (preA E i) rfl (HP.out.wb.below (HB1.out.trans (HB2.out.mono HB1.out.size)) HP.out.wb.lt)); clear hzn hrn hb2) | (go_at_call 5; (with_reducible refine HC3.out.mono ?_); rintro e w3 ⟨rfl, hw3, hg3⟩; have HPn := hide (HP.out.step HI.out HBl.out HS1.out HB1.out HZn.out HRn.out HB2.out hg3 hw3); clear hw3 hg3))
      clear HC1 HC2 HC3 HBl HS1 HB1 HZn HRn HB2 HP
      go_wp2
      go_roundw
      case rel => exact ⟨i + 1, _, by go_num, by omega, HPn.out⟩
      case measure => simp [intOf]; omega
    · have hji : ¬ (i : Int) < 3 := by omega
      obtain rfl : i = 3 := by omega
      have HS0 := hide HP.out.done
      clear HP hlt hi hz0
      go_upto_region 9 with fail
      go_loopw [5] (fun t wr => ∃ (i : Nat) (E : Nat → EL) (kv : Value) (KS : List (Value × Value)), t = .int .i64 i ∧ i ≤ n ∧ LwS TK w0 wr N wz E kv KS ∧ KS.length ≤ i) (fun t _ => n - (intOf t).toNat)
      case atStart => exact ⟨0, _, _, [], rfl, by omega, HS0.out, Nat.le_refl _⟩
      case round =>
        clear HS0
        obtain ⟨i, E, kv, KS, rfl, hi, hS, hKl⟩ := hrel
        have HS := hide hS
        have HKL := hide hKl
        clear hS hKl
        by_cases hlt : i < n
        · have hji : (i : Int) < (n : Int) := by omega
          have HLt := hide hlt
          have hnm : n ≤ 1048576 := HNm.out
          obtain ⟨s, hs⟩ : ∃ s, SC[i]? = some s := ⟨_, List.getElem?_eq_getElem (by rw [← HNn.out]; exact hlt)⟩
          have HSOk := hide (HOk.out s (List.mem_of_getElem? hs))
          obtain ⟨h, so, rfl, hrg⟩ := HSC.out wr HS.out.bel i s hs
          have HRG : Hid (∀ W, Below N w0 W → W.rangeAt h (so + i * 38) (skC s)) := hide (fun W hb => by
            obtain ⟨h', so', e, hrg'⟩ := HSC.out W hb i s hs
            cases e
            exact hrg')
          have HR1 := hide hrg
          have HCh : Hid (∀ W kv' KS', LwS TK w0 W N wz E kv' KS' → Calls Try.prog 9 #[.pointer (some ⟨wz, 0, none⟩), skV s] W fun e w' => e = .returned (.bool true) ∧ ∃ E', LwS TK w0 w' N wz E' kv' KS') := hide (fun W kv' KS' h' => changes_any s h' HSOk.out HTK.out)
          have HAk := hide (asks_any s HS.out HSOk.out (by have := HTK.out; omega) (by have := HKL.out; have := HNm.out; omega))
          clear hs hrg
          go_wp2_with (first | ((with_reducible refine Go.Proofs.Ytnloglecfbhpcaa.wpList_val (skV s) ?_ (run_load (x := .tmp 31) (p := .pointer (some ⟨h, so + i * 38, none⟩)) rfl ?_ (run_ldSK HSOk.out.k32 HR1.out)) ?_); rfl; rfl) | ((with_reducible refine Go.Proofs.Ytnloglecfbhpcaa.wpList_val (skV s) ?_ (run_load (x := .tmp 39) (p := .pointer (some ⟨h, so + i * 38, none⟩)) rfl ?_ (run_ldSK HSOk.out.k32 (HRG.out _ HSa.out.bel))) ?_); rfl; rfl) | (go_at_call 8; (with_reducible refine HAk.out.mono ?_); rintro e w2 ⟨rfl, kv2, KS2, hs2, hl2⟩; have HSa := hide hs2; have HKa := hide hl2; clear hs2 hl2) | (go_at_call 9; (with_reducible refine (HCh.out _ _ _ HSa.out).mono ?_); rintro e w3 ⟨rfl, E3, hs3⟩; have HSc := hide hs3; clear hs3))
          go_roundw
          case rel => exact ⟨i + 1, _, _, _, by go_num, HLt.out, HSc.out, by have := HKL.out; have := HKa.out; omega⟩
          case measure => have := HLt.out; simp [intOf]; omega
        · have hji : ¬ (i : Int) < (n : Int) := by omega
          obtain ⟨kao, kc, hke, hkg⟩ := HS.out.kr.slice
          obtain ⟨nk, hnk⟩ : ∃ nk, nk = KS.length := ⟨_, rfl⟩
          rw [← hnk] at hke hkg
          subst hke
          have HNK := hide hnk
          have HKG := hide hkg
          have HNKl : Hid (nk ≤ 1048576) := hide (by rw [hnk]; have := HKL.out; have := HNm.out; omega)
          clear hnk hkg HSC HOk
          go_upto_region 14 with fail
          go_loopw [6] (fun t wk => ∃ (r : Nat), t = .int .i64 r ∧ r ≤ nk ∧ LwS TK w0 wk N wz E (.slice kao nk kc) KS) (fun t _ => nk - (intOf t).toNat)
          case atStart => exact ⟨0, rfl, by omega, HS.out⟩
          case round =>
            obtain ⟨r, rfl, hr, hSk⟩ := hrel
            have HSk := hide hSk
            clear hSk HS
            have hkl : nk ≤ 1048576 := HNKl.out
            have cK := HSk.out.cK
            by_cases hlr : r < nk
            · have hjr : (r : Int) < (nk : Int) := by omega
              obtain ⟨z, hz⟩ : ∃ z, KS[r]? = some z := ⟨_, List.getElem?_eq_getElem (by rw [← HNK.out]; exact hlr)⟩
              obtain ⟨g, rfl⟩ := HKG.out (by omega)
              have hrg := HSk.out.kr.read rfl hz
              obtain ⟨lb, ao2, n2, c2, V, rfl, hit, hov, hnV, hVl⟩ := HSk.out.ks z (List.mem_of_getElem? hz)
              have HRG : Hid (wr.rangeAt g (r * 2) [riF lb, .slice ao2 n2 c2]) := hide hrg
              have HT := hide (tells_any (c := c2) wr hit hov hnV (by omega))
              clear hz hrg hit hov hVl hnV
              go_wp2_with (first | ((with_reducible refine Go.Proofs.Ytnloglecfbhpcaa.wpList_val (.agg #[riF lb, .slice ao2 n2 c2]) ?_ (run_load (x := .tmp 58) (p := .pointer (some ⟨g, r * 2, none⟩)) rfl ?_ (run_ldKPT HRG.out)) ?_); rfl; rfl) | (go_at_call 10; (with_reducible refine HT.out.mono ?_); rintro e wt ⟨rfl, hb⟩; have HSt := hide (HSk.out.below hb); clear hb))
              go_roundw
              case rel => exact ⟨r + 1, by go_num, by omega, HSt.out⟩
              case measure => simp [intOf]; omega
            · have hjr : ¬ (r : Int) < (nk : Int) := by omega
              go_upto_region 19 with fail
              clear cK hr hlr hjr
              go_loopw [7] (fun t wl => ∃ (r : Nat), t = .int .i64 r ∧ r ≤ 3 ∧ LwS TK w0 wl N wz E (.slice kao nk kc) KS) (fun t _ => 3 - (intOf t).toNat)
              case atStart => exact ⟨0, rfl, by omega, HSk.out⟩
              case round =>
              obtain ⟨r, rfl, hr, hSl⟩ := hrel
              have HSl := hide hSl
              clear hSl HSk
              by_cases hlr : r < 3
              · have hj2 : (r : Int) < 3 := by omega
                have HR2 := hide hlr
                go_upto_region 21 with fail
                have hbd : Below wr.heap.size wr wr.drew := (Below.refl _ _).drew
                have HSd := hide (HSl.out.below hbd)
                obtain ⟨ao2, n2, c2, hnV, hVl, hEnt⟩ := ent_ready HSd.out hlr HTK.out
                have HVl := hide hVl
                have HNV := hide hnV
                have HEnt := hide hEnt
                clear hVl hnV hEnt hbd
                refine wp_norm (le_walk _ (fun _ _ _ _ _ h => h) wr wz (E r).z n2 c2 r hlr ao2 (E r).q (fun lb w2 => ItK w2 lb (E r).R ∧ Below wr.drew.heap.size wr.drew w2) (fun lb w2 => ItK w2 lb (E r).R ∧ Below (wr.drew.alloc (.cells #[.nilFunc, .slice none 0 0] KPT)).heap.size (wr.drew.alloc (.cells #[.nilFunc, .slice none 0 0] KPT)) w2) (HEnt.out _ (Below.refl _ _)).1 (HEnt.out _ (below_alloc _ _)).1 (HEnt.out _ (Below.refl _ _)).2.2.1 (HEnt.out _ (below_alloc _ _)).2.2.1
                  (fun lb w2 h => ⟨(HEnt.out _ h.2).1, (HEnt.out _ (h.2.trans ((below_alloc w2 _).mono h.2.size))).1⟩)
                  (fun lb w2 h => ⟨(HEnt.out _ ((below_alloc wr.drew _).trans (h.2.mono (below_alloc wr.drew _).size))).1, (made_set2 h.2 .nilFunc .nilFunc).1⟩)
                  (fun lb w2 h => (HEnt.out _ (h.2.trans ((made_set w2 _ _).2.mono h.2.size))).1)
                  (fun lb w2 h => (HEnt.out _ (made_set2 h.2 _ _).2.2.2).1) _ ?_ ?_ ?_ ?_ ?_)
                any_goals rfl
                · exact Nat.lt_of_sub_pos (by exact Nat.succ_pos _)
                · rintro lb w2 ⟨hit, hb2⟩
                  have HB4 := hide (hb2.trans ((made_set w2 (riF lb) (.slice ao2 n2 c2)).2.mono hb2.size))
                  have HE4 : Hid (Blk ((w2.alloc (.cells #[.nilFunc, .slice none 0 0] KPT)).setCells w2.heap.size 0 [riF lb, .slice ao2 n2 c2]) w2.heap.size #[riF lb, .slice ao2 n2 c2] KPT) := hide ((made_set w2 _ _).1)
                  have HIT := hide (hit.keepV (KeepV.below (made_set w2 (riF lb) (.slice ao2 n2 c2)).2))
                  obtain ⟨W4, hW4⟩ : ∃ W4, W4 = (w2.alloc (.cells #[.nilFunc, .slice none 0 0] KPT)).setCells w2.heap.size 0 [riF lb, .slice ao2 n2 c2] := ⟨_, rfl⟩
                  obtain ⟨eb, heb⟩ : ∃ eb, eb = w2.heap.size := ⟨_, rfl⟩
                  rw [← hW4] at HB4 HE4 HIT ⊢
                  rw [← heb] at HE4 ⊢
                  clear hW4 heb hb2 hit
                  simp only [Act.put, List.setIfInBounds_toArray, List.set_cons_zero, List.set_cons_succ, Exit.then]
                  have hbd4 : Below W4.heap.size W4 W4.drew := (Below.refl _ _).drew
                  have HB5 := hide (HB4.out.trans (hbd4.mono HB4.out.size))
                  have HE5 : Hid (Blk W4.drew eb #[riF lb, .slice ao2 n2 c2] KPT) := hide (Blk.below HE4.out hbd4 (Blk.lt HE4.out))
                  have HT5 := hide (tells_any (c := c2) W4.drew (HIT.out.below hbd4) (HEnt.out W4.drew HB5.out).2.1 HNV.out (by have := HVl.out; omega))
                  have HS5 : Hid (∀ w3, Below W4.drew.heap.size W4.drew w3 → ((w3.cell? ⟨wz, r, none⟩ = some (.pointer (E r).q) ∧ w3.cell? ⟨wz, 3 + r, none⟩ = some (.pointer (some ⟨(E r).z, 0, none⟩)) ∧ w3.cell? ⟨(E r).z, 0, none⟩ = some (.slice ao2 n2 c2) ∧ w3.rangeAt eb 0 [riF lb, .slice ao2 n2 c2]) ∧ (Calls Try.prog 12 #[.pointer (E r).q] w3 fun e w' => e = .returned (.int .i64 (n2 : Int)) ∧ w' = w3)) ∧ LwS TK w0 w3 N wz E (.slice kao nk kc) KS) := hide (fun w3 h3 => by
                    have hx := HEnt.out w3 (HB5.out.trans (h3.mono HB5.out.size))
                    exact ⟨⟨⟨hx.1.1, hx.1.2.1, hx.1.2.2, Blk.range (Blk.below HE5.out h3 (Blk.lt HE5.out))⟩, hx.2.2.2⟩, HSd.out.below (HB5.out.trans (h3.mono HB5.out.size))⟩)
                  clear HIT HE4 HB4 hbd4
                  go_upto_region 22 with fail
                  refine wp_norm (lf_walk _ (fun _ _ _ _ _ h => h) W4 wz (E r).z eb lb n2 c2 r HR2.out ao2 (E r).q (fun w2 => Below W4.drew.heap.size W4.drew w2) (HS5.out _ (Below.refl _ _)).1.1 HT5.out (fun w3 h3 => (HS5.out w3 h3).1.1) (fun w3 h3 => (HS5.out w3 h3).1.2) _ ?_ ?_ ?_ ?_ ?_)
                  any_goals rfl
                  · exact Nat.lt_of_sub_pos (by exact Nat.succ_pos _)
                  rintro w3 h3
                  have HS6 := hide (HS5.out w3 h3).2
                  clear h3 HT5 HS5 HEnt HSd
                  simp only [Act.put, List.setIfInBounds_toArray, List.set_cons_zero, List.set_cons_succ, Exit.then]
                  go_wp2
                  go_roundw
                  case rel => exact ⟨r + 1, by go_num, by omega, HS6.out⟩
                  case measure => simp [intOf]; omega
                · rintro lb w2 ⟨hit, hb2⟩
                  have HB4 := hide ((made_set2 hb2 (riF lb) (.slice ao2 n2 c2)).2.2.2)
                  have HE4 : Hid (Blk (w2.setCells wr.drew.heap.size 0 [riF lb, .slice ao2 n2 c2]) wr.drew.heap.size #[riF lb, .slice ao2 n2 c2] KPT) := hide ((made_set2 hb2 _ _).2.1)
                  have HIT := hide (hit.keepV (KeepV.tch (Tch.grown (T := fun k => k = wr.drew.heap.size) (made_set2 hb2 (riF lb) (.slice ao2 n2 c2)).2.2.1 rfl) (fun k hk => by rw [hk]; exact NoU.blk (made_set2 hb2 .nilFunc .nilFunc).1 (fun v hv u e => by
                    simp only [List.mem_cons, List.not_mem_nil, or_false] at hv
                    rcases hv with rfl | rfl <;> cases e)) (fun k cs hk hb => by rw [hk] at hb; exact blk_ne hb (made_set2 hb2 .nilFunc .nilFunc).1 (by decide) rfl)))
                  obtain ⟨W4, hW4⟩ : ∃ W4, W4 = w2.setCells wr.drew.heap.size 0 [riF lb, .slice ao2 n2 c2] := ⟨_, rfl⟩
                  obtain ⟨eb, heb⟩ : ∃ eb, eb = wr.drew.heap.size := ⟨_, rfl⟩
                  rw [← hW4] at HB4 HE4 HIT ⊢
                  rw [← heb] at HE4 ⊢
                  clear hW4 heb hb2 hit
                  simp only [Act.put, List.setIfInBounds_toArray, List.set_cons_zero, List.set_cons_succ, Exit.then]
                  have hbd4 : Below W4.heap.size W4 W4.drew := (Below.refl _ _).drew
                  have HB5 := hide (HB4.out.trans (hbd4.mono HB4.out.size))
                  have HE5 : Hid (Blk W4.drew eb #[riF lb, .slice ao2 n2 c2] KPT) := hide (Blk.below HE4.out hbd4 (Blk.lt HE4.out))
                  have HT5 := hide (tells_any (c := c2) W4.drew (HIT.out.below hbd4) (HEnt.out W4.drew HB5.out).2.1 HNV.out (by have := HVl.out; omega))
                  have HS5 : Hid (∀ w3, Below W4.drew.heap.size W4.drew w3 → ((w3.cell? ⟨wz, r, none⟩ = some (.pointer (E r).q) ∧ w3.cell? ⟨wz, 3 + r, none⟩ = some (.pointer (some ⟨(E r).z, 0, none⟩)) ∧ w3.cell? ⟨(E r).z, 0, none⟩ = some (.slice ao2 n2 c2) ∧ w3.rangeAt eb 0 [riF lb, .slice ao2 n2 c2]) ∧ (Calls Try.prog 12 #[.pointer (E r).q] w3 fun e w' => e = .returned (.int .i64 (n2 : Int)) ∧ w' = w3)) ∧ LwS TK w0 w3 N wz E (.slice kao nk kc) KS) := hide (fun w3 h3 => by
                    have hx := HEnt.out w3 (HB5.out.trans (h3.mono HB5.out.size))
                    exact ⟨⟨⟨hx.1.1, hx.1.2.1, hx.1.2.2, Blk.range (Blk.below HE5.out h3 (Blk.lt HE5.out))⟩, hx.2.2.2⟩, HSd.out.below (HB5.out.trans (h3.mono HB5.out.size))⟩)
                  clear HIT HE4 HB4 hbd4
                  go_upto_region 22 with fail
                  refine wp_norm (lf_walk _ (fun _ _ _ _ _ h => h) W4 wz (E r).z eb lb n2 c2 r HR2.out ao2 (E r).q (fun w2 => Below W4.drew.heap.size W4.drew w2) (HS5.out _ (Below.refl _ _)).1.1 HT5.out (fun w3 h3 => (HS5.out w3 h3).1.1) (fun w3 h3 => (HS5.out w3 h3).1.2) _ ?_ ?_ ?_ ?_ ?_)
                  any_goals rfl
                  · exact Nat.lt_of_sub_pos (by exact Nat.succ_pos _)
                  rintro w3 h3
                  have HS6 := hide (HS5.out w3 h3).2
                  clear h3 HT5 HS5 HEnt HSd
                  simp only [Act.put, List.setIfInBounds_toArray, List.set_cons_zero, List.set_cons_succ, Exit.then]
                  go_wp2
                  go_roundw
                  case rel => exact ⟨r + 1, by go_num, by omega, HS6.out⟩
                  case measure => simp [intOf]; omega
              · have hj2 : ¬ (r : Int) < 3 := by omega
                go_wp2
                go_ret
                exact ⟨rfl, by rw [← HN.out]; exact HSl.out.bel⟩
end Go.Proofs.Ytnloglecfbhpcaa
