/- Pins: Has, Next, Count. -/
import Derived.Test.YtagnglkkmdeicaaPN3
namespace Go.Proofs.Ytagnglkkmdeicaa
set_option linter.unusedVariables false
set_option linter.unusedSimpArgs false
open Go.RowKit
set_option maxRecDepth 100000

def keysO : Option SesV → List (List UInt8)
  | none => []
  | some v => v.S
def hasO (o : Option SesV) (x : List UInt8) : Bool := decide (x ∈ keysO o)
theorem khas_o (w : World) (o : Option SesV) (x : List UInt8) (hx : x.length = 32) (h : ∀ v, o = some v → SesAt w v) : Calls Try.prog 36 #[.pointer (adK o), keyV x] w fun e w' => e = .returned (.bool (hasO o x)) ∧ Below w.heap.size w w' := by
  cases o with
  | none => exact (has_nil w x).mono fun e w' h => ⟨by rw [h.1]; rfl, h.2⟩
  | some v => exact has_any w v.z v.b v.S x hx (h v rfl).set
theorem drop_eq {P : Program} {f : FuncId} {args : Array Value} {w : World} {v : Value} (h : Calls P f args w fun e w' => e = .returned v ∧ w' = w) : Calls P f args w fun e w' => e = .returned v ∧ Below w.heap.size w w' := h.mono fun e w' k => ⟨k.1, by rw [k.2]; exact Below.refl _ _⟩
set_option maxHeartbeats 1000000 in
theorem phas_any (w : World) (zp : Nat) (os : List (Option SesV)) (s : Int) (x : List UInt8) (hx : x.length = 32) (h : PinsAt w zp os) : Calls Try.prog 13 #[.pointer (some ⟨zp, 0, none⟩), .int .i64 s, keyV x] w fun e w' => e = .returned (.bool (hasO (sel os s) x)) ∧ Below w.heap.size w w' := by
  obtain ⟨W, hW⟩ : ∃ W, W = w.alloc (.cells (x.map u8c).toArray 30) := ⟨_, rfl⟩
  have hb : Below w.heap.size w W := by rw [hW]; exact (Below.refl _ _).alloc (Nat.le_refl _) _
  have hP := h.below hb
  have hKA : KeyAt W w.heap.size x := by rw [hW]; exact ⟨Blk.made w _ _, hx⟩
  have HC1 := hide (fun d os' => drop_eq (at_any (Sort.grow (redrawn W d) os') zp os s (hP.below (below_regrown W d os'))))
  have HC2 := hide (fun d os' => drop_eq (pinned_any (Sort.grow (redrawn W d) os') (sel os s) ((hP.below (below_regrown W d os')).sel s)))
  have HC3 := hide (fun d os' => khas_o (Sort.grow (redrawn W d) os') (sel os s) x hx ((hP.below (below_regrown W d os')).sel s))
  have HKL := hide (fun d os' => (hKA.below (below_regrown W d os')).load)
  have HB := hide hb
  clear h hP hKA hx hb
  generalize sel os s = o at HC1 HC2 HC3 ⊢
  generalize hasO o x = r at HC3 ⊢
  generalize adS o = q at HC1 HC2
  generalize adK o = q2 at HC2 HC3
  show Calls Try.prog 13 #[.pointer (some ⟨zp, 0, none⟩), .int .i64 s, .agg (x.map u8c).toArray] w _
  go_enter Try.func13, Try.ntmps13
  go_upto_region 1 with fail
  rw [← hW]
  clear hW
  refine wp_region_quiet_below (by kernel_rfl) (by kernel_rfl) ?_
  quiet_step (fail)
  quiet_step (fail)
  quiet_step (exact Calls.regrown_of (HC1.out _ _))
  quiet_step (exact Calls.regrown_of (HC2.out _ _))
  refine wpQuiet_val (keyV x) rfl (fun w hw => ?_) ?_
  · obtain ⟨p, rfl⟩ := hw
    exact run_load rfl rfl (HKL.out _ _)
  quiet_step (exact Calls.regrown_of (HC3.out _ _))
  quiet_step (fail)
  refine wpQuiet_nil ?_
  intro _ hw'
  obtain ⟨⟨dq, osq⟩, hw''⟩ := hw'
  subst hw''
  go_wp2
  go_ret
  exact ⟨rfl, HB.out.trans ((below_regrown _ dq osq).mono HB.out.size)⟩
/-- How many of the first n sessions pin a key. -/
def cnt (os : List (Option SesV)) (x : List UInt8) : Nat → Nat
  | 0 => 0
  | n + 1 => cnt os x n + (if hasO (sel os n) x = true then 1 else 0)
theorem cnt_le (os : List (Option SesV)) (x : List UInt8) : ∀ n, cnt os x n ≤ n
  | 0 => Nat.le_refl _
  | n + 1 => by
    have := cnt_le os x n
    unfold cnt
    split <;> omega
set_option maxHeartbeats 1000000 in
theorem count_any (w : World) (zp : Nat) (os : List (Option SesV)) (x : List UInt8) (hx : x.length = 32) (h : PinsAt w zp os) : Calls Try.prog 14 #[.pointer (some ⟨zp, 0, none⟩), keyV x] w fun e w' => e = .returned (.int .i64 (cnt os x 16 : Nat)) ∧ Below w.heap.size w w' := by
  obtain ⟨W, hW⟩ : ∃ W, W = w.alloc (.cells (x.map u8c).toArray 30) := ⟨_, rfl⟩
  have hb : Below w.heap.size w W := by rw [hW]; exact (Below.refl _ _).alloc (Nat.le_refl _) _
  have HP := hide (h.below hb)
  have HKA : Hid (KeyAt W w.heap.size x) := by rw [hW]; exact hide ⟨Blk.made w _ _, hx⟩
  have HX := hide hx
  have HB := hide hb
  clear h hx hb
  show Calls Try.prog 14 #[.pointer (some ⟨zp, 0, none⟩), .agg (x.map u8c).toArray] w _
  go_enter Try.func14, Try.ntmps14
  go_upto_region 1 with fail
  rw [← hW]
  clear hW
  go_wp2
  go_loopw [5, 7] (fun t i wr => ∃ (k m : Nat), i = .int .i64 k ∧ k ≤ 16 ∧ t = .int .i64 m ∧ m ≤ k ∧ m = cnt os x k ∧ PinsAt wr zp os ∧ KeyAt wr w.heap.size x ∧ Below w.heap.size w wr) (fun _ i _ => 16 - (intOf i).toNat)
  case atStart => exact ⟨0, 0, rfl, by omega, rfl, by omega, rfl, HP.out, HKA.out, HB.out⟩
  case round =>
    clear HP HKA HB
    obtain ⟨k, m, rfl, hk, rfl, hmk, hm, hP, hK, hB⟩ := hrel
    by_cases hlt : k < 16
    · have hki : (k : Int) < 16 := by omega
      have HM : Hid (cnt os x (k + 1) = m + (if hasO (sel os k) x = true then 1 else 0)) := hide (by rw [cnt, ← hm])
      have HC := hide (phas_any wr zp os k x HX.out hP)
      have HP := hide hP
      have HK := hide hK
      have HB := hide hB
      clear hP hK hB hm
      cases hr : hasO (sel os k) x with
      | true =>
        rw [hr] at HC HM
        clear hr
        go_wp2_with (first | ((with_reducible refine wpList_key (.tmp 3) w.heap.size x HK.out ?_ ?_ ?_ ?_); rfl; rfl; rfl) | (go_at_call 13; (with_reducible refine HC.out.mono ?_); rintro e w1 ⟨rfl, hb1⟩))
        exact ⟨⟨k + 1, m + 1, by go_num, by omega, by go_num, by omega, HM.out.symm, HP.out.below hb1, HK.out.below hb1, HB.out.trans (hb1.mono HB.out.size)⟩, by simp [intOf]; omega⟩
      | false =>
        rw [hr] at HC HM
        clear hr
        go_wp2_with (first | ((with_reducible refine wpList_key (.tmp 3) w.heap.size x HK.out ?_ ?_ ?_ ?_); rfl; rfl; rfl) | (go_at_call 13; (with_reducible refine HC.out.mono ?_); rintro e w1 ⟨rfl, hb1⟩))
        exact ⟨⟨k + 1, m, by go_num, by omega, by go_num, by omega, HM.out.symm, HP.out.below hb1, HK.out.below hb1, HB.out.trans (hb1.mono HB.out.size)⟩, by simp [intOf]; omega⟩
    · have hki : ¬ (k : Int) < 16 := by omega
      have HM : Hid (m = cnt os x 16) := hide (by rw [hm, show k = 16 by omega])
      clear hm hP hK
      go_wp2
      go_ret
      exact ⟨by rw [HM.out]; rfl, hB⟩
set_option maxHeartbeats 1000000 in
theorem next_nil (w : World) (after : List UInt8) (any : Bool) : Calls Try.prog 35 #[.pointer none, keyV after, .bool any] w fun e w' => e = .returned (.tuple #[keyV (List.replicate 32 0), .bool false]) ∧ Below w.heap.size w w' := by
  have hz := zero_key
  have HB : Hid (Below w.heap.size w ((w.alloc (.cells (after.map u8c).toArray 30)).alloc (.cells keyZ 30))) := hide (((Below.refl _ _).alloc (Nat.le_refl _) _).alloc (by simp) _)
  show Calls Try.prog 35 #[.pointer none, .agg (after.map u8c).toArray, .bool any] w _
  go_enter Try.func35, Try.ntmps35
  have HKZ : Hid (Blk ((w.alloc (.cells (after.map u8c).toArray 30)).alloc (.cells keyZ 30)) (w.heap.size + 1) keyZ 30) := hide (blk_made1 w _ _ _ _)
  have HZS : Hid (keyZ.size = 32) := hide rfl
  have HU1 : Hid (keyZ.all (·.oneCell') = true) := hide (all_oneCell_toArray (u8c_one _))
  go_wp2_with ((with_reducible refine wpList_store_blk ?_ 30 (.tmp 6) (.tmp 13) ?_ (w.heap.size + 1) 32 keyZ keyZ 30 HZS.out HZS.out ?_ ?_ HKZ.out infoKey HU1.out ?_); rfl; rfl; rfl; rfl; intro w9 hk9 hg9; have HK9 := hide hk9; have HG9 := hide hg9; clear hk9 hg9)
  refine bodyPost_ret (results_cell2 rfl _ _ _ rfl _ (loadBlkT HK9.out 30 _ Try.underlying30 rfl 32 infoKey HZS.out)) rfl ?_
  exact ⟨rfl, HB.out.trans (below_grownBy HG9.out (by omega) HB.out.size)⟩
theorem knext_o (w : World) (o : Option SesV) (after : List UInt8) (any : Bool) (ha : after.length = 32) (h : ∀ v, o = some v → SesAt w v) : Calls Try.prog 35 #[.pointer (adK o), keyV after, .bool any] w (NextC w (keysO o) after any) := by
  cases o with
  | none => exact (next_nil w after any).mono fun e w' h => ⟨_, false, h.1, by simp, .inr ⟨rfl, rfl, fun x hx => absurd hx.2 (by simp [keysO])⟩, h.2⟩
  | some v => exact next_any w v.z v.b v.S after any ha (h v rfl).set
set_option maxHeartbeats 1000000 in
theorem pnext_any (w : World) (zp : Nat) (os : List (Option SesV)) (s : Int) (after : List UInt8) (any : Bool) (ha : after.length = 32) (h : PinsAt w zp os) : Calls Try.prog 11 #[.pointer (some ⟨zp, 0, none⟩), .int .i64 s, keyV after, .bool any] w (NextC w (keysO (sel os s)) after any) := by
  have hz := zero_key
  obtain ⟨N, hN⟩ : ∃ N, N = w.heap.size := ⟨_, rfl⟩
  obtain ⟨W, hW⟩ : ∃ W, W = (w.alloc (.cells (after.map u8c).toArray 30)).alloc (.cells keyZ 30) := ⟨_, rfl⟩
  have hb : Below N w W := by rw [hW, hN]; exact ((Below.refl _ _).alloc (Nat.le_refl _) _).alloc (by simp) _
  have hNs := hb.size
  have hP := h.below (by rw [← hN]; exact hb)
  have hKA : KeyAt W N after := by rw [hW, hN]; exact ⟨(Blk.made w _ _).alloc _, ha⟩
  have hKZ : Blk W (N + 1) keyZ 30 := by rw [hW]; exact blk_made1 w _ _ _ _ (by rw [hN])
  have hbd := below_d W
  have hPd := hP.below hbd
  have HC1 := hide (at_any W.drew zp os s hPd)
  have HC2 := hide (pinned_any W.drew (sel os s) (hPd.sel s))
  have HC3 := hide (knext_o W.drew (sel os s) after any ha (hPd.sel s))
  generalize sel os s = o at HC1 HC2 HC3 ⊢
  generalize adS o = q at HC1 HC2
  generalize adK o = q2 at HC2 HC3
  have HB := hide hb
  have HK := hide (hKA.below hbd)
  have HKZ := hide (hKZ.below hbd hKZ.lt)
  have HN := hide hN
  have HL : Hid (N ≤ W.heap.size) := hide (by rw [hN]; exact hNs)
  clear h hP hPd hKA hKZ hbd ha hNs hb
  show Calls Try.prog 11 #[.pointer (some ⟨zp, 0, none⟩), .int .i64 s, .agg (after.map u8c).toArray, .bool any] w _
  go_enter Try.func11, Try.ntmps11
  go_upto_region 1 with fail
  rw [← hW, ← hN]
  clear hW hN
  have key : ∀ (k : List UInt8) (w1 : World), k.length = 32 → Below W.heap.size W.drew w1 → KeyAt w1 N after ∧ Blk w1 (N + 1) keyZ 30 ∧ KeyAt (w1.setCells (N + 1) 0 (k.map u8c).toArray.toList) N after ∧ Blk (w1.setCells (N + 1) 0 (k.map u8c).toArray.toList) (N + 1) (k.map u8c).toArray 30 ∧ Below N w (w1.setCells (N + 1) 0 (k.map u8c).toArray.toList) := fun k w1 hk hb1 => by
    have h1 := HK.out.below hb1
    have h2 := HKZ.out.below hb1 HKZ.out.lt
    obtain ⟨h3, h4⟩ := setCells_blk h2 (k.map u8c).toArray (by simp [hk]; rfl)
    exact ⟨h1, h2, h1.grown h4 (by simp), h3, ((HB.out.trans ((below_d W).mono HL.out)).trans (hb1.mono HL.out)).trans (below_grownBy h4 (by omega) (Nat.le_trans HL.out hb1.size))⟩
  have HKEY := hide key
  clear key
  refine pn_walk _ (fun _ _ _ _ _ h => h) W zp N (N + 1) s q q2 after any (fun k ok w1 => LeastN (fun x => x.length = 32 ∧ x ∈ keysO o) after any k ok ∧ Below W.heap.size W.drew w1) HK.out (fun k ok w1 hk hM => ⟨(HKEY.out k w1 hk hM.2).1, (HKEY.out k w1 hk hM.2).2.1, (HKEY.out k w1 hk hM.2).2.2.1⟩) HC1.out HC2.out (HC3.out.mono fun e w' ⟨k, ok, h1, h2, h3, h4⟩ => ⟨k, ok, h1, h2, h3, h4⟩) _ (Nat.lt_of_sub_pos (by exact Nat.succ_pos _)) rfl rfl rfl rfl rfl ?_
  rintro k ok w1 hk ⟨hL, hb1⟩
  obtain ⟨-, -, -, h3, h4⟩ := HKEY.out k w1 hk hb1
  clear HKEY HC1 HC2 HC3
  simp only [Act.put, List.setIfInBounds_toArray, List.set_cons_zero, List.set_cons_succ]
  go_wp2
  refine bodyPost_ret (results_cell2 rfl _ _ _ rfl _ (loadBlkT h3 30 _ Try.underlying30 rfl 32 infoKey (by simp [hk]))) rfl ?_
  exact ⟨k, ok, rfl, hk, hL, by rw [← HN.out]; exact h4⟩
end Go.Proofs.Ytagnglkkmdeicaa
