/- PinsPlays: nil Pins. -/
import Derived.Test.YtagnglkkmdeicaaPA18
namespace Go.Proofs.Ytagnglkkmdeicaa
set_option linter.unusedVariables false
set_option linter.unusedSimpArgs false
open Go.RowKit Go.Shelf
set_option maxRecDepth 100000

set_option maxHeartbeats 1000000 in
theorem phas_nil (w : World) (s : Int) (x : List UInt8) (hx : x.length = 32) : Calls Try.prog 13 #[.pointer none, .int .i64 s, keyV x] w fun e w' => e = .returned (.bool false) ∧ Below w.heap.size w w' := by
  obtain ⟨W, hW⟩ : ∃ W, W = w.alloc (.cells (x.map u8c).toArray 30) := ⟨_, rfl⟩
  have hb : Below w.heap.size w W := by rw [hW]; exact (Below.refl _ _).alloc (Nat.le_refl _) _
  have hKA : KeyAt W w.heap.size x := by rw [hW]; exact ⟨Blk.made w _ _, hx⟩
  have HC1 := hide (fun d os' => drop_eq (at_nil (Sort.grow (redrawn W d) os') s))
  have HC2 : Hid (∀ d os', Calls Try.prog 34 #[.pointer none] (Sort.grow (redrawn W d) os') fun e w' => e = .returned (.pointer none) ∧ Below (Sort.grow (redrawn W d) os').heap.size (Sort.grow (redrawn W d) os') w') := hide (fun d os' => drop_eq (pinned_any (Sort.grow (redrawn W d) os') none (fun v e => by cases e)))
  have HC3 := hide (fun d os' => has_nil (Sort.grow (redrawn W d) os') x)
  have HKL := hide (fun d os' => (hKA.below (below_regrown W d os')).load)
  have HB := hide hb
  clear hKA hx hb
  show Calls Try.prog 13 #[.pointer none, .int .i64 s, .agg (x.map u8c).toArray] w _
  go_enter Try.func13, Try.ntmps13
  go_upto_region 1 with fail
  rw [← hW]
  clear hW
  refine wp_region_quiet_below (by kernel_rfl) (by kernel_rfl) ?_
  quiet_step (fail)
  quiet_step (fail)
  quiet_step (exact Calls.regrown_of (HC1.out _ _))
  quiet_step (exact Calls.regrown_of (HC2.out _ _))
  refine wpQuiet_val (keyV x) rfl (fun w hw => ?_) ?_
  · obtain ⟨p, rfl⟩ := hw
    exact run_load rfl rfl (HKL.out _ _)
  quiet_step (exact Calls.regrown_of (HC3.out _ _))
  quiet_step (fail)
  refine wpQuiet_nil ?_
  intro _ hw'
  obtain ⟨⟨dq, osq⟩, hw''⟩ := hw'
  subst hw''
  go_wp2
  go_ret
  exact ⟨rfl, HB.out.trans ((below_regrown _ dq osq).mono HB.out.size)⟩
set_option maxHeartbeats 1000000 in
theorem count_nil (w : World) (x : List UInt8) (hx : x.length = 32) : Calls Try.prog 14 #[.pointer none, keyV x] w fun e w' => e = .returned (.int .i64 0) ∧ Below w.heap.size w w' := by
  obtain ⟨W, hW⟩ : ∃ W, W = w.alloc (.cells (x.map u8c).toArray 30) := ⟨_, rfl⟩
  have hb : Below w.heap.size w W := by rw [hW]; exact (Below.refl _ _).alloc (Nat.le_refl _) _
  have HKA : Hid (KeyAt W w.heap.size x) := by rw [hW]; exact hide ⟨Blk.made w _ _, hx⟩
  have HX := hide hx
  have HB := hide hb
  clear hx hb
  show Calls Try.prog 14 #[.pointer none, .agg (x.map u8c).toArray] w _
  go_enter Try.func14, Try.ntmps14
  go_upto_region 1 with fail
  rw [← hW]
  clear hW
  go_wp2
  go_loopw [5, 7] (fun t i wr => ∃ (k : Nat), i = .int .i64 k ∧ k ≤ 16 ∧ t = .int .i64 0 ∧ KeyAt wr w.heap.size x ∧ Below w.heap.size w wr) (fun _ i _ => 16 - (intOf i).toNat)
  case atStart => exact ⟨0, rfl, by omega, rfl, HKA.out, HB.out⟩
  case round =>
    clear HKA HB
    obtain ⟨k, rfl, hk, rfl, hK, hB⟩ := hrel
    by_cases hlt : k < 16
    · have hki : (k : Int) < 16 := by omega
      have HC := hide (phas_nil wr k x HX.out)
      have HK := hide hK
      have HB := hide hB
      clear hK hB
      go_wp2_with (first | ((with_reducible refine wpList_key (.tmp 3) w.heap.size x HK.out ?_ ?_ ?_ ?_); rfl; rfl; rfl) | (go_at_call 13; (with_reducible refine HC.out.mono ?_); rintro e w1 ⟨rfl, hb1⟩))
      exact ⟨⟨k + 1, by go_num, by omega, rfl, HK.out.below hb1, HB.out.trans (hb1.mono HB.out.size)⟩, by simp [intOf]; omega⟩
    · have hki : ¬ (k : Int) < 16 := by omega
      clear hK
      go_wp2
      go_ret
      exact ⟨rfl, hB⟩
set_option maxHeartbeats 1000000 in
theorem sessions_nil (w : World) : Calls Try.prog 27 #[.pointer none] w fun e w' => e = .returned (.slice none 0 0) ∧ w' = w := by
  go_enter Try.func27, Try.ntmps27
  go_wp2
  go_loopw [3, 6] (fun t u wr => ∃ (i : Nat), u = .int .i64 i ∧ i ≤ 16 ∧ t = .slice none 0 0 ∧ wr = w) (fun _ u _ => 16 - (intOf u).toNat)
  case atStart => exact ⟨0, rfl, by omega, rfl, rfl⟩
  case round =>
    obtain ⟨i, rfl, hi, rfl, hw0⟩ := hrel
    have HW := hide hw0
    clear hw0
    by_cases hlt : i < 16
    · have hii : (i : Int) < 16 := by omega
      have HAT := hide (at_nil wr (i : Int))
      go_wp2_with (go_at_call 33; (with_reducible refine HAT.out.mono ?_); rintro e w' ⟨rfl, hw⟩; rw [hw]; clear hw)
      exact ⟨⟨i + 1, by go_num, by omega, rfl, HW.out⟩, by simp [intOf]; omega⟩
    · have hii : ¬ (i : Int) < 16 := by omega
      go_wp2
      go_ret
      exact ⟨rfl, HW.out⟩
def px_0 (s : String) : Oper := { dst := some 10, op := Op.move (Operand.tmp 0), type := 23, pos := s, after := #[], guard := none }
def px_1 (s : String) : Oper := { dst := some 11, op := Op.move (Operand.tmp 1), type := 3, pos := s, after := #[], guard := none }
def px_2 (s : String) : Oper := { dst := some 12, op := Op.call { callee := Callee.value (Operand.func 33), args := #[Operand.tmp 10, Operand.tmp 11], argTypes := #[23, 3] }, type := 50, pos := s, after := #[{ on := 0, ground := Ground.data }, { on := 1, ground := Ground.data }], guard := none }
def px_3 (s : String) : Oper := { dst := some 13, op := Op.call { callee := Callee.value (Operand.func 34), args := #[Operand.tmp 12], argTypes := #[50] }, type := 63, pos := s, after := #[{ on := 2, ground := Ground.data }, { on := 2, ground := Ground.chain }], guard := none }
def px_4 (s : String) : Oper := { dst := some 14, op := Op.load 30 (Operand.tmp 6), type := 30, pos := s, after := #[], guard := none }
def px_5 (s : String) : Oper := { dst := some 15, op := Op.move (Operand.tmp 3), type := 4, pos := s, after := #[], guard := none }
def px_6 (s : String) : Oper := { dst := some 16, op := Op.call { callee := Callee.value (Operand.func 35), args := #[Operand.tmp 13, Operand.tmp 14, Operand.tmp 15], argTypes := #[63, 30, 4] }, type := 43, pos := s, after := #[{ on := 3, ground := Ground.data }, { on := 4, ground := Ground.data }, { on := 5, ground := Ground.data }, { on := 3, ground := Ground.chain }], guard := none }
def px_7 (s : String) : Oper := { dst := some 17, op := Op.extract (Operand.tmp 16) 0, type := 30, pos := s, after := #[{ on := 6, ground := Ground.data }], guard := none }
def px_8 (s : String) : Oper := { dst := some 18, op := Op.extract (Operand.tmp 16) 1, type := 4, pos := s, after := #[{ on := 6, ground := Ground.data }], guard := none }
def px_9 (s : String) : Oper := { dst := none, op := Op.store 30 (Operand.tmp 8) (Operand.tmp 17), type := 0, pos := s, after := #[{ on := 7, ground := Ground.data }, { on := 6, ground := Ground.chain }, { on := 0, ground := Ground.phase }, { on := 1, ground := Ground.phase }, { on := 2, ground := Ground.phase }, { on := 3, ground := Ground.phase }, { on := 4, ground := Ground.phase }, { on := 5, ground := Ground.phase }, { on := 6, ground := Ground.phase }, { on := 7, ground := Ground.phase }, { on := 8, ground := Ground.phase }], guard := none }
def px_10 (s : String) : Oper := { dst := some 9, op := Op.assign (Operand.tmp 18), type := 4, pos := s, after := #[{ on := 8, ground := Ground.data }, { on := 9, ground := Ground.chain }, { on := 0, ground := Ground.phase }, { on := 1, ground := Ground.phase }, { on := 2, ground := Ground.phase }, { on := 3, ground := Ground.phase }, { on := 4, ground := Ground.phase }, { on := 5, ground := Ground.phase }, { on := 6, ground := Ground.phase }, { on := 7, ground := Ground.phase }, { on := 8, ground := Ground.phase }, { on := 9, ground := Ground.phase }], guard := none }
def px_ops (s : String) : Array Oper := #[px_0 s, px_1 s, px_2 s, px_3 s, px_4 s, px_5 s, px_6 s, px_7 s, px_8 s, px_9 s, px_10 s]
theorem px_enter2 (s : String) (a : Act) (w : World) : (execOp a.eval (px_2 s)).run Try.prog w = .ok (.enter 33 #[a.eval (.tmp 10), a.eval (.tmp 11)]) w := by kernel_rfl
theorem px_enter3 (s : String) (a : Act) (w : World) : (execOp a.eval (px_3 s)).run Try.prog w = .ok (.enter 34 #[a.eval (.tmp 12)]) w := by kernel_rfl
theorem px_enter6 (s : String) (a : Act) (w : World) : (execOp a.eval (px_6 s)).run Try.prog w = .ok (.enter 35 #[a.eval (.tmp 13), a.eval (.tmp 14), a.eval (.tmp 15)]) w := by kernel_rfl
theorem px_walk (s : String) {Q : Exit → Act → World → Prop} (hQ : ∀ c (a : Act) t v w, Q (.panic c) (a.put (some t) v) w → Q (.panic c) a w) (W : World) (zk zr : Nat) (si : Int) (q q2 : Option Addr) (after : List UInt8) (any : Bool) (M1 : List UInt8 → Bool → World → Prop) (hS0 : KeyAt W.drew zk after) (hk1 : ∀ k ok w1, k.length = 32 → M1 k ok w1 → KeyAt w1 zk after ∧ Blk w1 zr keyZ 30 ∧ KeyAt (w1.setCells zr 0 (k.map u8c).toArray.toList) zk after) (hc1 : Calls Try.prog 33 #[.pointer none, .int .i64 si] W.drew fun e w' => e = .returned (.pointer q) ∧ w' = W.drew) (hc2 : Calls Try.prog 34 #[.pointer q] W.drew fun e w' => e = .returned (.pointer q2) ∧ w' = W.drew) (hc3 : Calls Try.prog 35 #[.pointer q2, keyV after, .bool any] W.drew fun e w' => ∃ k ok, e = .returned (.tuple #[keyV k, .bool ok]) ∧ k.length = 32 ∧ M1 k ok w')
    (a : Act) (hs : 18 < a.tmps.size) (e0 : a.eval (.tmp 0) = .pointer none) (e1 : a.eval (.tmp 1) = .int .i64 si) (e3 : a.eval (.tmp 3) = .bool any) (e6 : a.eval (.tmp 6) = .pointer (some ⟨zk, 0, none⟩)) (e8 : a.eval (.tmp 8) = .pointer (some ⟨zr, 0, none⟩))
    (h0 : ∀ k ok w1, k.length = 32 → M1 k ok w1 → Q .normal ((((((((((a.put (some 10) (.pointer none)).put (some 11) (.int .i64 si)).put (some 14) (keyV after)).put (some 15) (.bool any)).put (some 12) (.pointer q)).put (some 13) (.pointer q2)).put (some 16) (.tuple #[keyV k, .bool ok])).put (some 17) (keyV k)).put (some 18) (.bool ok)).put (some 9) (.bool ok)) (w1.setCells zr 0 (k.map u8c).toArray.toList)) :
    Code.wp Try.prog (.region 1 (px_ops s) true) Q a W := by
  refine wp_region_held_drew (S := fun w => KeyAt w zk after) (by kernel_rfl) hS0 (fun hS => ?_)
  change wpAnyH _ _ _ _ _ _ _ _ (World.drew _)
  refine wpAnyH_take (i := 0) (oi := px_0 s) (v := .pointer none) (by kernel_rfl) (by kernel_rfl) (by kernel_rfl) (by kernel_rfl) (fun c a w h => hQ c _ _ _ w h) (Or.inl ⟨wanted_none rfl, fun w hw => by simp only [execOp, px_0, e0]; rfl⟩) hS ?_
  change wpAnyH _ _ _ _ _ _ _ (a.put (some 10) (.pointer none)) _
  obtain ⟨a0_1, ha1⟩ : ∃ rr : Act, rr = a.put (some 10) (.pointer none) := ⟨_, rfl⟩
  have qz1 : 18 < a0_1.tmps.size := by rw [ha1, sz_put]; exact hs
  have f1_1 : a0_1.eval (.tmp 1) = .int .i64 si := by rw [ha1, ev_other _ _ _ _ (by decide)]; exact e1
  have f1_3 : a0_1.eval (.tmp 3) = .bool any := by rw [ha1, ev_other _ _ _ _ (by decide)]; exact e3
  have f1_6 : a0_1.eval (.tmp 6) = .pointer (some ⟨zk, 0, none⟩) := by rw [ha1, ev_other _ _ _ _ (by decide)]; exact e6
  have f1_8 : a0_1.eval (.tmp 8) = .pointer (some ⟨zr, 0, none⟩) := by rw [ha1, ev_other _ _ _ _ (by decide)]; exact e8
  have f1_10 : a0_1.eval (.tmp 10) = .pointer none := by rw [ha1]; exact ev_same _ _ _ (Nat.lt_of_le_of_lt (by decide) hs)
  rw [← ha1] at h0 ⊢
  clear ha1
  refine wpAnyH_take (i := 1) (oi := px_1 s) (v := .int .i64 si) (by kernel_rfl) (by kernel_rfl) (by kernel_rfl) (by kernel_rfl) (fun c a w h => hQ c _ _ _ w h) (Or.inl ⟨wanted_none rfl, fun w hw => by simp only [execOp, px_1, f1_1]; rfl⟩) hS ?_
  change wpAnyH _ _ _ _ _ _ _ (a0_1.put (some 11) (.int .i64 si)) _
  obtain ⟨a0_2, ha2⟩ : ∃ rr : Act, rr = a0_1.put (some 11) (.int .i64 si) := ⟨_, rfl⟩
  have qz2 : 18 < a0_2.tmps.size := by rw [ha2, sz_put]; exact qz1
  have f2_3 : a0_2.eval (.tmp 3) = .bool any := by rw [ha2, ev_other _ _ _ _ (by decide)]; exact f1_3
  have f2_6 : a0_2.eval (.tmp 6) = .pointer (some ⟨zk, 0, none⟩) := by rw [ha2, ev_other _ _ _ _ (by decide)]; exact f1_6
  have f2_8 : a0_2.eval (.tmp 8) = .pointer (some ⟨zr, 0, none⟩) := by rw [ha2, ev_other _ _ _ _ (by decide)]; exact f1_8
  have f2_10 : a0_2.eval (.tmp 10) = .pointer none := by rw [ha2, ev_other _ _ _ _ (by decide)]; exact f1_10
  have f2_11 : a0_2.eval (.tmp 11) = .int .i64 si := by rw [ha2]; exact ev_same _ _ _ (Nat.lt_of_le_of_lt (by decide) qz1)
  rw [← ha2] at h0 ⊢
  clear ha2
  refine wpAnyH_take (i := 4) (oi := px_4 s) (v := keyV after) (by kernel_rfl) (by kernel_rfl) (by kernel_rfl) (by kernel_rfl) (fun c a w h => hQ c _ _ _ w h) (Or.inl ⟨wanted_none rfl, fun w hw => run_load rfl f2_6 hw.load⟩) hS ?_
  change wpAnyH _ _ _ _ _ _ _ (a0_2.put (some 14) (keyV after)) _
  obtain ⟨a0_3, ha3⟩ : ∃ rr : Act, rr = a0_2.put (some 14) (keyV after) := ⟨_, rfl⟩
  have qz3 : 18 < a0_3.tmps.size := by rw [ha3, sz_put]; exact qz2
  have f3_3 : a0_3.eval (.tmp 3) = .bool any := by rw [ha3, ev_other _ _ _ _ (by decide)]; exact f2_3
  have f3_8 : a0_3.eval (.tmp 8) = .pointer (some ⟨zr, 0, none⟩) := by rw [ha3, ev_other _ _ _ _ (by decide)]; exact f2_8
  have f3_10 : a0_3.eval (.tmp 10) = .pointer none := by rw [ha3, ev_other _ _ _ _ (by decide)]; exact f2_10
  have f3_11 : a0_3.eval (.tmp 11) = .int .i64 si := by rw [ha3, ev_other _ _ _ _ (by decide)]; exact f2_11
  have f3_14 : a0_3.eval (.tmp 14) = keyV after := by rw [ha3]; exact ev_same _ _ _ (Nat.lt_of_le_of_lt (by decide) qz2)
  rw [← ha3] at h0 ⊢
  clear ha3
  refine wpAnyH_take (i := 5) (oi := px_5 s) (v := .bool any) (by kernel_rfl) (by kernel_rfl) (by kernel_rfl) (by kernel_rfl) (fun c a w h => hQ c _ _ _ w h) (Or.inl ⟨wanted_none rfl, fun w hw => by simp only [execOp, px_5, f3_3]; rfl⟩) hS ?_
  change wpAnyH _ _ _ _ _ _ _ (a0_3.put (some 15) (.bool any)) _
  obtain ⟨a0_4, ha4⟩ : ∃ rr : Act, rr = a0_3.put (some 15) (.bool any) := ⟨_, rfl⟩
  have qz4 : 18 < a0_4.tmps.size := by rw [ha4, sz_put]; exact qz3
  have f4_8 : a0_4.eval (.tmp 8) = .pointer (some ⟨zr, 0, none⟩) := by rw [ha4, ev_other _ _ _ _ (by decide)]; exact f3_8
  have f4_10 : a0_4.eval (.tmp 10) = .pointer none := by rw [ha4, ev_other _ _ _ _ (by decide)]; exact f3_10
  have f4_11 : a0_4.eval (.tmp 11) = .int .i64 si := by rw [ha4, ev_other _ _ _ _ (by decide)]; exact f3_11
  have f4_14 : a0_4.eval (.tmp 14) = keyV after := by rw [ha4, ev_other _ _ _ _ (by decide)]; exact f3_14
  have f4_15 : a0_4.eval (.tmp 15) = .bool any := by rw [ha4]; exact ev_same _ _ _ (Nat.lt_of_le_of_lt (by decide) qz3)
  rw [← ha4] at h0 ⊢
  clear ha4
  refine wpAnyH_ready (rs := [2]) (by kernel_rfl) (by simp) ?_
  refine AllReadyH.cons (o := px_2 s) (by kernel_rfl) (fun KQ hKQ => ?_) AllReadyH.nil
  rw [if_pos (wanted_none rfl)]
  refine step_enterE 33 #[.pointer none, .int .i64 si] (by rw [px_enter2, f4_10, f4_11]) (fun V w' => V = .pointer q ∧ w' = W.drew) (hc1.mono (fun e w' h => ⟨_, h.1, rfl, h.2⟩)) ?_
  rintro _ _ ⟨rfl, rfl⟩
  refine hKQ.out _ _ (hS0) (fun _ => ?_)
  clear hKQ KQ
  change wpAnyH _ _ _ _ _ _ _ (a0_4.put (some 12) (.pointer q)) _
  obtain ⟨a0_5, ha5⟩ : ∃ rr : Act, rr = a0_4.put (some 12) (.pointer q) := ⟨_, rfl⟩
  have qz5 : 18 < a0_5.tmps.size := by rw [ha5, sz_put]; exact qz4
  have f5_8 : a0_5.eval (.tmp 8) = .pointer (some ⟨zr, 0, none⟩) := by rw [ha5, ev_other _ _ _ _ (by decide)]; exact f4_8
  have f5_12 : a0_5.eval (.tmp 12) = .pointer q := by rw [ha5]; exact ev_same _ _ _ (Nat.lt_of_le_of_lt (by decide) qz4)
  have f5_14 : a0_5.eval (.tmp 14) = keyV after := by rw [ha5, ev_other _ _ _ _ (by decide)]; exact f4_14
  have f5_15 : a0_5.eval (.tmp 15) = .bool any := by rw [ha5, ev_other _ _ _ _ (by decide)]; exact f4_15
  rw [← ha5] at h0 ⊢
  clear ha5
  refine wpAnyH_ready (rs := [3]) (by kernel_rfl) (by simp) ?_
  refine AllReadyH.cons (o := px_3 s) (by kernel_rfl) (fun KQ hKQ => ?_) AllReadyH.nil
  rw [if_pos (wanted_none rfl)]
  refine step_enterE 34 #[.pointer q] (by rw [px_enter3, f5_12]) (fun V w' => V = .pointer q2 ∧ w' = W.drew) (hc2.mono (fun e w' h => ⟨_, h.1, rfl, h.2⟩)) ?_
  rintro _ _ ⟨rfl, rfl⟩
  refine hKQ.out _ _ (hS0) (fun _ => ?_)
  clear hKQ KQ
  change wpAnyH _ _ _ _ _ _ _ (a0_5.put (some 13) (.pointer q2)) _
  obtain ⟨a0_6, ha6⟩ : ∃ rr : Act, rr = a0_5.put (some 13) (.pointer q2) := ⟨_, rfl⟩
  have qz6 : 18 < a0_6.tmps.size := by rw [ha6, sz_put]; exact qz5
  have f6_8 : a0_6.eval (.tmp 8) = .pointer (some ⟨zr, 0, none⟩) := by rw [ha6, ev_other _ _ _ _ (by decide)]; exact f5_8
  have f6_13 : a0_6.eval (.tmp 13) = .pointer q2 := by rw [ha6]; exact ev_same _ _ _ (Nat.lt_of_le_of_lt (by decide) qz5)
  have f6_14 : a0_6.eval (.tmp 14) = keyV after := by rw [ha6, ev_other _ _ _ _ (by decide)]; exact f5_14
  have f6_15 : a0_6.eval (.tmp 15) = .bool any := by rw [ha6, ev_other _ _ _ _ (by decide)]; exact f5_15
  rw [← ha6] at h0 ⊢
  clear ha6
  refine wpAnyH_ready (rs := [6]) (by kernel_rfl) (by simp) ?_
  refine AllReadyH.cons (o := px_6 s) (by kernel_rfl) (fun KQ hKQ => ?_) AllReadyH.nil
  rw [if_pos (wanted_none rfl)]
  refine step_enterE 35 #[.pointer q2, keyV after, .bool any] (by rw [px_enter6, f6_13, f6_14, f6_15]) (fun V w' => ∃ k ok, V = .tuple #[keyV k, .bool ok] ∧ k.length = 32 ∧ M1 k ok w') (hc3.mono (fun e w' ⟨k, ok, h1, h2⟩ => ⟨_, h1, k, ok, rfl, h2⟩)) ?_
  rintro _ w1 ⟨k, ok, rfl, hk, hM1⟩
  refine hKQ.out _ _ ((hk1 k ok w1 hk hM1).1) (fun _ => ?_)
  clear hKQ KQ
  change wpAnyH _ _ _ _ _ _ _ (a0_6.put (some 16) (.tuple #[keyV k, .bool ok])) _
  have h0 := h0 k ok w1 hk hM1
  obtain ⟨a0_7, ha7⟩ : ∃ rr : Act, rr = a0_6.put (some 16) (.tuple #[keyV k, .bool ok]) := ⟨_, rfl⟩
  have qz7 : 18 < a0_7.tmps.size := by rw [ha7, sz_put]; exact qz6
  have f7_8 : a0_7.eval (.tmp 8) = .pointer (some ⟨zr, 0, none⟩) := by rw [ha7, ev_other _ _ _ _ (by decide)]; exact f6_8
  have f7_16 : a0_7.eval (.tmp 16) = .tuple #[keyV k, .bool ok] := by rw [ha7]; exact ev_same _ _ _ (Nat.lt_of_le_of_lt (by decide) qz6)
  rw [← ha7] at h0 ⊢
  clear ha7
  refine wpAnyH_take (i := 7) (oi := px_7 s) (v := keyV k) (by kernel_rfl) (by kernel_rfl) (by kernel_rfl) (by kernel_rfl) (fun c a w h => hQ c _ _ _ w h) (Or.inl ⟨wanted_none rfl, fun w hw => by simp only [execOp, px_7, f7_16]; rfl⟩) (hk1 k ok w1 hk hM1).1 ?_
  change wpAnyH _ _ _ _ _ _ _ (a0_7.put (some 17) (keyV k)) _
  obtain ⟨a0_8, ha8⟩ : ∃ rr : Act, rr = a0_7.put (some 17) (keyV k) := ⟨_, rfl⟩
  have qz8 : 18 < a0_8.tmps.size := by rw [ha8, sz_put]; exact qz7
  have f8_8 : a0_8.eval (.tmp 8) = .pointer (some ⟨zr, 0, none⟩) := by rw [ha8, ev_other _ _ _ _ (by decide)]; exact f7_8
  have f8_16 : a0_8.eval (.tmp 16) = .tuple #[keyV k, .bool ok] := by rw [ha8, ev_other _ _ _ _ (by decide)]; exact f7_16
  have f8_17 : a0_8.eval (.tmp 17) = keyV k := by rw [ha8]; exact ev_same _ _ _ (Nat.lt_of_le_of_lt (by decide) qz7)
  rw [← ha8] at h0 ⊢
  clear ha8
  refine wpAnyH_take (i := 8) (oi := px_8 s) (v := .bool ok) (by kernel_rfl) (by kernel_rfl) (by kernel_rfl) (by kernel_rfl) (fun c a w h => hQ c _ _ _ w h) (Or.inl ⟨wanted_none rfl, fun w hw => by simp only [execOp, px_8, f8_16]; rfl⟩) (hk1 k ok w1 hk hM1).1 ?_
  change wpAnyH _ _ _ _ _ _ _ (a0_8.put (some 18) (.bool ok)) _
  obtain ⟨a0_9, ha9⟩ : ∃ rr : Act, rr = a0_8.put (some 18) (.bool ok) := ⟨_, rfl⟩
  have qz9 : 18 < a0_9.tmps.size := by rw [ha9, sz_put]; exact qz8
  have f9_8 : a0_9.eval (.tmp 8) = .pointer (some ⟨zr, 0, none⟩) := by rw [ha9, ev_other _ _ _ _ (by decide)]; exact f8_8
  have f9_17 : a0_9.eval (.tmp 17) = keyV k := by rw [ha9, ev_other _ _ _ _ (by decide)]; exact f8_17
  have f9_18 : a0_9.eval (.tmp 18) = .bool ok := by rw [ha9]; exact ev_same _ _ _ (Nat.lt_of_le_of_lt (by decide) qz8)
  rw [← ha9] at h0 ⊢
  clear ha9
  refine wpAnyH_ready (rs := [9]) (by kernel_rfl) (by simp) ?_
  refine AllReadyH.cons (o := px_9 s) (by kernel_rfl) (fun KQ hKQ => ?_) AllReadyH.nil
  rw [if_pos (wanted_none rfl)]
  refine step_skipE ((w1.setCells zr 0 (k.map u8c).toArray.toList)) (run_storeA rfl f9_8 f9_17 (hk1 k ok w1 hk hM1).2.1 32 rfl (by simp [hk]) infoKey (all_oneCell_toArray (u8c_one k))) ?_
  refine hKQ.out _ _ ((hk1 k ok w1 hk hM1).2.2) (fun _ => ?_)
  clear hKQ KQ
  change wpAnyH _ _ _ _ _ _ _ a0_9 _
  refine wpAnyH_take (i := 10) (oi := px_10 s) (v := .bool ok) (by kernel_rfl) (by kernel_rfl) (by kernel_rfl) (by kernel_rfl) (fun c a w h => hQ c _ _ _ w h) (Or.inl ⟨wanted_none rfl, fun w hw => by simp only [execOp, px_10, f9_18]; rfl⟩) (hk1 k ok w1 hk hM1).2.2 ?_
  change wpAnyH _ _ _ _ _ _ _ (a0_9.put (some 9) (.bool ok)) _
  obtain ⟨a0_11, ha11⟩ : ∃ rr : Act, rr = a0_9.put (some 9) (.bool ok) := ⟨_, rfl⟩
  have qz11 : 18 < a0_11.tmps.size := by rw [ha11, sz_put]; exact qz9
  rw [← ha11] at h0 ⊢
  clear ha11
  refine wpAnyH_done (by kernel_rfl) ?_ _
  exact h0
set_option maxHeartbeats 1000000 in
theorem pnext_nil (w : World) (s : Int) (after : List UInt8) (any : Bool) (ha : after.length = 32) : Calls Try.prog 11 #[.pointer none, .int .i64 s, keyV after, .bool any] w (NextC w [] after any) := by
  have hz := zero_key
  obtain ⟨N, hN⟩ : ∃ N, N = w.heap.size := ⟨_, rfl⟩
  obtain ⟨W, hW⟩ : ∃ W, W = (w.alloc (.cells (after.map u8c).toArray 30)).alloc (.cells keyZ 30) := ⟨_, rfl⟩
  have hb : Below N w W := by rw [hW, hN]; exact ((Below.refl _ _).alloc (Nat.le_refl _) _).alloc (by simp) _
  have hNs := hb.size
  have hKA : KeyAt W N after := by rw [hW, hN]; exact ⟨(Blk.made w _ _).alloc _, ha⟩
  have hKZ : Blk W (N + 1) keyZ 30 := by rw [hW]; exact blk_made1 w _ _ _ _ (by rw [hN])
  have hbd := below_d W
  have HC1 := hide (at_nil W.drew s)
  have HC2 : Hid (Calls Try.prog 34 #[.pointer none] W.drew fun e w' => e = .returned (.pointer none) ∧ w' = W.drew) := hide (pinned_any W.drew none (fun v e => by cases e))
  have HC3 : Hid (Calls Try.prog 35 #[.pointer none, keyV after, .bool any] W.drew (NextC W.drew [] after any)) := hide (knext_o W.drew none after any ha (fun v e => by cases e))
  have HB := hide hb
  have HK := hide (hKA.below hbd)
  have HKZ := hide (hKZ.below hbd hKZ.lt)
  have HN := hide hN
  have HL : Hid (N ≤ W.heap.size) := hide (by rw [hN]; exact hNs)
  clear hKA hKZ hbd ha hNs hb
  show Calls Try.prog 11 #[.pointer none, .int .i64 s, .agg (after.map u8c).toArray, .bool any] w _
  go_enter Try.func11, Try.ntmps11
  go_upto_region 1 with fail
  rw [← hW, ← hN]
  clear hW hN
  have key : ∀ (k : List UInt8) (w1 : World), k.length = 32 → Below W.heap.size W.drew w1 → KeyAt w1 N after ∧ Blk w1 (N + 1) keyZ 30 ∧ KeyAt (w1.setCells (N + 1) 0 (k.map u8c).toArray.toList) N after ∧ Blk (w1.setCells (N + 1) 0 (k.map u8c).toArray.toList) (N + 1) (k.map u8c).toArray 30 ∧ Below N w (w1.setCells (N + 1) 0 (k.map u8c).toArray.toList) := fun k w1 hk hb1 => by
    have h1 := HK.out.below hb1
    have h2 := HKZ.out.below hb1 HKZ.out.lt
    obtain ⟨h3, h4⟩ := setCells_blk h2 (k.map u8c).toArray (by simp [hk]; rfl)
    exact ⟨h1, h2, h1.grown h4 (by simp), h3, ((HB.out.trans ((below_d W).mono HL.out)).trans (hb1.mono HL.out)).trans (below_grownBy h4 (by omega) (Nat.le_trans HL.out hb1.size))⟩
  have HKEY := hide key
  clear key
  refine px_walk _ (fun _ _ _ _ _ h => h) W N (N + 1) s none none after any (fun k ok w1 => LeastN (fun x => x.length = 32 ∧ x ∈ ([] : List (List UInt8))) after any k ok ∧ Below W.heap.size W.drew w1) HK.out (fun k ok w1 hk hM => ⟨(HKEY.out k w1 hk hM.2).1, (HKEY.out k w1 hk hM.2).2.1, (HKEY.out k w1 hk hM.2).2.2.1⟩) HC1.out HC2.out (HC3.out.mono fun e w' ⟨k, ok, h1, h2, h3, h4⟩ => ⟨k, ok, h1, h2, h3, h4⟩) _ (Nat.lt_of_sub_pos (by exact Nat.succ_pos _)) rfl rfl rfl rfl rfl ?_
  rintro k ok w1 hk ⟨hL, hb1⟩
  obtain ⟨-, -, -, h3, h4⟩ := HKEY.out k w1 hk hb1
  clear HKEY HC1 HC2 HC3
  simp only [Act.put, List.setIfInBounds_toArray, List.set_cons_zero, List.set_cons_succ]
  go_wp2
  refine bodyPost_ret (results_cell2 rfl _ _ _ rfl _ (loadBlkT h3 30 _ Try.underlying30 rfl 32 infoKey (by simp [hk]))) rfl ?_
  exact ⟨k, ok, rfl, hk, hL, by rw [← HN.out]; exact h4⟩
end Go.Proofs.Ytagnglkkmdeicaa
