/- KeySets: the drawn regions of changes. -/
import Derived.Test.YtnloglecfbhpcaaKL3r
namespace Go.Proofs.Ytnloglecfbhpcaa
set_option linter.unusedVariables false
set_option linter.unusedSimpArgs false
open Go.RowKit Go.Sort Go.Shelf
set_option maxRecDepth 100000
set_option maxHeartbeats 8000000
def ad_0 (s : String) : Oper := { dst := some 53, op := Op.move (Operand.tmp 7), type := 25, pos := s, after := #[], guard := none }
def ad_1 (s : String) : Oper := { dst := some 54, op := Op.fieldAddr 41 (Operand.tmp 3) 3, type := 0, pos := s, after := #[], guard := none }
def ad_2 (s : String) : Oper := { dst := some 55, op := Op.load 38 (Operand.tmp 54), type := 38, pos := s, after := #[{ on := 1, ground := Ground.data }], guard := none }
def ad_3 (s : String) : Oper := { dst := some 56, op := Op.call { callee := Callee.value (Operand.func 15), args := #[Operand.tmp 53, Operand.tmp 55], argTypes := #[25, 38] }, type := 4, pos := s, after := #[{ on := 0, ground := Ground.data }, { on := 2, ground := Ground.data }], guard := none }
def ad_4 (s : String) : Oper := { dst := some 57, op := Op.move (Operand.tmp 0), type := 24, pos := s, after := #[], guard := none }
def ad_5 (s : String) : Oper := { dst := some 58, op := Op.move (Operand.tmp 5), type := 3, pos := s, after := #[], guard := none }
def ad_6 (s : String) : Oper := { dst := some 59, op := Op.nilCheck (Operand.tmp 57), type := 0, pos := s, after := #[{ on := 4, ground := Ground.data }], guard := none }
def ad_7 (s : String) : Oper := { dst := some 60, op := Op.fieldAddr 32 (Operand.tmp 59) 2, type := 0, pos := s, after := #[{ on := 6, ground := Ground.data }], guard := none }
def ad_8 (s : String) : Oper := { dst := some 61, op := Op.indexAddr 29 (Operand.tmp 60) (Operand.tmp 58), type := 0, pos := s, after := #[{ on := 7, ground := Ground.data }, { on := 5, ground := Ground.data }], guard := none }
def ad_9 (s : String) : Oper := { dst := some 62, op := Op.load 4 (Operand.tmp 61), type := 4, pos := s, after := #[{ on := 8, ground := Ground.data }], guard := none }
def ad_10 (s : String) : Oper := { dst := some 63, op := Op.unOp UnOp.not 4 (Operand.tmp 62), type := 4, pos := s, after := #[{ on := 9, ground := Ground.data }], guard := none }
def ad_11 (s : String) : Oper := { dst := some 64, op := Op.move (Operand.tmp 63), type := 4, pos := s, after := #[{ on := 10, ground := Ground.data }, { on := 3, ground := Ground.chain }], guard := none }
def ad_12 (s : String) : Oper := { dst := some 65, op := Op.move (Operand.tmp 8), type := 27, pos := s, after := #[{ on := 11, ground := Ground.guard }], guard := some (11, true) }
def ad_13 (s : String) : Oper := { dst := some 66, op := Op.fieldAddr 41 (Operand.tmp 3) 3, type := 0, pos := s, after := #[{ on := 11, ground := Ground.guard }], guard := some (11, true) }
def ad_14 (s : String) : Oper := { dst := some 67, op := Op.load 38 (Operand.tmp 66), type := 38, pos := s, after := #[{ on := 13, ground := Ground.data }, { on := 11, ground := Ground.guard }], guard := some (11, true) }
def ad_15 (s : String) : Oper := { dst := some 68, op := Op.call { callee := Callee.value (Operand.func 16), args := #[Operand.tmp 65, Operand.tmp 67], argTypes := #[27, 38] }, type := 4, pos := s, after := #[{ on := 12, ground := Ground.data }, { on := 14, ground := Ground.data }, { on := 11, ground := Ground.chain }, { on := 11, ground := Ground.guard }], guard := some (11, true) }
def ad_16 (s : String) : Oper := { dst := some 69, op := Op.pick (Operand.tmp 64) (Operand.tmp 68) (Operand.const (Value.bool false)), type := 4, pos := s, after := #[{ on := 11, ground := Ground.data }, { on := 15, ground := Ground.data }], guard := none }
def ad_17 (s : String) : Oper := { dst := some 70, op := Op.binOp BinOp.eql 4 (Operand.tmp 56) (Operand.tmp 69) 4, type := 4, pos := s, after := #[{ on := 3, ground := Ground.data }, { on := 16, ground := Ground.data }], guard := none }
def ad_18 (s : String) : Oper := { dst := some 4, op := Op.assign (Operand.tmp 70), type := 4, pos := s, after := #[{ on := 17, ground := Ground.data }, { on := 15, ground := Ground.chain }, { on := 0, ground := Ground.phase }, { on := 1, ground := Ground.phase }, { on := 2, ground := Ground.phase }, { on := 3, ground := Ground.phase }, { on := 4, ground := Ground.phase }, { on := 5, ground := Ground.phase }, { on := 6, ground := Ground.phase }, { on := 7, ground := Ground.phase }, { on := 8, ground := Ground.phase }, { on := 9, ground := Ground.phase }, { on := 10, ground := Ground.phase }, { on := 11, ground := Ground.phase }, { on := 12, ground := Ground.phase }, { on := 13, ground := Ground.phase }, { on := 14, ground := Ground.phase }, { on := 15, ground := Ground.phase }, { on := 16, ground := Ground.phase }, { on := 17, ground := Ground.phase }], guard := none }
def ad_ops (s : String) : Array Oper := #[ad_0 s, ad_1 s, ad_2 s, ad_3 s, ad_4 s, ad_5 s, ad_6 s, ad_7 s, ad_8 s, ad_9 s, ad_10 s, ad_11 s, ad_12 s, ad_13 s, ad_14 s, ad_15 s, ad_16 s, ad_17 s, ad_18 s]
theorem ad_enter3 (s : String) (a : Act) (w : World) : (execOp a.eval (ad_3 s)).run Try.prog w = .ok (.enter 15 #[a.eval (.tmp 53), a.eval (.tmp 55)]) w := by kernel_rfl
theorem ad_enter15 (s : String) (a : Act) (w : World) : (execOp a.eval (ad_15 s)).run Try.prog w = .ok (.enter 16 #[a.eval (.tmp 65), a.eval (.tmp 67)]) w := by kernel_rfl
theorem ad_walk (s : String) {Q : Exit → Act → World → Prop} (hQ : ∀ c (a : Act) t v w, Q (.panic c) (a.put (some t) v) w → Q (.panic c) a w) (W : World) (wz j z kb : Nat) (hj : j < 3) (q : Option Addr) (s0 : SK) (h32 : s0.key.length = 32) (b nn : Bool) (hnn : nn = false) (M1 : World → Prop) (M2 : World → World → Prop) (hS0 : W.drew.rangeAt kb 3 (s0.key.map u8c) ∧ W.drew.cell? ⟨wz, 6 + j, none⟩ = some (.bool nn)) (hc1 : Calls Try.prog 15 #[.pointer q, keyV s0.key] W.drew fun e w' => e = .returned (.bool b) ∧ M1 w') (hk1 : ∀ w2, M1 w2 → w2.rangeAt kb 3 (s0.key.map u8c) ∧ w2.cell? ⟨wz, 6 + j, none⟩ = some (.bool nn)) (hc2 : ∀ w2, M1 w2 → Calls Try.prog 16 #[.pointer (some ⟨z, 0, none⟩), keyV s0.key] w2 fun e w' => e = .returned (.bool b) ∧ M2 w2 w') (hk2 : ∀ w2 w3, M1 w2 → M2 w2 w3 → w3.rangeAt kb 3 (s0.key.map u8c) ∧ w3.cell? ⟨wz, 6 + j, none⟩ = some (.bool nn))
    (a : Act) (hs : 70 < a.tmps.size) (e0 : a.eval (.tmp 0) = .pointer (some ⟨wz, 0, none⟩)) (e3 : a.eval (.tmp 3) = .pointer (some ⟨kb, 0, none⟩)) (e5 : a.eval (.tmp 5) = .int .i64 (j : Int)) (e7 : a.eval (.tmp 7) = .pointer q) (e8 : a.eval (.tmp 8) = .pointer (some ⟨z, 0, none⟩))
    (h0 : ∀ w2, M1 w2 → ∀ w3, M2 w2 w3 → Q .normal (((((((((((((((((((a.put (some 53) (.pointer q)).put (some 54) (.pointer (some ⟨kb, 3, none⟩))).put (some 55) (keyV s0.key)).put (some 57) (.pointer (some ⟨wz, 0, none⟩))).put (some 58) (.int .i64 (j : Int))).put (some 59) (.pointer (some ⟨wz, 0, none⟩))).put (some 60) (.pointer (some ⟨wz, 6, none⟩))).put (some 61) (.pointer (some ⟨wz, 6 + j, none⟩))).put (some 62) (.bool nn)).put (some 63) (.bool (!nn))).put (some 56) (.bool b)).put (some 64) (.bool true)).put (some 65) (.pointer (some ⟨z, 0, none⟩))).put (some 66) (.pointer (some ⟨kb, 3, none⟩))).put (some 67) (keyV s0.key)).put (some 68) (.bool b)).put (some 69) (.bool b)).put (some 70) (.bool true)).put (some 4) (.bool true)) w3) :
    Code.wp Try.prog (.region 9 (ad_ops s) true) Q a W := by
  refine wp_region_held_drew (S := fun w => w.rangeAt kb 3 (s0.key.map u8c) ∧ w.cell? ⟨wz, 6 + j, none⟩ = some (.bool nn)) (by kernel_rfl) hS0 (fun hS => ?_)
  change wpAnyH _ _ _ _ _ _ _ _ (World.drew _)
  refine wpAnyH_take (i := 0) (oi := ad_0 s) (v := .pointer q) (by kernel_rfl) (by kernel_rfl) (by kernel_rfl) (by kernel_rfl) (fun c a w h => hQ c _ _ _ w h) (Or.inl ⟨wanted_none rfl, fun w hw => by simp only [execOp, ad_0, e7]; rfl⟩) hS ?_
  change wpAnyH _ _ _ _ _ _ _ (a.put (some 53) (.pointer q)) _
  obtain ⟨a0_1, ha1⟩ : ∃ rr : Act, rr = a.put (some 53) (.pointer q) := ⟨_, rfl⟩
  have qz1 : 70 < a0_1.tmps.size := by rw [ha1, sz_put]; exact hs
  have f1_0 : a0_1.eval (.tmp 0) = .pointer (some ⟨wz, 0, none⟩) := by rw [ha1, ev_other _ _ _ _ (by decide)]; exact e0
  have f1_3 : a0_1.eval (.tmp 3) = .pointer (some ⟨kb, 0, none⟩) := by rw [ha1, ev_other _ _ _ _ (by decide)]; exact e3
  have f1_5 : a0_1.eval (.tmp 5) = .int .i64 (j : Int) := by rw [ha1, ev_other _ _ _ _ (by decide)]; exact e5
  have f1_8 : a0_1.eval (.tmp 8) = .pointer (some ⟨z, 0, none⟩) := by rw [ha1, ev_other _ _ _ _ (by decide)]; exact e8
  have f1_53 : a0_1.eval (.tmp 53) = .pointer q := by rw [ha1]; exact ev_same _ _ _ (Nat.lt_of_le_of_lt (by decide) hs)
  rw [← ha1] at h0 ⊢
  clear ha1
  refine wpAnyH_take (i := 1) (oi := ad_1 s) (v := .pointer (some ⟨kb, 3, none⟩)) (by kernel_rfl) (by kernel_rfl) (by kernel_rfl) (by kernel_rfl) (fun c a w h => hQ c _ _ _ w h) (Or.inl ⟨wanted_none rfl, fun w hw => fldS kb 3 3 (fS3 kb) rfl f1_3 w⟩) hS ?_
  change wpAnyH _ _ _ _ _ _ _ (a0_1.put (some 54) (.pointer (some ⟨kb, 3, none⟩))) _
  obtain ⟨a0_2, ha2⟩ : ∃ rr : Act, rr = a0_1.put (some 54) (.pointer (some ⟨kb, 3, none⟩)) := ⟨_, rfl⟩
  have qz2 : 70 < a0_2.tmps.size := by rw [ha2, sz_put]; exact qz1
  have f2_0 : a0_2.eval (.tmp 0) = .pointer (some ⟨wz, 0, none⟩) := by rw [ha2, ev_other _ _ _ _ (by decide)]; exact f1_0
  have f2_3 : a0_2.eval (.tmp 3) = .pointer (some ⟨kb, 0, none⟩) := by rw [ha2, ev_other _ _ _ _ (by decide)]; exact f1_3
  have f2_5 : a0_2.eval (.tmp 5) = .int .i64 (j : Int) := by rw [ha2, ev_other _ _ _ _ (by decide)]; exact f1_5
  have f2_8 : a0_2.eval (.tmp 8) = .pointer (some ⟨z, 0, none⟩) := by rw [ha2, ev_other _ _ _ _ (by decide)]; exact f1_8
  have f2_53 : a0_2.eval (.tmp 53) = .pointer q := by rw [ha2, ev_other _ _ _ _ (by decide)]; exact f1_53
  have f2_54 : a0_2.eval (.tmp 54) = .pointer (some ⟨kb, 3, none⟩) := by rw [ha2]; exact ev_same _ _ _ (Nat.lt_of_le_of_lt (by decide) qz1)
  rw [← ha2] at h0 ⊢
  clear ha2
  refine wpAnyH_take (i := 2) (oi := ad_2 s) (v := keyV s0.key) (by kernel_rfl) (by kernel_rfl) (by kernel_rfl) (by kernel_rfl) (fun c a w h => hQ c _ _ _ w h) (Or.inl ⟨wanted_none rfl, fun w hw => run_loadK rfl f2_54 h32 hw.1⟩) hS ?_
  change wpAnyH _ _ _ _ _ _ _ (a0_2.put (some 55) (keyV s0.key)) _
  obtain ⟨a0_3, ha3⟩ : ∃ rr : Act, rr = a0_2.put (some 55) (keyV s0.key) := ⟨_, rfl⟩
  have qz3 : 70 < a0_3.tmps.size := by rw [ha3, sz_put]; exact qz2
  have f3_0 : a0_3.eval (.tmp 0) = .pointer (some ⟨wz, 0, none⟩) := by rw [ha3, ev_other _ _ _ _ (by decide)]; exact f2_0
  have f3_3 : a0_3.eval (.tmp 3) = .pointer (some ⟨kb, 0, none⟩) := by rw [ha3, ev_other _ _ _ _ (by decide)]; exact f2_3
  have f3_5 : a0_3.eval (.tmp 5) = .int .i64 (j : Int) := by rw [ha3, ev_other _ _ _ _ (by decide)]; exact f2_5
  have f3_8 : a0_3.eval (.tmp 8) = .pointer (some ⟨z, 0, none⟩) := by rw [ha3, ev_other _ _ _ _ (by decide)]; exact f2_8
  have f3_53 : a0_3.eval (.tmp 53) = .pointer q := by rw [ha3, ev_other _ _ _ _ (by decide)]; exact f2_53
  have f3_55 : a0_3.eval (.tmp 55) = keyV s0.key := by rw [ha3]; exact ev_same _ _ _ (Nat.lt_of_le_of_lt (by decide) qz2)
  rw [← ha3] at h0 ⊢
  clear ha3
  refine wpAnyH_take (i := 4) (oi := ad_4 s) (v := .pointer (some ⟨wz, 0, none⟩)) (by kernel_rfl) (by kernel_rfl) (by kernel_rfl) (by kernel_rfl) (fun c a w h => hQ c _ _ _ w h) (Or.inl ⟨wanted_none rfl, fun w hw => by simp only [execOp, ad_4, f3_0]; rfl⟩) hS ?_
  change wpAnyH _ _ _ _ _ _ _ (a0_3.put (some 57) (.pointer (some ⟨wz, 0, none⟩))) _
  obtain ⟨a0_4, ha4⟩ : ∃ rr : Act, rr = a0_3.put (some 57) (.pointer (some ⟨wz, 0, none⟩)) := ⟨_, rfl⟩
  have qz4 : 70 < a0_4.tmps.size := by rw [ha4, sz_put]; exact qz3
  have f4_3 : a0_4.eval (.tmp 3) = .pointer (some ⟨kb, 0, none⟩) := by rw [ha4, ev_other _ _ _ _ (by decide)]; exact f3_3
  have f4_5 : a0_4.eval (.tmp 5) = .int .i64 (j : Int) := by rw [ha4, ev_other _ _ _ _ (by decide)]; exact f3_5
  have f4_8 : a0_4.eval (.tmp 8) = .pointer (some ⟨z, 0, none⟩) := by rw [ha4, ev_other _ _ _ _ (by decide)]; exact f3_8
  have f4_53 : a0_4.eval (.tmp 53) = .pointer q := by rw [ha4, ev_other _ _ _ _ (by decide)]; exact f3_53
  have f4_55 : a0_4.eval (.tmp 55) = keyV s0.key := by rw [ha4, ev_other _ _ _ _ (by decide)]; exact f3_55
  have f4_57 : a0_4.eval (.tmp 57) = .pointer (some ⟨wz, 0, none⟩) := by rw [ha4]; exact ev_same _ _ _ (Nat.lt_of_le_of_lt (by decide) qz3)
  rw [← ha4] at h0 ⊢
  clear ha4
  refine wpAnyH_take (i := 5) (oi := ad_5 s) (v := .int .i64 (j : Int)) (by kernel_rfl) (by kernel_rfl) (by kernel_rfl) (by kernel_rfl) (fun c a w h => hQ c _ _ _ w h) (Or.inl ⟨wanted_none rfl, fun w hw => by simp only [execOp, ad_5, f4_5]; rfl⟩) hS ?_
  change wpAnyH _ _ _ _ _ _ _ (a0_4.put (some 58) (.int .i64 (j : Int))) _
  obtain ⟨a0_5, ha5⟩ : ∃ rr : Act, rr = a0_4.put (some 58) (.int .i64 (j : Int)) := ⟨_, rfl⟩
  have qz5 : 70 < a0_5.tmps.size := by rw [ha5, sz_put]; exact qz4
  have f5_3 : a0_5.eval (.tmp 3) = .pointer (some ⟨kb, 0, none⟩) := by rw [ha5, ev_other _ _ _ _ (by decide)]; exact f4_3
  have f5_8 : a0_5.eval (.tmp 8) = .pointer (some ⟨z, 0, none⟩) := by rw [ha5, ev_other _ _ _ _ (by decide)]; exact f4_8
  have f5_53 : a0_5.eval (.tmp 53) = .pointer q := by rw [ha5, ev_other _ _ _ _ (by decide)]; exact f4_53
  have f5_55 : a0_5.eval (.tmp 55) = keyV s0.key := by rw [ha5, ev_other _ _ _ _ (by decide)]; exact f4_55
  have f5_57 : a0_5.eval (.tmp 57) = .pointer (some ⟨wz, 0, none⟩) := by rw [ha5, ev_other _ _ _ _ (by decide)]; exact f4_57
  have f5_58 : a0_5.eval (.tmp 58) = .int .i64 (j : Int) := by rw [ha5]; exact ev_same _ _ _ (Nat.lt_of_le_of_lt (by decide) qz4)
  rw [← ha5] at h0 ⊢
  clear ha5
  refine wpAnyH_take (i := 6) (oi := ad_6 s) (v := .pointer (some ⟨wz, 0, none⟩)) (by kernel_rfl) (by kernel_rfl) (by kernel_rfl) (by kernel_rfl) (fun c a w h => hQ c _ _ _ w h) (Or.inl ⟨wanted_none rfl, fun w hw => run_nil rfl f5_57 w⟩) hS ?_
  change wpAnyH _ _ _ _ _ _ _ (a0_5.put (some 59) (.pointer (some ⟨wz, 0, none⟩))) _
  obtain ⟨a0_6, ha6⟩ : ∃ rr : Act, rr = a0_5.put (some 59) (.pointer (some ⟨wz, 0, none⟩)) := ⟨_, rfl⟩
  have qz6 : 70 < a0_6.tmps.size := by rw [ha6, sz_put]; exact qz5
  have f6_3 : a0_6.eval (.tmp 3) = .pointer (some ⟨kb, 0, none⟩) := by rw [ha6, ev_other _ _ _ _ (by decide)]; exact f5_3
  have f6_8 : a0_6.eval (.tmp 8) = .pointer (some ⟨z, 0, none⟩) := by rw [ha6, ev_other _ _ _ _ (by decide)]; exact f5_8
  have f6_53 : a0_6.eval (.tmp 53) = .pointer q := by rw [ha6, ev_other _ _ _ _ (by decide)]; exact f5_53
  have f6_55 : a0_6.eval (.tmp 55) = keyV s0.key := by rw [ha6, ev_other _ _ _ _ (by decide)]; exact f5_55
  have f6_58 : a0_6.eval (.tmp 58) = .int .i64 (j : Int) := by rw [ha6, ev_other _ _ _ _ (by decide)]; exact f5_58
  have f6_59 : a0_6.eval (.tmp 59) = .pointer (some ⟨wz, 0, none⟩) := by rw [ha6]; exact ev_same _ _ _ (Nat.lt_of_le_of_lt (by decide) qz5)
  rw [← ha6] at h0 ⊢
  clear ha6
  refine wpAnyH_take (i := 7) (oi := ad_7 s) (v := .pointer (some ⟨wz, 6, none⟩)) (by kernel_rfl) (by kernel_rfl) (by kernel_rfl) (by kernel_rfl) (fun c a w h => hQ c _ _ _ w h) (Or.inl ⟨wanted_none rfl, fun w hw => fldW wz 2 6 (fW2 wz) rfl f6_59 w⟩) hS ?_
  change wpAnyH _ _ _ _ _ _ _ (a0_6.put (some 60) (.pointer (some ⟨wz, 6, none⟩))) _
  obtain ⟨a0_7, ha7⟩ : ∃ rr : Act, rr = a0_6.put (some 60) (.pointer (some ⟨wz, 6, none⟩)) := ⟨_, rfl⟩
  have qz7 : 70 < a0_7.tmps.size := by rw [ha7, sz_put]; exact qz6
  have f7_3 : a0_7.eval (.tmp 3) = .pointer (some ⟨kb, 0, none⟩) := by rw [ha7, ev_other _ _ _ _ (by decide)]; exact f6_3
  have f7_8 : a0_7.eval (.tmp 8) = .pointer (some ⟨z, 0, none⟩) := by rw [ha7, ev_other _ _ _ _ (by decide)]; exact f6_8
  have f7_53 : a0_7.eval (.tmp 53) = .pointer q := by rw [ha7, ev_other _ _ _ _ (by decide)]; exact f6_53
  have f7_55 : a0_7.eval (.tmp 55) = keyV s0.key := by rw [ha7, ev_other _ _ _ _ (by decide)]; exact f6_55
  have f7_58 : a0_7.eval (.tmp 58) = .int .i64 (j : Int) := by rw [ha7, ev_other _ _ _ _ (by decide)]; exact f6_58
  have f7_60 : a0_7.eval (.tmp 60) = .pointer (some ⟨wz, 6, none⟩) := by rw [ha7]; exact ev_same _ _ _ (Nat.lt_of_le_of_lt (by decide) qz6)
  rw [← ha7] at h0 ⊢
  clear ha7
  refine wpAnyH_take (i := 8) (oi := ad_8 s) (v := .pointer (some ⟨wz, 6 + j, none⟩)) (by kernel_rfl) (by kernel_rfl) (by kernel_rfl) (by kernel_rfl) (fun c a w h => hQ c _ _ _ w h) (Or.inl ⟨wanted_none rfl, fun w hw => run_ixN rfl f7_60 f7_58 hj w⟩) hS ?_
  change wpAnyH _ _ _ _ _ _ _ (a0_7.put (some 61) (.pointer (some ⟨wz, 6 + j, none⟩))) _
  obtain ⟨a0_8, ha8⟩ : ∃ rr : Act, rr = a0_7.put (some 61) (.pointer (some ⟨wz, 6 + j, none⟩)) := ⟨_, rfl⟩
  have qz8 : 70 < a0_8.tmps.size := by rw [ha8, sz_put]; exact qz7
  have f8_3 : a0_8.eval (.tmp 3) = .pointer (some ⟨kb, 0, none⟩) := by rw [ha8, ev_other _ _ _ _ (by decide)]; exact f7_3
  have f8_8 : a0_8.eval (.tmp 8) = .pointer (some ⟨z, 0, none⟩) := by rw [ha8, ev_other _ _ _ _ (by decide)]; exact f7_8
  have f8_53 : a0_8.eval (.tmp 53) = .pointer q := by rw [ha8, ev_other _ _ _ _ (by decide)]; exact f7_53
  have f8_55 : a0_8.eval (.tmp 55) = keyV s0.key := by rw [ha8, ev_other _ _ _ _ (by decide)]; exact f7_55
  have f8_61 : a0_8.eval (.tmp 61) = .pointer (some ⟨wz, 6 + j, none⟩) := by rw [ha8]; exact ev_same _ _ _ (Nat.lt_of_le_of_lt (by decide) qz7)
  rw [← ha8] at h0 ⊢
  clear ha8
  refine wpAnyH_take (i := 9) (oi := ad_9 s) (v := .bool nn) (by kernel_rfl) (by kernel_rfl) (by kernel_rfl) (by kernel_rfl) (fun c a w h => hQ c _ _ _ w h) (Or.inl ⟨wanted_none rfl, fun w hw => run_load rfl f8_61 (load_bt hw.2)⟩) hS ?_
  change wpAnyH _ _ _ _ _ _ _ (a0_8.put (some 62) (.bool nn)) _
  obtain ⟨a0_9, ha9⟩ : ∃ rr : Act, rr = a0_8.put (some 62) (.bool nn) := ⟨_, rfl⟩
  have qz9 : 70 < a0_9.tmps.size := by rw [ha9, sz_put]; exact qz8
  have f9_3 : a0_9.eval (.tmp 3) = .pointer (some ⟨kb, 0, none⟩) := by rw [ha9, ev_other _ _ _ _ (by decide)]; exact f8_3
  have f9_8 : a0_9.eval (.tmp 8) = .pointer (some ⟨z, 0, none⟩) := by rw [ha9, ev_other _ _ _ _ (by decide)]; exact f8_8
  have f9_53 : a0_9.eval (.tmp 53) = .pointer q := by rw [ha9, ev_other _ _ _ _ (by decide)]; exact f8_53
  have f9_55 : a0_9.eval (.tmp 55) = keyV s0.key := by rw [ha9, ev_other _ _ _ _ (by decide)]; exact f8_55
  have f9_62 : a0_9.eval (.tmp 62) = .bool nn := by rw [ha9]; exact ev_same _ _ _ (Nat.lt_of_le_of_lt (by decide) qz8)
  rw [← ha9] at h0 ⊢
  clear ha9
  refine wpAnyH_take (i := 10) (oi := ad_10 s) (v := .bool (!nn)) (by kernel_rfl) (by kernel_rfl) (by kernel_rfl) (by kernel_rfl) (fun c a w h => hQ c _ _ _ w h) (Or.inl ⟨wanted_none rfl, fun w hw => run_notB rfl f9_62 w⟩) hS ?_
  change wpAnyH _ _ _ _ _ _ _ (a0_9.put (some 63) (.bool (!nn))) _
  obtain ⟨a0_10, ha10⟩ : ∃ rr : Act, rr = a0_9.put (some 63) (.bool (!nn)) := ⟨_, rfl⟩
  have qz10 : 70 < a0_10.tmps.size := by rw [ha10, sz_put]; exact qz9
  have f10_3 : a0_10.eval (.tmp 3) = .pointer (some ⟨kb, 0, none⟩) := by rw [ha10, ev_other _ _ _ _ (by decide)]; exact f9_3
  have f10_8 : a0_10.eval (.tmp 8) = .pointer (some ⟨z, 0, none⟩) := by rw [ha10, ev_other _ _ _ _ (by decide)]; exact f9_8
  have f10_53 : a0_10.eval (.tmp 53) = .pointer q := by rw [ha10, ev_other _ _ _ _ (by decide)]; exact f9_53
  have f10_55 : a0_10.eval (.tmp 55) = keyV s0.key := by rw [ha10, ev_other _ _ _ _ (by decide)]; exact f9_55
  have f10_63 : a0_10.eval (.tmp 63) = .bool (!nn) := by rw [ha10]; exact ev_same _ _ _ (Nat.lt_of_le_of_lt (by decide) qz9)
  rw [← ha10] at h0 ⊢
  clear ha10
  refine wpAnyH_ready (rs := [3]) (by kernel_rfl) (by simp) ?_
  refine AllReadyH.cons (o := ad_3 s) (by kernel_rfl) (fun KQ hKQ => ?_) AllReadyH.nil
  rw [if_pos (wanted_none rfl)]
  refine step_enterE 15 #[.pointer q, keyV s0.key] (by rw [ad_enter3, f10_53, f10_55]) (fun V w' => V = .bool b ∧ M1 w') (hc1.mono (fun e w' ⟨h1, h2⟩ => ⟨_, h1, rfl, h2⟩)) ?_
  rintro _ w2 ⟨rfl, hM1⟩
  refine hKQ.out _ _ (hk1 w2 hM1) (fun _ => ?_)
  clear hKQ KQ
  change wpAnyH _ _ _ _ _ _ _ (a0_10.put (some 56) (.bool b)) _
  have h0 := h0 w2 hM1
  obtain ⟨a0_11, ha11⟩ : ∃ rr : Act, rr = a0_10.put (some 56) (.bool b) := ⟨_, rfl⟩
  have qz11 : 70 < a0_11.tmps.size := by rw [ha11, sz_put]; exact qz10
  have f11_3 : a0_11.eval (.tmp 3) = .pointer (some ⟨kb, 0, none⟩) := by rw [ha11, ev_other _ _ _ _ (by decide)]; exact f10_3
  have f11_8 : a0_11.eval (.tmp 8) = .pointer (some ⟨z, 0, none⟩) := by rw [ha11, ev_other _ _ _ _ (by decide)]; exact f10_8
  have f11_56 : a0_11.eval (.tmp 56) = .bool b := by rw [ha11]; exact ev_same _ _ _ (Nat.lt_of_le_of_lt (by decide) qz10)
  have f11_63 : a0_11.eval (.tmp 63) = .bool (!nn) := by rw [ha11, ev_other _ _ _ _ (by decide)]; exact f10_63
  rw [← ha11] at h0 ⊢
  clear ha11
  refine wpAnyH_take (i := 11) (oi := ad_11 s) (v := .bool true) (by kernel_rfl) (by kernel_rfl) (by kernel_rfl) (by kernel_rfl) (fun c a w h => hQ c _ _ _ w h) (Or.inl ⟨wanted_none rfl, fun w hw => by simp only [execOp, ad_11, f11_63, hnn]; rfl⟩) (hk1 w2 hM1) ?_
  change wpAnyH _ _ _ _ _ _ _ (a0_11.put (some 64) (.bool true)) _
  obtain ⟨a0_12, ha12⟩ : ∃ rr : Act, rr = a0_11.put (some 64) (.bool true) := ⟨_, rfl⟩
  have qz12 : 70 < a0_12.tmps.size := by rw [ha12, sz_put]; exact qz11
  have f12_3 : a0_12.eval (.tmp 3) = .pointer (some ⟨kb, 0, none⟩) := by rw [ha12, ev_other _ _ _ _ (by decide)]; exact f11_3
  have f12_8 : a0_12.eval (.tmp 8) = .pointer (some ⟨z, 0, none⟩) := by rw [ha12, ev_other _ _ _ _ (by decide)]; exact f11_8
  have f12_56 : a0_12.eval (.tmp 56) = .bool b := by rw [ha12, ev_other _ _ _ _ (by decide)]; exact f11_56
  have f12_64 : a0_12.eval (.tmp 64) = .bool true := by rw [ha12]; exact ev_same _ _ _ (Nat.lt_of_le_of_lt (by decide) qz11)
  rw [← ha12] at h0 ⊢
  clear ha12
  refine wpAnyH_take (i := 12) (oi := ad_12 s) (v := .pointer (some ⟨z, 0, none⟩)) (by kernel_rfl) (by kernel_rfl) (by kernel_rfl) (by kernel_rfl) (fun c a w h => hQ c _ _ _ w h) (Or.inl ⟨wanted_some rfl (by kernel_rfl) f12_64 (Nat.lt_of_le_of_lt (by decide) qz12), fun w hw => by simp only [execOp, ad_12, f12_8]; rfl⟩) (hk1 w2 hM1) ?_
  change wpAnyH _ _ _ _ _ _ _ (a0_12.put (some 65) (.pointer (some ⟨z, 0, none⟩))) _
  obtain ⟨a0_13, ha13⟩ : ∃ rr : Act, rr = a0_12.put (some 65) (.pointer (some ⟨z, 0, none⟩)) := ⟨_, rfl⟩
  have qz13 : 70 < a0_13.tmps.size := by rw [ha13, sz_put]; exact qz12
  have f13_3 : a0_13.eval (.tmp 3) = .pointer (some ⟨kb, 0, none⟩) := by rw [ha13, ev_other _ _ _ _ (by decide)]; exact f12_3
  have f13_56 : a0_13.eval (.tmp 56) = .bool b := by rw [ha13, ev_other _ _ _ _ (by decide)]; exact f12_56
  have f13_64 : a0_13.eval (.tmp 64) = .bool true := by rw [ha13, ev_other _ _ _ _ (by decide)]; exact f12_64
  have f13_65 : a0_13.eval (.tmp 65) = .pointer (some ⟨z, 0, none⟩) := by rw [ha13]; exact ev_same _ _ _ (Nat.lt_of_le_of_lt (by decide) qz12)
  rw [← ha13] at h0 ⊢
  clear ha13
  refine wpAnyH_take (i := 13) (oi := ad_13 s) (v := .pointer (some ⟨kb, 3, none⟩)) (by kernel_rfl) (by kernel_rfl) (by kernel_rfl) (by kernel_rfl) (fun c a w h => hQ c _ _ _ w h) (Or.inl ⟨wanted_some rfl (by kernel_rfl) f13_64 (Nat.lt_of_le_of_lt (by decide) qz13), fun w hw => fldS kb 3 3 (fS3 kb) rfl f13_3 w⟩) (hk1 w2 hM1) ?_
  change wpAnyH _ _ _ _ _ _ _ (a0_13.put (some 66) (.pointer (some ⟨kb, 3, none⟩))) _
  obtain ⟨a0_14, ha14⟩ : ∃ rr : Act, rr = a0_13.put (some 66) (.pointer (some ⟨kb, 3, none⟩)) := ⟨_, rfl⟩
  have qz14 : 70 < a0_14.tmps.size := by rw [ha14, sz_put]; exact qz13
  have f14_56 : a0_14.eval (.tmp 56) = .bool b := by rw [ha14, ev_other _ _ _ _ (by decide)]; exact f13_56
  have f14_64 : a0_14.eval (.tmp 64) = .bool true := by rw [ha14, ev_other _ _ _ _ (by decide)]; exact f13_64
  have f14_65 : a0_14.eval (.tmp 65) = .pointer (some ⟨z, 0, none⟩) := by rw [ha14, ev_other _ _ _ _ (by decide)]; exact f13_65
  have f14_66 : a0_14.eval (.tmp 66) = .pointer (some ⟨kb, 3, none⟩) := by rw [ha14]; exact ev_same _ _ _ (Nat.lt_of_le_of_lt (by decide) qz13)
  rw [← ha14] at h0 ⊢
  clear ha14
  refine wpAnyH_take (i := 14) (oi := ad_14 s) (v := keyV s0.key) (by kernel_rfl) (by kernel_rfl) (by kernel_rfl) (by kernel_rfl) (fun c a w h => hQ c _ _ _ w h) (Or.inl ⟨wanted_some rfl (by kernel_rfl) f14_64 (Nat.lt_of_le_of_lt (by decide) qz14), fun w hw => run_loadK rfl f14_66 h32 hw.1⟩) (hk1 w2 hM1) ?_
  change wpAnyH _ _ _ _ _ _ _ (a0_14.put (some 67) (keyV s0.key)) _
  obtain ⟨a0_15, ha15⟩ : ∃ rr : Act, rr = a0_14.put (some 67) (keyV s0.key) := ⟨_, rfl⟩
  have qz15 : 70 < a0_15.tmps.size := by rw [ha15, sz_put]; exact qz14
  have f15_56 : a0_15.eval (.tmp 56) = .bool b := by rw [ha15, ev_other _ _ _ _ (by decide)]; exact f14_56
  have f15_64 : a0_15.eval (.tmp 64) = .bool true := by rw [ha15, ev_other _ _ _ _ (by decide)]; exact f14_64
  have f15_65 : a0_15.eval (.tmp 65) = .pointer (some ⟨z, 0, none⟩) := by rw [ha15, ev_other _ _ _ _ (by decide)]; exact f14_65
  have f15_67 : a0_15.eval (.tmp 67) = keyV s0.key := by rw [ha15]; exact ev_same _ _ _ (Nat.lt_of_le_of_lt (by decide) qz14)
  rw [← ha15] at h0 ⊢
  clear ha15
  refine wpAnyH_ready (rs := [15]) (by kernel_rfl) (by simp) ?_
  refine AllReadyH.cons (o := ad_15 s) (by kernel_rfl) (fun KQ hKQ => ?_) AllReadyH.nil
  rw [if_pos (wanted_some rfl (by kernel_rfl) f15_64 (Nat.lt_of_le_of_lt (by decide) qz15))]
  refine step_enterE 16 #[.pointer (some ⟨z, 0, none⟩), keyV s0.key] (by rw [ad_enter15, f15_65, f15_67]) (fun V w' => V = .bool b ∧ M2 w2 w') ((hc2 w2 hM1).mono (fun e w' ⟨h1, h2⟩ => ⟨_, h1, rfl, h2⟩)) ?_
  rintro _ w3 ⟨rfl, hM2⟩
  refine hKQ.out _ _ (hk2 w2 w3 hM1 hM2) (fun _ => ?_)
  clear hKQ KQ
  change wpAnyH _ _ _ _ _ _ _ (a0_15.put (some 68) (.bool b)) _
  have h0 := h0 w3 hM2
  obtain ⟨a0_16, ha16⟩ : ∃ rr : Act, rr = a0_15.put (some 68) (.bool b) := ⟨_, rfl⟩
  have qz16 : 70 < a0_16.tmps.size := by rw [ha16, sz_put]; exact qz15
  have f16_56 : a0_16.eval (.tmp 56) = .bool b := by rw [ha16, ev_other _ _ _ _ (by decide)]; exact f15_56
  have f16_64 : a0_16.eval (.tmp 64) = .bool true := by rw [ha16, ev_other _ _ _ _ (by decide)]; exact f15_64
  have f16_68 : a0_16.eval (.tmp 68) = .bool b := by rw [ha16]; exact ev_same _ _ _ (Nat.lt_of_le_of_lt (by decide) qz15)
  rw [← ha16] at h0 ⊢
  clear ha16
  refine wpAnyH_take (i := 16) (oi := ad_16 s) (v := .bool b) (by kernel_rfl) (by kernel_rfl) (by kernel_rfl) (by kernel_rfl) (fun c a w h => hQ c _ _ _ w h) (Or.inl ⟨wanted_none rfl, fun w hw => by simp only [execOp, ad_16, f16_64, f16_68]; rfl⟩) (hk2 w2 w3 hM1 hM2) ?_
  change wpAnyH _ _ _ _ _ _ _ (a0_16.put (some 69) (.bool b)) _
  obtain ⟨a0_17, ha17⟩ : ∃ rr : Act, rr = a0_16.put (some 69) (.bool b) := ⟨_, rfl⟩
  have qz17 : 70 < a0_17.tmps.size := by rw [ha17, sz_put]; exact qz16
  have f17_56 : a0_17.eval (.tmp 56) = .bool b := by rw [ha17, ev_other _ _ _ _ (by decide)]; exact f16_56
  have f17_69 : a0_17.eval (.tmp 69) = .bool b := by rw [ha17]; exact ev_same _ _ _ (Nat.lt_of_le_of_lt (by decide) qz16)
  rw [← ha17] at h0 ⊢
  clear ha17
  refine wpAnyH_take (i := 17) (oi := ad_17 s) (v := .bool true) (by kernel_rfl) (by kernel_rfl) (by kernel_rfl) (by kernel_rfl) (fun c a w h => hQ c _ _ _ w h) (Or.inl ⟨wanted_none rfl, fun w hw => run_eqBB rfl f17_56 f17_69 w⟩) (hk2 w2 w3 hM1 hM2) ?_
  change wpAnyH _ _ _ _ _ _ _ (a0_17.put (some 70) (.bool true)) _
  obtain ⟨a0_18, ha18⟩ : ∃ rr : Act, rr = a0_17.put (some 70) (.bool true) := ⟨_, rfl⟩
  have qz18 : 70 < a0_18.tmps.size := by rw [ha18, sz_put]; exact qz17
  have f18_70 : a0_18.eval (.tmp 70) = .bool true := by rw [ha18]; exact ev_same _ _ _ (Nat.lt_of_le_of_lt (by decide) qz17)
  rw [← ha18] at h0 ⊢
  clear ha18
  refine wpAnyH_take (i := 18) (oi := ad_18 s) (v := .bool true) (by kernel_rfl) (by kernel_rfl) (by kernel_rfl) (by kernel_rfl) (fun c a w h => hQ c _ _ _ w h) (Or.inl ⟨wanted_none rfl, fun w hw => by simp only [execOp, ad_18, f18_70]; rfl⟩) (hk2 w2 w3 hM1 hM2) ?_
  change wpAnyH _ _ _ _ _ _ _ (a0_18.put (some 4) (.bool true)) _
  obtain ⟨a0_19, ha19⟩ : ∃ rr : Act, rr = a0_18.put (some 4) (.bool true) := ⟨_, rfl⟩
  have qz19 : 70 < a0_19.tmps.size := by rw [ha19, sz_put]; exact qz18
  rw [← ha19] at h0 ⊢
  clear ha19
  refine wpAnyH_done (by kernel_rfl) ?_ _
  exact h0
def an_0 (s : String) : Oper := { dst := some 53, op := Op.move (Operand.tmp 7), type := 25, pos := s, after := #[], guard := none }
def an_1 (s : String) : Oper := { dst := some 54, op := Op.fieldAddr 41 (Operand.tmp 3) 3, type := 0, pos := s, after := #[], guard := none }
def an_2 (s : String) : Oper := { dst := some 55, op := Op.load 38 (Operand.tmp 54), type := 38, pos := s, after := #[{ on := 1, ground := Ground.data }], guard := none }
def an_3 (s : String) : Oper := { dst := some 56, op := Op.call { callee := Callee.value (Operand.func 15), args := #[Operand.tmp 53, Operand.tmp 55], argTypes := #[25, 38] }, type := 4, pos := s, after := #[{ on := 0, ground := Ground.data }, { on := 2, ground := Ground.data }], guard := none }
def an_4 (s : String) : Oper := { dst := some 57, op := Op.move (Operand.tmp 0), type := 24, pos := s, after := #[], guard := none }
def an_5 (s : String) : Oper := { dst := some 58, op := Op.move (Operand.tmp 5), type := 3, pos := s, after := #[], guard := none }
def an_6 (s : String) : Oper := { dst := some 59, op := Op.nilCheck (Operand.tmp 57), type := 0, pos := s, after := #[{ on := 4, ground := Ground.data }], guard := none }
def an_7 (s : String) : Oper := { dst := some 60, op := Op.fieldAddr 32 (Operand.tmp 59) 2, type := 0, pos := s, after := #[{ on := 6, ground := Ground.data }], guard := none }
def an_8 (s : String) : Oper := { dst := some 61, op := Op.indexAddr 29 (Operand.tmp 60) (Operand.tmp 58), type := 0, pos := s, after := #[{ on := 7, ground := Ground.data }, { on := 5, ground := Ground.data }], guard := none }
def an_9 (s : String) : Oper := { dst := some 62, op := Op.load 4 (Operand.tmp 61), type := 4, pos := s, after := #[{ on := 8, ground := Ground.data }], guard := none }
def an_10 (s : String) : Oper := { dst := some 63, op := Op.unOp UnOp.not 4 (Operand.tmp 62), type := 4, pos := s, after := #[{ on := 9, ground := Ground.data }], guard := none }
def an_11 (s : String) : Oper := { dst := some 64, op := Op.move (Operand.tmp 63), type := 4, pos := s, after := #[{ on := 10, ground := Ground.data }, { on := 3, ground := Ground.chain }], guard := none }
def an_12 (s : String) : Oper := { dst := some 65, op := Op.move (Operand.tmp 8), type := 27, pos := s, after := #[{ on := 11, ground := Ground.guard }], guard := some (11, true) }
def an_13 (s : String) : Oper := { dst := some 66, op := Op.fieldAddr 41 (Operand.tmp 3) 3, type := 0, pos := s, after := #[{ on := 11, ground := Ground.guard }], guard := some (11, true) }
def an_14 (s : String) : Oper := { dst := some 67, op := Op.load 38 (Operand.tmp 66), type := 38, pos := s, after := #[{ on := 13, ground := Ground.data }, { on := 11, ground := Ground.guard }], guard := some (11, true) }
def an_15 (s : String) : Oper := { dst := some 68, op := Op.call { callee := Callee.value (Operand.func 16), args := #[Operand.tmp 65, Operand.tmp 67], argTypes := #[27, 38] }, type := 4, pos := s, after := #[{ on := 12, ground := Ground.data }, { on := 14, ground := Ground.data }, { on := 11, ground := Ground.chain }, { on := 11, ground := Ground.guard }], guard := some (11, true) }
def an_16 (s : String) : Oper := { dst := some 69, op := Op.pick (Operand.tmp 64) (Operand.tmp 68) (Operand.const (Value.bool false)), type := 4, pos := s, after := #[{ on := 11, ground := Ground.data }, { on := 15, ground := Ground.data }], guard := none }
def an_17 (s : String) : Oper := { dst := some 70, op := Op.binOp BinOp.eql 4 (Operand.tmp 56) (Operand.tmp 69) 4, type := 4, pos := s, after := #[{ on := 3, ground := Ground.data }, { on := 16, ground := Ground.data }], guard := none }
def an_18 (s : String) : Oper := { dst := some 4, op := Op.assign (Operand.tmp 70), type := 4, pos := s, after := #[{ on := 17, ground := Ground.data }, { on := 15, ground := Ground.chain }, { on := 0, ground := Ground.phase }, { on := 1, ground := Ground.phase }, { on := 2, ground := Ground.phase }, { on := 3, ground := Ground.phase }, { on := 4, ground := Ground.phase }, { on := 5, ground := Ground.phase }, { on := 6, ground := Ground.phase }, { on := 7, ground := Ground.phase }, { on := 8, ground := Ground.phase }, { on := 9, ground := Ground.phase }, { on := 10, ground := Ground.phase }, { on := 11, ground := Ground.phase }, { on := 12, ground := Ground.phase }, { on := 13, ground := Ground.phase }, { on := 14, ground := Ground.phase }, { on := 15, ground := Ground.phase }, { on := 16, ground := Ground.phase }, { on := 17, ground := Ground.phase }], guard := none }
def an_ops (s : String) : Array Oper := #[an_0 s, an_1 s, an_2 s, an_3 s, an_4 s, an_5 s, an_6 s, an_7 s, an_8 s, an_9 s, an_10 s, an_11 s, an_12 s, an_13 s, an_14 s, an_15 s, an_16 s, an_17 s, an_18 s]
theorem an_enter3 (s : String) (a : Act) (w : World) : (execOp a.eval (an_3 s)).run Try.prog w = .ok (.enter 15 #[a.eval (.tmp 53), a.eval (.tmp 55)]) w := by kernel_rfl
theorem an_enter15 (s : String) (a : Act) (w : World) : (execOp a.eval (an_15 s)).run Try.prog w = .ok (.enter 16 #[a.eval (.tmp 65), a.eval (.tmp 67)]) w := by kernel_rfl
theorem an_walk (s : String) {Q : Exit → Act → World → Prop} (hQ : ∀ c (a : Act) t v w, Q (.panic c) (a.put (some t) v) w → Q (.panic c) a w) (W : World) (wz j z kb : Nat) (hj : j < 3) (q : Option Addr) (s0 : SK) (h32 : s0.key.length = 32) (b nn : Bool) (hnn : nn = true) (hb : b = false) (M1 : World → Prop) (M2 : World → World → Prop) (hS0 : W.drew.rangeAt kb 3 (s0.key.map u8c) ∧ W.drew.cell? ⟨wz, 6 + j, none⟩ = some (.bool nn)) (hc1 : Calls Try.prog 15 #[.pointer q, keyV s0.key] W.drew fun e w' => e = .returned (.bool b) ∧ M1 w') (hk1 : ∀ w2, M1 w2 → w2.rangeAt kb 3 (s0.key.map u8c) ∧ w2.cell? ⟨wz, 6 + j, none⟩ = some (.bool nn))
    (a : Act) (hs : 70 < a.tmps.size) (e0 : a.eval (.tmp 0) = .pointer (some ⟨wz, 0, none⟩)) (e3 : a.eval (.tmp 3) = .pointer (some ⟨kb, 0, none⟩)) (e5 : a.eval (.tmp 5) = .int .i64 (j : Int)) (e7 : a.eval (.tmp 7) = .pointer q) (e8 : a.eval (.tmp 8) = .pointer (some ⟨z, 0, none⟩))
    (h0 : ∀ w2, M1 w2 → Q .normal (((((((((((((((((((a.put (some 53) (.pointer q)).put (some 54) (.pointer (some ⟨kb, 3, none⟩))).put (some 55) (keyV s0.key)).put (some 57) (.pointer (some ⟨wz, 0, none⟩))).put (some 58) (.int .i64 (j : Int))).put (some 59) (.pointer (some ⟨wz, 0, none⟩))).put (some 60) (.pointer (some ⟨wz, 6, none⟩))).put (some 61) (.pointer (some ⟨wz, 6 + j, none⟩))).put (some 62) (.bool nn)).put (some 63) (.bool (!nn))).put (some 56) (.bool b)).put (some 64) (.bool false)).put (some 65) (undef)).put (some 66) (undef)).put (some 67) (undef)).put (some 68) (undef)).put (some 69) (.bool false)).put (some 70) (.bool true)).put (some 4) (.bool true)) w2) :
    Code.wp Try.prog (.region 9 (an_ops s) true) Q a W := by
  refine wp_region_held_drew (S := fun w => w.rangeAt kb 3 (s0.key.map u8c) ∧ w.cell? ⟨wz, 6 + j, none⟩ = some (.bool nn)) (by kernel_rfl) hS0 (fun hS => ?_)
  change wpAnyH _ _ _ _ _ _ _ _ (World.drew _)
  refine wpAnyH_take (i := 0) (oi := an_0 s) (v := .pointer q) (by kernel_rfl) (by kernel_rfl) (by kernel_rfl) (by kernel_rfl) (fun c a w h => hQ c _ _ _ w h) (Or.inl ⟨wanted_none rfl, fun w hw => by simp only [execOp, an_0, e7]; rfl⟩) hS ?_
  change wpAnyH _ _ _ _ _ _ _ (a.put (some 53) (.pointer q)) _
  obtain ⟨a0_1, ha1⟩ : ∃ rr : Act, rr = a.put (some 53) (.pointer q) := ⟨_, rfl⟩
  have qz1 : 70 < a0_1.tmps.size := by rw [ha1, sz_put]; exact hs
  have f1_0 : a0_1.eval (.tmp 0) = .pointer (some ⟨wz, 0, none⟩) := by rw [ha1, ev_other _ _ _ _ (by decide)]; exact e0
  have f1_3 : a0_1.eval (.tmp 3) = .pointer (some ⟨kb, 0, none⟩) := by rw [ha1, ev_other _ _ _ _ (by decide)]; exact e3
  have f1_5 : a0_1.eval (.tmp 5) = .int .i64 (j : Int) := by rw [ha1, ev_other _ _ _ _ (by decide)]; exact e5
  have f1_53 : a0_1.eval (.tmp 53) = .pointer q := by rw [ha1]; exact ev_same _ _ _ (Nat.lt_of_le_of_lt (by decide) hs)
  rw [← ha1] at h0 ⊢
  clear ha1
  refine wpAnyH_take (i := 1) (oi := an_1 s) (v := .pointer (some ⟨kb, 3, none⟩)) (by kernel_rfl) (by kernel_rfl) (by kernel_rfl) (by kernel_rfl) (fun c a w h => hQ c _ _ _ w h) (Or.inl ⟨wanted_none rfl, fun w hw => fldS kb 3 3 (fS3 kb) rfl f1_3 w⟩) hS ?_
  change wpAnyH _ _ _ _ _ _ _ (a0_1.put (some 54) (.pointer (some ⟨kb, 3, none⟩))) _
  obtain ⟨a0_2, ha2⟩ : ∃ rr : Act, rr = a0_1.put (some 54) (.pointer (some ⟨kb, 3, none⟩)) := ⟨_, rfl⟩
  have qz2 : 70 < a0_2.tmps.size := by rw [ha2, sz_put]; exact qz1
  have f2_0 : a0_2.eval (.tmp 0) = .pointer (some ⟨wz, 0, none⟩) := by rw [ha2, ev_other _ _ _ _ (by decide)]; exact f1_0
  have f2_5 : a0_2.eval (.tmp 5) = .int .i64 (j : Int) := by rw [ha2, ev_other _ _ _ _ (by decide)]; exact f1_5
  have f2_53 : a0_2.eval (.tmp 53) = .pointer q := by rw [ha2, ev_other _ _ _ _ (by decide)]; exact f1_53
  have f2_54 : a0_2.eval (.tmp 54) = .pointer (some ⟨kb, 3, none⟩) := by rw [ha2]; exact ev_same _ _ _ (Nat.lt_of_le_of_lt (by decide) qz1)
  rw [← ha2] at h0 ⊢
  clear ha2
  refine wpAnyH_take (i := 2) (oi := an_2 s) (v := keyV s0.key) (by kernel_rfl) (by kernel_rfl) (by kernel_rfl) (by kernel_rfl) (fun c a w h => hQ c _ _ _ w h) (Or.inl ⟨wanted_none rfl, fun w hw => run_loadK rfl f2_54 h32 hw.1⟩) hS ?_
  change wpAnyH _ _ _ _ _ _ _ (a0_2.put (some 55) (keyV s0.key)) _
  obtain ⟨a0_3, ha3⟩ : ∃ rr : Act, rr = a0_2.put (some 55) (keyV s0.key) := ⟨_, rfl⟩
  have qz3 : 70 < a0_3.tmps.size := by rw [ha3, sz_put]; exact qz2
  have f3_0 : a0_3.eval (.tmp 0) = .pointer (some ⟨wz, 0, none⟩) := by rw [ha3, ev_other _ _ _ _ (by decide)]; exact f2_0
  have f3_5 : a0_3.eval (.tmp 5) = .int .i64 (j : Int) := by rw [ha3, ev_other _ _ _ _ (by decide)]; exact f2_5
  have f3_53 : a0_3.eval (.tmp 53) = .pointer q := by rw [ha3, ev_other _ _ _ _ (by decide)]; exact f2_53
  have f3_55 : a0_3.eval (.tmp 55) = keyV s0.key := by rw [ha3]; exact ev_same _ _ _ (Nat.lt_of_le_of_lt (by decide) qz2)
  rw [← ha3] at h0 ⊢
  clear ha3
  refine wpAnyH_take (i := 4) (oi := an_4 s) (v := .pointer (some ⟨wz, 0, none⟩)) (by kernel_rfl) (by kernel_rfl) (by kernel_rfl) (by kernel_rfl) (fun c a w h => hQ c _ _ _ w h) (Or.inl ⟨wanted_none rfl, fun w hw => by simp only [execOp, an_4, f3_0]; rfl⟩) hS ?_
  change wpAnyH _ _ _ _ _ _ _ (a0_3.put (some 57) (.pointer (some ⟨wz, 0, none⟩))) _
  obtain ⟨a0_4, ha4⟩ : ∃ rr : Act, rr = a0_3.put (some 57) (.pointer (some ⟨wz, 0, none⟩)) := ⟨_, rfl⟩
  have qz4 : 70 < a0_4.tmps.size := by rw [ha4, sz_put]; exact qz3
  have f4_5 : a0_4.eval (.tmp 5) = .int .i64 (j : Int) := by rw [ha4, ev_other _ _ _ _ (by decide)]; exact f3_5
  have f4_53 : a0_4.eval (.tmp 53) = .pointer q := by rw [ha4, ev_other _ _ _ _ (by decide)]; exact f3_53
  have f4_55 : a0_4.eval (.tmp 55) = keyV s0.key := by rw [ha4, ev_other _ _ _ _ (by decide)]; exact f3_55
  have f4_57 : a0_4.eval (.tmp 57) = .pointer (some ⟨wz, 0, none⟩) := by rw [ha4]; exact ev_same _ _ _ (Nat.lt_of_le_of_lt (by decide) qz3)
  rw [← ha4] at h0 ⊢
  clear ha4
  refine wpAnyH_take (i := 5) (oi := an_5 s) (v := .int .i64 (j : Int)) (by kernel_rfl) (by kernel_rfl) (by kernel_rfl) (by kernel_rfl) (fun c a w h => hQ c _ _ _ w h) (Or.inl ⟨wanted_none rfl, fun w hw => by simp only [execOp, an_5, f4_5]; rfl⟩) hS ?_
  change wpAnyH _ _ _ _ _ _ _ (a0_4.put (some 58) (.int .i64 (j : Int))) _
  obtain ⟨a0_5, ha5⟩ : ∃ rr : Act, rr = a0_4.put (some 58) (.int .i64 (j : Int)) := ⟨_, rfl⟩
  have qz5 : 70 < a0_5.tmps.size := by rw [ha5, sz_put]; exact qz4
  have f5_53 : a0_5.eval (.tmp 53) = .pointer q := by rw [ha5, ev_other _ _ _ _ (by decide)]; exact f4_53
  have f5_55 : a0_5.eval (.tmp 55) = keyV s0.key := by rw [ha5, ev_other _ _ _ _ (by decide)]; exact f4_55
  have f5_57 : a0_5.eval (.tmp 57) = .pointer (some ⟨wz, 0, none⟩) := by rw [ha5, ev_other _ _ _ _ (by decide)]; exact f4_57
  have f5_58 : a0_5.eval (.tmp 58) = .int .i64 (j : Int) := by rw [ha5]; exact ev_same _ _ _ (Nat.lt_of_le_of_lt (by decide) qz4)
  rw [← ha5] at h0 ⊢
  clear ha5
  refine wpAnyH_take (i := 6) (oi := an_6 s) (v := .pointer (some ⟨wz, 0, none⟩)) (by kernel_rfl) (by kernel_rfl) (by kernel_rfl) (by kernel_rfl) (fun c a w h => hQ c _ _ _ w h) (Or.inl ⟨wanted_none rfl, fun w hw => run_nil rfl f5_57 w⟩) hS ?_
  change wpAnyH _ _ _ _ _ _ _ (a0_5.put (some 59) (.pointer (some ⟨wz, 0, none⟩))) _
  obtain ⟨a0_6, ha6⟩ : ∃ rr : Act, rr = a0_5.put (some 59) (.pointer (some ⟨wz, 0, none⟩)) := ⟨_, rfl⟩
  have qz6 : 70 < a0_6.tmps.size := by rw [ha6, sz_put]; exact qz5
  have f6_53 : a0_6.eval (.tmp 53) = .pointer q := by rw [ha6, ev_other _ _ _ _ (by decide)]; exact f5_53
  have f6_55 : a0_6.eval (.tmp 55) = keyV s0.key := by rw [ha6, ev_other _ _ _ _ (by decide)]; exact f5_55
  have f6_58 : a0_6.eval (.tmp 58) = .int .i64 (j : Int) := by rw [ha6, ev_other _ _ _ _ (by decide)]; exact f5_58
  have f6_59 : a0_6.eval (.tmp 59) = .pointer (some ⟨wz, 0, none⟩) := by rw [ha6]; exact ev_same _ _ _ (Nat.lt_of_le_of_lt (by decide) qz5)
  rw [← ha6] at h0 ⊢
  clear ha6
  refine wpAnyH_take (i := 7) (oi := an_7 s) (v := .pointer (some ⟨wz, 6, none⟩)) (by kernel_rfl) (by kernel_rfl) (by kernel_rfl) (by kernel_rfl) (fun c a w h => hQ c _ _ _ w h) (Or.inl ⟨wanted_none rfl, fun w hw => fldW wz 2 6 (fW2 wz) rfl f6_59 w⟩) hS ?_
  change wpAnyH _ _ _ _ _ _ _ (a0_6.put (some 60) (.pointer (some ⟨wz, 6, none⟩))) _
  obtain ⟨a0_7, ha7⟩ : ∃ rr : Act, rr = a0_6.put (some 60) (.pointer (some ⟨wz, 6, none⟩)) := ⟨_, rfl⟩
  have qz7 : 70 < a0_7.tmps.size := by rw [ha7, sz_put]; exact qz6
  have f7_53 : a0_7.eval (.tmp 53) = .pointer q := by rw [ha7, ev_other _ _ _ _ (by decide)]; exact f6_53
  have f7_55 : a0_7.eval (.tmp 55) = keyV s0.key := by rw [ha7, ev_other _ _ _ _ (by decide)]; exact f6_55
  have f7_58 : a0_7.eval (.tmp 58) = .int .i64 (j : Int) := by rw [ha7, ev_other _ _ _ _ (by decide)]; exact f6_58
  have f7_60 : a0_7.eval (.tmp 60) = .pointer (some ⟨wz, 6, none⟩) := by rw [ha7]; exact ev_same _ _ _ (Nat.lt_of_le_of_lt (by decide) qz6)
  rw [← ha7] at h0 ⊢
  clear ha7
  refine wpAnyH_take (i := 8) (oi := an_8 s) (v := .pointer (some ⟨wz, 6 + j, none⟩)) (by kernel_rfl) (by kernel_rfl) (by kernel_rfl) (by kernel_rfl) (fun c a w h => hQ c _ _ _ w h) (Or.inl ⟨wanted_none rfl, fun w hw => run_ixN rfl f7_60 f7_58 hj w⟩) hS ?_
  change wpAnyH _ _ _ _ _ _ _ (a0_7.put (some 61) (.pointer (some ⟨wz, 6 + j, none⟩))) _
  obtain ⟨a0_8, ha8⟩ : ∃ rr : Act, rr = a0_7.put (some 61) (.pointer (some ⟨wz, 6 + j, none⟩)) := ⟨_, rfl⟩
  have qz8 : 70 < a0_8.tmps.size := by rw [ha8, sz_put]; exact qz7
  have f8_53 : a0_8.eval (.tmp 53) = .pointer q := by rw [ha8, ev_other _ _ _ _ (by decide)]; exact f7_53
  have f8_55 : a0_8.eval (.tmp 55) = keyV s0.key := by rw [ha8, ev_other _ _ _ _ (by decide)]; exact f7_55
  have f8_61 : a0_8.eval (.tmp 61) = .pointer (some ⟨wz, 6 + j, none⟩) := by rw [ha8]; exact ev_same _ _ _ (Nat.lt_of_le_of_lt (by decide) qz7)
  rw [← ha8] at h0 ⊢
  clear ha8
  refine wpAnyH_take (i := 9) (oi := an_9 s) (v := .bool nn) (by kernel_rfl) (by kernel_rfl) (by kernel_rfl) (by kernel_rfl) (fun c a w h => hQ c _ _ _ w h) (Or.inl ⟨wanted_none rfl, fun w hw => run_load rfl f8_61 (load_bt hw.2)⟩) hS ?_
  change wpAnyH _ _ _ _ _ _ _ (a0_8.put (some 62) (.bool nn)) _
  obtain ⟨a0_9, ha9⟩ : ∃ rr : Act, rr = a0_8.put (some 62) (.bool nn) := ⟨_, rfl⟩
  have qz9 : 70 < a0_9.tmps.size := by rw [ha9, sz_put]; exact qz8
  have f9_53 : a0_9.eval (.tmp 53) = .pointer q := by rw [ha9, ev_other _ _ _ _ (by decide)]; exact f8_53
  have f9_55 : a0_9.eval (.tmp 55) = keyV s0.key := by rw [ha9, ev_other _ _ _ _ (by decide)]; exact f8_55
  have f9_62 : a0_9.eval (.tmp 62) = .bool nn := by rw [ha9]; exact ev_same _ _ _ (Nat.lt_of_le_of_lt (by decide) qz8)
  rw [← ha9] at h0 ⊢
  clear ha9
  refine wpAnyH_take (i := 10) (oi := an_10 s) (v := .bool (!nn)) (by kernel_rfl) (by kernel_rfl) (by kernel_rfl) (by kernel_rfl) (fun c a w h => hQ c _ _ _ w h) (Or.inl ⟨wanted_none rfl, fun w hw => run_notB rfl f9_62 w⟩) hS ?_
  change wpAnyH _ _ _ _ _ _ _ (a0_9.put (some 63) (.bool (!nn))) _
  obtain ⟨a0_10, ha10⟩ : ∃ rr : Act, rr = a0_9.put (some 63) (.bool (!nn)) := ⟨_, rfl⟩
  have qz10 : 70 < a0_10.tmps.size := by rw [ha10, sz_put]; exact qz9
  have f10_53 : a0_10.eval (.tmp 53) = .pointer q := by rw [ha10, ev_other _ _ _ _ (by decide)]; exact f9_53
  have f10_55 : a0_10.eval (.tmp 55) = keyV s0.key := by rw [ha10, ev_other _ _ _ _ (by decide)]; exact f9_55
  have f10_63 : a0_10.eval (.tmp 63) = .bool (!nn) := by rw [ha10]; exact ev_same _ _ _ (Nat.lt_of_le_of_lt (by decide) qz9)
  rw [← ha10] at h0 ⊢
  clear ha10
  refine wpAnyH_ready (rs := [3]) (by kernel_rfl) (by simp) ?_
  refine AllReadyH.cons (o := an_3 s) (by kernel_rfl) (fun KQ hKQ => ?_) AllReadyH.nil
  rw [if_pos (wanted_none rfl)]
  refine step_enterE 15 #[.pointer q, keyV s0.key] (by rw [an_enter3, f10_53, f10_55]) (fun V w' => V = .bool b ∧ M1 w') (hc1.mono (fun e w' ⟨h1, h2⟩ => ⟨_, h1, rfl, h2⟩)) ?_
  rintro _ w2 ⟨rfl, hM1⟩
  refine hKQ.out _ _ (hk1 w2 hM1) (fun _ => ?_)
  clear hKQ KQ
  change wpAnyH _ _ _ _ _ _ _ (a0_10.put (some 56) (.bool b)) _
  have h0 := h0 w2 hM1
  obtain ⟨a0_11, ha11⟩ : ∃ rr : Act, rr = a0_10.put (some 56) (.bool b) := ⟨_, rfl⟩
  have qz11 : 70 < a0_11.tmps.size := by rw [ha11, sz_put]; exact qz10
  have f11_56 : a0_11.eval (.tmp 56) = .bool b := by rw [ha11]; exact ev_same _ _ _ (Nat.lt_of_le_of_lt (by decide) qz10)
  have f11_63 : a0_11.eval (.tmp 63) = .bool (!nn) := by rw [ha11, ev_other _ _ _ _ (by decide)]; exact f10_63
  rw [← ha11] at h0 ⊢
  clear ha11
  refine wpAnyH_take (i := 11) (oi := an_11 s) (v := .bool false) (by kernel_rfl) (by kernel_rfl) (by kernel_rfl) (by kernel_rfl) (fun c a w h => hQ c _ _ _ w h) (Or.inl ⟨wanted_none rfl, fun w hw => by simp only [execOp, an_11, f11_63, hnn]; rfl⟩) (hk1 w2 hM1) ?_
  change wpAnyH _ _ _ _ _ _ _ (a0_11.put (some 64) (.bool false)) _
  obtain ⟨a0_12, ha12⟩ : ∃ rr : Act, rr = a0_11.put (some 64) (.bool false) := ⟨_, rfl⟩
  have qz12 : 70 < a0_12.tmps.size := by rw [ha12, sz_put]; exact qz11
  have f12_56 : a0_12.eval (.tmp 56) = .bool b := by rw [ha12, ev_other _ _ _ _ (by decide)]; exact f11_56
  have f12_64 : a0_12.eval (.tmp 64) = .bool false := by rw [ha12]; exact ev_same _ _ _ (Nat.lt_of_le_of_lt (by decide) qz11)
  rw [← ha12] at h0 ⊢
  clear ha12
  refine wpAnyH_take (i := 12) (oi := an_12 s) (v := undef) (by kernel_rfl) (by kernel_rfl) (by kernel_rfl) (by kernel_rfl) (fun c a w h => hQ c _ _ _ w h) (Or.inr ⟨wanted_no rfl (by kernel_rfl) f12_64 (Nat.lt_of_le_of_lt (by decide) qz12), rfl⟩) (hk1 w2 hM1) ?_
  change wpAnyH _ _ _ _ _ _ _ (a0_12.put (some 65) (undef)) _
  obtain ⟨a0_13, ha13⟩ : ∃ rr : Act, rr = a0_12.put (some 65) (undef) := ⟨_, rfl⟩
  have qz13 : 70 < a0_13.tmps.size := by rw [ha13, sz_put]; exact qz12
  have f13_56 : a0_13.eval (.tmp 56) = .bool b := by rw [ha13, ev_other _ _ _ _ (by decide)]; exact f12_56
  have f13_64 : a0_13.eval (.tmp 64) = .bool false := by rw [ha13, ev_other _ _ _ _ (by decide)]; exact f12_64
  rw [← ha13] at h0 ⊢
  clear ha13
  refine wpAnyH_take (i := 13) (oi := an_13 s) (v := undef) (by kernel_rfl) (by kernel_rfl) (by kernel_rfl) (by kernel_rfl) (fun c a w h => hQ c _ _ _ w h) (Or.inr ⟨wanted_no rfl (by kernel_rfl) f13_64 (Nat.lt_of_le_of_lt (by decide) qz13), rfl⟩) (hk1 w2 hM1) ?_
  change wpAnyH _ _ _ _ _ _ _ (a0_13.put (some 66) (undef)) _
  obtain ⟨a0_14, ha14⟩ : ∃ rr : Act, rr = a0_13.put (some 66) (undef) := ⟨_, rfl⟩
  have qz14 : 70 < a0_14.tmps.size := by rw [ha14, sz_put]; exact qz13
  have f14_56 : a0_14.eval (.tmp 56) = .bool b := by rw [ha14, ev_other _ _ _ _ (by decide)]; exact f13_56
  have f14_64 : a0_14.eval (.tmp 64) = .bool false := by rw [ha14, ev_other _ _ _ _ (by decide)]; exact f13_64
  rw [← ha14] at h0 ⊢
  clear ha14
  refine wpAnyH_take (i := 14) (oi := an_14 s) (v := undef) (by kernel_rfl) (by kernel_rfl) (by kernel_rfl) (by kernel_rfl) (fun c a w h => hQ c _ _ _ w h) (Or.inr ⟨wanted_no rfl (by kernel_rfl) f14_64 (Nat.lt_of_le_of_lt (by decide) qz14), rfl⟩) (hk1 w2 hM1) ?_
  change wpAnyH _ _ _ _ _ _ _ (a0_14.put (some 67) (undef)) _
  obtain ⟨a0_15, ha15⟩ : ∃ rr : Act, rr = a0_14.put (some 67) (undef) := ⟨_, rfl⟩
  have qz15 : 70 < a0_15.tmps.size := by rw [ha15, sz_put]; exact qz14
  have f15_56 : a0_15.eval (.tmp 56) = .bool b := by rw [ha15, ev_other _ _ _ _ (by decide)]; exact f14_56
  have f15_64 : a0_15.eval (.tmp 64) = .bool false := by rw [ha15, ev_other _ _ _ _ (by decide)]; exact f14_64
  rw [← ha15] at h0 ⊢
  clear ha15
  refine wpAnyH_take (i := 15) (oi := an_15 s) (v := undef) (by kernel_rfl) (by kernel_rfl) (by kernel_rfl) (by kernel_rfl) (fun c a w h => hQ c _ _ _ w h) (Or.inr ⟨wanted_no rfl (by kernel_rfl) f15_64 (Nat.lt_of_le_of_lt (by decide) qz15), rfl⟩) (hk1 w2 hM1) ?_
  change wpAnyH _ _ _ _ _ _ _ (a0_15.put (some 68) (undef)) _
  obtain ⟨a0_16, ha16⟩ : ∃ rr : Act, rr = a0_15.put (some 68) (undef) := ⟨_, rfl⟩
  have qz16 : 70 < a0_16.tmps.size := by rw [ha16, sz_put]; exact qz15
  have f16_56 : a0_16.eval (.tmp 56) = .bool b := by rw [ha16, ev_other _ _ _ _ (by decide)]; exact f15_56
  have f16_64 : a0_16.eval (.tmp 64) = .bool false := by rw [ha16, ev_other _ _ _ _ (by decide)]; exact f15_64
  have f16_68 : a0_16.eval (.tmp 68) = undef := by rw [ha16]; exact ev_same _ _ _ (Nat.lt_of_le_of_lt (by decide) qz15)
  rw [← ha16] at h0 ⊢
  clear ha16
  refine wpAnyH_take (i := 16) (oi := an_16 s) (v := .bool false) (by kernel_rfl) (by kernel_rfl) (by kernel_rfl) (by kernel_rfl) (fun c a w h => hQ c _ _ _ w h) (Or.inl ⟨wanted_none rfl, fun w hw => by simp only [execOp, an_16, f16_64]; rfl⟩) (hk1 w2 hM1) ?_
  change wpAnyH _ _ _ _ _ _ _ (a0_16.put (some 69) (.bool false)) _
  obtain ⟨a0_17, ha17⟩ : ∃ rr : Act, rr = a0_16.put (some 69) (.bool false) := ⟨_, rfl⟩
  have qz17 : 70 < a0_17.tmps.size := by rw [ha17, sz_put]; exact qz16
  have f17_56 : a0_17.eval (.tmp 56) = .bool b := by rw [ha17, ev_other _ _ _ _ (by decide)]; exact f16_56
  have f17_69 : a0_17.eval (.tmp 69) = .bool false := by rw [ha17]; exact ev_same _ _ _ (Nat.lt_of_le_of_lt (by decide) qz16)
  rw [← ha17] at h0 ⊢
  clear ha17
  refine wpAnyH_take (i := 17) (oi := an_17 s) (v := .bool true) (by kernel_rfl) (by kernel_rfl) (by kernel_rfl) (by kernel_rfl) (fun c a w h => hQ c _ _ _ w h) (Or.inl ⟨wanted_none rfl, fun w hw => by subst hb; exact run_eqBB rfl f17_56 f17_69 w⟩) (hk1 w2 hM1) ?_
  change wpAnyH _ _ _ _ _ _ _ (a0_17.put (some 70) (.bool true)) _
  obtain ⟨a0_18, ha18⟩ : ∃ rr : Act, rr = a0_17.put (some 70) (.bool true) := ⟨_, rfl⟩
  have qz18 : 70 < a0_18.tmps.size := by rw [ha18, sz_put]; exact qz17
  have f18_70 : a0_18.eval (.tmp 70) = .bool true := by rw [ha18]; exact ev_same _ _ _ (Nat.lt_of_le_of_lt (by decide) qz17)
  rw [← ha18] at h0 ⊢
  clear ha18
  refine wpAnyH_take (i := 18) (oi := an_18 s) (v := .bool true) (by kernel_rfl) (by kernel_rfl) (by kernel_rfl) (by kernel_rfl) (fun c a w h => hQ c _ _ _ w h) (Or.inl ⟨wanted_none rfl, fun w hw => by simp only [execOp, an_18, f18_70]; rfl⟩) (hk1 w2 hM1) ?_
  change wpAnyH _ _ _ _ _ _ _ (a0_18.put (some 4) (.bool true)) _
  obtain ⟨a0_19, ha19⟩ : ∃ rr : Act, rr = a0_18.put (some 4) (.bool true) := ⟨_, rfl⟩
  have qz19 : 70 < a0_19.tmps.size := by rw [ha19, sz_put]; exact qz18
  rw [← ha19] at h0 ⊢
  clear ha19
  refine wpAnyH_done (by kernel_rfl) ?_ _
  exact h0
def dl_0 (s : String) : Oper := { dst := some 73, op := Op.move (Operand.tmp 7), type := 25, pos := s, after := #[], guard := none }
def dl_1 (s : String) : Oper := { dst := some 74, op := Op.fieldAddr 41 (Operand.tmp 3) 3, type := 0, pos := s, after := #[], guard := none }
def dl_2 (s : String) : Oper := { dst := some 75, op := Op.load 38 (Operand.tmp 74), type := 38, pos := s, after := #[{ on := 1, ground := Ground.data }], guard := none }
def dl_3 (s : String) : Oper := { dst := some 76, op := Op.call { callee := Callee.value (Operand.func 27), args := #[Operand.tmp 73, Operand.tmp 75], argTypes := #[25, 38] }, type := 4, pos := s, after := #[{ on := 0, ground := Ground.data }, { on := 2, ground := Ground.data }], guard := none }
def dl_4 (s : String) : Oper := { dst := some 77, op := Op.move (Operand.tmp 8), type := 27, pos := s, after := #[], guard := none }
def dl_5 (s : String) : Oper := { dst := some 78, op := Op.fieldAddr 41 (Operand.tmp 3) 3, type := 0, pos := s, after := #[], guard := none }
def dl_6 (s : String) : Oper := { dst := some 79, op := Op.load 38 (Operand.tmp 78), type := 38, pos := s, after := #[{ on := 5, ground := Ground.data }], guard := none }
def dl_7 (s : String) : Oper := { dst := some 80, op := Op.call { callee := Callee.value (Operand.func 28), args := #[Operand.tmp 77, Operand.tmp 79], argTypes := #[27, 38] }, type := 4, pos := s, after := #[{ on := 4, ground := Ground.data }, { on := 6, ground := Ground.data }, { on := 3, ground := Ground.chain }], guard := none }
def dl_8 (s : String) : Oper := { dst := some 81, op := Op.binOp BinOp.eql 4 (Operand.tmp 76) (Operand.tmp 80) 4, type := 4, pos := s, after := #[{ on := 3, ground := Ground.data }, { on := 7, ground := Ground.data }], guard := none }
def dl_9 (s : String) : Oper := { dst := some 4, op := Op.assign (Operand.tmp 81), type := 4, pos := s, after := #[{ on := 8, ground := Ground.data }, { on := 7, ground := Ground.chain }, { on := 0, ground := Ground.phase }, { on := 1, ground := Ground.phase }, { on := 2, ground := Ground.phase }, { on := 3, ground := Ground.phase }, { on := 4, ground := Ground.phase }, { on := 5, ground := Ground.phase }, { on := 6, ground := Ground.phase }, { on := 7, ground := Ground.phase }, { on := 8, ground := Ground.phase }], guard := none }
def dl_ops (s : String) : Array Oper := #[dl_0 s, dl_1 s, dl_2 s, dl_3 s, dl_4 s, dl_5 s, dl_6 s, dl_7 s, dl_8 s, dl_9 s]
theorem dl_enter3 (s : String) (a : Act) (w : World) : (execOp a.eval (dl_3 s)).run Try.prog w = .ok (.enter 27 #[a.eval (.tmp 73), a.eval (.tmp 75)]) w := by kernel_rfl
theorem dl_enter7 (s : String) (a : Act) (w : World) : (execOp a.eval (dl_7 s)).run Try.prog w = .ok (.enter 28 #[a.eval (.tmp 77), a.eval (.tmp 79)]) w := by kernel_rfl
theorem dl_walk (s : String) {Q : Exit → Act → World → Prop} (hQ : ∀ c (a : Act) t v w, Q (.panic c) (a.put (some t) v) w → Q (.panic c) a w) (W : World) (wz j z kb : Nat) (hj : j < 3) (q : Option Addr) (s0 : SK) (h32 : s0.key.length = 32) (b nn : Bool) (M1 : World → Prop) (M2 : World → World → Prop) (hS0 : W.drew.rangeAt kb 3 (s0.key.map u8c) ∧ True) (hc1 : Calls Try.prog 27 #[.pointer q, keyV s0.key] W.drew fun e w' => e = .returned (.bool b) ∧ M1 w') (hk1 : ∀ w2, M1 w2 → w2.rangeAt kb 3 (s0.key.map u8c) ∧ True) (hc2 : ∀ w2, M1 w2 → Calls Try.prog 28 #[.pointer (some ⟨z, 0, none⟩), keyV s0.key] w2 fun e w' => e = .returned (.bool b) ∧ M2 w2 w') (hk2 : ∀ w2 w3, M1 w2 → M2 w2 w3 → w3.rangeAt kb 3 (s0.key.map u8c) ∧ True)
    (a : Act) (hs : 81 < a.tmps.size) (e3 : a.eval (.tmp 3) = .pointer (some ⟨kb, 0, none⟩)) (e7 : a.eval (.tmp 7) = .pointer q) (e8 : a.eval (.tmp 8) = .pointer (some ⟨z, 0, none⟩))
    (h0 : ∀ w2, M1 w2 → ∀ w3, M2 w2 w3 → Q .normal ((((((((((a.put (some 73) (.pointer q)).put (some 74) (.pointer (some ⟨kb, 3, none⟩))).put (some 75) (keyV s0.key)).put (some 77) (.pointer (some ⟨z, 0, none⟩))).put (some 78) (.pointer (some ⟨kb, 3, none⟩))).put (some 79) (keyV s0.key)).put (some 76) (.bool b)).put (some 80) (.bool b)).put (some 81) (.bool true)).put (some 4) (.bool true)) w3) :
    Code.wp Try.prog (.region 11 (dl_ops s) true) Q a W := by
  refine wp_region_held_drew (S := fun w => w.rangeAt kb 3 (s0.key.map u8c) ∧ True) (by kernel_rfl) hS0 (fun hS => ?_)
  change wpAnyH _ _ _ _ _ _ _ _ (World.drew _)
  refine wpAnyH_take (i := 0) (oi := dl_0 s) (v := .pointer q) (by kernel_rfl) (by kernel_rfl) (by kernel_rfl) (by kernel_rfl) (fun c a w h => hQ c _ _ _ w h) (Or.inl ⟨wanted_none rfl, fun w hw => by simp only [execOp, dl_0, e7]; rfl⟩) hS ?_
  change wpAnyH _ _ _ _ _ _ _ (a.put (some 73) (.pointer q)) _
  obtain ⟨a0_1, ha1⟩ : ∃ rr : Act, rr = a.put (some 73) (.pointer q) := ⟨_, rfl⟩
  have qz1 : 81 < a0_1.tmps.size := by rw [ha1, sz_put]; exact hs
  have f1_3 : a0_1.eval (.tmp 3) = .pointer (some ⟨kb, 0, none⟩) := by rw [ha1, ev_other _ _ _ _ (by decide)]; exact e3
  have f1_8 : a0_1.eval (.tmp 8) = .pointer (some ⟨z, 0, none⟩) := by rw [ha1, ev_other _ _ _ _ (by decide)]; exact e8
  have f1_73 : a0_1.eval (.tmp 73) = .pointer q := by rw [ha1]; exact ev_same _ _ _ (Nat.lt_of_le_of_lt (by decide) hs)
  rw [← ha1] at h0 ⊢
  clear ha1
  refine wpAnyH_take (i := 1) (oi := dl_1 s) (v := .pointer (some ⟨kb, 3, none⟩)) (by kernel_rfl) (by kernel_rfl) (by kernel_rfl) (by kernel_rfl) (fun c a w h => hQ c _ _ _ w h) (Or.inl ⟨wanted_none rfl, fun w hw => fldS kb 3 3 (fS3 kb) rfl f1_3 w⟩) hS ?_
  change wpAnyH _ _ _ _ _ _ _ (a0_1.put (some 74) (.pointer (some ⟨kb, 3, none⟩))) _
  obtain ⟨a0_2, ha2⟩ : ∃ rr : Act, rr = a0_1.put (some 74) (.pointer (some ⟨kb, 3, none⟩)) := ⟨_, rfl⟩
  have qz2 : 81 < a0_2.tmps.size := by rw [ha2, sz_put]; exact qz1
  have f2_3 : a0_2.eval (.tmp 3) = .pointer (some ⟨kb, 0, none⟩) := by rw [ha2, ev_other _ _ _ _ (by decide)]; exact f1_3
  have f2_8 : a0_2.eval (.tmp 8) = .pointer (some ⟨z, 0, none⟩) := by rw [ha2, ev_other _ _ _ _ (by decide)]; exact f1_8
  have f2_73 : a0_2.eval (.tmp 73) = .pointer q := by rw [ha2, ev_other _ _ _ _ (by decide)]; exact f1_73
  have f2_74 : a0_2.eval (.tmp 74) = .pointer (some ⟨kb, 3, none⟩) := by rw [ha2]; exact ev_same _ _ _ (Nat.lt_of_le_of_lt (by decide) qz1)
  rw [← ha2] at h0 ⊢
  clear ha2
  refine wpAnyH_take (i := 2) (oi := dl_2 s) (v := keyV s0.key) (by kernel_rfl) (by kernel_rfl) (by kernel_rfl) (by kernel_rfl) (fun c a w h => hQ c _ _ _ w h) (Or.inl ⟨wanted_none rfl, fun w hw => run_loadK rfl f2_74 h32 hw.1⟩) hS ?_
  change wpAnyH _ _ _ _ _ _ _ (a0_2.put (some 75) (keyV s0.key)) _
  obtain ⟨a0_3, ha3⟩ : ∃ rr : Act, rr = a0_2.put (some 75) (keyV s0.key) := ⟨_, rfl⟩
  have qz3 : 81 < a0_3.tmps.size := by rw [ha3, sz_put]; exact qz2
  have f3_3 : a0_3.eval (.tmp 3) = .pointer (some ⟨kb, 0, none⟩) := by rw [ha3, ev_other _ _ _ _ (by decide)]; exact f2_3
  have f3_8 : a0_3.eval (.tmp 8) = .pointer (some ⟨z, 0, none⟩) := by rw [ha3, ev_other _ _ _ _ (by decide)]; exact f2_8
  have f3_73 : a0_3.eval (.tmp 73) = .pointer q := by rw [ha3, ev_other _ _ _ _ (by decide)]; exact f2_73
  have f3_75 : a0_3.eval (.tmp 75) = keyV s0.key := by rw [ha3]; exact ev_same _ _ _ (Nat.lt_of_le_of_lt (by decide) qz2)
  rw [← ha3] at h0 ⊢
  clear ha3
  refine wpAnyH_take (i := 4) (oi := dl_4 s) (v := .pointer (some ⟨z, 0, none⟩)) (by kernel_rfl) (by kernel_rfl) (by kernel_rfl) (by kernel_rfl) (fun c a w h => hQ c _ _ _ w h) (Or.inl ⟨wanted_none rfl, fun w hw => by simp only [execOp, dl_4, f3_8]; rfl⟩) hS ?_
  change wpAnyH _ _ _ _ _ _ _ (a0_3.put (some 77) (.pointer (some ⟨z, 0, none⟩))) _
  obtain ⟨a0_4, ha4⟩ : ∃ rr : Act, rr = a0_3.put (some 77) (.pointer (some ⟨z, 0, none⟩)) := ⟨_, rfl⟩
  have qz4 : 81 < a0_4.tmps.size := by rw [ha4, sz_put]; exact qz3
  have f4_3 : a0_4.eval (.tmp 3) = .pointer (some ⟨kb, 0, none⟩) := by rw [ha4, ev_other _ _ _ _ (by decide)]; exact f3_3
  have f4_73 : a0_4.eval (.tmp 73) = .pointer q := by rw [ha4, ev_other _ _ _ _ (by decide)]; exact f3_73
  have f4_75 : a0_4.eval (.tmp 75) = keyV s0.key := by rw [ha4, ev_other _ _ _ _ (by decide)]; exact f3_75
  have f4_77 : a0_4.eval (.tmp 77) = .pointer (some ⟨z, 0, none⟩) := by rw [ha4]; exact ev_same _ _ _ (Nat.lt_of_le_of_lt (by decide) qz3)
  rw [← ha4] at h0 ⊢
  clear ha4
  refine wpAnyH_take (i := 5) (oi := dl_5 s) (v := .pointer (some ⟨kb, 3, none⟩)) (by kernel_rfl) (by kernel_rfl) (by kernel_rfl) (by kernel_rfl) (fun c a w h => hQ c _ _ _ w h) (Or.inl ⟨wanted_none rfl, fun w hw => fldS kb 3 3 (fS3 kb) rfl f4_3 w⟩) hS ?_
  change wpAnyH _ _ _ _ _ _ _ (a0_4.put (some 78) (.pointer (some ⟨kb, 3, none⟩))) _
  obtain ⟨a0_5, ha5⟩ : ∃ rr : Act, rr = a0_4.put (some 78) (.pointer (some ⟨kb, 3, none⟩)) := ⟨_, rfl⟩
  have qz5 : 81 < a0_5.tmps.size := by rw [ha5, sz_put]; exact qz4
  have f5_73 : a0_5.eval (.tmp 73) = .pointer q := by rw [ha5, ev_other _ _ _ _ (by decide)]; exact f4_73
  have f5_75 : a0_5.eval (.tmp 75) = keyV s0.key := by rw [ha5, ev_other _ _ _ _ (by decide)]; exact f4_75
  have f5_77 : a0_5.eval (.tmp 77) = .pointer (some ⟨z, 0, none⟩) := by rw [ha5, ev_other _ _ _ _ (by decide)]; exact f4_77
  have f5_78 : a0_5.eval (.tmp 78) = .pointer (some ⟨kb, 3, none⟩) := by rw [ha5]; exact ev_same _ _ _ (Nat.lt_of_le_of_lt (by decide) qz4)
  rw [← ha5] at h0 ⊢
  clear ha5
  refine wpAnyH_take (i := 6) (oi := dl_6 s) (v := keyV s0.key) (by kernel_rfl) (by kernel_rfl) (by kernel_rfl) (by kernel_rfl) (fun c a w h => hQ c _ _ _ w h) (Or.inl ⟨wanted_none rfl, fun w hw => run_loadK rfl f5_78 h32 hw.1⟩) hS ?_
  change wpAnyH _ _ _ _ _ _ _ (a0_5.put (some 79) (keyV s0.key)) _
  obtain ⟨a0_6, ha6⟩ : ∃ rr : Act, rr = a0_5.put (some 79) (keyV s0.key) := ⟨_, rfl⟩
  have qz6 : 81 < a0_6.tmps.size := by rw [ha6, sz_put]; exact qz5
  have f6_73 : a0_6.eval (.tmp 73) = .pointer q := by rw [ha6, ev_other _ _ _ _ (by decide)]; exact f5_73
  have f6_75 : a0_6.eval (.tmp 75) = keyV s0.key := by rw [ha6, ev_other _ _ _ _ (by decide)]; exact f5_75
  have f6_77 : a0_6.eval (.tmp 77) = .pointer (some ⟨z, 0, none⟩) := by rw [ha6, ev_other _ _ _ _ (by decide)]; exact f5_77
  have f6_79 : a0_6.eval (.tmp 79) = keyV s0.key := by rw [ha6]; exact ev_same _ _ _ (Nat.lt_of_le_of_lt (by decide) qz5)
  rw [← ha6] at h0 ⊢
  clear ha6
  refine wpAnyH_ready (rs := [3]) (by kernel_rfl) (by simp) ?_
  refine AllReadyH.cons (o := dl_3 s) (by kernel_rfl) (fun KQ hKQ => ?_) AllReadyH.nil
  rw [if_pos (wanted_none rfl)]
  refine step_enterE 27 #[.pointer q, keyV s0.key] (by rw [dl_enter3, f6_73, f6_75]) (fun V w' => V = .bool b ∧ M1 w') (hc1.mono (fun e w' ⟨h1, h2⟩ => ⟨_, h1, rfl, h2⟩)) ?_
  rintro _ w2 ⟨rfl, hM1⟩
  refine hKQ.out _ _ (hk1 w2 hM1) (fun _ => ?_)
  clear hKQ KQ
  change wpAnyH _ _ _ _ _ _ _ (a0_6.put (some 76) (.bool b)) _
  have h0 := h0 w2 hM1
  obtain ⟨a0_7, ha7⟩ : ∃ rr : Act, rr = a0_6.put (some 76) (.bool b) := ⟨_, rfl⟩
  have qz7 : 81 < a0_7.tmps.size := by rw [ha7, sz_put]; exact qz6
  have f7_76 : a0_7.eval (.tmp 76) = .bool b := by rw [ha7]; exact ev_same _ _ _ (Nat.lt_of_le_of_lt (by decide) qz6)
  have f7_77 : a0_7.eval (.tmp 77) = .pointer (some ⟨z, 0, none⟩) := by rw [ha7, ev_other _ _ _ _ (by decide)]; exact f6_77
  have f7_79 : a0_7.eval (.tmp 79) = keyV s0.key := by rw [ha7, ev_other _ _ _ _ (by decide)]; exact f6_79
  rw [← ha7] at h0 ⊢
  clear ha7
  refine wpAnyH_ready (rs := [7]) (by kernel_rfl) (by simp) ?_
  refine AllReadyH.cons (o := dl_7 s) (by kernel_rfl) (fun KQ hKQ => ?_) AllReadyH.nil
  rw [if_pos (wanted_none rfl)]
  refine step_enterE 28 #[.pointer (some ⟨z, 0, none⟩), keyV s0.key] (by rw [dl_enter7, f7_77, f7_79]) (fun V w' => V = .bool b ∧ M2 w2 w') ((hc2 w2 hM1).mono (fun e w' ⟨h1, h2⟩ => ⟨_, h1, rfl, h2⟩)) ?_
  rintro _ w3 ⟨rfl, hM2⟩
  refine hKQ.out _ _ (hk2 w2 w3 hM1 hM2) (fun _ => ?_)
  clear hKQ KQ
  change wpAnyH _ _ _ _ _ _ _ (a0_7.put (some 80) (.bool b)) _
  have h0 := h0 w3 hM2
  obtain ⟨a0_8, ha8⟩ : ∃ rr : Act, rr = a0_7.put (some 80) (.bool b) := ⟨_, rfl⟩
  have qz8 : 81 < a0_8.tmps.size := by rw [ha8, sz_put]; exact qz7
  have f8_76 : a0_8.eval (.tmp 76) = .bool b := by rw [ha8, ev_other _ _ _ _ (by decide)]; exact f7_76
  have f8_80 : a0_8.eval (.tmp 80) = .bool b := by rw [ha8]; exact ev_same _ _ _ (Nat.lt_of_le_of_lt (by decide) qz7)
  rw [← ha8] at h0 ⊢
  clear ha8
  refine wpAnyH_take (i := 8) (oi := dl_8 s) (v := .bool true) (by kernel_rfl) (by kernel_rfl) (by kernel_rfl) (by kernel_rfl) (fun c a w h => hQ c _ _ _ w h) (Or.inl ⟨wanted_none rfl, fun w hw => run_eqBB rfl f8_76 f8_80 w⟩) (hk2 w2 w3 hM1 hM2) ?_
  change wpAnyH _ _ _ _ _ _ _ (a0_8.put (some 81) (.bool true)) _
  obtain ⟨a0_9, ha9⟩ : ∃ rr : Act, rr = a0_8.put (some 81) (.bool true) := ⟨_, rfl⟩
  have qz9 : 81 < a0_9.tmps.size := by rw [ha9, sz_put]; exact qz8
  have f9_81 : a0_9.eval (.tmp 81) = .bool true := by rw [ha9]; exact ev_same _ _ _ (Nat.lt_of_le_of_lt (by decide) qz8)
  rw [← ha9] at h0 ⊢
  clear ha9
  refine wpAnyH_take (i := 9) (oi := dl_9 s) (v := .bool true) (by kernel_rfl) (by kernel_rfl) (by kernel_rfl) (by kernel_rfl) (fun c a w h => hQ c _ _ _ w h) (Or.inl ⟨wanted_none rfl, fun w hw => by simp only [execOp, dl_9, f9_81]; rfl⟩) (hk2 w2 w3 hM1 hM2) ?_
  change wpAnyH _ _ _ _ _ _ _ (a0_9.put (some 4) (.bool true)) _
  obtain ⟨a0_10, ha10⟩ : ∃ rr : Act, rr = a0_9.put (some 4) (.bool true) := ⟨_, rfl⟩
  have qz10 : 81 < a0_10.tmps.size := by rw [ha10, sz_put]; exact qz9
  rw [← ha10] at h0 ⊢
  clear ha10
  refine wpAnyH_done (by kernel_rfl) ?_ _
  exact h0
def un_0 (s : String) : Oper := { dst := some 84, op := Op.move (Operand.tmp 0), type := 24, pos := s, after := #[], guard := none }
def un_1 (s : String) : Oper := { dst := some 85, op := Op.move (Operand.tmp 6), type := 3, pos := s, after := #[], guard := none }
def un_2 (s : String) : Oper := { dst := some 86, op := Op.binOp BinOp.add 3 (Operand.tmp 85) (Operand.const (Value.int IntKind.i64 1)) 3, type := 3, pos := s, after := #[{ on := 1, ground := Ground.data }], guard := none }
def un_3 (s : String) : Oper := { dst := some 87, op := Op.call { callee := Callee.value (Operand.func 17), args := #[Operand.tmp 86], argTypes := #[3] }, type := 3, pos := s, after := #[{ on := 2, ground := Ground.data }], guard := none }
def un_4 (s : String) : Oper := { dst := some 88, op := Op.move (Operand.tmp 7), type := 25, pos := s, after := #[], guard := none }
def un_5 (s : String) : Oper := { dst := some 89, op := Op.move (Operand.tmp 0), type := 24, pos := s, after := #[], guard := none }
def un_6 (s : String) : Oper := { dst := some 90, op := Op.move (Operand.tmp 6), type := 3, pos := s, after := #[], guard := none }
def un_7 (s : String) : Oper := { dst := some 91, op := Op.nilCheck (Operand.tmp 89), type := 0, pos := s, after := #[{ on := 5, ground := Ground.data }], guard := none }
def un_8 (s : String) : Oper := { dst := some 92, op := Op.fieldAddr 32 (Operand.tmp 91) 0, type := 0, pos := s, after := #[{ on := 7, ground := Ground.data }], guard := none }
def un_9 (s : String) : Oper := { dst := some 93, op := Op.indexAddr 26 (Operand.tmp 92) (Operand.tmp 90), type := 0, pos := s, after := #[{ on := 8, ground := Ground.data }, { on := 6, ground := Ground.data }], guard := none }
def un_10 (s : String) : Oper := { dst := some 94, op := Op.load 25 (Operand.tmp 93), type := 25, pos := s, after := #[{ on := 9, ground := Ground.data }], guard := none }
def un_11 (s : String) : Oper := { dst := some 95, op := Op.call { callee := Callee.value (Operand.func 29), args := #[Operand.tmp 88, Operand.tmp 94], argTypes := #[25, 25] }, type := 25, pos := s, after := #[{ on := 4, ground := Ground.data }, { on := 10, ground := Ground.data }, { on := 3, ground := Ground.chain }], guard := none }
def un_12 (s : String) : Oper := { dst := some 96, op := Op.move (Operand.tmp 8), type := 27, pos := s, after := #[], guard := none }
def un_13 (s : String) : Oper := { dst := some 97, op := Op.move (Operand.tmp 0), type := 24, pos := s, after := #[], guard := none }
def un_14 (s : String) : Oper := { dst := some 98, op := Op.move (Operand.tmp 6), type := 3, pos := s, after := #[], guard := none }
def un_15 (s : String) : Oper := { dst := some 99, op := Op.nilCheck (Operand.tmp 97), type := 0, pos := s, after := #[{ on := 13, ground := Ground.data }], guard := none }
def un_16 (s : String) : Oper := { dst := some 100, op := Op.fieldAddr 32 (Operand.tmp 99) 1, type := 0, pos := s, after := #[{ on := 15, ground := Ground.data }], guard := none }
def un_17 (s : String) : Oper := { dst := some 101, op := Op.indexAddr 28 (Operand.tmp 100) (Operand.tmp 98), type := 0, pos := s, after := #[{ on := 16, ground := Ground.data }, { on := 14, ground := Ground.data }], guard := none }
def un_18 (s : String) : Oper := { dst := some 102, op := Op.load 27 (Operand.tmp 101), type := 27, pos := s, after := #[{ on := 17, ground := Ground.data }], guard := none }
def un_19 (s : String) : Oper := { dst := some 103, op := Op.call { callee := Callee.value (Operand.func 30), args := #[Operand.tmp 96, Operand.tmp 102], argTypes := #[27, 27] }, type := 27, pos := s, after := #[{ on := 12, ground := Ground.data }, { on := 18, ground := Ground.data }, { on := 11, ground := Ground.chain }], guard := none }
def un_20 (s : String) : Oper := { dst := some 104, op := Op.call { callee := Callee.value (Operand.func 5), args := #[Operand.tmp 84, Operand.tmp 87, Operand.tmp 95, Operand.tmp 103], argTypes := #[24, 3, 25, 27] }, type := 4, pos := s, after := #[{ on := 0, ground := Ground.data }, { on := 3, ground := Ground.data }, { on := 11, ground := Ground.data }, { on := 19, ground := Ground.data }, { on := 19, ground := Ground.chain }], guard := none }
def un_21 (s : String) : Oper := { dst := some 4, op := Op.assign (Operand.tmp 104), type := 4, pos := s, after := #[{ on := 20, ground := Ground.data }, { on := 20, ground := Ground.chain }, { on := 0, ground := Ground.phase }, { on := 1, ground := Ground.phase }, { on := 2, ground := Ground.phase }, { on := 3, ground := Ground.phase }, { on := 4, ground := Ground.phase }, { on := 5, ground := Ground.phase }, { on := 6, ground := Ground.phase }, { on := 7, ground := Ground.phase }, { on := 8, ground := Ground.phase }, { on := 9, ground := Ground.phase }, { on := 10, ground := Ground.phase }, { on := 11, ground := Ground.phase }, { on := 12, ground := Ground.phase }, { on := 13, ground := Ground.phase }, { on := 14, ground := Ground.phase }, { on := 15, ground := Ground.phase }, { on := 16, ground := Ground.phase }, { on := 17, ground := Ground.phase }, { on := 18, ground := Ground.phase }, { on := 19, ground := Ground.phase }, { on := 20, ground := Ground.phase }], guard := none }
def un_ops (s : String) : Array Oper := #[un_0 s, un_1 s, un_2 s, un_3 s, un_4 s, un_5 s, un_6 s, un_7 s, un_8 s, un_9 s, un_10 s, un_11 s, un_12 s, un_13 s, un_14 s, un_15 s, un_16 s, un_17 s, un_18 s, un_19 s, un_20 s, un_21 s]
theorem un_enter3 (s : String) (a : Act) (w : World) : (execOp a.eval (un_3 s)).run Try.prog w = .ok (.enter 17 #[a.eval (.tmp 86)]) w := by kernel_rfl
theorem un_enter11 (s : String) (a : Act) (w : World) : (execOp a.eval (un_11 s)).run Try.prog w = .ok (.enter 29 #[a.eval (.tmp 88), a.eval (.tmp 94)]) w := by kernel_rfl
theorem un_enter19 (s : String) (a : Act) (w : World) : (execOp a.eval (un_19 s)).run Try.prog w = .ok (.enter 30 #[a.eval (.tmp 96), a.eval (.tmp 102)]) w := by kernel_rfl
theorem un_enter20 (s : String) (a : Act) (w : World) : (execOp a.eval (un_20 s)).run Try.prog w = .ok (.enter 5 #[a.eval (.tmp 84), a.eval (.tmp 87), a.eval (.tmp 95), a.eval (.tmp 103)]) w := by kernel_rfl
theorem un_walk (s : String) {Q : Exit → Act → World → Prop} (hQ : ∀ c (a : Act) t v w, Q (.panic c) (a.put (some t) v) w → Q (.panic c) a w) (W : World) (wz j j2 z zj : Nat) (hj : j < 3) (q qj : Option Addr) (M0 : World → Prop) (M1 : World → Nat → World → Prop) (M2 : World → Nat → World → Nat → World → Prop) (M3 : World → Nat → World → Nat → World → World → Prop) (hS0 : W.drew.cell? ⟨wz, j, none⟩ = some (.pointer qj) ∧ W.drew.cell? ⟨wz, 3 + j, none⟩ = some (.pointer (some ⟨zj, 0, none⟩))) (hc0 : Calls Try.prog 17 #[.int .i64 ((j : Int) + 1)] W.drew fun e w' => e = .returned (.int .i64 (j2 : Int)) ∧ M0 w') (hk0 : ∀ w1, M0 w1 → w1.cell? ⟨wz, j, none⟩ = some (.pointer qj) ∧ w1.cell? ⟨wz, 3 + j, none⟩ = some (.pointer (some ⟨zj, 0, none⟩))) (hc1 : ∀ w1, M0 w1 → Calls Try.prog 29 #[.pointer q, .pointer qj] w1 fun e w' => ∃ zp, e = .returned (.pointer (some ⟨zp, 0, none⟩)) ∧ M1 w1 zp w') (hk1 : ∀ w1 zp w2, M0 w1 → M1 w1 zp w2 → w2.cell? ⟨wz, j, none⟩ = some (.pointer qj) ∧ w2.cell? ⟨wz, 3 + j, none⟩ = some (.pointer (some ⟨zj, 0, none⟩))) (hc2 : ∀ w1 zp w2, M0 w1 → M1 w1 zp w2 → Calls Try.prog 30 #[.pointer (some ⟨z, 0, none⟩), .pointer (some ⟨zj, 0, none⟩)] w2 fun e w' => ∃ zn, e = .returned (.pointer (some ⟨zn, 0, none⟩)) ∧ M2 w1 zp w2 zn w') (hk2 : ∀ w1 zp w2 zn w3, M0 w1 → M1 w1 zp w2 → M2 w1 zp w2 zn w3 → w3.cell? ⟨wz, j, none⟩ = some (.pointer qj) ∧ w3.cell? ⟨wz, 3 + j, none⟩ = some (.pointer (some ⟨zj, 0, none⟩))) (hc3 : ∀ w1 zp w2 zn w3, M0 w1 → M1 w1 zp w2 → M2 w1 zp w2 zn w3 → Calls Try.prog 5 #[.pointer (some ⟨wz, 0, none⟩), .int .i64 (j2 : Int), .pointer (some ⟨zp, 0, none⟩), .pointer (some ⟨zn, 0, none⟩)] w3 fun e w' => e = .returned (.bool true) ∧ M3 w1 zp w2 zn w3 w') (hk3 : ∀ w1 zp w2 zn w3 w4, M0 w1 → M1 w1 zp w2 → M2 w1 zp w2 zn w3 → M3 w1 zp w2 zn w3 w4 → w4.cell? ⟨wz, j, none⟩ = some (.pointer qj) ∧ w4.cell? ⟨wz, 3 + j, none⟩ = some (.pointer (some ⟨zj, 0, none⟩)))
    (a : Act) (hs : 104 < a.tmps.size) (e0 : a.eval (.tmp 0) = .pointer (some ⟨wz, 0, none⟩)) (e6 : a.eval (.tmp 6) = .int .i64 (j : Int)) (e7 : a.eval (.tmp 7) = .pointer q) (e8 : a.eval (.tmp 8) = .pointer (some ⟨z, 0, none⟩))
    (h0 : ∀ w1, M0 w1 → ∀ zp w2, M1 w1 zp w2 → ∀ zn w3, M2 w1 zp w2 zn w3 → ∀ w4, M3 w1 zp w2 zn w3 w4 → Q .normal ((((((((((((((((((((((a.put (some 84) (.pointer (some ⟨wz, 0, none⟩))).put (some 85) (.int .i64 (j : Int))).put (some 86) (.int .i64 ((j : Int) + 1))).put (some 88) (.pointer q)).put (some 89) (.pointer (some ⟨wz, 0, none⟩))).put (some 90) (.int .i64 (j : Int))).put (some 91) (.pointer (some ⟨wz, 0, none⟩))).put (some 92) (.pointer (some ⟨wz, 0, none⟩))).put (some 93) (.pointer (some ⟨wz, j, none⟩))).put (some 94) (.pointer qj)).put (some 96) (.pointer (some ⟨z, 0, none⟩))).put (some 97) (.pointer (some ⟨wz, 0, none⟩))).put (some 98) (.int .i64 (j : Int))).put (some 99) (.pointer (some ⟨wz, 0, none⟩))).put (some 100) (.pointer (some ⟨wz, 3, none⟩))).put (some 101) (.pointer (some ⟨wz, 3 + j, none⟩))).put (some 102) (.pointer (some ⟨zj, 0, none⟩))).put (some 87) (.int .i64 (j2 : Int))).put (some 95) (.pointer (some ⟨zp, 0, none⟩))).put (some 103) (.pointer (some ⟨zn, 0, none⟩))).put (some 104) (.bool true)).put (some 4) (.bool true)) w4) :
    Code.wp Try.prog (.region 13 (un_ops s) true) Q a W := by
  refine wp_region_held_drew (S := fun w => w.cell? ⟨wz, j, none⟩ = some (.pointer qj) ∧ w.cell? ⟨wz, 3 + j, none⟩ = some (.pointer (some ⟨zj, 0, none⟩))) (by kernel_rfl) hS0 (fun hS => ?_)
  change wpAnyH _ _ _ _ _ _ _ _ (World.drew _)
  refine wpAnyH_take (i := 0) (oi := un_0 s) (v := .pointer (some ⟨wz, 0, none⟩)) (by kernel_rfl) (by kernel_rfl) (by kernel_rfl) (by kernel_rfl) (fun c a w h => hQ c _ _ _ w h) (Or.inl ⟨wanted_none rfl, fun w hw => by simp only [execOp, un_0, e0]; rfl⟩) hS ?_
  change wpAnyH _ _ _ _ _ _ _ (a.put (some 84) (.pointer (some ⟨wz, 0, none⟩))) _
  obtain ⟨a0_1, ha1⟩ : ∃ rr : Act, rr = a.put (some 84) (.pointer (some ⟨wz, 0, none⟩)) := ⟨_, rfl⟩
  have qz1 : 104 < a0_1.tmps.size := by rw [ha1, sz_put]; exact hs
  have f1_0 : a0_1.eval (.tmp 0) = .pointer (some ⟨wz, 0, none⟩) := by rw [ha1, ev_other _ _ _ _ (by decide)]; exact e0
  have f1_6 : a0_1.eval (.tmp 6) = .int .i64 (j : Int) := by rw [ha1, ev_other _ _ _ _ (by decide)]; exact e6
  have f1_7 : a0_1.eval (.tmp 7) = .pointer q := by rw [ha1, ev_other _ _ _ _ (by decide)]; exact e7
  have f1_8 : a0_1.eval (.tmp 8) = .pointer (some ⟨z, 0, none⟩) := by rw [ha1, ev_other _ _ _ _ (by decide)]; exact e8
  have f1_84 : a0_1.eval (.tmp 84) = .pointer (some ⟨wz, 0, none⟩) := by rw [ha1]; exact ev_same _ _ _ (Nat.lt_of_le_of_lt (by decide) hs)
  rw [← ha1] at h0 ⊢
  clear ha1
  refine wpAnyH_take (i := 1) (oi := un_1 s) (v := .int .i64 (j : Int)) (by kernel_rfl) (by kernel_rfl) (by kernel_rfl) (by kernel_rfl) (fun c a w h => hQ c _ _ _ w h) (Or.inl ⟨wanted_none rfl, fun w hw => by simp only [execOp, un_1, f1_6]; rfl⟩) hS ?_
  change wpAnyH _ _ _ _ _ _ _ (a0_1.put (some 85) (.int .i64 (j : Int))) _
  obtain ⟨a0_2, ha2⟩ : ∃ rr : Act, rr = a0_1.put (some 85) (.int .i64 (j : Int)) := ⟨_, rfl⟩
  have qz2 : 104 < a0_2.tmps.size := by rw [ha2, sz_put]; exact qz1
  have f2_0 : a0_2.eval (.tmp 0) = .pointer (some ⟨wz, 0, none⟩) := by rw [ha2, ev_other _ _ _ _ (by decide)]; exact f1_0
  have f2_6 : a0_2.eval (.tmp 6) = .int .i64 (j : Int) := by rw [ha2, ev_other _ _ _ _ (by decide)]; exact f1_6
  have f2_7 : a0_2.eval (.tmp 7) = .pointer q := by rw [ha2, ev_other _ _ _ _ (by decide)]; exact f1_7
  have f2_8 : a0_2.eval (.tmp 8) = .pointer (some ⟨z, 0, none⟩) := by rw [ha2, ev_other _ _ _ _ (by decide)]; exact f1_8
  have f2_84 : a0_2.eval (.tmp 84) = .pointer (some ⟨wz, 0, none⟩) := by rw [ha2, ev_other _ _ _ _ (by decide)]; exact f1_84
  have f2_85 : a0_2.eval (.tmp 85) = .int .i64 (j : Int) := by rw [ha2]; exact ev_same _ _ _ (Nat.lt_of_le_of_lt (by decide) qz1)
  rw [← ha2] at h0 ⊢
  clear ha2
  refine wpAnyH_take (i := 2) (oi := un_2 s) (v := .int .i64 ((j : Int) + 1)) (by kernel_rfl) (by kernel_rfl) (by kernel_rfl) (by kernel_rfl) (fun c a w h => hQ c _ _ _ w h) (Or.inl ⟨wanted_none rfl, fun w hw => run_add1 rfl f2_85 rfl hj w⟩) hS ?_
  change wpAnyH _ _ _ _ _ _ _ (a0_2.put (some 86) (.int .i64 ((j : Int) + 1))) _
  obtain ⟨a0_3, ha3⟩ : ∃ rr : Act, rr = a0_2.put (some 86) (.int .i64 ((j : Int) + 1)) := ⟨_, rfl⟩
  have qz3 : 104 < a0_3.tmps.size := by rw [ha3, sz_put]; exact qz2
  have f3_0 : a0_3.eval (.tmp 0) = .pointer (some ⟨wz, 0, none⟩) := by rw [ha3, ev_other _ _ _ _ (by decide)]; exact f2_0
  have f3_6 : a0_3.eval (.tmp 6) = .int .i64 (j : Int) := by rw [ha3, ev_other _ _ _ _ (by decide)]; exact f2_6
  have f3_7 : a0_3.eval (.tmp 7) = .pointer q := by rw [ha3, ev_other _ _ _ _ (by decide)]; exact f2_7
  have f3_8 : a0_3.eval (.tmp 8) = .pointer (some ⟨z, 0, none⟩) := by rw [ha3, ev_other _ _ _ _ (by decide)]; exact f2_8
  have f3_84 : a0_3.eval (.tmp 84) = .pointer (some ⟨wz, 0, none⟩) := by rw [ha3, ev_other _ _ _ _ (by decide)]; exact f2_84
  have f3_86 : a0_3.eval (.tmp 86) = .int .i64 ((j : Int) + 1) := by rw [ha3]; exact ev_same _ _ _ (Nat.lt_of_le_of_lt (by decide) qz2)
  rw [← ha3] at h0 ⊢
  clear ha3
  refine wpAnyH_take (i := 4) (oi := un_4 s) (v := .pointer q) (by kernel_rfl) (by kernel_rfl) (by kernel_rfl) (by kernel_rfl) (fun c a w h => hQ c _ _ _ w h) (Or.inl ⟨wanted_none rfl, fun w hw => by simp only [execOp, un_4, f3_7]; rfl⟩) hS ?_
  change wpAnyH _ _ _ _ _ _ _ (a0_3.put (some 88) (.pointer q)) _
  obtain ⟨a0_4, ha4⟩ : ∃ rr : Act, rr = a0_3.put (some 88) (.pointer q) := ⟨_, rfl⟩
  have qz4 : 104 < a0_4.tmps.size := by rw [ha4, sz_put]; exact qz3
  have f4_0 : a0_4.eval (.tmp 0) = .pointer (some ⟨wz, 0, none⟩) := by rw [ha4, ev_other _ _ _ _ (by decide)]; exact f3_0
  have f4_6 : a0_4.eval (.tmp 6) = .int .i64 (j : Int) := by rw [ha4, ev_other _ _ _ _ (by decide)]; exact f3_6
  have f4_8 : a0_4.eval (.tmp 8) = .pointer (some ⟨z, 0, none⟩) := by rw [ha4, ev_other _ _ _ _ (by decide)]; exact f3_8
  have f4_84 : a0_4.eval (.tmp 84) = .pointer (some ⟨wz, 0, none⟩) := by rw [ha4, ev_other _ _ _ _ (by decide)]; exact f3_84
  have f4_86 : a0_4.eval (.tmp 86) = .int .i64 ((j : Int) + 1) := by rw [ha4, ev_other _ _ _ _ (by decide)]; exact f3_86
  have f4_88 : a0_4.eval (.tmp 88) = .pointer q := by rw [ha4]; exact ev_same _ _ _ (Nat.lt_of_le_of_lt (by decide) qz3)
  rw [← ha4] at h0 ⊢
  clear ha4
  refine wpAnyH_take (i := 5) (oi := un_5 s) (v := .pointer (some ⟨wz, 0, none⟩)) (by kernel_rfl) (by kernel_rfl) (by kernel_rfl) (by kernel_rfl) (fun c a w h => hQ c _ _ _ w h) (Or.inl ⟨wanted_none rfl, fun w hw => by simp only [execOp, un_5, f4_0]; rfl⟩) hS ?_
  change wpAnyH _ _ _ _ _ _ _ (a0_4.put (some 89) (.pointer (some ⟨wz, 0, none⟩))) _
  obtain ⟨a0_5, ha5⟩ : ∃ rr : Act, rr = a0_4.put (some 89) (.pointer (some ⟨wz, 0, none⟩)) := ⟨_, rfl⟩
  have qz5 : 104 < a0_5.tmps.size := by rw [ha5, sz_put]; exact qz4
  have f5_0 : a0_5.eval (.tmp 0) = .pointer (some ⟨wz, 0, none⟩) := by rw [ha5, ev_other _ _ _ _ (by decide)]; exact f4_0
  have f5_6 : a0_5.eval (.tmp 6) = .int .i64 (j : Int) := by rw [ha5, ev_other _ _ _ _ (by decide)]; exact f4_6
  have f5_8 : a0_5.eval (.tmp 8) = .pointer (some ⟨z, 0, none⟩) := by rw [ha5, ev_other _ _ _ _ (by decide)]; exact f4_8
  have f5_84 : a0_5.eval (.tmp 84) = .pointer (some ⟨wz, 0, none⟩) := by rw [ha5, ev_other _ _ _ _ (by decide)]; exact f4_84
  have f5_86 : a0_5.eval (.tmp 86) = .int .i64 ((j : Int) + 1) := by rw [ha5, ev_other _ _ _ _ (by decide)]; exact f4_86
  have f5_88 : a0_5.eval (.tmp 88) = .pointer q := by rw [ha5, ev_other _ _ _ _ (by decide)]; exact f4_88
  have f5_89 : a0_5.eval (.tmp 89) = .pointer (some ⟨wz, 0, none⟩) := by rw [ha5]; exact ev_same _ _ _ (Nat.lt_of_le_of_lt (by decide) qz4)
  rw [← ha5] at h0 ⊢
  clear ha5
  refine wpAnyH_take (i := 6) (oi := un_6 s) (v := .int .i64 (j : Int)) (by kernel_rfl) (by kernel_rfl) (by kernel_rfl) (by kernel_rfl) (fun c a w h => hQ c _ _ _ w h) (Or.inl ⟨wanted_none rfl, fun w hw => by simp only [execOp, un_6, f5_6]; rfl⟩) hS ?_
  change wpAnyH _ _ _ _ _ _ _ (a0_5.put (some 90) (.int .i64 (j : Int))) _
  obtain ⟨a0_6, ha6⟩ : ∃ rr : Act, rr = a0_5.put (some 90) (.int .i64 (j : Int)) := ⟨_, rfl⟩
  have qz6 : 104 < a0_6.tmps.size := by rw [ha6, sz_put]; exact qz5
  have f6_0 : a0_6.eval (.tmp 0) = .pointer (some ⟨wz, 0, none⟩) := by rw [ha6, ev_other _ _ _ _ (by decide)]; exact f5_0
  have f6_6 : a0_6.eval (.tmp 6) = .int .i64 (j : Int) := by rw [ha6, ev_other _ _ _ _ (by decide)]; exact f5_6
  have f6_8 : a0_6.eval (.tmp 8) = .pointer (some ⟨z, 0, none⟩) := by rw [ha6, ev_other _ _ _ _ (by decide)]; exact f5_8
  have f6_84 : a0_6.eval (.tmp 84) = .pointer (some ⟨wz, 0, none⟩) := by rw [ha6, ev_other _ _ _ _ (by decide)]; exact f5_84
  have f6_86 : a0_6.eval (.tmp 86) = .int .i64 ((j : Int) + 1) := by rw [ha6, ev_other _ _ _ _ (by decide)]; exact f5_86
  have f6_88 : a0_6.eval (.tmp 88) = .pointer q := by rw [ha6, ev_other _ _ _ _ (by decide)]; exact f5_88
  have f6_89 : a0_6.eval (.tmp 89) = .pointer (some ⟨wz, 0, none⟩) := by rw [ha6, ev_other _ _ _ _ (by decide)]; exact f5_89
  have f6_90 : a0_6.eval (.tmp 90) = .int .i64 (j : Int) := by rw [ha6]; exact ev_same _ _ _ (Nat.lt_of_le_of_lt (by decide) qz5)
  rw [← ha6] at h0 ⊢
  clear ha6
  refine wpAnyH_take (i := 7) (oi := un_7 s) (v := .pointer (some ⟨wz, 0, none⟩)) (by kernel_rfl) (by kernel_rfl) (by kernel_rfl) (by kernel_rfl) (fun c a w h => hQ c _ _ _ w h) (Or.inl ⟨wanted_none rfl, fun w hw => run_nil rfl f6_89 w⟩) hS ?_
  change wpAnyH _ _ _ _ _ _ _ (a0_6.put (some 91) (.pointer (some ⟨wz, 0, none⟩))) _
  obtain ⟨a0_7, ha7⟩ : ∃ rr : Act, rr = a0_6.put (some 91) (.pointer (some ⟨wz, 0, none⟩)) := ⟨_, rfl⟩
  have qz7 : 104 < a0_7.tmps.size := by rw [ha7, sz_put]; exact qz6
  have f7_0 : a0_7.eval (.tmp 0) = .pointer (some ⟨wz, 0, none⟩) := by rw [ha7, ev_other _ _ _ _ (by decide)]; exact f6_0
  have f7_6 : a0_7.eval (.tmp 6) = .int .i64 (j : Int) := by rw [ha7, ev_other _ _ _ _ (by decide)]; exact f6_6
  have f7_8 : a0_7.eval (.tmp 8) = .pointer (some ⟨z, 0, none⟩) := by rw [ha7, ev_other _ _ _ _ (by decide)]; exact f6_8
  have f7_84 : a0_7.eval (.tmp 84) = .pointer (some ⟨wz, 0, none⟩) := by rw [ha7, ev_other _ _ _ _ (by decide)]; exact f6_84
  have f7_86 : a0_7.eval (.tmp 86) = .int .i64 ((j : Int) + 1) := by rw [ha7, ev_other _ _ _ _ (by decide)]; exact f6_86
  have f7_88 : a0_7.eval (.tmp 88) = .pointer q := by rw [ha7, ev_other _ _ _ _ (by decide)]; exact f6_88
  have f7_90 : a0_7.eval (.tmp 90) = .int .i64 (j : Int) := by rw [ha7, ev_other _ _ _ _ (by decide)]; exact f6_90
  have f7_91 : a0_7.eval (.tmp 91) = .pointer (some ⟨wz, 0, none⟩) := by rw [ha7]; exact ev_same _ _ _ (Nat.lt_of_le_of_lt (by decide) qz6)
  rw [← ha7] at h0 ⊢
  clear ha7
  refine wpAnyH_take (i := 8) (oi := un_8 s) (v := .pointer (some ⟨wz, 0, none⟩)) (by kernel_rfl) (by kernel_rfl) (by kernel_rfl) (by kernel_rfl) (fun c a w h => hQ c _ _ _ w h) (Or.inl ⟨wanted_none rfl, fun w hw => fldW wz 0 0 (fW0 wz) rfl f7_91 w⟩) hS ?_
  change wpAnyH _ _ _ _ _ _ _ (a0_7.put (some 92) (.pointer (some ⟨wz, 0, none⟩))) _
  obtain ⟨a0_8, ha8⟩ : ∃ rr : Act, rr = a0_7.put (some 92) (.pointer (some ⟨wz, 0, none⟩)) := ⟨_, rfl⟩
  have qz8 : 104 < a0_8.tmps.size := by rw [ha8, sz_put]; exact qz7
  have f8_0 : a0_8.eval (.tmp 0) = .pointer (some ⟨wz, 0, none⟩) := by rw [ha8, ev_other _ _ _ _ (by decide)]; exact f7_0
  have f8_6 : a0_8.eval (.tmp 6) = .int .i64 (j : Int) := by rw [ha8, ev_other _ _ _ _ (by decide)]; exact f7_6
  have f8_8 : a0_8.eval (.tmp 8) = .pointer (some ⟨z, 0, none⟩) := by rw [ha8, ev_other _ _ _ _ (by decide)]; exact f7_8
  have f8_84 : a0_8.eval (.tmp 84) = .pointer (some ⟨wz, 0, none⟩) := by rw [ha8, ev_other _ _ _ _ (by decide)]; exact f7_84
  have f8_86 : a0_8.eval (.tmp 86) = .int .i64 ((j : Int) + 1) := by rw [ha8, ev_other _ _ _ _ (by decide)]; exact f7_86
  have f8_88 : a0_8.eval (.tmp 88) = .pointer q := by rw [ha8, ev_other _ _ _ _ (by decide)]; exact f7_88
  have f8_90 : a0_8.eval (.tmp 90) = .int .i64 (j : Int) := by rw [ha8, ev_other _ _ _ _ (by decide)]; exact f7_90
  have f8_92 : a0_8.eval (.tmp 92) = .pointer (some ⟨wz, 0, none⟩) := by rw [ha8]; exact ev_same _ _ _ (Nat.lt_of_le_of_lt (by decide) qz7)
  rw [← ha8] at h0 ⊢
  clear ha8
  refine wpAnyH_take (i := 9) (oi := un_9 s) (v := .pointer (some ⟨wz, j, none⟩)) (by kernel_rfl) (by kernel_rfl) (by kernel_rfl) (by kernel_rfl) (fun c a w h => hQ c _ _ _ w h) (Or.inl ⟨wanted_none rfl, fun w hw => run_ixP rfl f8_92 f8_90 hj w⟩) hS ?_
  change wpAnyH _ _ _ _ _ _ _ (a0_8.put (some 93) (.pointer (some ⟨wz, j, none⟩))) _
  obtain ⟨a0_9, ha9⟩ : ∃ rr : Act, rr = a0_8.put (some 93) (.pointer (some ⟨wz, j, none⟩)) := ⟨_, rfl⟩
  have qz9 : 104 < a0_9.tmps.size := by rw [ha9, sz_put]; exact qz8
  have f9_0 : a0_9.eval (.tmp 0) = .pointer (some ⟨wz, 0, none⟩) := by rw [ha9, ev_other _ _ _ _ (by decide)]; exact f8_0
  have f9_6 : a0_9.eval (.tmp 6) = .int .i64 (j : Int) := by rw [ha9, ev_other _ _ _ _ (by decide)]; exact f8_6
  have f9_8 : a0_9.eval (.tmp 8) = .pointer (some ⟨z, 0, none⟩) := by rw [ha9, ev_other _ _ _ _ (by decide)]; exact f8_8
  have f9_84 : a0_9.eval (.tmp 84) = .pointer (some ⟨wz, 0, none⟩) := by rw [ha9, ev_other _ _ _ _ (by decide)]; exact f8_84
  have f9_86 : a0_9.eval (.tmp 86) = .int .i64 ((j : Int) + 1) := by rw [ha9, ev_other _ _ _ _ (by decide)]; exact f8_86
  have f9_88 : a0_9.eval (.tmp 88) = .pointer q := by rw [ha9, ev_other _ _ _ _ (by decide)]; exact f8_88
  have f9_93 : a0_9.eval (.tmp 93) = .pointer (some ⟨wz, j, none⟩) := by rw [ha9]; exact ev_same _ _ _ (Nat.lt_of_le_of_lt (by decide) qz8)
  rw [← ha9] at h0 ⊢
  clear ha9
  refine wpAnyH_take (i := 10) (oi := un_10 s) (v := .pointer qj) (by kernel_rfl) (by kernel_rfl) (by kernel_rfl) (by kernel_rfl) (fun c a w h => hQ c _ _ _ w h) (Or.inl ⟨wanted_none rfl, fun w hw => run_load rfl f9_93 (load_xp hw.1)⟩) hS ?_
  change wpAnyH _ _ _ _ _ _ _ (a0_9.put (some 94) (.pointer qj)) _
  obtain ⟨a0_10, ha10⟩ : ∃ rr : Act, rr = a0_9.put (some 94) (.pointer qj) := ⟨_, rfl⟩
  have qz10 : 104 < a0_10.tmps.size := by rw [ha10, sz_put]; exact qz9
  have f10_0 : a0_10.eval (.tmp 0) = .pointer (some ⟨wz, 0, none⟩) := by rw [ha10, ev_other _ _ _ _ (by decide)]; exact f9_0
  have f10_6 : a0_10.eval (.tmp 6) = .int .i64 (j : Int) := by rw [ha10, ev_other _ _ _ _ (by decide)]; exact f9_6
  have f10_8 : a0_10.eval (.tmp 8) = .pointer (some ⟨z, 0, none⟩) := by rw [ha10, ev_other _ _ _ _ (by decide)]; exact f9_8
  have f10_84 : a0_10.eval (.tmp 84) = .pointer (some ⟨wz, 0, none⟩) := by rw [ha10, ev_other _ _ _ _ (by decide)]; exact f9_84
  have f10_86 : a0_10.eval (.tmp 86) = .int .i64 ((j : Int) + 1) := by rw [ha10, ev_other _ _ _ _ (by decide)]; exact f9_86
  have f10_88 : a0_10.eval (.tmp 88) = .pointer q := by rw [ha10, ev_other _ _ _ _ (by decide)]; exact f9_88
  have f10_94 : a0_10.eval (.tmp 94) = .pointer qj := by rw [ha10]; exact ev_same _ _ _ (Nat.lt_of_le_of_lt (by decide) qz9)
  rw [← ha10] at h0 ⊢
  clear ha10
  refine wpAnyH_take (i := 12) (oi := un_12 s) (v := .pointer (some ⟨z, 0, none⟩)) (by kernel_rfl) (by kernel_rfl) (by kernel_rfl) (by kernel_rfl) (fun c a w h => hQ c _ _ _ w h) (Or.inl ⟨wanted_none rfl, fun w hw => by simp only [execOp, un_12, f10_8]; rfl⟩) hS ?_
  change wpAnyH _ _ _ _ _ _ _ (a0_10.put (some 96) (.pointer (some ⟨z, 0, none⟩))) _
  obtain ⟨a0_11, ha11⟩ : ∃ rr : Act, rr = a0_10.put (some 96) (.pointer (some ⟨z, 0, none⟩)) := ⟨_, rfl⟩
  have qz11 : 104 < a0_11.tmps.size := by rw [ha11, sz_put]; exact qz10
  have f11_0 : a0_11.eval (.tmp 0) = .pointer (some ⟨wz, 0, none⟩) := by rw [ha11, ev_other _ _ _ _ (by decide)]; exact f10_0
  have f11_6 : a0_11.eval (.tmp 6) = .int .i64 (j : Int) := by rw [ha11, ev_other _ _ _ _ (by decide)]; exact f10_6
  have f11_84 : a0_11.eval (.tmp 84) = .pointer (some ⟨wz, 0, none⟩) := by rw [ha11, ev_other _ _ _ _ (by decide)]; exact f10_84
  have f11_86 : a0_11.eval (.tmp 86) = .int .i64 ((j : Int) + 1) := by rw [ha11, ev_other _ _ _ _ (by decide)]; exact f10_86
  have f11_88 : a0_11.eval (.tmp 88) = .pointer q := by rw [ha11, ev_other _ _ _ _ (by decide)]; exact f10_88
  have f11_94 : a0_11.eval (.tmp 94) = .pointer qj := by rw [ha11, ev_other _ _ _ _ (by decide)]; exact f10_94
  have f11_96 : a0_11.eval (.tmp 96) = .pointer (some ⟨z, 0, none⟩) := by rw [ha11]; exact ev_same _ _ _ (Nat.lt_of_le_of_lt (by decide) qz10)
  rw [← ha11] at h0 ⊢
  clear ha11
  refine wpAnyH_take (i := 13) (oi := un_13 s) (v := .pointer (some ⟨wz, 0, none⟩)) (by kernel_rfl) (by kernel_rfl) (by kernel_rfl) (by kernel_rfl) (fun c a w h => hQ c _ _ _ w h) (Or.inl ⟨wanted_none rfl, fun w hw => by simp only [execOp, un_13, f11_0]; rfl⟩) hS ?_
  change wpAnyH _ _ _ _ _ _ _ (a0_11.put (some 97) (.pointer (some ⟨wz, 0, none⟩))) _
  obtain ⟨a0_12, ha12⟩ : ∃ rr : Act, rr = a0_11.put (some 97) (.pointer (some ⟨wz, 0, none⟩)) := ⟨_, rfl⟩
  have qz12 : 104 < a0_12.tmps.size := by rw [ha12, sz_put]; exact qz11
  have f12_6 : a0_12.eval (.tmp 6) = .int .i64 (j : Int) := by rw [ha12, ev_other _ _ _ _ (by decide)]; exact f11_6
  have f12_84 : a0_12.eval (.tmp 84) = .pointer (some ⟨wz, 0, none⟩) := by rw [ha12, ev_other _ _ _ _ (by decide)]; exact f11_84
  have f12_86 : a0_12.eval (.tmp 86) = .int .i64 ((j : Int) + 1) := by rw [ha12, ev_other _ _ _ _ (by decide)]; exact f11_86
  have f12_88 : a0_12.eval (.tmp 88) = .pointer q := by rw [ha12, ev_other _ _ _ _ (by decide)]; exact f11_88
  have f12_94 : a0_12.eval (.tmp 94) = .pointer qj := by rw [ha12, ev_other _ _ _ _ (by decide)]; exact f11_94
  have f12_96 : a0_12.eval (.tmp 96) = .pointer (some ⟨z, 0, none⟩) := by rw [ha12, ev_other _ _ _ _ (by decide)]; exact f11_96
  have f12_97 : a0_12.eval (.tmp 97) = .pointer (some ⟨wz, 0, none⟩) := by rw [ha12]; exact ev_same _ _ _ (Nat.lt_of_le_of_lt (by decide) qz11)
  rw [← ha12] at h0 ⊢
  clear ha12
  refine wpAnyH_take (i := 14) (oi := un_14 s) (v := .int .i64 (j : Int)) (by kernel_rfl) (by kernel_rfl) (by kernel_rfl) (by kernel_rfl) (fun c a w h => hQ c _ _ _ w h) (Or.inl ⟨wanted_none rfl, fun w hw => by simp only [execOp, un_14, f12_6]; rfl⟩) hS ?_
  change wpAnyH _ _ _ _ _ _ _ (a0_12.put (some 98) (.int .i64 (j : Int))) _
  obtain ⟨a0_13, ha13⟩ : ∃ rr : Act, rr = a0_12.put (some 98) (.int .i64 (j : Int)) := ⟨_, rfl⟩
  have qz13 : 104 < a0_13.tmps.size := by rw [ha13, sz_put]; exact qz12
  have f13_84 : a0_13.eval (.tmp 84) = .pointer (some ⟨wz, 0, none⟩) := by rw [ha13, ev_other _ _ _ _ (by decide)]; exact f12_84
  have f13_86 : a0_13.eval (.tmp 86) = .int .i64 ((j : Int) + 1) := by rw [ha13, ev_other _ _ _ _ (by decide)]; exact f12_86
  have f13_88 : a0_13.eval (.tmp 88) = .pointer q := by rw [ha13, ev_other _ _ _ _ (by decide)]; exact f12_88
  have f13_94 : a0_13.eval (.tmp 94) = .pointer qj := by rw [ha13, ev_other _ _ _ _ (by decide)]; exact f12_94
  have f13_96 : a0_13.eval (.tmp 96) = .pointer (some ⟨z, 0, none⟩) := by rw [ha13, ev_other _ _ _ _ (by decide)]; exact f12_96
  have f13_97 : a0_13.eval (.tmp 97) = .pointer (some ⟨wz, 0, none⟩) := by rw [ha13, ev_other _ _ _ _ (by decide)]; exact f12_97
  have f13_98 : a0_13.eval (.tmp 98) = .int .i64 (j : Int) := by rw [ha13]; exact ev_same _ _ _ (Nat.lt_of_le_of_lt (by decide) qz12)
  rw [← ha13] at h0 ⊢
  clear ha13
  refine wpAnyH_take (i := 15) (oi := un_15 s) (v := .pointer (some ⟨wz, 0, none⟩)) (by kernel_rfl) (by kernel_rfl) (by kernel_rfl) (by kernel_rfl) (fun c a w h => hQ c _ _ _ w h) (Or.inl ⟨wanted_none rfl, fun w hw => run_nil rfl f13_97 w⟩) hS ?_
  change wpAnyH _ _ _ _ _ _ _ (a0_13.put (some 99) (.pointer (some ⟨wz, 0, none⟩))) _
  obtain ⟨a0_14, ha14⟩ : ∃ rr : Act, rr = a0_13.put (some 99) (.pointer (some ⟨wz, 0, none⟩)) := ⟨_, rfl⟩
  have qz14 : 104 < a0_14.tmps.size := by rw [ha14, sz_put]; exact qz13
  have f14_84 : a0_14.eval (.tmp 84) = .pointer (some ⟨wz, 0, none⟩) := by rw [ha14, ev_other _ _ _ _ (by decide)]; exact f13_84
  have f14_86 : a0_14.eval (.tmp 86) = .int .i64 ((j : Int) + 1) := by rw [ha14, ev_other _ _ _ _ (by decide)]; exact f13_86
  have f14_88 : a0_14.eval (.tmp 88) = .pointer q := by rw [ha14, ev_other _ _ _ _ (by decide)]; exact f13_88
  have f14_94 : a0_14.eval (.tmp 94) = .pointer qj := by rw [ha14, ev_other _ _ _ _ (by decide)]; exact f13_94
  have f14_96 : a0_14.eval (.tmp 96) = .pointer (some ⟨z, 0, none⟩) := by rw [ha14, ev_other _ _ _ _ (by decide)]; exact f13_96
  have f14_98 : a0_14.eval (.tmp 98) = .int .i64 (j : Int) := by rw [ha14, ev_other _ _ _ _ (by decide)]; exact f13_98
  have f14_99 : a0_14.eval (.tmp 99) = .pointer (some ⟨wz, 0, none⟩) := by rw [ha14]; exact ev_same _ _ _ (Nat.lt_of_le_of_lt (by decide) qz13)
  rw [← ha14] at h0 ⊢
  clear ha14
  refine wpAnyH_take (i := 16) (oi := un_16 s) (v := .pointer (some ⟨wz, 3, none⟩)) (by kernel_rfl) (by kernel_rfl) (by kernel_rfl) (by kernel_rfl) (fun c a w h => hQ c _ _ _ w h) (Or.inl ⟨wanted_none rfl, fun w hw => fldW wz 1 3 (fW1 wz) rfl f14_99 w⟩) hS ?_
  change wpAnyH _ _ _ _ _ _ _ (a0_14.put (some 100) (.pointer (some ⟨wz, 3, none⟩))) _
  obtain ⟨a0_15, ha15⟩ : ∃ rr : Act, rr = a0_14.put (some 100) (.pointer (some ⟨wz, 3, none⟩)) := ⟨_, rfl⟩
  have qz15 : 104 < a0_15.tmps.size := by rw [ha15, sz_put]; exact qz14
  have f15_84 : a0_15.eval (.tmp 84) = .pointer (some ⟨wz, 0, none⟩) := by rw [ha15, ev_other _ _ _ _ (by decide)]; exact f14_84
  have f15_86 : a0_15.eval (.tmp 86) = .int .i64 ((j : Int) + 1) := by rw [ha15, ev_other _ _ _ _ (by decide)]; exact f14_86
  have f15_88 : a0_15.eval (.tmp 88) = .pointer q := by rw [ha15, ev_other _ _ _ _ (by decide)]; exact f14_88
  have f15_94 : a0_15.eval (.tmp 94) = .pointer qj := by rw [ha15, ev_other _ _ _ _ (by decide)]; exact f14_94
  have f15_96 : a0_15.eval (.tmp 96) = .pointer (some ⟨z, 0, none⟩) := by rw [ha15, ev_other _ _ _ _ (by decide)]; exact f14_96
  have f15_98 : a0_15.eval (.tmp 98) = .int .i64 (j : Int) := by rw [ha15, ev_other _ _ _ _ (by decide)]; exact f14_98
  have f15_100 : a0_15.eval (.tmp 100) = .pointer (some ⟨wz, 3, none⟩) := by rw [ha15]; exact ev_same _ _ _ (Nat.lt_of_le_of_lt (by decide) qz14)
  rw [← ha15] at h0 ⊢
  clear ha15
  refine wpAnyH_take (i := 17) (oi := un_17 s) (v := .pointer (some ⟨wz, 3 + j, none⟩)) (by kernel_rfl) (by kernel_rfl) (by kernel_rfl) (by kernel_rfl) (fun c a w h => hQ c _ _ _ w h) (Or.inl ⟨wanted_none rfl, fun w hw => run_ixR rfl f15_100 f15_98 hj w⟩) hS ?_
  change wpAnyH _ _ _ _ _ _ _ (a0_15.put (some 101) (.pointer (some ⟨wz, 3 + j, none⟩))) _
  obtain ⟨a0_16, ha16⟩ : ∃ rr : Act, rr = a0_15.put (some 101) (.pointer (some ⟨wz, 3 + j, none⟩)) := ⟨_, rfl⟩
  have qz16 : 104 < a0_16.tmps.size := by rw [ha16, sz_put]; exact qz15
  have f16_84 : a0_16.eval (.tmp 84) = .pointer (some ⟨wz, 0, none⟩) := by rw [ha16, ev_other _ _ _ _ (by decide)]; exact f15_84
  have f16_86 : a0_16.eval (.tmp 86) = .int .i64 ((j : Int) + 1) := by rw [ha16, ev_other _ _ _ _ (by decide)]; exact f15_86
  have f16_88 : a0_16.eval (.tmp 88) = .pointer q := by rw [ha16, ev_other _ _ _ _ (by decide)]; exact f15_88
  have f16_94 : a0_16.eval (.tmp 94) = .pointer qj := by rw [ha16, ev_other _ _ _ _ (by decide)]; exact f15_94
  have f16_96 : a0_16.eval (.tmp 96) = .pointer (some ⟨z, 0, none⟩) := by rw [ha16, ev_other _ _ _ _ (by decide)]; exact f15_96
  have f16_101 : a0_16.eval (.tmp 101) = .pointer (some ⟨wz, 3 + j, none⟩) := by rw [ha16]; exact ev_same _ _ _ (Nat.lt_of_le_of_lt (by decide) qz15)
  rw [← ha16] at h0 ⊢
  clear ha16
  refine wpAnyH_take (i := 18) (oi := un_18 s) (v := .pointer (some ⟨zj, 0, none⟩)) (by kernel_rfl) (by kernel_rfl) (by kernel_rfl) (by kernel_rfl) (fun c a w h => hQ c _ _ _ w h) (Or.inl ⟨wanted_none rfl, fun w hw => run_load rfl f16_101 (load_qp hw.2)⟩) hS ?_
  change wpAnyH _ _ _ _ _ _ _ (a0_16.put (some 102) (.pointer (some ⟨zj, 0, none⟩))) _
  obtain ⟨a0_17, ha17⟩ : ∃ rr : Act, rr = a0_16.put (some 102) (.pointer (some ⟨zj, 0, none⟩)) := ⟨_, rfl⟩
  have qz17 : 104 < a0_17.tmps.size := by rw [ha17, sz_put]; exact qz16
  have f17_84 : a0_17.eval (.tmp 84) = .pointer (some ⟨wz, 0, none⟩) := by rw [ha17, ev_other _ _ _ _ (by decide)]; exact f16_84
  have f17_86 : a0_17.eval (.tmp 86) = .int .i64 ((j : Int) + 1) := by rw [ha17, ev_other _ _ _ _ (by decide)]; exact f16_86
  have f17_88 : a0_17.eval (.tmp 88) = .pointer q := by rw [ha17, ev_other _ _ _ _ (by decide)]; exact f16_88
  have f17_94 : a0_17.eval (.tmp 94) = .pointer qj := by rw [ha17, ev_other _ _ _ _ (by decide)]; exact f16_94
  have f17_96 : a0_17.eval (.tmp 96) = .pointer (some ⟨z, 0, none⟩) := by rw [ha17, ev_other _ _ _ _ (by decide)]; exact f16_96
  have f17_102 : a0_17.eval (.tmp 102) = .pointer (some ⟨zj, 0, none⟩) := by rw [ha17]; exact ev_same _ _ _ (Nat.lt_of_le_of_lt (by decide) qz16)
  rw [← ha17] at h0 ⊢
  clear ha17
  refine wpAnyH_ready (rs := [3]) (by kernel_rfl) (by simp) ?_
  refine AllReadyH.cons (o := un_3 s) (by kernel_rfl) (fun KQ hKQ => ?_) AllReadyH.nil
  rw [if_pos (wanted_none rfl)]
  refine step_enterE 17 #[.int .i64 ((j : Int) + 1)] (by rw [un_enter3, f17_86]) (fun V w' => V = .int .i64 (j2 : Int) ∧ M0 w') (hc0.mono (fun e w' ⟨h1, h2⟩ => ⟨_, h1, rfl, h2⟩)) ?_
  rintro _ w1 ⟨rfl, hM0⟩
  refine hKQ.out _ _ (hk0 w1 hM0) (fun _ => ?_)
  clear hKQ KQ
  change wpAnyH _ _ _ _ _ _ _ (a0_17.put (some 87) (.int .i64 (j2 : Int))) _
  have h0 := h0 w1 hM0
  obtain ⟨a0_18, ha18⟩ : ∃ rr : Act, rr = a0_17.put (some 87) (.int .i64 (j2 : Int)) := ⟨_, rfl⟩
  have qz18 : 104 < a0_18.tmps.size := by rw [ha18, sz_put]; exact qz17
  have f18_84 : a0_18.eval (.tmp 84) = .pointer (some ⟨wz, 0, none⟩) := by rw [ha18, ev_other _ _ _ _ (by decide)]; exact f17_84
  have f18_87 : a0_18.eval (.tmp 87) = .int .i64 (j2 : Int) := by rw [ha18]; exact ev_same _ _ _ (Nat.lt_of_le_of_lt (by decide) qz17)
  have f18_88 : a0_18.eval (.tmp 88) = .pointer q := by rw [ha18, ev_other _ _ _ _ (by decide)]; exact f17_88
  have f18_94 : a0_18.eval (.tmp 94) = .pointer qj := by rw [ha18, ev_other _ _ _ _ (by decide)]; exact f17_94
  have f18_96 : a0_18.eval (.tmp 96) = .pointer (some ⟨z, 0, none⟩) := by rw [ha18, ev_other _ _ _ _ (by decide)]; exact f17_96
  have f18_102 : a0_18.eval (.tmp 102) = .pointer (some ⟨zj, 0, none⟩) := by rw [ha18, ev_other _ _ _ _ (by decide)]; exact f17_102
  rw [← ha18] at h0 ⊢
  clear ha18
  refine wpAnyH_ready (rs := [11]) (by kernel_rfl) (by simp) ?_
  refine AllReadyH.cons (o := un_11 s) (by kernel_rfl) (fun KQ hKQ => ?_) AllReadyH.nil
  rw [if_pos (wanted_none rfl)]
  refine step_enterE 29 #[.pointer q, .pointer qj] (by rw [un_enter11, f18_88, f18_94]) (fun V w' => ∃ zp, V = .pointer (some ⟨zp, 0, none⟩) ∧ M1 w1 zp w') ((hc1 w1 hM0).mono (fun e w' ⟨x, h1, h2⟩ => ⟨_, h1, x, rfl, h2⟩)) ?_
  rintro _ w2 ⟨zp, rfl, hM1⟩
  refine hKQ.out _ _ (hk1 w1 zp w2 hM0 hM1) (fun _ => ?_)
  clear hKQ KQ
  change wpAnyH _ _ _ _ _ _ _ (a0_18.put (some 95) (.pointer (some ⟨zp, 0, none⟩))) _
  have h0 := h0 zp w2 hM1
  obtain ⟨a0_19, ha19⟩ : ∃ rr : Act, rr = a0_18.put (some 95) (.pointer (some ⟨zp, 0, none⟩)) := ⟨_, rfl⟩
  have qz19 : 104 < a0_19.tmps.size := by rw [ha19, sz_put]; exact qz18
  have f19_84 : a0_19.eval (.tmp 84) = .pointer (some ⟨wz, 0, none⟩) := by rw [ha19, ev_other _ _ _ _ (by decide)]; exact f18_84
  have f19_87 : a0_19.eval (.tmp 87) = .int .i64 (j2 : Int) := by rw [ha19, ev_other _ _ _ _ (by decide)]; exact f18_87
  have f19_95 : a0_19.eval (.tmp 95) = .pointer (some ⟨zp, 0, none⟩) := by rw [ha19]; exact ev_same _ _ _ (Nat.lt_of_le_of_lt (by decide) qz18)
  have f19_96 : a0_19.eval (.tmp 96) = .pointer (some ⟨z, 0, none⟩) := by rw [ha19, ev_other _ _ _ _ (by decide)]; exact f18_96
  have f19_102 : a0_19.eval (.tmp 102) = .pointer (some ⟨zj, 0, none⟩) := by rw [ha19, ev_other _ _ _ _ (by decide)]; exact f18_102
  rw [← ha19] at h0 ⊢
  clear ha19
  refine wpAnyH_ready (rs := [19]) (by kernel_rfl) (by simp) ?_
  refine AllReadyH.cons (o := un_19 s) (by kernel_rfl) (fun KQ hKQ => ?_) AllReadyH.nil
  rw [if_pos (wanted_none rfl)]
  refine step_enterE 30 #[.pointer (some ⟨z, 0, none⟩), .pointer (some ⟨zj, 0, none⟩)] (by rw [un_enter19, f19_96, f19_102]) (fun V w' => ∃ zn, V = .pointer (some ⟨zn, 0, none⟩) ∧ M2 w1 zp w2 zn w') ((hc2 w1 zp w2 hM0 hM1).mono (fun e w' ⟨x, h1, h2⟩ => ⟨_, h1, x, rfl, h2⟩)) ?_
  rintro _ w3 ⟨zn, rfl, hM2⟩
  refine hKQ.out _ _ (hk2 w1 zp w2 zn w3 hM0 hM1 hM2) (fun _ => ?_)
  clear hKQ KQ
  change wpAnyH _ _ _ _ _ _ _ (a0_19.put (some 103) (.pointer (some ⟨zn, 0, none⟩))) _
  have h0 := h0 zn w3 hM2
  obtain ⟨a0_20, ha20⟩ : ∃ rr : Act, rr = a0_19.put (some 103) (.pointer (some ⟨zn, 0, none⟩)) := ⟨_, rfl⟩
  have qz20 : 104 < a0_20.tmps.size := by rw [ha20, sz_put]; exact qz19
  have f20_84 : a0_20.eval (.tmp 84) = .pointer (some ⟨wz, 0, none⟩) := by rw [ha20, ev_other _ _ _ _ (by decide)]; exact f19_84
  have f20_87 : a0_20.eval (.tmp 87) = .int .i64 (j2 : Int) := by rw [ha20, ev_other _ _ _ _ (by decide)]; exact f19_87
  have f20_95 : a0_20.eval (.tmp 95) = .pointer (some ⟨zp, 0, none⟩) := by rw [ha20, ev_other _ _ _ _ (by decide)]; exact f19_95
  have f20_103 : a0_20.eval (.tmp 103) = .pointer (some ⟨zn, 0, none⟩) := by rw [ha20]; exact ev_same _ _ _ (Nat.lt_of_le_of_lt (by decide) qz19)
  rw [← ha20] at h0 ⊢
  clear ha20
  refine wpAnyH_ready (rs := [20]) (by kernel_rfl) (by simp) ?_
  refine AllReadyH.cons (o := un_20 s) (by kernel_rfl) (fun KQ hKQ => ?_) AllReadyH.nil
  rw [if_pos (wanted_none rfl)]
  refine step_enterE 5 #[.pointer (some ⟨wz, 0, none⟩), .int .i64 (j2 : Int), .pointer (some ⟨zp, 0, none⟩), .pointer (some ⟨zn, 0, none⟩)] (by rw [un_enter20, f20_84, f20_87, f20_95, f20_103]) (fun V w' => V = .bool true ∧ M3 w1 zp w2 zn w3 w') ((hc3 w1 zp w2 zn w3 hM0 hM1 hM2).mono (fun e w' ⟨h1, h2⟩ => ⟨_, h1, rfl, h2⟩)) ?_
  rintro _ w4 ⟨rfl, hM3⟩
  refine hKQ.out _ _ (hk3 w1 zp w2 zn w3 w4 hM0 hM1 hM2 hM3) (fun _ => ?_)
  clear hKQ KQ
  change wpAnyH _ _ _ _ _ _ _ (a0_20.put (some 104) (.bool true)) _
  have h0 := h0 w4 hM3
  obtain ⟨a0_21, ha21⟩ : ∃ rr : Act, rr = a0_20.put (some 104) (.bool true) := ⟨_, rfl⟩
  have qz21 : 104 < a0_21.tmps.size := by rw [ha21, sz_put]; exact qz20
  have f21_104 : a0_21.eval (.tmp 104) = .bool true := by rw [ha21]; exact ev_same _ _ _ (Nat.lt_of_le_of_lt (by decide) qz20)
  rw [← ha21] at h0 ⊢
  clear ha21
  refine wpAnyH_take (i := 21) (oi := un_21 s) (v := .bool true) (by kernel_rfl) (by kernel_rfl) (by kernel_rfl) (by kernel_rfl) (fun c a w h => hQ c _ _ _ w h) (Or.inl ⟨wanted_none rfl, fun w hw => by simp only [execOp, un_21, f21_104]; rfl⟩) (hk3 w1 zp w2 zn w3 w4 hM0 hM1 hM2 hM3) ?_
  change wpAnyH _ _ _ _ _ _ _ (a0_21.put (some 4) (.bool true)) _
  obtain ⟨a0_22, ha22⟩ : ∃ rr : Act, rr = a0_21.put (some 4) (.bool true) := ⟨_, rfl⟩
  have qz22 : 104 < a0_22.tmps.size := by rw [ha22, sz_put]; exact qz21
  rw [← ha22] at h0 ⊢
  clear ha22
  refine wpAnyH_done (by kernel_rfl) ?_ _
  exact h0
def bo_0 (s : String) : Oper := { dst := some 107, op := Op.move (Operand.tmp 0), type := 24, pos := s, after := #[], guard := none }
def bo_1 (s : String) : Oper := { dst := some 108, op := Op.move (Operand.tmp 6), type := 3, pos := s, after := #[], guard := none }
def bo_2 (s : String) : Oper := { dst := some 109, op := Op.binOp BinOp.add 3 (Operand.tmp 108) (Operand.const (Value.int IntKind.i64 1)) 3, type := 3, pos := s, after := #[{ on := 1, ground := Ground.data }], guard := none }
def bo_3 (s : String) : Oper := { dst := some 110, op := Op.call { callee := Callee.value (Operand.func 17), args := #[Operand.tmp 109], argTypes := #[3] }, type := 3, pos := s, after := #[{ on := 2, ground := Ground.data }], guard := none }
def bo_4 (s : String) : Oper := { dst := some 111, op := Op.move (Operand.tmp 7), type := 25, pos := s, after := #[], guard := none }
def bo_5 (s : String) : Oper := { dst := some 112, op := Op.move (Operand.tmp 0), type := 24, pos := s, after := #[], guard := none }
def bo_6 (s : String) : Oper := { dst := some 113, op := Op.move (Operand.tmp 6), type := 3, pos := s, after := #[], guard := none }
def bo_7 (s : String) : Oper := { dst := some 114, op := Op.nilCheck (Operand.tmp 112), type := 0, pos := s, after := #[{ on := 5, ground := Ground.data }], guard := none }
def bo_8 (s : String) : Oper := { dst := some 115, op := Op.fieldAddr 32 (Operand.tmp 114) 0, type := 0, pos := s, after := #[{ on := 7, ground := Ground.data }], guard := none }
def bo_9 (s : String) : Oper := { dst := some 116, op := Op.indexAddr 26 (Operand.tmp 115) (Operand.tmp 113), type := 0, pos := s, after := #[{ on := 8, ground := Ground.data }, { on := 6, ground := Ground.data }], guard := none }
def bo_10 (s : String) : Oper := { dst := some 117, op := Op.load 25 (Operand.tmp 116), type := 25, pos := s, after := #[{ on := 9, ground := Ground.data }], guard := none }
def bo_11 (s : String) : Oper := { dst := some 118, op := Op.call { callee := Callee.value (Operand.func 31), args := #[Operand.tmp 111, Operand.tmp 117], argTypes := #[25, 25] }, type := 25, pos := s, after := #[{ on := 4, ground := Ground.data }, { on := 10, ground := Ground.data }, { on := 3, ground := Ground.chain }], guard := none }
def bo_12 (s : String) : Oper := { dst := some 119, op := Op.move (Operand.tmp 8), type := 27, pos := s, after := #[], guard := none }
def bo_13 (s : String) : Oper := { dst := some 120, op := Op.move (Operand.tmp 0), type := 24, pos := s, after := #[], guard := none }
def bo_14 (s : String) : Oper := { dst := some 121, op := Op.move (Operand.tmp 6), type := 3, pos := s, after := #[], guard := none }
def bo_15 (s : String) : Oper := { dst := some 122, op := Op.nilCheck (Operand.tmp 120), type := 0, pos := s, after := #[{ on := 13, ground := Ground.data }], guard := none }
def bo_16 (s : String) : Oper := { dst := some 123, op := Op.fieldAddr 32 (Operand.tmp 122) 1, type := 0, pos := s, after := #[{ on := 15, ground := Ground.data }], guard := none }
def bo_17 (s : String) : Oper := { dst := some 124, op := Op.indexAddr 28 (Operand.tmp 123) (Operand.tmp 121), type := 0, pos := s, after := #[{ on := 16, ground := Ground.data }, { on := 14, ground := Ground.data }], guard := none }
def bo_18 (s : String) : Oper := { dst := some 125, op := Op.load 27 (Operand.tmp 124), type := 27, pos := s, after := #[{ on := 17, ground := Ground.data }], guard := none }
def bo_19 (s : String) : Oper := { dst := some 126, op := Op.call { callee := Callee.value (Operand.func 32), args := #[Operand.tmp 119, Operand.tmp 125], argTypes := #[27, 27] }, type := 27, pos := s, after := #[{ on := 12, ground := Ground.data }, { on := 18, ground := Ground.data }, { on := 11, ground := Ground.chain }], guard := none }
def bo_20 (s : String) : Oper := { dst := some 127, op := Op.call { callee := Callee.value (Operand.func 5), args := #[Operand.tmp 107, Operand.tmp 110, Operand.tmp 118, Operand.tmp 126], argTypes := #[24, 3, 25, 27] }, type := 4, pos := s, after := #[{ on := 0, ground := Ground.data }, { on := 3, ground := Ground.data }, { on := 11, ground := Ground.data }, { on := 19, ground := Ground.data }, { on := 19, ground := Ground.chain }], guard := none }
def bo_21 (s : String) : Oper := { dst := some 4, op := Op.assign (Operand.tmp 127), type := 4, pos := s, after := #[{ on := 20, ground := Ground.data }, { on := 20, ground := Ground.chain }, { on := 0, ground := Ground.phase }, { on := 1, ground := Ground.phase }, { on := 2, ground := Ground.phase }, { on := 3, ground := Ground.phase }, { on := 4, ground := Ground.phase }, { on := 5, ground := Ground.phase }, { on := 6, ground := Ground.phase }, { on := 7, ground := Ground.phase }, { on := 8, ground := Ground.phase }, { on := 9, ground := Ground.phase }, { on := 10, ground := Ground.phase }, { on := 11, ground := Ground.phase }, { on := 12, ground := Ground.phase }, { on := 13, ground := Ground.phase }, { on := 14, ground := Ground.phase }, { on := 15, ground := Ground.phase }, { on := 16, ground := Ground.phase }, { on := 17, ground := Ground.phase }, { on := 18, ground := Ground.phase }, { on := 19, ground := Ground.phase }, { on := 20, ground := Ground.phase }], guard := none }
def bo_ops (s : String) : Array Oper := #[bo_0 s, bo_1 s, bo_2 s, bo_3 s, bo_4 s, bo_5 s, bo_6 s, bo_7 s, bo_8 s, bo_9 s, bo_10 s, bo_11 s, bo_12 s, bo_13 s, bo_14 s, bo_15 s, bo_16 s, bo_17 s, bo_18 s, bo_19 s, bo_20 s, bo_21 s]
theorem bo_enter3 (s : String) (a : Act) (w : World) : (execOp a.eval (bo_3 s)).run Try.prog w = .ok (.enter 17 #[a.eval (.tmp 109)]) w := by kernel_rfl
theorem bo_enter11 (s : String) (a : Act) (w : World) : (execOp a.eval (bo_11 s)).run Try.prog w = .ok (.enter 31 #[a.eval (.tmp 111), a.eval (.tmp 117)]) w := by kernel_rfl
theorem bo_enter19 (s : String) (a : Act) (w : World) : (execOp a.eval (bo_19 s)).run Try.prog w = .ok (.enter 32 #[a.eval (.tmp 119), a.eval (.tmp 125)]) w := by kernel_rfl
theorem bo_enter20 (s : String) (a : Act) (w : World) : (execOp a.eval (bo_20 s)).run Try.prog w = .ok (.enter 5 #[a.eval (.tmp 107), a.eval (.tmp 110), a.eval (.tmp 118), a.eval (.tmp 126)]) w := by kernel_rfl
theorem bo_walk (s : String) {Q : Exit → Act → World → Prop} (hQ : ∀ c (a : Act) t v w, Q (.panic c) (a.put (some t) v) w → Q (.panic c) a w) (W : World) (wz j j2 z zj : Nat) (hj : j < 3) (q qj : Option Addr) (M0 : World → Prop) (M1 : World → Nat → World → Prop) (M2 : World → Nat → World → Nat → World → Prop) (M3 : World → Nat → World → Nat → World → World → Prop) (hS0 : W.drew.cell? ⟨wz, j, none⟩ = some (.pointer qj) ∧ W.drew.cell? ⟨wz, 3 + j, none⟩ = some (.pointer (some ⟨zj, 0, none⟩))) (hc0 : Calls Try.prog 17 #[.int .i64 ((j : Int) + 1)] W.drew fun e w' => e = .returned (.int .i64 (j2 : Int)) ∧ M0 w') (hk0 : ∀ w1, M0 w1 → w1.cell? ⟨wz, j, none⟩ = some (.pointer qj) ∧ w1.cell? ⟨wz, 3 + j, none⟩ = some (.pointer (some ⟨zj, 0, none⟩))) (hc1 : ∀ w1, M0 w1 → Calls Try.prog 31 #[.pointer q, .pointer qj] w1 fun e w' => ∃ zp, e = .returned (.pointer (some ⟨zp, 0, none⟩)) ∧ M1 w1 zp w') (hk1 : ∀ w1 zp w2, M0 w1 → M1 w1 zp w2 → w2.cell? ⟨wz, j, none⟩ = some (.pointer qj) ∧ w2.cell? ⟨wz, 3 + j, none⟩ = some (.pointer (some ⟨zj, 0, none⟩))) (hc2 : ∀ w1 zp w2, M0 w1 → M1 w1 zp w2 → Calls Try.prog 32 #[.pointer (some ⟨z, 0, none⟩), .pointer (some ⟨zj, 0, none⟩)] w2 fun e w' => ∃ zn, e = .returned (.pointer (some ⟨zn, 0, none⟩)) ∧ M2 w1 zp w2 zn w') (hk2 : ∀ w1 zp w2 zn w3, M0 w1 → M1 w1 zp w2 → M2 w1 zp w2 zn w3 → w3.cell? ⟨wz, j, none⟩ = some (.pointer qj) ∧ w3.cell? ⟨wz, 3 + j, none⟩ = some (.pointer (some ⟨zj, 0, none⟩))) (hc3 : ∀ w1 zp w2 zn w3, M0 w1 → M1 w1 zp w2 → M2 w1 zp w2 zn w3 → Calls Try.prog 5 #[.pointer (some ⟨wz, 0, none⟩), .int .i64 (j2 : Int), .pointer (some ⟨zp, 0, none⟩), .pointer (some ⟨zn, 0, none⟩)] w3 fun e w' => e = .returned (.bool true) ∧ M3 w1 zp w2 zn w3 w') (hk3 : ∀ w1 zp w2 zn w3 w4, M0 w1 → M1 w1 zp w2 → M2 w1 zp w2 zn w3 → M3 w1 zp w2 zn w3 w4 → w4.cell? ⟨wz, j, none⟩ = some (.pointer qj) ∧ w4.cell? ⟨wz, 3 + j, none⟩ = some (.pointer (some ⟨zj, 0, none⟩)))
    (a : Act) (hs : 127 < a.tmps.size) (e0 : a.eval (.tmp 0) = .pointer (some ⟨wz, 0, none⟩)) (e6 : a.eval (.tmp 6) = .int .i64 (j : Int)) (e7 : a.eval (.tmp 7) = .pointer q) (e8 : a.eval (.tmp 8) = .pointer (some ⟨z, 0, none⟩))
    (h0 : ∀ w1, M0 w1 → ∀ zp w2, M1 w1 zp w2 → ∀ zn w3, M2 w1 zp w2 zn w3 → ∀ w4, M3 w1 zp w2 zn w3 w4 → Q .normal ((((((((((((((((((((((a.put (some 107) (.pointer (some ⟨wz, 0, none⟩))).put (some 108) (.int .i64 (j : Int))).put (some 109) (.int .i64 ((j : Int) + 1))).put (some 111) (.pointer q)).put (some 112) (.pointer (some ⟨wz, 0, none⟩))).put (some 113) (.int .i64 (j : Int))).put (some 114) (.pointer (some ⟨wz, 0, none⟩))).put (some 115) (.pointer (some ⟨wz, 0, none⟩))).put (some 116) (.pointer (some ⟨wz, j, none⟩))).put (some 117) (.pointer qj)).put (some 119) (.pointer (some ⟨z, 0, none⟩))).put (some 120) (.pointer (some ⟨wz, 0, none⟩))).put (some 121) (.int .i64 (j : Int))).put (some 122) (.pointer (some ⟨wz, 0, none⟩))).put (some 123) (.pointer (some ⟨wz, 3, none⟩))).put (some 124) (.pointer (some ⟨wz, 3 + j, none⟩))).put (some 125) (.pointer (some ⟨zj, 0, none⟩))).put (some 110) (.int .i64 (j2 : Int))).put (some 118) (.pointer (some ⟨zp, 0, none⟩))).put (some 126) (.pointer (some ⟨zn, 0, none⟩))).put (some 127) (.bool true)).put (some 4) (.bool true)) w4) :
    Code.wp Try.prog (.region 15 (bo_ops s) true) Q a W := by
  refine wp_region_held_drew (S := fun w => w.cell? ⟨wz, j, none⟩ = some (.pointer qj) ∧ w.cell? ⟨wz, 3 + j, none⟩ = some (.pointer (some ⟨zj, 0, none⟩))) (by kernel_rfl) hS0 (fun hS => ?_)
  change wpAnyH _ _ _ _ _ _ _ _ (World.drew _)
  refine wpAnyH_take (i := 0) (oi := bo_0 s) (v := .pointer (some ⟨wz, 0, none⟩)) (by kernel_rfl) (by kernel_rfl) (by kernel_rfl) (by kernel_rfl) (fun c a w h => hQ c _ _ _ w h) (Or.inl ⟨wanted_none rfl, fun w hw => by simp only [execOp, bo_0, e0]; rfl⟩) hS ?_
  change wpAnyH _ _ _ _ _ _ _ (a.put (some 107) (.pointer (some ⟨wz, 0, none⟩))) _
  obtain ⟨a0_1, ha1⟩ : ∃ rr : Act, rr = a.put (some 107) (.pointer (some ⟨wz, 0, none⟩)) := ⟨_, rfl⟩
  have qz1 : 127 < a0_1.tmps.size := by rw [ha1, sz_put]; exact hs
  have f1_0 : a0_1.eval (.tmp 0) = .pointer (some ⟨wz, 0, none⟩) := by rw [ha1, ev_other _ _ _ _ (by decide)]; exact e0
  have f1_6 : a0_1.eval (.tmp 6) = .int .i64 (j : Int) := by rw [ha1, ev_other _ _ _ _ (by decide)]; exact e6
  have f1_7 : a0_1.eval (.tmp 7) = .pointer q := by rw [ha1, ev_other _ _ _ _ (by decide)]; exact e7
  have f1_8 : a0_1.eval (.tmp 8) = .pointer (some ⟨z, 0, none⟩) := by rw [ha1, ev_other _ _ _ _ (by decide)]; exact e8
  have f1_107 : a0_1.eval (.tmp 107) = .pointer (some ⟨wz, 0, none⟩) := by rw [ha1]; exact ev_same _ _ _ (Nat.lt_of_le_of_lt (by decide) hs)
  rw [← ha1] at h0 ⊢
  clear ha1
  refine wpAnyH_take (i := 1) (oi := bo_1 s) (v := .int .i64 (j : Int)) (by kernel_rfl) (by kernel_rfl) (by kernel_rfl) (by kernel_rfl) (fun c a w h => hQ c _ _ _ w h) (Or.inl ⟨wanted_none rfl, fun w hw => by simp only [execOp, bo_1, f1_6]; rfl⟩) hS ?_
  change wpAnyH _ _ _ _ _ _ _ (a0_1.put (some 108) (.int .i64 (j : Int))) _
  obtain ⟨a0_2, ha2⟩ : ∃ rr : Act, rr = a0_1.put (some 108) (.int .i64 (j : Int)) := ⟨_, rfl⟩
  have qz2 : 127 < a0_2.tmps.size := by rw [ha2, sz_put]; exact qz1
  have f2_0 : a0_2.eval (.tmp 0) = .pointer (some ⟨wz, 0, none⟩) := by rw [ha2, ev_other _ _ _ _ (by decide)]; exact f1_0
  have f2_6 : a0_2.eval (.tmp 6) = .int .i64 (j : Int) := by rw [ha2, ev_other _ _ _ _ (by decide)]; exact f1_6
  have f2_7 : a0_2.eval (.tmp 7) = .pointer q := by rw [ha2, ev_other _ _ _ _ (by decide)]; exact f1_7
  have f2_8 : a0_2.eval (.tmp 8) = .pointer (some ⟨z, 0, none⟩) := by rw [ha2, ev_other _ _ _ _ (by decide)]; exact f1_8
  have f2_107 : a0_2.eval (.tmp 107) = .pointer (some ⟨wz, 0, none⟩) := by rw [ha2, ev_other _ _ _ _ (by decide)]; exact f1_107
  have f2_108 : a0_2.eval (.tmp 108) = .int .i64 (j : Int) := by rw [ha2]; exact ev_same _ _ _ (Nat.lt_of_le_of_lt (by decide) qz1)
  rw [← ha2] at h0 ⊢
  clear ha2
  refine wpAnyH_take (i := 2) (oi := bo_2 s) (v := .int .i64 ((j : Int) + 1)) (by kernel_rfl) (by kernel_rfl) (by kernel_rfl) (by kernel_rfl) (fun c a w h => hQ c _ _ _ w h) (Or.inl ⟨wanted_none rfl, fun w hw => run_add1 rfl f2_108 rfl hj w⟩) hS ?_
  change wpAnyH _ _ _ _ _ _ _ (a0_2.put (some 109) (.int .i64 ((j : Int) + 1))) _
  obtain ⟨a0_3, ha3⟩ : ∃ rr : Act, rr = a0_2.put (some 109) (.int .i64 ((j : Int) + 1)) := ⟨_, rfl⟩
  have qz3 : 127 < a0_3.tmps.size := by rw [ha3, sz_put]; exact qz2
  have f3_0 : a0_3.eval (.tmp 0) = .pointer (some ⟨wz, 0, none⟩) := by rw [ha3, ev_other _ _ _ _ (by decide)]; exact f2_0
  have f3_6 : a0_3.eval (.tmp 6) = .int .i64 (j : Int) := by rw [ha3, ev_other _ _ _ _ (by decide)]; exact f2_6
  have f3_7 : a0_3.eval (.tmp 7) = .pointer q := by rw [ha3, ev_other _ _ _ _ (by decide)]; exact f2_7
  have f3_8 : a0_3.eval (.tmp 8) = .pointer (some ⟨z, 0, none⟩) := by rw [ha3, ev_other _ _ _ _ (by decide)]; exact f2_8
  have f3_107 : a0_3.eval (.tmp 107) = .pointer (some ⟨wz, 0, none⟩) := by rw [ha3, ev_other _ _ _ _ (by decide)]; exact f2_107
  have f3_109 : a0_3.eval (.tmp 109) = .int .i64 ((j : Int) + 1) := by rw [ha3]; exact ev_same _ _ _ (Nat.lt_of_le_of_lt (by decide) qz2)
  rw [← ha3] at h0 ⊢
  clear ha3
  refine wpAnyH_take (i := 4) (oi := bo_4 s) (v := .pointer q) (by kernel_rfl) (by kernel_rfl) (by kernel_rfl) (by kernel_rfl) (fun c a w h => hQ c _ _ _ w h) (Or.inl ⟨wanted_none rfl, fun w hw => by simp only [execOp, bo_4, f3_7]; rfl⟩) hS ?_
  change wpAnyH _ _ _ _ _ _ _ (a0_3.put (some 111) (.pointer q)) _
  obtain ⟨a0_4, ha4⟩ : ∃ rr : Act, rr = a0_3.put (some 111) (.pointer q) := ⟨_, rfl⟩
  have qz4 : 127 < a0_4.tmps.size := by rw [ha4, sz_put]; exact qz3
  have f4_0 : a0_4.eval (.tmp 0) = .pointer (some ⟨wz, 0, none⟩) := by rw [ha4, ev_other _ _ _ _ (by decide)]; exact f3_0
  have f4_6 : a0_4.eval (.tmp 6) = .int .i64 (j : Int) := by rw [ha4, ev_other _ _ _ _ (by decide)]; exact f3_6
  have f4_8 : a0_4.eval (.tmp 8) = .pointer (some ⟨z, 0, none⟩) := by rw [ha4, ev_other _ _ _ _ (by decide)]; exact f3_8
  have f4_107 : a0_4.eval (.tmp 107) = .pointer (some ⟨wz, 0, none⟩) := by rw [ha4, ev_other _ _ _ _ (by decide)]; exact f3_107
  have f4_109 : a0_4.eval (.tmp 109) = .int .i64 ((j : Int) + 1) := by rw [ha4, ev_other _ _ _ _ (by decide)]; exact f3_109
  have f4_111 : a0_4.eval (.tmp 111) = .pointer q := by rw [ha4]; exact ev_same _ _ _ (Nat.lt_of_le_of_lt (by decide) qz3)
  rw [← ha4] at h0 ⊢
  clear ha4
  refine wpAnyH_take (i := 5) (oi := bo_5 s) (v := .pointer (some ⟨wz, 0, none⟩)) (by kernel_rfl) (by kernel_rfl) (by kernel_rfl) (by kernel_rfl) (fun c a w h => hQ c _ _ _ w h) (Or.inl ⟨wanted_none rfl, fun w hw => by simp only [execOp, bo_5, f4_0]; rfl⟩) hS ?_
  change wpAnyH _ _ _ _ _ _ _ (a0_4.put (some 112) (.pointer (some ⟨wz, 0, none⟩))) _
  obtain ⟨a0_5, ha5⟩ : ∃ rr : Act, rr = a0_4.put (some 112) (.pointer (some ⟨wz, 0, none⟩)) := ⟨_, rfl⟩
  have qz5 : 127 < a0_5.tmps.size := by rw [ha5, sz_put]; exact qz4
  have f5_0 : a0_5.eval (.tmp 0) = .pointer (some ⟨wz, 0, none⟩) := by rw [ha5, ev_other _ _ _ _ (by decide)]; exact f4_0
  have f5_6 : a0_5.eval (.tmp 6) = .int .i64 (j : Int) := by rw [ha5, ev_other _ _ _ _ (by decide)]; exact f4_6
  have f5_8 : a0_5.eval (.tmp 8) = .pointer (some ⟨z, 0, none⟩) := by rw [ha5, ev_other _ _ _ _ (by decide)]; exact f4_8
  have f5_107 : a0_5.eval (.tmp 107) = .pointer (some ⟨wz, 0, none⟩) := by rw [ha5, ev_other _ _ _ _ (by decide)]; exact f4_107
  have f5_109 : a0_5.eval (.tmp 109) = .int .i64 ((j : Int) + 1) := by rw [ha5, ev_other _ _ _ _ (by decide)]; exact f4_109
  have f5_111 : a0_5.eval (.tmp 111) = .pointer q := by rw [ha5, ev_other _ _ _ _ (by decide)]; exact f4_111
  have f5_112 : a0_5.eval (.tmp 112) = .pointer (some ⟨wz, 0, none⟩) := by rw [ha5]; exact ev_same _ _ _ (Nat.lt_of_le_of_lt (by decide) qz4)
  rw [← ha5] at h0 ⊢
  clear ha5
  refine wpAnyH_take (i := 6) (oi := bo_6 s) (v := .int .i64 (j : Int)) (by kernel_rfl) (by kernel_rfl) (by kernel_rfl) (by kernel_rfl) (fun c a w h => hQ c _ _ _ w h) (Or.inl ⟨wanted_none rfl, fun w hw => by simp only [execOp, bo_6, f5_6]; rfl⟩) hS ?_
  change wpAnyH _ _ _ _ _ _ _ (a0_5.put (some 113) (.int .i64 (j : Int))) _
  obtain ⟨a0_6, ha6⟩ : ∃ rr : Act, rr = a0_5.put (some 113) (.int .i64 (j : Int)) := ⟨_, rfl⟩
  have qz6 : 127 < a0_6.tmps.size := by rw [ha6, sz_put]; exact qz5
  have f6_0 : a0_6.eval (.tmp 0) = .pointer (some ⟨wz, 0, none⟩) := by rw [ha6, ev_other _ _ _ _ (by decide)]; exact f5_0
  have f6_6 : a0_6.eval (.tmp 6) = .int .i64 (j : Int) := by rw [ha6, ev_other _ _ _ _ (by decide)]; exact f5_6
  have f6_8 : a0_6.eval (.tmp 8) = .pointer (some ⟨z, 0, none⟩) := by rw [ha6, ev_other _ _ _ _ (by decide)]; exact f5_8
  have f6_107 : a0_6.eval (.tmp 107) = .pointer (some ⟨wz, 0, none⟩) := by rw [ha6, ev_other _ _ _ _ (by decide)]; exact f5_107
  have f6_109 : a0_6.eval (.tmp 109) = .int .i64 ((j : Int) + 1) := by rw [ha6, ev_other _ _ _ _ (by decide)]; exact f5_109
  have f6_111 : a0_6.eval (.tmp 111) = .pointer q := by rw [ha6, ev_other _ _ _ _ (by decide)]; exact f5_111
  have f6_112 : a0_6.eval (.tmp 112) = .pointer (some ⟨wz, 0, none⟩) := by rw [ha6, ev_other _ _ _ _ (by decide)]; exact f5_112
  have f6_113 : a0_6.eval (.tmp 113) = .int .i64 (j : Int) := by rw [ha6]; exact ev_same _ _ _ (Nat.lt_of_le_of_lt (by decide) qz5)
  rw [← ha6] at h0 ⊢
  clear ha6
  refine wpAnyH_take (i := 7) (oi := bo_7 s) (v := .pointer (some ⟨wz, 0, none⟩)) (by kernel_rfl) (by kernel_rfl) (by kernel_rfl) (by kernel_rfl) (fun c a w h => hQ c _ _ _ w h) (Or.inl ⟨wanted_none rfl, fun w hw => run_nil rfl f6_112 w⟩) hS ?_
  change wpAnyH _ _ _ _ _ _ _ (a0_6.put (some 114) (.pointer (some ⟨wz, 0, none⟩))) _
  obtain ⟨a0_7, ha7⟩ : ∃ rr : Act, rr = a0_6.put (some 114) (.pointer (some ⟨wz, 0, none⟩)) := ⟨_, rfl⟩
  have qz7 : 127 < a0_7.tmps.size := by rw [ha7, sz_put]; exact qz6
  have f7_0 : a0_7.eval (.tmp 0) = .pointer (some ⟨wz, 0, none⟩) := by rw [ha7, ev_other _ _ _ _ (by decide)]; exact f6_0
  have f7_6 : a0_7.eval (.tmp 6) = .int .i64 (j : Int) := by rw [ha7, ev_other _ _ _ _ (by decide)]; exact f6_6
  have f7_8 : a0_7.eval (.tmp 8) = .pointer (some ⟨z, 0, none⟩) := by rw [ha7, ev_other _ _ _ _ (by decide)]; exact f6_8
  have f7_107 : a0_7.eval (.tmp 107) = .pointer (some ⟨wz, 0, none⟩) := by rw [ha7, ev_other _ _ _ _ (by decide)]; exact f6_107
  have f7_109 : a0_7.eval (.tmp 109) = .int .i64 ((j : Int) + 1) := by rw [ha7, ev_other _ _ _ _ (by decide)]; exact f6_109
  have f7_111 : a0_7.eval (.tmp 111) = .pointer q := by rw [ha7, ev_other _ _ _ _ (by decide)]; exact f6_111
  have f7_113 : a0_7.eval (.tmp 113) = .int .i64 (j : Int) := by rw [ha7, ev_other _ _ _ _ (by decide)]; exact f6_113
  have f7_114 : a0_7.eval (.tmp 114) = .pointer (some ⟨wz, 0, none⟩) := by rw [ha7]; exact ev_same _ _ _ (Nat.lt_of_le_of_lt (by decide) qz6)
  rw [← ha7] at h0 ⊢
  clear ha7
  refine wpAnyH_take (i := 8) (oi := bo_8 s) (v := .pointer (some ⟨wz, 0, none⟩)) (by kernel_rfl) (by kernel_rfl) (by kernel_rfl) (by kernel_rfl) (fun c a w h => hQ c _ _ _ w h) (Or.inl ⟨wanted_none rfl, fun w hw => fldW wz 0 0 (fW0 wz) rfl f7_114 w⟩) hS ?_
  change wpAnyH _ _ _ _ _ _ _ (a0_7.put (some 115) (.pointer (some ⟨wz, 0, none⟩))) _
  obtain ⟨a0_8, ha8⟩ : ∃ rr : Act, rr = a0_7.put (some 115) (.pointer (some ⟨wz, 0, none⟩)) := ⟨_, rfl⟩
  have qz8 : 127 < a0_8.tmps.size := by rw [ha8, sz_put]; exact qz7
  have f8_0 : a0_8.eval (.tmp 0) = .pointer (some ⟨wz, 0, none⟩) := by rw [ha8, ev_other _ _ _ _ (by decide)]; exact f7_0
  have f8_6 : a0_8.eval (.tmp 6) = .int .i64 (j : Int) := by rw [ha8, ev_other _ _ _ _ (by decide)]; exact f7_6
  have f8_8 : a0_8.eval (.tmp 8) = .pointer (some ⟨z, 0, none⟩) := by rw [ha8, ev_other _ _ _ _ (by decide)]; exact f7_8
  have f8_107 : a0_8.eval (.tmp 107) = .pointer (some ⟨wz, 0, none⟩) := by rw [ha8, ev_other _ _ _ _ (by decide)]; exact f7_107
  have f8_109 : a0_8.eval (.tmp 109) = .int .i64 ((j : Int) + 1) := by rw [ha8, ev_other _ _ _ _ (by decide)]; exact f7_109
  have f8_111 : a0_8.eval (.tmp 111) = .pointer q := by rw [ha8, ev_other _ _ _ _ (by decide)]; exact f7_111
  have f8_113 : a0_8.eval (.tmp 113) = .int .i64 (j : Int) := by rw [ha8, ev_other _ _ _ _ (by decide)]; exact f7_113
  have f8_115 : a0_8.eval (.tmp 115) = .pointer (some ⟨wz, 0, none⟩) := by rw [ha8]; exact ev_same _ _ _ (Nat.lt_of_le_of_lt (by decide) qz7)
  rw [← ha8] at h0 ⊢
  clear ha8
  refine wpAnyH_take (i := 9) (oi := bo_9 s) (v := .pointer (some ⟨wz, j, none⟩)) (by kernel_rfl) (by kernel_rfl) (by kernel_rfl) (by kernel_rfl) (fun c a w h => hQ c _ _ _ w h) (Or.inl ⟨wanted_none rfl, fun w hw => run_ixP rfl f8_115 f8_113 hj w⟩) hS ?_
  change wpAnyH _ _ _ _ _ _ _ (a0_8.put (some 116) (.pointer (some ⟨wz, j, none⟩))) _
  obtain ⟨a0_9, ha9⟩ : ∃ rr : Act, rr = a0_8.put (some 116) (.pointer (some ⟨wz, j, none⟩)) := ⟨_, rfl⟩
  have qz9 : 127 < a0_9.tmps.size := by rw [ha9, sz_put]; exact qz8
  have f9_0 : a0_9.eval (.tmp 0) = .pointer (some ⟨wz, 0, none⟩) := by rw [ha9, ev_other _ _ _ _ (by decide)]; exact f8_0
  have f9_6 : a0_9.eval (.tmp 6) = .int .i64 (j : Int) := by rw [ha9, ev_other _ _ _ _ (by decide)]; exact f8_6
  have f9_8 : a0_9.eval (.tmp 8) = .pointer (some ⟨z, 0, none⟩) := by rw [ha9, ev_other _ _ _ _ (by decide)]; exact f8_8
  have f9_107 : a0_9.eval (.tmp 107) = .pointer (some ⟨wz, 0, none⟩) := by rw [ha9, ev_other _ _ _ _ (by decide)]; exact f8_107
  have f9_109 : a0_9.eval (.tmp 109) = .int .i64 ((j : Int) + 1) := by rw [ha9, ev_other _ _ _ _ (by decide)]; exact f8_109
  have f9_111 : a0_9.eval (.tmp 111) = .pointer q := by rw [ha9, ev_other _ _ _ _ (by decide)]; exact f8_111
  have f9_116 : a0_9.eval (.tmp 116) = .pointer (some ⟨wz, j, none⟩) := by rw [ha9]; exact ev_same _ _ _ (Nat.lt_of_le_of_lt (by decide) qz8)
  rw [← ha9] at h0 ⊢
  clear ha9
  refine wpAnyH_take (i := 10) (oi := bo_10 s) (v := .pointer qj) (by kernel_rfl) (by kernel_rfl) (by kernel_rfl) (by kernel_rfl) (fun c a w h => hQ c _ _ _ w h) (Or.inl ⟨wanted_none rfl, fun w hw => run_load rfl f9_116 (load_xp hw.1)⟩) hS ?_
  change wpAnyH _ _ _ _ _ _ _ (a0_9.put (some 117) (.pointer qj)) _
  obtain ⟨a0_10, ha10⟩ : ∃ rr : Act, rr = a0_9.put (some 117) (.pointer qj) := ⟨_, rfl⟩
  have qz10 : 127 < a0_10.tmps.size := by rw [ha10, sz_put]; exact qz9
  have f10_0 : a0_10.eval (.tmp 0) = .pointer (some ⟨wz, 0, none⟩) := by rw [ha10, ev_other _ _ _ _ (by decide)]; exact f9_0
  have f10_6 : a0_10.eval (.tmp 6) = .int .i64 (j : Int) := by rw [ha10, ev_other _ _ _ _ (by decide)]; exact f9_6
  have f10_8 : a0_10.eval (.tmp 8) = .pointer (some ⟨z, 0, none⟩) := by rw [ha10, ev_other _ _ _ _ (by decide)]; exact f9_8
  have f10_107 : a0_10.eval (.tmp 107) = .pointer (some ⟨wz, 0, none⟩) := by rw [ha10, ev_other _ _ _ _ (by decide)]; exact f9_107
  have f10_109 : a0_10.eval (.tmp 109) = .int .i64 ((j : Int) + 1) := by rw [ha10, ev_other _ _ _ _ (by decide)]; exact f9_109
  have f10_111 : a0_10.eval (.tmp 111) = .pointer q := by rw [ha10, ev_other _ _ _ _ (by decide)]; exact f9_111
  have f10_117 : a0_10.eval (.tmp 117) = .pointer qj := by rw [ha10]; exact ev_same _ _ _ (Nat.lt_of_le_of_lt (by decide) qz9)
  rw [← ha10] at h0 ⊢
  clear ha10
  refine wpAnyH_take (i := 12) (oi := bo_12 s) (v := .pointer (some ⟨z, 0, none⟩)) (by kernel_rfl) (by kernel_rfl) (by kernel_rfl) (by kernel_rfl) (fun c a w h => hQ c _ _ _ w h) (Or.inl ⟨wanted_none rfl, fun w hw => by simp only [execOp, bo_12, f10_8]; rfl⟩) hS ?_
  change wpAnyH _ _ _ _ _ _ _ (a0_10.put (some 119) (.pointer (some ⟨z, 0, none⟩))) _
  obtain ⟨a0_11, ha11⟩ : ∃ rr : Act, rr = a0_10.put (some 119) (.pointer (some ⟨z, 0, none⟩)) := ⟨_, rfl⟩
  have qz11 : 127 < a0_11.tmps.size := by rw [ha11, sz_put]; exact qz10
  have f11_0 : a0_11.eval (.tmp 0) = .pointer (some ⟨wz, 0, none⟩) := by rw [ha11, ev_other _ _ _ _ (by decide)]; exact f10_0
  have f11_6 : a0_11.eval (.tmp 6) = .int .i64 (j : Int) := by rw [ha11, ev_other _ _ _ _ (by decide)]; exact f10_6
  have f11_107 : a0_11.eval (.tmp 107) = .pointer (some ⟨wz, 0, none⟩) := by rw [ha11, ev_other _ _ _ _ (by decide)]; exact f10_107
  have f11_109 : a0_11.eval (.tmp 109) = .int .i64 ((j : Int) + 1) := by rw [ha11, ev_other _ _ _ _ (by decide)]; exact f10_109
  have f11_111 : a0_11.eval (.tmp 111) = .pointer q := by rw [ha11, ev_other _ _ _ _ (by decide)]; exact f10_111
  have f11_117 : a0_11.eval (.tmp 117) = .pointer qj := by rw [ha11, ev_other _ _ _ _ (by decide)]; exact f10_117
  have f11_119 : a0_11.eval (.tmp 119) = .pointer (some ⟨z, 0, none⟩) := by rw [ha11]; exact ev_same _ _ _ (Nat.lt_of_le_of_lt (by decide) qz10)
  rw [← ha11] at h0 ⊢
  clear ha11
  refine wpAnyH_take (i := 13) (oi := bo_13 s) (v := .pointer (some ⟨wz, 0, none⟩)) (by kernel_rfl) (by kernel_rfl) (by kernel_rfl) (by kernel_rfl) (fun c a w h => hQ c _ _ _ w h) (Or.inl ⟨wanted_none rfl, fun w hw => by simp only [execOp, bo_13, f11_0]; rfl⟩) hS ?_
  change wpAnyH _ _ _ _ _ _ _ (a0_11.put (some 120) (.pointer (some ⟨wz, 0, none⟩))) _
  obtain ⟨a0_12, ha12⟩ : ∃ rr : Act, rr = a0_11.put (some 120) (.pointer (some ⟨wz, 0, none⟩)) := ⟨_, rfl⟩
  have qz12 : 127 < a0_12.tmps.size := by rw [ha12, sz_put]; exact qz11
  have f12_6 : a0_12.eval (.tmp 6) = .int .i64 (j : Int) := by rw [ha12, ev_other _ _ _ _ (by decide)]; exact f11_6
  have f12_107 : a0_12.eval (.tmp 107) = .pointer (some ⟨wz, 0, none⟩) := by rw [ha12, ev_other _ _ _ _ (by decide)]; exact f11_107
  have f12_109 : a0_12.eval (.tmp 109) = .int .i64 ((j : Int) + 1) := by rw [ha12, ev_other _ _ _ _ (by decide)]; exact f11_109
  have f12_111 : a0_12.eval (.tmp 111) = .pointer q := by rw [ha12, ev_other _ _ _ _ (by decide)]; exact f11_111
  have f12_117 : a0_12.eval (.tmp 117) = .pointer qj := by rw [ha12, ev_other _ _ _ _ (by decide)]; exact f11_117
  have f12_119 : a0_12.eval (.tmp 119) = .pointer (some ⟨z, 0, none⟩) := by rw [ha12, ev_other _ _ _ _ (by decide)]; exact f11_119
  have f12_120 : a0_12.eval (.tmp 120) = .pointer (some ⟨wz, 0, none⟩) := by rw [ha12]; exact ev_same _ _ _ (Nat.lt_of_le_of_lt (by decide) qz11)
  rw [← ha12] at h0 ⊢
  clear ha12
  refine wpAnyH_take (i := 14) (oi := bo_14 s) (v := .int .i64 (j : Int)) (by kernel_rfl) (by kernel_rfl) (by kernel_rfl) (by kernel_rfl) (fun c a w h => hQ c _ _ _ w h) (Or.inl ⟨wanted_none rfl, fun w hw => by simp only [execOp, bo_14, f12_6]; rfl⟩) hS ?_
  change wpAnyH _ _ _ _ _ _ _ (a0_12.put (some 121) (.int .i64 (j : Int))) _
  obtain ⟨a0_13, ha13⟩ : ∃ rr : Act, rr = a0_12.put (some 121) (.int .i64 (j : Int)) := ⟨_, rfl⟩
  have qz13 : 127 < a0_13.tmps.size := by rw [ha13, sz_put]; exact qz12
  have f13_107 : a0_13.eval (.tmp 107) = .pointer (some ⟨wz, 0, none⟩) := by rw [ha13, ev_other _ _ _ _ (by decide)]; exact f12_107
  have f13_109 : a0_13.eval (.tmp 109) = .int .i64 ((j : Int) + 1) := by rw [ha13, ev_other _ _ _ _ (by decide)]; exact f12_109
  have f13_111 : a0_13.eval (.tmp 111) = .pointer q := by rw [ha13, ev_other _ _ _ _ (by decide)]; exact f12_111
  have f13_117 : a0_13.eval (.tmp 117) = .pointer qj := by rw [ha13, ev_other _ _ _ _ (by decide)]; exact f12_117
  have f13_119 : a0_13.eval (.tmp 119) = .pointer (some ⟨z, 0, none⟩) := by rw [ha13, ev_other _ _ _ _ (by decide)]; exact f12_119
  have f13_120 : a0_13.eval (.tmp 120) = .pointer (some ⟨wz, 0, none⟩) := by rw [ha13, ev_other _ _ _ _ (by decide)]; exact f12_120
  have f13_121 : a0_13.eval (.tmp 121) = .int .i64 (j : Int) := by rw [ha13]; exact ev_same _ _ _ (Nat.lt_of_le_of_lt (by decide) qz12)
  rw [← ha13] at h0 ⊢
  clear ha13
  refine wpAnyH_take (i := 15) (oi := bo_15 s) (v := .pointer (some ⟨wz, 0, none⟩)) (by kernel_rfl) (by kernel_rfl) (by kernel_rfl) (by kernel_rfl) (fun c a w h => hQ c _ _ _ w h) (Or.inl ⟨wanted_none rfl, fun w hw => run_nil rfl f13_120 w⟩) hS ?_
  change wpAnyH _ _ _ _ _ _ _ (a0_13.put (some 122) (.pointer (some ⟨wz, 0, none⟩))) _
  obtain ⟨a0_14, ha14⟩ : ∃ rr : Act, rr = a0_13.put (some 122) (.pointer (some ⟨wz, 0, none⟩)) := ⟨_, rfl⟩
  have qz14 : 127 < a0_14.tmps.size := by rw [ha14, sz_put]; exact qz13
  have f14_107 : a0_14.eval (.tmp 107) = .pointer (some ⟨wz, 0, none⟩) := by rw [ha14, ev_other _ _ _ _ (by decide)]; exact f13_107
  have f14_109 : a0_14.eval (.tmp 109) = .int .i64 ((j : Int) + 1) := by rw [ha14, ev_other _ _ _ _ (by decide)]; exact f13_109
  have f14_111 : a0_14.eval (.tmp 111) = .pointer q := by rw [ha14, ev_other _ _ _ _ (by decide)]; exact f13_111
  have f14_117 : a0_14.eval (.tmp 117) = .pointer qj := by rw [ha14, ev_other _ _ _ _ (by decide)]; exact f13_117
  have f14_119 : a0_14.eval (.tmp 119) = .pointer (some ⟨z, 0, none⟩) := by rw [ha14, ev_other _ _ _ _ (by decide)]; exact f13_119
  have f14_121 : a0_14.eval (.tmp 121) = .int .i64 (j : Int) := by rw [ha14, ev_other _ _ _ _ (by decide)]; exact f13_121
  have f14_122 : a0_14.eval (.tmp 122) = .pointer (some ⟨wz, 0, none⟩) := by rw [ha14]; exact ev_same _ _ _ (Nat.lt_of_le_of_lt (by decide) qz13)
  rw [← ha14] at h0 ⊢
  clear ha14
  refine wpAnyH_take (i := 16) (oi := bo_16 s) (v := .pointer (some ⟨wz, 3, none⟩)) (by kernel_rfl) (by kernel_rfl) (by kernel_rfl) (by kernel_rfl) (fun c a w h => hQ c _ _ _ w h) (Or.inl ⟨wanted_none rfl, fun w hw => fldW wz 1 3 (fW1 wz) rfl f14_122 w⟩) hS ?_
  change wpAnyH _ _ _ _ _ _ _ (a0_14.put (some 123) (.pointer (some ⟨wz, 3, none⟩))) _
  obtain ⟨a0_15, ha15⟩ : ∃ rr : Act, rr = a0_14.put (some 123) (.pointer (some ⟨wz, 3, none⟩)) := ⟨_, rfl⟩
  have qz15 : 127 < a0_15.tmps.size := by rw [ha15, sz_put]; exact qz14
  have f15_107 : a0_15.eval (.tmp 107) = .pointer (some ⟨wz, 0, none⟩) := by rw [ha15, ev_other _ _ _ _ (by decide)]; exact f14_107
  have f15_109 : a0_15.eval (.tmp 109) = .int .i64 ((j : Int) + 1) := by rw [ha15, ev_other _ _ _ _ (by decide)]; exact f14_109
  have f15_111 : a0_15.eval (.tmp 111) = .pointer q := by rw [ha15, ev_other _ _ _ _ (by decide)]; exact f14_111
  have f15_117 : a0_15.eval (.tmp 117) = .pointer qj := by rw [ha15, ev_other _ _ _ _ (by decide)]; exact f14_117
  have f15_119 : a0_15.eval (.tmp 119) = .pointer (some ⟨z, 0, none⟩) := by rw [ha15, ev_other _ _ _ _ (by decide)]; exact f14_119
  have f15_121 : a0_15.eval (.tmp 121) = .int .i64 (j : Int) := by rw [ha15, ev_other _ _ _ _ (by decide)]; exact f14_121
  have f15_123 : a0_15.eval (.tmp 123) = .pointer (some ⟨wz, 3, none⟩) := by rw [ha15]; exact ev_same _ _ _ (Nat.lt_of_le_of_lt (by decide) qz14)
  rw [← ha15] at h0 ⊢
  clear ha15
  refine wpAnyH_take (i := 17) (oi := bo_17 s) (v := .pointer (some ⟨wz, 3 + j, none⟩)) (by kernel_rfl) (by kernel_rfl) (by kernel_rfl) (by kernel_rfl) (fun c a w h => hQ c _ _ _ w h) (Or.inl ⟨wanted_none rfl, fun w hw => run_ixR rfl f15_123 f15_121 hj w⟩) hS ?_
  change wpAnyH _ _ _ _ _ _ _ (a0_15.put (some 124) (.pointer (some ⟨wz, 3 + j, none⟩))) _
  obtain ⟨a0_16, ha16⟩ : ∃ rr : Act, rr = a0_15.put (some 124) (.pointer (some ⟨wz, 3 + j, none⟩)) := ⟨_, rfl⟩
  have qz16 : 127 < a0_16.tmps.size := by rw [ha16, sz_put]; exact qz15
  have f16_107 : a0_16.eval (.tmp 107) = .pointer (some ⟨wz, 0, none⟩) := by rw [ha16, ev_other _ _ _ _ (by decide)]; exact f15_107
  have f16_109 : a0_16.eval (.tmp 109) = .int .i64 ((j : Int) + 1) := by rw [ha16, ev_other _ _ _ _ (by decide)]; exact f15_109
  have f16_111 : a0_16.eval (.tmp 111) = .pointer q := by rw [ha16, ev_other _ _ _ _ (by decide)]; exact f15_111
  have f16_117 : a0_16.eval (.tmp 117) = .pointer qj := by rw [ha16, ev_other _ _ _ _ (by decide)]; exact f15_117
  have f16_119 : a0_16.eval (.tmp 119) = .pointer (some ⟨z, 0, none⟩) := by rw [ha16, ev_other _ _ _ _ (by decide)]; exact f15_119
  have f16_124 : a0_16.eval (.tmp 124) = .pointer (some ⟨wz, 3 + j, none⟩) := by rw [ha16]; exact ev_same _ _ _ (Nat.lt_of_le_of_lt (by decide) qz15)
  rw [← ha16] at h0 ⊢
  clear ha16
  refine wpAnyH_take (i := 18) (oi := bo_18 s) (v := .pointer (some ⟨zj, 0, none⟩)) (by kernel_rfl) (by kernel_rfl) (by kernel_rfl) (by kernel_rfl) (fun c a w h => hQ c _ _ _ w h) (Or.inl ⟨wanted_none rfl, fun w hw => run_load rfl f16_124 (load_qp hw.2)⟩) hS ?_
  change wpAnyH _ _ _ _ _ _ _ (a0_16.put (some 125) (.pointer (some ⟨zj, 0, none⟩))) _
  obtain ⟨a0_17, ha17⟩ : ∃ rr : Act, rr = a0_16.put (some 125) (.pointer (some ⟨zj, 0, none⟩)) := ⟨_, rfl⟩
  have qz17 : 127 < a0_17.tmps.size := by rw [ha17, sz_put]; exact qz16
  have f17_107 : a0_17.eval (.tmp 107) = .pointer (some ⟨wz, 0, none⟩) := by rw [ha17, ev_other _ _ _ _ (by decide)]; exact f16_107
  have f17_109 : a0_17.eval (.tmp 109) = .int .i64 ((j : Int) + 1) := by rw [ha17, ev_other _ _ _ _ (by decide)]; exact f16_109
  have f17_111 : a0_17.eval (.tmp 111) = .pointer q := by rw [ha17, ev_other _ _ _ _ (by decide)]; exact f16_111
  have f17_117 : a0_17.eval (.tmp 117) = .pointer qj := by rw [ha17, ev_other _ _ _ _ (by decide)]; exact f16_117
  have f17_119 : a0_17.eval (.tmp 119) = .pointer (some ⟨z, 0, none⟩) := by rw [ha17, ev_other _ _ _ _ (by decide)]; exact f16_119
  have f17_125 : a0_17.eval (.tmp 125) = .pointer (some ⟨zj, 0, none⟩) := by rw [ha17]; exact ev_same _ _ _ (Nat.lt_of_le_of_lt (by decide) qz16)
  rw [← ha17] at h0 ⊢
  clear ha17
  refine wpAnyH_ready (rs := [3]) (by kernel_rfl) (by simp) ?_
  refine AllReadyH.cons (o := bo_3 s) (by kernel_rfl) (fun KQ hKQ => ?_) AllReadyH.nil
  rw [if_pos (wanted_none rfl)]
  refine step_enterE 17 #[.int .i64 ((j : Int) + 1)] (by rw [bo_enter3, f17_109]) (fun V w' => V = .int .i64 (j2 : Int) ∧ M0 w') (hc0.mono (fun e w' ⟨h1, h2⟩ => ⟨_, h1, rfl, h2⟩)) ?_
  rintro _ w1 ⟨rfl, hM0⟩
  refine hKQ.out _ _ (hk0 w1 hM0) (fun _ => ?_)
  clear hKQ KQ
  change wpAnyH _ _ _ _ _ _ _ (a0_17.put (some 110) (.int .i64 (j2 : Int))) _
  have h0 := h0 w1 hM0
  obtain ⟨a0_18, ha18⟩ : ∃ rr : Act, rr = a0_17.put (some 110) (.int .i64 (j2 : Int)) := ⟨_, rfl⟩
  have qz18 : 127 < a0_18.tmps.size := by rw [ha18, sz_put]; exact qz17
  have f18_107 : a0_18.eval (.tmp 107) = .pointer (some ⟨wz, 0, none⟩) := by rw [ha18, ev_other _ _ _ _ (by decide)]; exact f17_107
  have f18_110 : a0_18.eval (.tmp 110) = .int .i64 (j2 : Int) := by rw [ha18]; exact ev_same _ _ _ (Nat.lt_of_le_of_lt (by decide) qz17)
  have f18_111 : a0_18.eval (.tmp 111) = .pointer q := by rw [ha18, ev_other _ _ _ _ (by decide)]; exact f17_111
  have f18_117 : a0_18.eval (.tmp 117) = .pointer qj := by rw [ha18, ev_other _ _ _ _ (by decide)]; exact f17_117
  have f18_119 : a0_18.eval (.tmp 119) = .pointer (some ⟨z, 0, none⟩) := by rw [ha18, ev_other _ _ _ _ (by decide)]; exact f17_119
  have f18_125 : a0_18.eval (.tmp 125) = .pointer (some ⟨zj, 0, none⟩) := by rw [ha18, ev_other _ _ _ _ (by decide)]; exact f17_125
  rw [← ha18] at h0 ⊢
  clear ha18
  refine wpAnyH_ready (rs := [11]) (by kernel_rfl) (by simp) ?_
  refine AllReadyH.cons (o := bo_11 s) (by kernel_rfl) (fun KQ hKQ => ?_) AllReadyH.nil
  rw [if_pos (wanted_none rfl)]
  refine step_enterE 31 #[.pointer q, .pointer qj] (by rw [bo_enter11, f18_111, f18_117]) (fun V w' => ∃ zp, V = .pointer (some ⟨zp, 0, none⟩) ∧ M1 w1 zp w') ((hc1 w1 hM0).mono (fun e w' ⟨x, h1, h2⟩ => ⟨_, h1, x, rfl, h2⟩)) ?_
  rintro _ w2 ⟨zp, rfl, hM1⟩
  refine hKQ.out _ _ (hk1 w1 zp w2 hM0 hM1) (fun _ => ?_)
  clear hKQ KQ
  change wpAnyH _ _ _ _ _ _ _ (a0_18.put (some 118) (.pointer (some ⟨zp, 0, none⟩))) _
  have h0 := h0 zp w2 hM1
  obtain ⟨a0_19, ha19⟩ : ∃ rr : Act, rr = a0_18.put (some 118) (.pointer (some ⟨zp, 0, none⟩)) := ⟨_, rfl⟩
  have qz19 : 127 < a0_19.tmps.size := by rw [ha19, sz_put]; exact qz18
  have f19_107 : a0_19.eval (.tmp 107) = .pointer (some ⟨wz, 0, none⟩) := by rw [ha19, ev_other _ _ _ _ (by decide)]; exact f18_107
  have f19_110 : a0_19.eval (.tmp 110) = .int .i64 (j2 : Int) := by rw [ha19, ev_other _ _ _ _ (by decide)]; exact f18_110
  have f19_118 : a0_19.eval (.tmp 118) = .pointer (some ⟨zp, 0, none⟩) := by rw [ha19]; exact ev_same _ _ _ (Nat.lt_of_le_of_lt (by decide) qz18)
  have f19_119 : a0_19.eval (.tmp 119) = .pointer (some ⟨z, 0, none⟩) := by rw [ha19, ev_other _ _ _ _ (by decide)]; exact f18_119
  have f19_125 : a0_19.eval (.tmp 125) = .pointer (some ⟨zj, 0, none⟩) := by rw [ha19, ev_other _ _ _ _ (by decide)]; exact f18_125
  rw [← ha19] at h0 ⊢
  clear ha19
  refine wpAnyH_ready (rs := [19]) (by kernel_rfl) (by simp) ?_
  refine AllReadyH.cons (o := bo_19 s) (by kernel_rfl) (fun KQ hKQ => ?_) AllReadyH.nil
  rw [if_pos (wanted_none rfl)]
  refine step_enterE 32 #[.pointer (some ⟨z, 0, none⟩), .pointer (some ⟨zj, 0, none⟩)] (by rw [bo_enter19, f19_119, f19_125]) (fun V w' => ∃ zn, V = .pointer (some ⟨zn, 0, none⟩) ∧ M2 w1 zp w2 zn w') ((hc2 w1 zp w2 hM0 hM1).mono (fun e w' ⟨x, h1, h2⟩ => ⟨_, h1, x, rfl, h2⟩)) ?_
  rintro _ w3 ⟨zn, rfl, hM2⟩
  refine hKQ.out _ _ (hk2 w1 zp w2 zn w3 hM0 hM1 hM2) (fun _ => ?_)
  clear hKQ KQ
  change wpAnyH _ _ _ _ _ _ _ (a0_19.put (some 126) (.pointer (some ⟨zn, 0, none⟩))) _
  have h0 := h0 zn w3 hM2
  obtain ⟨a0_20, ha20⟩ : ∃ rr : Act, rr = a0_19.put (some 126) (.pointer (some ⟨zn, 0, none⟩)) := ⟨_, rfl⟩
  have qz20 : 127 < a0_20.tmps.size := by rw [ha20, sz_put]; exact qz19
  have f20_107 : a0_20.eval (.tmp 107) = .pointer (some ⟨wz, 0, none⟩) := by rw [ha20, ev_other _ _ _ _ (by decide)]; exact f19_107
  have f20_110 : a0_20.eval (.tmp 110) = .int .i64 (j2 : Int) := by rw [ha20, ev_other _ _ _ _ (by decide)]; exact f19_110
  have f20_118 : a0_20.eval (.tmp 118) = .pointer (some ⟨zp, 0, none⟩) := by rw [ha20, ev_other _ _ _ _ (by decide)]; exact f19_118
  have f20_126 : a0_20.eval (.tmp 126) = .pointer (some ⟨zn, 0, none⟩) := by rw [ha20]; exact ev_same _ _ _ (Nat.lt_of_le_of_lt (by decide) qz19)
  rw [← ha20] at h0 ⊢
  clear ha20
  refine wpAnyH_ready (rs := [20]) (by kernel_rfl) (by simp) ?_
  refine AllReadyH.cons (o := bo_20 s) (by kernel_rfl) (fun KQ hKQ => ?_) AllReadyH.nil
  rw [if_pos (wanted_none rfl)]
  refine step_enterE 5 #[.pointer (some ⟨wz, 0, none⟩), .int .i64 (j2 : Int), .pointer (some ⟨zp, 0, none⟩), .pointer (some ⟨zn, 0, none⟩)] (by rw [bo_enter20, f20_107, f20_110, f20_118, f20_126]) (fun V w' => V = .bool true ∧ M3 w1 zp w2 zn w3 w') ((hc3 w1 zp w2 zn w3 hM0 hM1 hM2).mono (fun e w' ⟨h1, h2⟩ => ⟨_, h1, rfl, h2⟩)) ?_
  rintro _ w4 ⟨rfl, hM3⟩
  refine hKQ.out _ _ (hk3 w1 zp w2 zn w3 w4 hM0 hM1 hM2 hM3) (fun _ => ?_)
  clear hKQ KQ
  change wpAnyH _ _ _ _ _ _ _ (a0_20.put (some 127) (.bool true)) _
  have h0 := h0 w4 hM3
  obtain ⟨a0_21, ha21⟩ : ∃ rr : Act, rr = a0_20.put (some 127) (.bool true) := ⟨_, rfl⟩
  have qz21 : 127 < a0_21.tmps.size := by rw [ha21, sz_put]; exact qz20
  have f21_127 : a0_21.eval (.tmp 127) = .bool true := by rw [ha21]; exact ev_same _ _ _ (Nat.lt_of_le_of_lt (by decide) qz20)
  rw [← ha21] at h0 ⊢
  clear ha21
  refine wpAnyH_take (i := 21) (oi := bo_21 s) (v := .bool true) (by kernel_rfl) (by kernel_rfl) (by kernel_rfl) (by kernel_rfl) (fun c a w h => hQ c _ _ _ w h) (Or.inl ⟨wanted_none rfl, fun w hw => by simp only [execOp, bo_21, f21_127]; rfl⟩) (hk3 w1 zp w2 zn w3 w4 hM0 hM1 hM2 hM3) ?_
  change wpAnyH _ _ _ _ _ _ _ (a0_21.put (some 4) (.bool true)) _
  obtain ⟨a0_22, ha22⟩ : ∃ rr : Act, rr = a0_21.put (some 4) (.bool true) := ⟨_, rfl⟩
  have qz22 : 127 < a0_22.tmps.size := by rw [ha22, sz_put]; exact qz21
  rw [← ha22] at h0 ⊢
  clear ha22
  refine wpAnyH_done (by kernel_rfl) ?_ _
  exact h0
def mi_0 (s : String) : Oper := { dst := some 130, op := Op.move (Operand.tmp 0), type := 24, pos := s, after := #[], guard := none }
def mi_1 (s : String) : Oper := { dst := some 131, op := Op.move (Operand.tmp 6), type := 3, pos := s, after := #[], guard := none }
def mi_2 (s : String) : Oper := { dst := some 132, op := Op.binOp BinOp.add 3 (Operand.tmp 131) (Operand.const (Value.int IntKind.i64 1)) 3, type := 3, pos := s, after := #[{ on := 1, ground := Ground.data }], guard := none }
def mi_3 (s : String) : Oper := { dst := some 133, op := Op.call { callee := Callee.value (Operand.func 17), args := #[Operand.tmp 132], argTypes := #[3] }, type := 3, pos := s, after := #[{ on := 2, ground := Ground.data }], guard := none }
def mi_4 (s : String) : Oper := { dst := some 134, op := Op.move (Operand.tmp 7), type := 25, pos := s, after := #[], guard := none }
def mi_5 (s : String) : Oper := { dst := some 135, op := Op.move (Operand.tmp 0), type := 24, pos := s, after := #[], guard := none }
def mi_6 (s : String) : Oper := { dst := some 136, op := Op.move (Operand.tmp 6), type := 3, pos := s, after := #[], guard := none }
def mi_7 (s : String) : Oper := { dst := some 137, op := Op.nilCheck (Operand.tmp 135), type := 0, pos := s, after := #[{ on := 5, ground := Ground.data }], guard := none }
def mi_8 (s : String) : Oper := { dst := some 138, op := Op.fieldAddr 32 (Operand.tmp 137) 0, type := 0, pos := s, after := #[{ on := 7, ground := Ground.data }], guard := none }
def mi_9 (s : String) : Oper := { dst := some 139, op := Op.indexAddr 26 (Operand.tmp 138) (Operand.tmp 136), type := 0, pos := s, after := #[{ on := 8, ground := Ground.data }, { on := 6, ground := Ground.data }], guard := none }
def mi_10 (s : String) : Oper := { dst := some 140, op := Op.load 25 (Operand.tmp 139), type := 25, pos := s, after := #[{ on := 9, ground := Ground.data }], guard := none }
def mi_11 (s : String) : Oper := { dst := some 141, op := Op.call { callee := Callee.value (Operand.func 33), args := #[Operand.tmp 134, Operand.tmp 140], argTypes := #[25, 25] }, type := 25, pos := s, after := #[{ on := 4, ground := Ground.data }, { on := 10, ground := Ground.data }, { on := 3, ground := Ground.chain }], guard := none }
def mi_12 (s : String) : Oper := { dst := some 142, op := Op.move (Operand.tmp 8), type := 27, pos := s, after := #[], guard := none }
def mi_13 (s : String) : Oper := { dst := some 143, op := Op.move (Operand.tmp 0), type := 24, pos := s, after := #[], guard := none }
def mi_14 (s : String) : Oper := { dst := some 144, op := Op.move (Operand.tmp 6), type := 3, pos := s, after := #[], guard := none }
def mi_15 (s : String) : Oper := { dst := some 145, op := Op.nilCheck (Operand.tmp 143), type := 0, pos := s, after := #[{ on := 13, ground := Ground.data }], guard := none }
def mi_16 (s : String) : Oper := { dst := some 146, op := Op.fieldAddr 32 (Operand.tmp 145) 1, type := 0, pos := s, after := #[{ on := 15, ground := Ground.data }], guard := none }
def mi_17 (s : String) : Oper := { dst := some 147, op := Op.indexAddr 28 (Operand.tmp 146) (Operand.tmp 144), type := 0, pos := s, after := #[{ on := 16, ground := Ground.data }, { on := 14, ground := Ground.data }], guard := none }
def mi_18 (s : String) : Oper := { dst := some 148, op := Op.load 27 (Operand.tmp 147), type := 27, pos := s, after := #[{ on := 17, ground := Ground.data }], guard := none }
def mi_19 (s : String) : Oper := { dst := some 149, op := Op.call { callee := Callee.value (Operand.func 34), args := #[Operand.tmp 142, Operand.tmp 148], argTypes := #[27, 27] }, type := 27, pos := s, after := #[{ on := 12, ground := Ground.data }, { on := 18, ground := Ground.data }, { on := 11, ground := Ground.chain }], guard := none }
def mi_20 (s : String) : Oper := { dst := some 150, op := Op.call { callee := Callee.value (Operand.func 5), args := #[Operand.tmp 130, Operand.tmp 133, Operand.tmp 141, Operand.tmp 149], argTypes := #[24, 3, 25, 27] }, type := 4, pos := s, after := #[{ on := 0, ground := Ground.data }, { on := 3, ground := Ground.data }, { on := 11, ground := Ground.data }, { on := 19, ground := Ground.data }, { on := 19, ground := Ground.chain }], guard := none }
def mi_21 (s : String) : Oper := { dst := some 4, op := Op.assign (Operand.tmp 150), type := 4, pos := s, after := #[{ on := 20, ground := Ground.data }, { on := 20, ground := Ground.chain }, { on := 0, ground := Ground.phase }, { on := 1, ground := Ground.phase }, { on := 2, ground := Ground.phase }, { on := 3, ground := Ground.phase }, { on := 4, ground := Ground.phase }, { on := 5, ground := Ground.phase }, { on := 6, ground := Ground.phase }, { on := 7, ground := Ground.phase }, { on := 8, ground := Ground.phase }, { on := 9, ground := Ground.phase }, { on := 10, ground := Ground.phase }, { on := 11, ground := Ground.phase }, { on := 12, ground := Ground.phase }, { on := 13, ground := Ground.phase }, { on := 14, ground := Ground.phase }, { on := 15, ground := Ground.phase }, { on := 16, ground := Ground.phase }, { on := 17, ground := Ground.phase }, { on := 18, ground := Ground.phase }, { on := 19, ground := Ground.phase }, { on := 20, ground := Ground.phase }], guard := none }
def mi_ops (s : String) : Array Oper := #[mi_0 s, mi_1 s, mi_2 s, mi_3 s, mi_4 s, mi_5 s, mi_6 s, mi_7 s, mi_8 s, mi_9 s, mi_10 s, mi_11 s, mi_12 s, mi_13 s, mi_14 s, mi_15 s, mi_16 s, mi_17 s, mi_18 s, mi_19 s, mi_20 s, mi_21 s]
theorem mi_enter3 (s : String) (a : Act) (w : World) : (execOp a.eval (mi_3 s)).run Try.prog w = .ok (.enter 17 #[a.eval (.tmp 132)]) w := by kernel_rfl
theorem mi_enter11 (s : String) (a : Act) (w : World) : (execOp a.eval (mi_11 s)).run Try.prog w = .ok (.enter 33 #[a.eval (.tmp 134), a.eval (.tmp 140)]) w := by kernel_rfl
theorem mi_enter19 (s : String) (a : Act) (w : World) : (execOp a.eval (mi_19 s)).run Try.prog w = .ok (.enter 34 #[a.eval (.tmp 142), a.eval (.tmp 148)]) w := by kernel_rfl
theorem mi_enter20 (s : String) (a : Act) (w : World) : (execOp a.eval (mi_20 s)).run Try.prog w = .ok (.enter 5 #[a.eval (.tmp 130), a.eval (.tmp 133), a.eval (.tmp 141), a.eval (.tmp 149)]) w := by kernel_rfl
theorem mi_walk (s : String) {Q : Exit → Act → World → Prop} (hQ : ∀ c (a : Act) t v w, Q (.panic c) (a.put (some t) v) w → Q (.panic c) a w) (W : World) (wz j j2 z zj : Nat) (hj : j < 3) (q qj : Option Addr) (M0 : World → Prop) (M1 : World → Nat → World → Prop) (M2 : World → Nat → World → Nat → World → Prop) (M3 : World → Nat → World → Nat → World → World → Prop) (hS0 : W.drew.cell? ⟨wz, j, none⟩ = some (.pointer qj) ∧ W.drew.cell? ⟨wz, 3 + j, none⟩ = some (.pointer (some ⟨zj, 0, none⟩))) (hc0 : Calls Try.prog 17 #[.int .i64 ((j : Int) + 1)] W.drew fun e w' => e = .returned (.int .i64 (j2 : Int)) ∧ M0 w') (hk0 : ∀ w1, M0 w1 → w1.cell? ⟨wz, j, none⟩ = some (.pointer qj) ∧ w1.cell? ⟨wz, 3 + j, none⟩ = some (.pointer (some ⟨zj, 0, none⟩))) (hc1 : ∀ w1, M0 w1 → Calls Try.prog 33 #[.pointer q, .pointer qj] w1 fun e w' => ∃ zp, e = .returned (.pointer (some ⟨zp, 0, none⟩)) ∧ M1 w1 zp w') (hk1 : ∀ w1 zp w2, M0 w1 → M1 w1 zp w2 → w2.cell? ⟨wz, j, none⟩ = some (.pointer qj) ∧ w2.cell? ⟨wz, 3 + j, none⟩ = some (.pointer (some ⟨zj, 0, none⟩))) (hc2 : ∀ w1 zp w2, M0 w1 → M1 w1 zp w2 → Calls Try.prog 34 #[.pointer (some ⟨z, 0, none⟩), .pointer (some ⟨zj, 0, none⟩)] w2 fun e w' => ∃ zn, e = .returned (.pointer (some ⟨zn, 0, none⟩)) ∧ M2 w1 zp w2 zn w') (hk2 : ∀ w1 zp w2 zn w3, M0 w1 → M1 w1 zp w2 → M2 w1 zp w2 zn w3 → w3.cell? ⟨wz, j, none⟩ = some (.pointer qj) ∧ w3.cell? ⟨wz, 3 + j, none⟩ = some (.pointer (some ⟨zj, 0, none⟩))) (hc3 : ∀ w1 zp w2 zn w3, M0 w1 → M1 w1 zp w2 → M2 w1 zp w2 zn w3 → Calls Try.prog 5 #[.pointer (some ⟨wz, 0, none⟩), .int .i64 (j2 : Int), .pointer (some ⟨zp, 0, none⟩), .pointer (some ⟨zn, 0, none⟩)] w3 fun e w' => e = .returned (.bool true) ∧ M3 w1 zp w2 zn w3 w') (hk3 : ∀ w1 zp w2 zn w3 w4, M0 w1 → M1 w1 zp w2 → M2 w1 zp w2 zn w3 → M3 w1 zp w2 zn w3 w4 → w4.cell? ⟨wz, j, none⟩ = some (.pointer qj) ∧ w4.cell? ⟨wz, 3 + j, none⟩ = some (.pointer (some ⟨zj, 0, none⟩)))
    (a : Act) (hs : 150 < a.tmps.size) (e0 : a.eval (.tmp 0) = .pointer (some ⟨wz, 0, none⟩)) (e6 : a.eval (.tmp 6) = .int .i64 (j : Int)) (e7 : a.eval (.tmp 7) = .pointer q) (e8 : a.eval (.tmp 8) = .pointer (some ⟨z, 0, none⟩))
    (h0 : ∀ w1, M0 w1 → ∀ zp w2, M1 w1 zp w2 → ∀ zn w3, M2 w1 zp w2 zn w3 → ∀ w4, M3 w1 zp w2 zn w3 w4 → Q .normal ((((((((((((((((((((((a.put (some 130) (.pointer (some ⟨wz, 0, none⟩))).put (some 131) (.int .i64 (j : Int))).put (some 132) (.int .i64 ((j : Int) + 1))).put (some 134) (.pointer q)).put (some 135) (.pointer (some ⟨wz, 0, none⟩))).put (some 136) (.int .i64 (j : Int))).put (some 137) (.pointer (some ⟨wz, 0, none⟩))).put (some 138) (.pointer (some ⟨wz, 0, none⟩))).put (some 139) (.pointer (some ⟨wz, j, none⟩))).put (some 140) (.pointer qj)).put (some 142) (.pointer (some ⟨z, 0, none⟩))).put (some 143) (.pointer (some ⟨wz, 0, none⟩))).put (some 144) (.int .i64 (j : Int))).put (some 145) (.pointer (some ⟨wz, 0, none⟩))).put (some 146) (.pointer (some ⟨wz, 3, none⟩))).put (some 147) (.pointer (some ⟨wz, 3 + j, none⟩))).put (some 148) (.pointer (some ⟨zj, 0, none⟩))).put (some 133) (.int .i64 (j2 : Int))).put (some 141) (.pointer (some ⟨zp, 0, none⟩))).put (some 149) (.pointer (some ⟨zn, 0, none⟩))).put (some 150) (.bool true)).put (some 4) (.bool true)) w4) :
    Code.wp Try.prog (.region 17 (mi_ops s) true) Q a W := by
  refine wp_region_held_drew (S := fun w => w.cell? ⟨wz, j, none⟩ = some (.pointer qj) ∧ w.cell? ⟨wz, 3 + j, none⟩ = some (.pointer (some ⟨zj, 0, none⟩))) (by kernel_rfl) hS0 (fun hS => ?_)
  change wpAnyH _ _ _ _ _ _ _ _ (World.drew _)
  refine wpAnyH_take (i := 0) (oi := mi_0 s) (v := .pointer (some ⟨wz, 0, none⟩)) (by kernel_rfl) (by kernel_rfl) (by kernel_rfl) (by kernel_rfl) (fun c a w h => hQ c _ _ _ w h) (Or.inl ⟨wanted_none rfl, fun w hw => by simp only [execOp, mi_0, e0]; rfl⟩) hS ?_
  change wpAnyH _ _ _ _ _ _ _ (a.put (some 130) (.pointer (some ⟨wz, 0, none⟩))) _
  obtain ⟨a0_1, ha1⟩ : ∃ rr : Act, rr = a.put (some 130) (.pointer (some ⟨wz, 0, none⟩)) := ⟨_, rfl⟩
  have qz1 : 150 < a0_1.tmps.size := by rw [ha1, sz_put]; exact hs
  have f1_0 : a0_1.eval (.tmp 0) = .pointer (some ⟨wz, 0, none⟩) := by rw [ha1, ev_other _ _ _ _ (by decide)]; exact e0
  have f1_6 : a0_1.eval (.tmp 6) = .int .i64 (j : Int) := by rw [ha1, ev_other _ _ _ _ (by decide)]; exact e6
  have f1_7 : a0_1.eval (.tmp 7) = .pointer q := by rw [ha1, ev_other _ _ _ _ (by decide)]; exact e7
  have f1_8 : a0_1.eval (.tmp 8) = .pointer (some ⟨z, 0, none⟩) := by rw [ha1, ev_other _ _ _ _ (by decide)]; exact e8
  have f1_130 : a0_1.eval (.tmp 130) = .pointer (some ⟨wz, 0, none⟩) := by rw [ha1]; exact ev_same _ _ _ (Nat.lt_of_le_of_lt (by decide) hs)
  rw [← ha1] at h0 ⊢
  clear ha1
  refine wpAnyH_take (i := 1) (oi := mi_1 s) (v := .int .i64 (j : Int)) (by kernel_rfl) (by kernel_rfl) (by kernel_rfl) (by kernel_rfl) (fun c a w h => hQ c _ _ _ w h) (Or.inl ⟨wanted_none rfl, fun w hw => by simp only [execOp, mi_1, f1_6]; rfl⟩) hS ?_
  change wpAnyH _ _ _ _ _ _ _ (a0_1.put (some 131) (.int .i64 (j : Int))) _
  obtain ⟨a0_2, ha2⟩ : ∃ rr : Act, rr = a0_1.put (some 131) (.int .i64 (j : Int)) := ⟨_, rfl⟩
  have qz2 : 150 < a0_2.tmps.size := by rw [ha2, sz_put]; exact qz1
  have f2_0 : a0_2.eval (.tmp 0) = .pointer (some ⟨wz, 0, none⟩) := by rw [ha2, ev_other _ _ _ _ (by decide)]; exact f1_0
  have f2_6 : a0_2.eval (.tmp 6) = .int .i64 (j : Int) := by rw [ha2, ev_other _ _ _ _ (by decide)]; exact f1_6
  have f2_7 : a0_2.eval (.tmp 7) = .pointer q := by rw [ha2, ev_other _ _ _ _ (by decide)]; exact f1_7
  have f2_8 : a0_2.eval (.tmp 8) = .pointer (some ⟨z, 0, none⟩) := by rw [ha2, ev_other _ _ _ _ (by decide)]; exact f1_8
  have f2_130 : a0_2.eval (.tmp 130) = .pointer (some ⟨wz, 0, none⟩) := by rw [ha2, ev_other _ _ _ _ (by decide)]; exact f1_130
  have f2_131 : a0_2.eval (.tmp 131) = .int .i64 (j : Int) := by rw [ha2]; exact ev_same _ _ _ (Nat.lt_of_le_of_lt (by decide) qz1)
  rw [← ha2] at h0 ⊢
  clear ha2
  refine wpAnyH_take (i := 2) (oi := mi_2 s) (v := .int .i64 ((j : Int) + 1)) (by kernel_rfl) (by kernel_rfl) (by kernel_rfl) (by kernel_rfl) (fun c a w h => hQ c _ _ _ w h) (Or.inl ⟨wanted_none rfl, fun w hw => run_add1 rfl f2_131 rfl hj w⟩) hS ?_
  change wpAnyH _ _ _ _ _ _ _ (a0_2.put (some 132) (.int .i64 ((j : Int) + 1))) _
  obtain ⟨a0_3, ha3⟩ : ∃ rr : Act, rr = a0_2.put (some 132) (.int .i64 ((j : Int) + 1)) := ⟨_, rfl⟩
  have qz3 : 150 < a0_3.tmps.size := by rw [ha3, sz_put]; exact qz2
  have f3_0 : a0_3.eval (.tmp 0) = .pointer (some ⟨wz, 0, none⟩) := by rw [ha3, ev_other _ _ _ _ (by decide)]; exact f2_0
  have f3_6 : a0_3.eval (.tmp 6) = .int .i64 (j : Int) := by rw [ha3, ev_other _ _ _ _ (by decide)]; exact f2_6
  have f3_7 : a0_3.eval (.tmp 7) = .pointer q := by rw [ha3, ev_other _ _ _ _ (by decide)]; exact f2_7
  have f3_8 : a0_3.eval (.tmp 8) = .pointer (some ⟨z, 0, none⟩) := by rw [ha3, ev_other _ _ _ _ (by decide)]; exact f2_8
  have f3_130 : a0_3.eval (.tmp 130) = .pointer (some ⟨wz, 0, none⟩) := by rw [ha3, ev_other _ _ _ _ (by decide)]; exact f2_130
  have f3_132 : a0_3.eval (.tmp 132) = .int .i64 ((j : Int) + 1) := by rw [ha3]; exact ev_same _ _ _ (Nat.lt_of_le_of_lt (by decide) qz2)
  rw [← ha3] at h0 ⊢
  clear ha3
  refine wpAnyH_take (i := 4) (oi := mi_4 s) (v := .pointer q) (by kernel_rfl) (by kernel_rfl) (by kernel_rfl) (by kernel_rfl) (fun c a w h => hQ c _ _ _ w h) (Or.inl ⟨wanted_none rfl, fun w hw => by simp only [execOp, mi_4, f3_7]; rfl⟩) hS ?_
  change wpAnyH _ _ _ _ _ _ _ (a0_3.put (some 134) (.pointer q)) _
  obtain ⟨a0_4, ha4⟩ : ∃ rr : Act, rr = a0_3.put (some 134) (.pointer q) := ⟨_, rfl⟩
  have qz4 : 150 < a0_4.tmps.size := by rw [ha4, sz_put]; exact qz3
  have f4_0 : a0_4.eval (.tmp 0) = .pointer (some ⟨wz, 0, none⟩) := by rw [ha4, ev_other _ _ _ _ (by decide)]; exact f3_0
  have f4_6 : a0_4.eval (.tmp 6) = .int .i64 (j : Int) := by rw [ha4, ev_other _ _ _ _ (by decide)]; exact f3_6
  have f4_8 : a0_4.eval (.tmp 8) = .pointer (some ⟨z, 0, none⟩) := by rw [ha4, ev_other _ _ _ _ (by decide)]; exact f3_8
  have f4_130 : a0_4.eval (.tmp 130) = .pointer (some ⟨wz, 0, none⟩) := by rw [ha4, ev_other _ _ _ _ (by decide)]; exact f3_130
  have f4_132 : a0_4.eval (.tmp 132) = .int .i64 ((j : Int) + 1) := by rw [ha4, ev_other _ _ _ _ (by decide)]; exact f3_132
  have f4_134 : a0_4.eval (.tmp 134) = .pointer q := by rw [ha4]; exact ev_same _ _ _ (Nat.lt_of_le_of_lt (by decide) qz3)
  rw [← ha4] at h0 ⊢
  clear ha4
  refine wpAnyH_take (i := 5) (oi := mi_5 s) (v := .pointer (some ⟨wz, 0, none⟩)) (by kernel_rfl) (by kernel_rfl) (by kernel_rfl) (by kernel_rfl) (fun c a w h => hQ c _ _ _ w h) (Or.inl ⟨wanted_none rfl, fun w hw => by simp only [execOp, mi_5, f4_0]; rfl⟩) hS ?_
  change wpAnyH _ _ _ _ _ _ _ (a0_4.put (some 135) (.pointer (some ⟨wz, 0, none⟩))) _
  obtain ⟨a0_5, ha5⟩ : ∃ rr : Act, rr = a0_4.put (some 135) (.pointer (some ⟨wz, 0, none⟩)) := ⟨_, rfl⟩
  have qz5 : 150 < a0_5.tmps.size := by rw [ha5, sz_put]; exact qz4
  have f5_0 : a0_5.eval (.tmp 0) = .pointer (some ⟨wz, 0, none⟩) := by rw [ha5, ev_other _ _ _ _ (by decide)]; exact f4_0
  have f5_6 : a0_5.eval (.tmp 6) = .int .i64 (j : Int) := by rw [ha5, ev_other _ _ _ _ (by decide)]; exact f4_6
  have f5_8 : a0_5.eval (.tmp 8) = .pointer (some ⟨z, 0, none⟩) := by rw [ha5, ev_other _ _ _ _ (by decide)]; exact f4_8
  have f5_130 : a0_5.eval (.tmp 130) = .pointer (some ⟨wz, 0, none⟩) := by rw [ha5, ev_other _ _ _ _ (by decide)]; exact f4_130
  have f5_132 : a0_5.eval (.tmp 132) = .int .i64 ((j : Int) + 1) := by rw [ha5, ev_other _ _ _ _ (by decide)]; exact f4_132
  have f5_134 : a0_5.eval (.tmp 134) = .pointer q := by rw [ha5, ev_other _ _ _ _ (by decide)]; exact f4_134
  have f5_135 : a0_5.eval (.tmp 135) = .pointer (some ⟨wz, 0, none⟩) := by rw [ha5]; exact ev_same _ _ _ (Nat.lt_of_le_of_lt (by decide) qz4)
  rw [← ha5] at h0 ⊢
  clear ha5
  refine wpAnyH_take (i := 6) (oi := mi_6 s) (v := .int .i64 (j : Int)) (by kernel_rfl) (by kernel_rfl) (by kernel_rfl) (by kernel_rfl) (fun c a w h => hQ c _ _ _ w h) (Or.inl ⟨wanted_none rfl, fun w hw => by simp only [execOp, mi_6, f5_6]; rfl⟩) hS ?_
  change wpAnyH _ _ _ _ _ _ _ (a0_5.put (some 136) (.int .i64 (j : Int))) _
  obtain ⟨a0_6, ha6⟩ : ∃ rr : Act, rr = a0_5.put (some 136) (.int .i64 (j : Int)) := ⟨_, rfl⟩
  have qz6 : 150 < a0_6.tmps.size := by rw [ha6, sz_put]; exact qz5
  have f6_0 : a0_6.eval (.tmp 0) = .pointer (some ⟨wz, 0, none⟩) := by rw [ha6, ev_other _ _ _ _ (by decide)]; exact f5_0
  have f6_6 : a0_6.eval (.tmp 6) = .int .i64 (j : Int) := by rw [ha6, ev_other _ _ _ _ (by decide)]; exact f5_6
  have f6_8 : a0_6.eval (.tmp 8) = .pointer (some ⟨z, 0, none⟩) := by rw [ha6, ev_other _ _ _ _ (by decide)]; exact f5_8
  have f6_130 : a0_6.eval (.tmp 130) = .pointer (some ⟨wz, 0, none⟩) := by rw [ha6, ev_other _ _ _ _ (by decide)]; exact f5_130
  have f6_132 : a0_6.eval (.tmp 132) = .int .i64 ((j : Int) + 1) := by rw [ha6, ev_other _ _ _ _ (by decide)]; exact f5_132
  have f6_134 : a0_6.eval (.tmp 134) = .pointer q := by rw [ha6, ev_other _ _ _ _ (by decide)]; exact f5_134
  have f6_135 : a0_6.eval (.tmp 135) = .pointer (some ⟨wz, 0, none⟩) := by rw [ha6, ev_other _ _ _ _ (by decide)]; exact f5_135
  have f6_136 : a0_6.eval (.tmp 136) = .int .i64 (j : Int) := by rw [ha6]; exact ev_same _ _ _ (Nat.lt_of_le_of_lt (by decide) qz5)
  rw [← ha6] at h0 ⊢
  clear ha6
  refine wpAnyH_take (i := 7) (oi := mi_7 s) (v := .pointer (some ⟨wz, 0, none⟩)) (by kernel_rfl) (by kernel_rfl) (by kernel_rfl) (by kernel_rfl) (fun c a w h => hQ c _ _ _ w h) (Or.inl ⟨wanted_none rfl, fun w hw => run_nil rfl f6_135 w⟩) hS ?_
  change wpAnyH _ _ _ _ _ _ _ (a0_6.put (some 137) (.pointer (some ⟨wz, 0, none⟩))) _
  obtain ⟨a0_7, ha7⟩ : ∃ rr : Act, rr = a0_6.put (some 137) (.pointer (some ⟨wz, 0, none⟩)) := ⟨_, rfl⟩
  have qz7 : 150 < a0_7.tmps.size := by rw [ha7, sz_put]; exact qz6
  have f7_0 : a0_7.eval (.tmp 0) = .pointer (some ⟨wz, 0, none⟩) := by rw [ha7, ev_other _ _ _ _ (by decide)]; exact f6_0
  have f7_6 : a0_7.eval (.tmp 6) = .int .i64 (j : Int) := by rw [ha7, ev_other _ _ _ _ (by decide)]; exact f6_6
  have f7_8 : a0_7.eval (.tmp 8) = .pointer (some ⟨z, 0, none⟩) := by rw [ha7, ev_other _ _ _ _ (by decide)]; exact f6_8
  have f7_130 : a0_7.eval (.tmp 130) = .pointer (some ⟨wz, 0, none⟩) := by rw [ha7, ev_other _ _ _ _ (by decide)]; exact f6_130
  have f7_132 : a0_7.eval (.tmp 132) = .int .i64 ((j : Int) + 1) := by rw [ha7, ev_other _ _ _ _ (by decide)]; exact f6_132
  have f7_134 : a0_7.eval (.tmp 134) = .pointer q := by rw [ha7, ev_other _ _ _ _ (by decide)]; exact f6_134
  have f7_136 : a0_7.eval (.tmp 136) = .int .i64 (j : Int) := by rw [ha7, ev_other _ _ _ _ (by decide)]; exact f6_136
  have f7_137 : a0_7.eval (.tmp 137) = .pointer (some ⟨wz, 0, none⟩) := by rw [ha7]; exact ev_same _ _ _ (Nat.lt_of_le_of_lt (by decide) qz6)
  rw [← ha7] at h0 ⊢
  clear ha7
  refine wpAnyH_take (i := 8) (oi := mi_8 s) (v := .pointer (some ⟨wz, 0, none⟩)) (by kernel_rfl) (by kernel_rfl) (by kernel_rfl) (by kernel_rfl) (fun c a w h => hQ c _ _ _ w h) (Or.inl ⟨wanted_none rfl, fun w hw => fldW wz 0 0 (fW0 wz) rfl f7_137 w⟩) hS ?_
  change wpAnyH _ _ _ _ _ _ _ (a0_7.put (some 138) (.pointer (some ⟨wz, 0, none⟩))) _
  obtain ⟨a0_8, ha8⟩ : ∃ rr : Act, rr = a0_7.put (some 138) (.pointer (some ⟨wz, 0, none⟩)) := ⟨_, rfl⟩
  have qz8 : 150 < a0_8.tmps.size := by rw [ha8, sz_put]; exact qz7
  have f8_0 : a0_8.eval (.tmp 0) = .pointer (some ⟨wz, 0, none⟩) := by rw [ha8, ev_other _ _ _ _ (by decide)]; exact f7_0
  have f8_6 : a0_8.eval (.tmp 6) = .int .i64 (j : Int) := by rw [ha8, ev_other _ _ _ _ (by decide)]; exact f7_6
  have f8_8 : a0_8.eval (.tmp 8) = .pointer (some ⟨z, 0, none⟩) := by rw [ha8, ev_other _ _ _ _ (by decide)]; exact f7_8
  have f8_130 : a0_8.eval (.tmp 130) = .pointer (some ⟨wz, 0, none⟩) := by rw [ha8, ev_other _ _ _ _ (by decide)]; exact f7_130
  have f8_132 : a0_8.eval (.tmp 132) = .int .i64 ((j : Int) + 1) := by rw [ha8, ev_other _ _ _ _ (by decide)]; exact f7_132
  have f8_134 : a0_8.eval (.tmp 134) = .pointer q := by rw [ha8, ev_other _ _ _ _ (by decide)]; exact f7_134
  have f8_136 : a0_8.eval (.tmp 136) = .int .i64 (j : Int) := by rw [ha8, ev_other _ _ _ _ (by decide)]; exact f7_136
  have f8_138 : a0_8.eval (.tmp 138) = .pointer (some ⟨wz, 0, none⟩) := by rw [ha8]; exact ev_same _ _ _ (Nat.lt_of_le_of_lt (by decide) qz7)
  rw [← ha8] at h0 ⊢
  clear ha8
  refine wpAnyH_take (i := 9) (oi := mi_9 s) (v := .pointer (some ⟨wz, j, none⟩)) (by kernel_rfl) (by kernel_rfl) (by kernel_rfl) (by kernel_rfl) (fun c a w h => hQ c _ _ _ w h) (Or.inl ⟨wanted_none rfl, fun w hw => run_ixP rfl f8_138 f8_136 hj w⟩) hS ?_
  change wpAnyH _ _ _ _ _ _ _ (a0_8.put (some 139) (.pointer (some ⟨wz, j, none⟩))) _
  obtain ⟨a0_9, ha9⟩ : ∃ rr : Act, rr = a0_8.put (some 139) (.pointer (some ⟨wz, j, none⟩)) := ⟨_, rfl⟩
  have qz9 : 150 < a0_9.tmps.size := by rw [ha9, sz_put]; exact qz8
  have f9_0 : a0_9.eval (.tmp 0) = .pointer (some ⟨wz, 0, none⟩) := by rw [ha9, ev_other _ _ _ _ (by decide)]; exact f8_0
  have f9_6 : a0_9.eval (.tmp 6) = .int .i64 (j : Int) := by rw [ha9, ev_other _ _ _ _ (by decide)]; exact f8_6
  have f9_8 : a0_9.eval (.tmp 8) = .pointer (some ⟨z, 0, none⟩) := by rw [ha9, ev_other _ _ _ _ (by decide)]; exact f8_8
  have f9_130 : a0_9.eval (.tmp 130) = .pointer (some ⟨wz, 0, none⟩) := by rw [ha9, ev_other _ _ _ _ (by decide)]; exact f8_130
  have f9_132 : a0_9.eval (.tmp 132) = .int .i64 ((j : Int) + 1) := by rw [ha9, ev_other _ _ _ _ (by decide)]; exact f8_132
  have f9_134 : a0_9.eval (.tmp 134) = .pointer q := by rw [ha9, ev_other _ _ _ _ (by decide)]; exact f8_134
  have f9_139 : a0_9.eval (.tmp 139) = .pointer (some ⟨wz, j, none⟩) := by rw [ha9]; exact ev_same _ _ _ (Nat.lt_of_le_of_lt (by decide) qz8)
  rw [← ha9] at h0 ⊢
  clear ha9
  refine wpAnyH_take (i := 10) (oi := mi_10 s) (v := .pointer qj) (by kernel_rfl) (by kernel_rfl) (by kernel_rfl) (by kernel_rfl) (fun c a w h => hQ c _ _ _ w h) (Or.inl ⟨wanted_none rfl, fun w hw => run_load rfl f9_139 (load_xp hw.1)⟩) hS ?_
  change wpAnyH _ _ _ _ _ _ _ (a0_9.put (some 140) (.pointer qj)) _
  obtain ⟨a0_10, ha10⟩ : ∃ rr : Act, rr = a0_9.put (some 140) (.pointer qj) := ⟨_, rfl⟩
  have qz10 : 150 < a0_10.tmps.size := by rw [ha10, sz_put]; exact qz9
  have f10_0 : a0_10.eval (.tmp 0) = .pointer (some ⟨wz, 0, none⟩) := by rw [ha10, ev_other _ _ _ _ (by decide)]; exact f9_0
  have f10_6 : a0_10.eval (.tmp 6) = .int .i64 (j : Int) := by rw [ha10, ev_other _ _ _ _ (by decide)]; exact f9_6
  have f10_8 : a0_10.eval (.tmp 8) = .pointer (some ⟨z, 0, none⟩) := by rw [ha10, ev_other _ _ _ _ (by decide)]; exact f9_8
  have f10_130 : a0_10.eval (.tmp 130) = .pointer (some ⟨wz, 0, none⟩) := by rw [ha10, ev_other _ _ _ _ (by decide)]; exact f9_130
  have f10_132 : a0_10.eval (.tmp 132) = .int .i64 ((j : Int) + 1) := by rw [ha10, ev_other _ _ _ _ (by decide)]; exact f9_132
  have f10_134 : a0_10.eval (.tmp 134) = .pointer q := by rw [ha10, ev_other _ _ _ _ (by decide)]; exact f9_134
  have f10_140 : a0_10.eval (.tmp 140) = .pointer qj := by rw [ha10]; exact ev_same _ _ _ (Nat.lt_of_le_of_lt (by decide) qz9)
  rw [← ha10] at h0 ⊢
  clear ha10
  refine wpAnyH_take (i := 12) (oi := mi_12 s) (v := .pointer (some ⟨z, 0, none⟩)) (by kernel_rfl) (by kernel_rfl) (by kernel_rfl) (by kernel_rfl) (fun c a w h => hQ c _ _ _ w h) (Or.inl ⟨wanted_none rfl, fun w hw => by simp only [execOp, mi_12, f10_8]; rfl⟩) hS ?_
  change wpAnyH _ _ _ _ _ _ _ (a0_10.put (some 142) (.pointer (some ⟨z, 0, none⟩))) _
  obtain ⟨a0_11, ha11⟩ : ∃ rr : Act, rr = a0_10.put (some 142) (.pointer (some ⟨z, 0, none⟩)) := ⟨_, rfl⟩
  have qz11 : 150 < a0_11.tmps.size := by rw [ha11, sz_put]; exact qz10
  have f11_0 : a0_11.eval (.tmp 0) = .pointer (some ⟨wz, 0, none⟩) := by rw [ha11, ev_other _ _ _ _ (by decide)]; exact f10_0
  have f11_6 : a0_11.eval (.tmp 6) = .int .i64 (j : Int) := by rw [ha11, ev_other _ _ _ _ (by decide)]; exact f10_6
  have f11_130 : a0_11.eval (.tmp 130) = .pointer (some ⟨wz, 0, none⟩) := by rw [ha11, ev_other _ _ _ _ (by decide)]; exact f10_130
  have f11_132 : a0_11.eval (.tmp 132) = .int .i64 ((j : Int) + 1) := by rw [ha11, ev_other _ _ _ _ (by decide)]; exact f10_132
  have f11_134 : a0_11.eval (.tmp 134) = .pointer q := by rw [ha11, ev_other _ _ _ _ (by decide)]; exact f10_134
  have f11_140 : a0_11.eval (.tmp 140) = .pointer qj := by rw [ha11, ev_other _ _ _ _ (by decide)]; exact f10_140
  have f11_142 : a0_11.eval (.tmp 142) = .pointer (some ⟨z, 0, none⟩) := by rw [ha11]; exact ev_same _ _ _ (Nat.lt_of_le_of_lt (by decide) qz10)
  rw [← ha11] at h0 ⊢
  clear ha11
  refine wpAnyH_take (i := 13) (oi := mi_13 s) (v := .pointer (some ⟨wz, 0, none⟩)) (by kernel_rfl) (by kernel_rfl) (by kernel_rfl) (by kernel_rfl) (fun c a w h => hQ c _ _ _ w h) (Or.inl ⟨wanted_none rfl, fun w hw => by simp only [execOp, mi_13, f11_0]; rfl⟩) hS ?_
  change wpAnyH _ _ _ _ _ _ _ (a0_11.put (some 143) (.pointer (some ⟨wz, 0, none⟩))) _
  obtain ⟨a0_12, ha12⟩ : ∃ rr : Act, rr = a0_11.put (some 143) (.pointer (some ⟨wz, 0, none⟩)) := ⟨_, rfl⟩
  have qz12 : 150 < a0_12.tmps.size := by rw [ha12, sz_put]; exact qz11
  have f12_6 : a0_12.eval (.tmp 6) = .int .i64 (j : Int) := by rw [ha12, ev_other _ _ _ _ (by decide)]; exact f11_6
  have f12_130 : a0_12.eval (.tmp 130) = .pointer (some ⟨wz, 0, none⟩) := by rw [ha12, ev_other _ _ _ _ (by decide)]; exact f11_130
  have f12_132 : a0_12.eval (.tmp 132) = .int .i64 ((j : Int) + 1) := by rw [ha12, ev_other _ _ _ _ (by decide)]; exact f11_132
  have f12_134 : a0_12.eval (.tmp 134) = .pointer q := by rw [ha12, ev_other _ _ _ _ (by decide)]; exact f11_134
  have f12_140 : a0_12.eval (.tmp 140) = .pointer qj := by rw [ha12, ev_other _ _ _ _ (by decide)]; exact f11_140
  have f12_142 : a0_12.eval (.tmp 142) = .pointer (some ⟨z, 0, none⟩) := by rw [ha12, ev_other _ _ _ _ (by decide)]; exact f11_142
  have f12_143 : a0_12.eval (.tmp 143) = .pointer (some ⟨wz, 0, none⟩) := by rw [ha12]; exact ev_same _ _ _ (Nat.lt_of_le_of_lt (by decide) qz11)
  rw [← ha12] at h0 ⊢
  clear ha12
  refine wpAnyH_take (i := 14) (oi := mi_14 s) (v := .int .i64 (j : Int)) (by kernel_rfl) (by kernel_rfl) (by kernel_rfl) (by kernel_rfl) (fun c a w h => hQ c _ _ _ w h) (Or.inl ⟨wanted_none rfl, fun w hw => by simp only [execOp, mi_14, f12_6]; rfl⟩) hS ?_
  change wpAnyH _ _ _ _ _ _ _ (a0_12.put (some 144) (.int .i64 (j : Int))) _
  obtain ⟨a0_13, ha13⟩ : ∃ rr : Act, rr = a0_12.put (some 144) (.int .i64 (j : Int)) := ⟨_, rfl⟩
  have qz13 : 150 < a0_13.tmps.size := by rw [ha13, sz_put]; exact qz12
  have f13_130 : a0_13.eval (.tmp 130) = .pointer (some ⟨wz, 0, none⟩) := by rw [ha13, ev_other _ _ _ _ (by decide)]; exact f12_130
  have f13_132 : a0_13.eval (.tmp 132) = .int .i64 ((j : Int) + 1) := by rw [ha13, ev_other _ _ _ _ (by decide)]; exact f12_132
  have f13_134 : a0_13.eval (.tmp 134) = .pointer q := by rw [ha13, ev_other _ _ _ _ (by decide)]; exact f12_134
  have f13_140 : a0_13.eval (.tmp 140) = .pointer qj := by rw [ha13, ev_other _ _ _ _ (by decide)]; exact f12_140
  have f13_142 : a0_13.eval (.tmp 142) = .pointer (some ⟨z, 0, none⟩) := by rw [ha13, ev_other _ _ _ _ (by decide)]; exact f12_142
  have f13_143 : a0_13.eval (.tmp 143) = .pointer (some ⟨wz, 0, none⟩) := by rw [ha13, ev_other _ _ _ _ (by decide)]; exact f12_143
  have f13_144 : a0_13.eval (.tmp 144) = .int .i64 (j : Int) := by rw [ha13]; exact ev_same _ _ _ (Nat.lt_of_le_of_lt (by decide) qz12)
  rw [← ha13] at h0 ⊢
  clear ha13
  refine wpAnyH_take (i := 15) (oi := mi_15 s) (v := .pointer (some ⟨wz, 0, none⟩)) (by kernel_rfl) (by kernel_rfl) (by kernel_rfl) (by kernel_rfl) (fun c a w h => hQ c _ _ _ w h) (Or.inl ⟨wanted_none rfl, fun w hw => run_nil rfl f13_143 w⟩) hS ?_
  change wpAnyH _ _ _ _ _ _ _ (a0_13.put (some 145) (.pointer (some ⟨wz, 0, none⟩))) _
  obtain ⟨a0_14, ha14⟩ : ∃ rr : Act, rr = a0_13.put (some 145) (.pointer (some ⟨wz, 0, none⟩)) := ⟨_, rfl⟩
  have qz14 : 150 < a0_14.tmps.size := by rw [ha14, sz_put]; exact qz13
  have f14_130 : a0_14.eval (.tmp 130) = .pointer (some ⟨wz, 0, none⟩) := by rw [ha14, ev_other _ _ _ _ (by decide)]; exact f13_130
  have f14_132 : a0_14.eval (.tmp 132) = .int .i64 ((j : Int) + 1) := by rw [ha14, ev_other _ _ _ _ (by decide)]; exact f13_132
  have f14_134 : a0_14.eval (.tmp 134) = .pointer q := by rw [ha14, ev_other _ _ _ _ (by decide)]; exact f13_134
  have f14_140 : a0_14.eval (.tmp 140) = .pointer qj := by rw [ha14, ev_other _ _ _ _ (by decide)]; exact f13_140
  have f14_142 : a0_14.eval (.tmp 142) = .pointer (some ⟨z, 0, none⟩) := by rw [ha14, ev_other _ _ _ _ (by decide)]; exact f13_142
  have f14_144 : a0_14.eval (.tmp 144) = .int .i64 (j : Int) := by rw [ha14, ev_other _ _ _ _ (by decide)]; exact f13_144
  have f14_145 : a0_14.eval (.tmp 145) = .pointer (some ⟨wz, 0, none⟩) := by rw [ha14]; exact ev_same _ _ _ (Nat.lt_of_le_of_lt (by decide) qz13)
  rw [← ha14] at h0 ⊢
  clear ha14
  refine wpAnyH_take (i := 16) (oi := mi_16 s) (v := .pointer (some ⟨wz, 3, none⟩)) (by kernel_rfl) (by kernel_rfl) (by kernel_rfl) (by kernel_rfl) (fun c a w h => hQ c _ _ _ w h) (Or.inl ⟨wanted_none rfl, fun w hw => fldW wz 1 3 (fW1 wz) rfl f14_145 w⟩) hS ?_
  change wpAnyH _ _ _ _ _ _ _ (a0_14.put (some 146) (.pointer (some ⟨wz, 3, none⟩))) _
  obtain ⟨a0_15, ha15⟩ : ∃ rr : Act, rr = a0_14.put (some 146) (.pointer (some ⟨wz, 3, none⟩)) := ⟨_, rfl⟩
  have qz15 : 150 < a0_15.tmps.size := by rw [ha15, sz_put]; exact qz14
  have f15_130 : a0_15.eval (.tmp 130) = .pointer (some ⟨wz, 0, none⟩) := by rw [ha15, ev_other _ _ _ _ (by decide)]; exact f14_130
  have f15_132 : a0_15.eval (.tmp 132) = .int .i64 ((j : Int) + 1) := by rw [ha15, ev_other _ _ _ _ (by decide)]; exact f14_132
  have f15_134 : a0_15.eval (.tmp 134) = .pointer q := by rw [ha15, ev_other _ _ _ _ (by decide)]; exact f14_134
  have f15_140 : a0_15.eval (.tmp 140) = .pointer qj := by rw [ha15, ev_other _ _ _ _ (by decide)]; exact f14_140
  have f15_142 : a0_15.eval (.tmp 142) = .pointer (some ⟨z, 0, none⟩) := by rw [ha15, ev_other _ _ _ _ (by decide)]; exact f14_142
  have f15_144 : a0_15.eval (.tmp 144) = .int .i64 (j : Int) := by rw [ha15, ev_other _ _ _ _ (by decide)]; exact f14_144
  have f15_146 : a0_15.eval (.tmp 146) = .pointer (some ⟨wz, 3, none⟩) := by rw [ha15]; exact ev_same _ _ _ (Nat.lt_of_le_of_lt (by decide) qz14)
  rw [← ha15] at h0 ⊢
  clear ha15
  refine wpAnyH_take (i := 17) (oi := mi_17 s) (v := .pointer (some ⟨wz, 3 + j, none⟩)) (by kernel_rfl) (by kernel_rfl) (by kernel_rfl) (by kernel_rfl) (fun c a w h => hQ c _ _ _ w h) (Or.inl ⟨wanted_none rfl, fun w hw => run_ixR rfl f15_146 f15_144 hj w⟩) hS ?_
  change wpAnyH _ _ _ _ _ _ _ (a0_15.put (some 147) (.pointer (some ⟨wz, 3 + j, none⟩))) _
  obtain ⟨a0_16, ha16⟩ : ∃ rr : Act, rr = a0_15.put (some 147) (.pointer (some ⟨wz, 3 + j, none⟩)) := ⟨_, rfl⟩
  have qz16 : 150 < a0_16.tmps.size := by rw [ha16, sz_put]; exact qz15
  have f16_130 : a0_16.eval (.tmp 130) = .pointer (some ⟨wz, 0, none⟩) := by rw [ha16, ev_other _ _ _ _ (by decide)]; exact f15_130
  have f16_132 : a0_16.eval (.tmp 132) = .int .i64 ((j : Int) + 1) := by rw [ha16, ev_other _ _ _ _ (by decide)]; exact f15_132
  have f16_134 : a0_16.eval (.tmp 134) = .pointer q := by rw [ha16, ev_other _ _ _ _ (by decide)]; exact f15_134
  have f16_140 : a0_16.eval (.tmp 140) = .pointer qj := by rw [ha16, ev_other _ _ _ _ (by decide)]; exact f15_140
  have f16_142 : a0_16.eval (.tmp 142) = .pointer (some ⟨z, 0, none⟩) := by rw [ha16, ev_other _ _ _ _ (by decide)]; exact f15_142
  have f16_147 : a0_16.eval (.tmp 147) = .pointer (some ⟨wz, 3 + j, none⟩) := by rw [ha16]; exact ev_same _ _ _ (Nat.lt_of_le_of_lt (by decide) qz15)
  rw [← ha16] at h0 ⊢
  clear ha16
  refine wpAnyH_take (i := 18) (oi := mi_18 s) (v := .pointer (some ⟨zj, 0, none⟩)) (by kernel_rfl) (by kernel_rfl) (by kernel_rfl) (by kernel_rfl) (fun c a w h => hQ c _ _ _ w h) (Or.inl ⟨wanted_none rfl, fun w hw => run_load rfl f16_147 (load_qp hw.2)⟩) hS ?_
  change wpAnyH _ _ _ _ _ _ _ (a0_16.put (some 148) (.pointer (some ⟨zj, 0, none⟩))) _
  obtain ⟨a0_17, ha17⟩ : ∃ rr : Act, rr = a0_16.put (some 148) (.pointer (some ⟨zj, 0, none⟩)) := ⟨_, rfl⟩
  have qz17 : 150 < a0_17.tmps.size := by rw [ha17, sz_put]; exact qz16
  have f17_130 : a0_17.eval (.tmp 130) = .pointer (some ⟨wz, 0, none⟩) := by rw [ha17, ev_other _ _ _ _ (by decide)]; exact f16_130
  have f17_132 : a0_17.eval (.tmp 132) = .int .i64 ((j : Int) + 1) := by rw [ha17, ev_other _ _ _ _ (by decide)]; exact f16_132
  have f17_134 : a0_17.eval (.tmp 134) = .pointer q := by rw [ha17, ev_other _ _ _ _ (by decide)]; exact f16_134
  have f17_140 : a0_17.eval (.tmp 140) = .pointer qj := by rw [ha17, ev_other _ _ _ _ (by decide)]; exact f16_140
  have f17_142 : a0_17.eval (.tmp 142) = .pointer (some ⟨z, 0, none⟩) := by rw [ha17, ev_other _ _ _ _ (by decide)]; exact f16_142
  have f17_148 : a0_17.eval (.tmp 148) = .pointer (some ⟨zj, 0, none⟩) := by rw [ha17]; exact ev_same _ _ _ (Nat.lt_of_le_of_lt (by decide) qz16)
  rw [← ha17] at h0 ⊢
  clear ha17
  refine wpAnyH_ready (rs := [3]) (by kernel_rfl) (by simp) ?_
  refine AllReadyH.cons (o := mi_3 s) (by kernel_rfl) (fun KQ hKQ => ?_) AllReadyH.nil
  rw [if_pos (wanted_none rfl)]
  refine step_enterE 17 #[.int .i64 ((j : Int) + 1)] (by rw [mi_enter3, f17_132]) (fun V w' => V = .int .i64 (j2 : Int) ∧ M0 w') (hc0.mono (fun e w' ⟨h1, h2⟩ => ⟨_, h1, rfl, h2⟩)) ?_
  rintro _ w1 ⟨rfl, hM0⟩
  refine hKQ.out _ _ (hk0 w1 hM0) (fun _ => ?_)
  clear hKQ KQ
  change wpAnyH _ _ _ _ _ _ _ (a0_17.put (some 133) (.int .i64 (j2 : Int))) _
  have h0 := h0 w1 hM0
  obtain ⟨a0_18, ha18⟩ : ∃ rr : Act, rr = a0_17.put (some 133) (.int .i64 (j2 : Int)) := ⟨_, rfl⟩
  have qz18 : 150 < a0_18.tmps.size := by rw [ha18, sz_put]; exact qz17
  have f18_130 : a0_18.eval (.tmp 130) = .pointer (some ⟨wz, 0, none⟩) := by rw [ha18, ev_other _ _ _ _ (by decide)]; exact f17_130
  have f18_133 : a0_18.eval (.tmp 133) = .int .i64 (j2 : Int) := by rw [ha18]; exact ev_same _ _ _ (Nat.lt_of_le_of_lt (by decide) qz17)
  have f18_134 : a0_18.eval (.tmp 134) = .pointer q := by rw [ha18, ev_other _ _ _ _ (by decide)]; exact f17_134
  have f18_140 : a0_18.eval (.tmp 140) = .pointer qj := by rw [ha18, ev_other _ _ _ _ (by decide)]; exact f17_140
  have f18_142 : a0_18.eval (.tmp 142) = .pointer (some ⟨z, 0, none⟩) := by rw [ha18, ev_other _ _ _ _ (by decide)]; exact f17_142
  have f18_148 : a0_18.eval (.tmp 148) = .pointer (some ⟨zj, 0, none⟩) := by rw [ha18, ev_other _ _ _ _ (by decide)]; exact f17_148
  rw [← ha18] at h0 ⊢
  clear ha18
  refine wpAnyH_ready (rs := [11]) (by kernel_rfl) (by simp) ?_
  refine AllReadyH.cons (o := mi_11 s) (by kernel_rfl) (fun KQ hKQ => ?_) AllReadyH.nil
  rw [if_pos (wanted_none rfl)]
  refine step_enterE 33 #[.pointer q, .pointer qj] (by rw [mi_enter11, f18_134, f18_140]) (fun V w' => ∃ zp, V = .pointer (some ⟨zp, 0, none⟩) ∧ M1 w1 zp w') ((hc1 w1 hM0).mono (fun e w' ⟨x, h1, h2⟩ => ⟨_, h1, x, rfl, h2⟩)) ?_
  rintro _ w2 ⟨zp, rfl, hM1⟩
  refine hKQ.out _ _ (hk1 w1 zp w2 hM0 hM1) (fun _ => ?_)
  clear hKQ KQ
  change wpAnyH _ _ _ _ _ _ _ (a0_18.put (some 141) (.pointer (some ⟨zp, 0, none⟩))) _
  have h0 := h0 zp w2 hM1
  obtain ⟨a0_19, ha19⟩ : ∃ rr : Act, rr = a0_18.put (some 141) (.pointer (some ⟨zp, 0, none⟩)) := ⟨_, rfl⟩
  have qz19 : 150 < a0_19.tmps.size := by rw [ha19, sz_put]; exact qz18
  have f19_130 : a0_19.eval (.tmp 130) = .pointer (some ⟨wz, 0, none⟩) := by rw [ha19, ev_other _ _ _ _ (by decide)]; exact f18_130
  have f19_133 : a0_19.eval (.tmp 133) = .int .i64 (j2 : Int) := by rw [ha19, ev_other _ _ _ _ (by decide)]; exact f18_133
  have f19_141 : a0_19.eval (.tmp 141) = .pointer (some ⟨zp, 0, none⟩) := by rw [ha19]; exact ev_same _ _ _ (Nat.lt_of_le_of_lt (by decide) qz18)
  have f19_142 : a0_19.eval (.tmp 142) = .pointer (some ⟨z, 0, none⟩) := by rw [ha19, ev_other _ _ _ _ (by decide)]; exact f18_142
  have f19_148 : a0_19.eval (.tmp 148) = .pointer (some ⟨zj, 0, none⟩) := by rw [ha19, ev_other _ _ _ _ (by decide)]; exact f18_148
  rw [← ha19] at h0 ⊢
  clear ha19
  refine wpAnyH_ready (rs := [19]) (by kernel_rfl) (by simp) ?_
  refine AllReadyH.cons (o := mi_19 s) (by kernel_rfl) (fun KQ hKQ => ?_) AllReadyH.nil
  rw [if_pos (wanted_none rfl)]
  refine step_enterE 34 #[.pointer (some ⟨z, 0, none⟩), .pointer (some ⟨zj, 0, none⟩)] (by rw [mi_enter19, f19_142, f19_148]) (fun V w' => ∃ zn, V = .pointer (some ⟨zn, 0, none⟩) ∧ M2 w1 zp w2 zn w') ((hc2 w1 zp w2 hM0 hM1).mono (fun e w' ⟨x, h1, h2⟩ => ⟨_, h1, x, rfl, h2⟩)) ?_
  rintro _ w3 ⟨zn, rfl, hM2⟩
  refine hKQ.out _ _ (hk2 w1 zp w2 zn w3 hM0 hM1 hM2) (fun _ => ?_)
  clear hKQ KQ
  change wpAnyH _ _ _ _ _ _ _ (a0_19.put (some 149) (.pointer (some ⟨zn, 0, none⟩))) _
  have h0 := h0 zn w3 hM2
  obtain ⟨a0_20, ha20⟩ : ∃ rr : Act, rr = a0_19.put (some 149) (.pointer (some ⟨zn, 0, none⟩)) := ⟨_, rfl⟩
  have qz20 : 150 < a0_20.tmps.size := by rw [ha20, sz_put]; exact qz19
  have f20_130 : a0_20.eval (.tmp 130) = .pointer (some ⟨wz, 0, none⟩) := by rw [ha20, ev_other _ _ _ _ (by decide)]; exact f19_130
  have f20_133 : a0_20.eval (.tmp 133) = .int .i64 (j2 : Int) := by rw [ha20, ev_other _ _ _ _ (by decide)]; exact f19_133
  have f20_141 : a0_20.eval (.tmp 141) = .pointer (some ⟨zp, 0, none⟩) := by rw [ha20, ev_other _ _ _ _ (by decide)]; exact f19_141
  have f20_149 : a0_20.eval (.tmp 149) = .pointer (some ⟨zn, 0, none⟩) := by rw [ha20]; exact ev_same _ _ _ (Nat.lt_of_le_of_lt (by decide) qz19)
  rw [← ha20] at h0 ⊢
  clear ha20
  refine wpAnyH_ready (rs := [20]) (by kernel_rfl) (by simp) ?_
  refine AllReadyH.cons (o := mi_20 s) (by kernel_rfl) (fun KQ hKQ => ?_) AllReadyH.nil
  rw [if_pos (wanted_none rfl)]
  refine step_enterE 5 #[.pointer (some ⟨wz, 0, none⟩), .int .i64 (j2 : Int), .pointer (some ⟨zp, 0, none⟩), .pointer (some ⟨zn, 0, none⟩)] (by rw [mi_enter20, f20_130, f20_133, f20_141, f20_149]) (fun V w' => V = .bool true ∧ M3 w1 zp w2 zn w3 w') ((hc3 w1 zp w2 zn w3 hM0 hM1 hM2).mono (fun e w' ⟨h1, h2⟩ => ⟨_, h1, rfl, h2⟩)) ?_
  rintro _ w4 ⟨rfl, hM3⟩
  refine hKQ.out _ _ (hk3 w1 zp w2 zn w3 w4 hM0 hM1 hM2 hM3) (fun _ => ?_)
  clear hKQ KQ
  change wpAnyH _ _ _ _ _ _ _ (a0_20.put (some 150) (.bool true)) _
  have h0 := h0 w4 hM3
  obtain ⟨a0_21, ha21⟩ : ∃ rr : Act, rr = a0_20.put (some 150) (.bool true) := ⟨_, rfl⟩
  have qz21 : 150 < a0_21.tmps.size := by rw [ha21, sz_put]; exact qz20
  have f21_150 : a0_21.eval (.tmp 150) = .bool true := by rw [ha21]; exact ev_same _ _ _ (Nat.lt_of_le_of_lt (by decide) qz20)
  rw [← ha21] at h0 ⊢
  clear ha21
  refine wpAnyH_take (i := 21) (oi := mi_21 s) (v := .bool true) (by kernel_rfl) (by kernel_rfl) (by kernel_rfl) (by kernel_rfl) (fun c a w h => hQ c _ _ _ w h) (Or.inl ⟨wanted_none rfl, fun w hw => by simp only [execOp, mi_21, f21_150]; rfl⟩) (hk3 w1 zp w2 zn w3 w4 hM0 hM1 hM2 hM3) ?_
  change wpAnyH _ _ _ _ _ _ _ (a0_21.put (some 4) (.bool true)) _
  obtain ⟨a0_22, ha22⟩ : ∃ rr : Act, rr = a0_21.put (some 4) (.bool true) := ⟨_, rfl⟩
  have qz22 : 150 < a0_22.tmps.size := by rw [ha22, sz_put]; exact qz21
  rw [← ha22] at h0 ⊢
  clear ha22
  refine wpAnyH_done (by kernel_rfl) ?_ _
  exact h0
def no_0 (s : String) : Oper := { dst := some 153, op := Op.move (Operand.tmp 0), type := 24, pos := s, after := #[], guard := none }
def no_1 (s : String) : Oper := { dst := some 154, op := Op.move (Operand.tmp 5), type := 3, pos := s, after := #[], guard := none }
def no_2 (s : String) : Oper := { dst := some 155, op := Op.move (Operand.tmp 0), type := 24, pos := s, after := #[{ on := 10, ground := Ground.gcOnly Departure.lateStores }], guard := none }
def no_3 (s : String) : Oper := { dst := some 156, op := Op.move (Operand.tmp 5), type := 3, pos := s, after := #[{ on := 10, ground := Ground.gcOnly Departure.lateStores }], guard := none }
def no_4 (s : String) : Oper := { dst := some 157, op := Op.move (Operand.tmp 0), type := 24, pos := s, after := #[{ on := 14, ground := Ground.gcOnly Departure.lateStores }], guard := none }
def no_5 (s : String) : Oper := { dst := some 158, op := Op.move (Operand.tmp 5), type := 3, pos := s, after := #[{ on := 14, ground := Ground.gcOnly Departure.lateStores }], guard := none }
def no_6 (s : String) : Oper := { dst := some 159, op := Op.call { callee := Callee.value (Operand.func 7), args := #[Operand.const (Value.slice none 0 0)], argTypes := #[39] }, type := 27, pos := s, after := #[], guard := none }
def no_7 (s : String) : Oper := { dst := some 160, op := Op.nilCheck (Operand.tmp 153), type := 0, pos := s, after := #[{ on := 0, ground := Ground.data }], guard := none }
def no_8 (s : String) : Oper := { dst := some 161, op := Op.fieldAddr 32 (Operand.tmp 160) 0, type := 0, pos := s, after := #[{ on := 7, ground := Ground.data }], guard := none }
def no_9 (s : String) : Oper := { dst := some 162, op := Op.indexAddr 26 (Operand.tmp 161) (Operand.tmp 154), type := 0, pos := s, after := #[{ on := 8, ground := Ground.data }, { on := 1, ground := Ground.data }, { on := 0, ground := Ground.phase }, { on := 1, ground := Ground.phase }, { on := 2, ground := Ground.textOnly Departure.lateStores }, { on := 3, ground := Ground.textOnly Departure.lateStores }, { on := 4, ground := Ground.textOnly Departure.lateStores }, { on := 5, ground := Ground.textOnly Departure.lateStores }, { on := 6, ground := Ground.phase }], guard := none }
def no_10 (s : String) : Oper := { dst := none, op := Op.store 25 (Operand.tmp 162) (Operand.const (Value.pointer none)), type := 0, pos := s, after := #[{ on := 9, ground := Ground.data }, { on := 6, ground := Ground.chain }, { on := 0, ground := Ground.phase }, { on := 1, ground := Ground.phase }, { on := 2, ground := Ground.textOnly Departure.lateStores }, { on := 3, ground := Ground.textOnly Departure.lateStores }, { on := 4, ground := Ground.textOnly Departure.lateStores }, { on := 5, ground := Ground.textOnly Departure.lateStores }, { on := 6, ground := Ground.phase }], guard := none }
def no_11 (s : String) : Oper := { dst := some 163, op := Op.nilCheck (Operand.tmp 155), type := 0, pos := s, after := #[{ on := 2, ground := Ground.data }], guard := none }
def no_12 (s : String) : Oper := { dst := some 164, op := Op.fieldAddr 32 (Operand.tmp 163) 1, type := 0, pos := s, after := #[{ on := 11, ground := Ground.data }], guard := none }
def no_13 (s : String) : Oper := { dst := some 165, op := Op.indexAddr 28 (Operand.tmp 164) (Operand.tmp 156), type := 0, pos := s, after := #[{ on := 12, ground := Ground.data }, { on := 3, ground := Ground.data }, { on := 0, ground := Ground.phase }, { on := 1, ground := Ground.phase }, { on := 2, ground := Ground.phase }, { on := 3, ground := Ground.phase }, { on := 4, ground := Ground.textOnly Departure.lateStores }, { on := 5, ground := Ground.textOnly Departure.lateStores }, { on := 6, ground := Ground.phase }, { on := 7, ground := Ground.phase }, { on := 8, ground := Ground.phase }, { on := 9, ground := Ground.phase }, { on := 10, ground := Ground.phase }], guard := none }
def no_14 (s : String) : Oper := { dst := none, op := Op.store 27 (Operand.tmp 165) (Operand.tmp 159), type := 0, pos := s, after := #[{ on := 13, ground := Ground.data }, { on := 6, ground := Ground.data }, { on := 10, ground := Ground.chain }, { on := 0, ground := Ground.phase }, { on := 1, ground := Ground.phase }, { on := 2, ground := Ground.phase }, { on := 3, ground := Ground.phase }, { on := 4, ground := Ground.textOnly Departure.lateStores }, { on := 5, ground := Ground.textOnly Departure.lateStores }, { on := 6, ground := Ground.phase }, { on := 7, ground := Ground.phase }, { on := 8, ground := Ground.phase }, { on := 9, ground := Ground.phase }, { on := 10, ground := Ground.phase }], guard := none }
def no_15 (s : String) : Oper := { dst := some 166, op := Op.nilCheck (Operand.tmp 157), type := 0, pos := s, after := #[{ on := 4, ground := Ground.data }], guard := none }
def no_16 (s : String) : Oper := { dst := some 167, op := Op.fieldAddr 32 (Operand.tmp 166) 2, type := 0, pos := s, after := #[{ on := 15, ground := Ground.data }], guard := none }
def no_17 (s : String) : Oper := { dst := some 168, op := Op.indexAddr 29 (Operand.tmp 167) (Operand.tmp 158), type := 0, pos := s, after := #[{ on := 16, ground := Ground.data }, { on := 5, ground := Ground.data }, { on := 0, ground := Ground.phase }, { on := 1, ground := Ground.phase }, { on := 2, ground := Ground.phase }, { on := 3, ground := Ground.phase }, { on := 4, ground := Ground.phase }, { on := 5, ground := Ground.phase }, { on := 6, ground := Ground.phase }, { on := 7, ground := Ground.phase }, { on := 8, ground := Ground.phase }, { on := 9, ground := Ground.phase }, { on := 10, ground := Ground.phase }, { on := 11, ground := Ground.phase }, { on := 12, ground := Ground.phase }, { on := 13, ground := Ground.phase }, { on := 14, ground := Ground.phase }], guard := none }
def no_18 (s : String) : Oper := { dst := none, op := Op.store 4 (Operand.tmp 168) (Operand.const (Value.bool true)), type := 0, pos := s, after := #[{ on := 17, ground := Ground.data }, { on := 14, ground := Ground.chain }, { on := 0, ground := Ground.phase }, { on := 1, ground := Ground.phase }, { on := 2, ground := Ground.phase }, { on := 3, ground := Ground.phase }, { on := 4, ground := Ground.phase }, { on := 5, ground := Ground.phase }, { on := 6, ground := Ground.phase }, { on := 7, ground := Ground.phase }, { on := 8, ground := Ground.phase }, { on := 9, ground := Ground.phase }, { on := 10, ground := Ground.phase }, { on := 11, ground := Ground.phase }, { on := 12, ground := Ground.phase }, { on := 13, ground := Ground.phase }, { on := 14, ground := Ground.phase }], guard := none }
def no_ops (s : String) : Array Oper := #[no_0 s, no_1 s, no_2 s, no_3 s, no_4 s, no_5 s, no_6 s, no_7 s, no_8 s, no_9 s, no_10 s, no_11 s, no_12 s, no_13 s, no_14 s, no_15 s, no_16 s, no_17 s, no_18 s]
theorem no_enter6 (s : String) (a : Act) (w : World) : (execOp a.eval (no_6 s)).run Try.prog w = .ok (.enter 7 #[Value.slice none 0 0]) w := by kernel_rfl
theorem no_walk (s : String) {Q : Exit → Act → World → Prop} (hQ : ∀ c (a : Act) t v w, Q (.panic c) (a.put (some t) v) w → Q (.panic c) a w) (W : World) (wz j : Nat) (hj : j < 3) (A : Array Value) (hA : A.size = 10) (M1 : Nat → World → Prop) (hc1 : Calls Try.prog 7 #[.slice none 0 0] W.drew fun e w' => ∃ zn, e = .returned (.pointer (some ⟨zn, 0, none⟩)) ∧ M1 zn w') (hB : ∀ zn w2, M1 zn w2 → Blk w2 wz A WT)
    (a : Act) (hs : 168 < a.tmps.size) (e0 : a.eval (.tmp 0) = .pointer (some ⟨wz, 0, none⟩)) (e5 : a.eval (.tmp 5) = .int .i64 (j : Int))
    (h0 : ∀ zn w2, M1 zn w2 → Q .normal ((((((((((((((((a.put (some 153) (.pointer (some ⟨wz, 0, none⟩))).put (some 154) (.int .i64 (j : Int))).put (some 160) (.pointer (some ⟨wz, 0, none⟩))).put (some 161) (.pointer (some ⟨wz, 0, none⟩))).put (some 155) (.pointer (some ⟨wz, 0, none⟩))).put (some 156) (.int .i64 (j : Int))).put (some 157) (.pointer (some ⟨wz, 0, none⟩))).put (some 158) (.int .i64 (j : Int))).put (some 163) (.pointer (some ⟨wz, 0, none⟩))).put (some 164) (.pointer (some ⟨wz, 3, none⟩))).put (some 166) (.pointer (some ⟨wz, 0, none⟩))).put (some 167) (.pointer (some ⟨wz, 6, none⟩))).put (some 159) (.pointer (some ⟨zn, 0, none⟩))).put (some 162) (.pointer (some ⟨wz, j, none⟩))).put (some 165) (.pointer (some ⟨wz, 3 + j, none⟩))).put (some 168) (.pointer (some ⟨wz, 6 + j, none⟩))) (((w2.setCell ⟨wz, j, none⟩ (.pointer none)).setCell ⟨wz, 3 + j, none⟩ (.pointer (some ⟨zn, 0, none⟩))).setCell ⟨wz, 6 + j, none⟩ (.bool true))) :
    Code.wp Try.prog (.region 19 (no_ops s) true) Q a W := by
  refine wp_region_held_drew (S := fun _ => True) (by kernel_rfl) trivial (fun hS => ?_)
  change wpAnyH _ _ _ _ _ _ _ _ (World.drew _)
  refine wpAnyH_take (i := 0) (oi := no_0 s) (v := .pointer (some ⟨wz, 0, none⟩)) (by kernel_rfl) (by kernel_rfl) (by kernel_rfl) (by kernel_rfl) (fun c a w h => hQ c _ _ _ w h) (Or.inl ⟨wanted_none rfl, fun w hw => by simp only [execOp, no_0, e0]; rfl⟩) hS ?_
  change wpAnyH _ _ _ _ _ _ _ (a.put (some 153) (.pointer (some ⟨wz, 0, none⟩))) _
  obtain ⟨a0_1, ha1⟩ : ∃ rr : Act, rr = a.put (some 153) (.pointer (some ⟨wz, 0, none⟩)) := ⟨_, rfl⟩
  have qz1 : 168 < a0_1.tmps.size := by rw [ha1, sz_put]; exact hs
  have f1_0 : a0_1.eval (.tmp 0) = .pointer (some ⟨wz, 0, none⟩) := by rw [ha1, ev_other _ _ _ _ (by decide)]; exact e0
  have f1_5 : a0_1.eval (.tmp 5) = .int .i64 (j : Int) := by rw [ha1, ev_other _ _ _ _ (by decide)]; exact e5
  have f1_153 : a0_1.eval (.tmp 153) = .pointer (some ⟨wz, 0, none⟩) := by rw [ha1]; exact ev_same _ _ _ (Nat.lt_of_le_of_lt (by decide) hs)
  rw [← ha1] at h0 ⊢
  clear ha1
  refine wpAnyH_take (i := 1) (oi := no_1 s) (v := .int .i64 (j : Int)) (by kernel_rfl) (by kernel_rfl) (by kernel_rfl) (by kernel_rfl) (fun c a w h => hQ c _ _ _ w h) (Or.inl ⟨wanted_none rfl, fun w hw => by simp only [execOp, no_1, f1_5]; rfl⟩) hS ?_
  change wpAnyH _ _ _ _ _ _ _ (a0_1.put (some 154) (.int .i64 (j : Int))) _
  obtain ⟨a0_2, ha2⟩ : ∃ rr : Act, rr = a0_1.put (some 154) (.int .i64 (j : Int)) := ⟨_, rfl⟩
  have qz2 : 168 < a0_2.tmps.size := by rw [ha2, sz_put]; exact qz1
  have f2_0 : a0_2.eval (.tmp 0) = .pointer (some ⟨wz, 0, none⟩) := by rw [ha2, ev_other _ _ _ _ (by decide)]; exact f1_0
  have f2_5 : a0_2.eval (.tmp 5) = .int .i64 (j : Int) := by rw [ha2, ev_other _ _ _ _ (by decide)]; exact f1_5
  have f2_153 : a0_2.eval (.tmp 153) = .pointer (some ⟨wz, 0, none⟩) := by rw [ha2, ev_other _ _ _ _ (by decide)]; exact f1_153
  have f2_154 : a0_2.eval (.tmp 154) = .int .i64 (j : Int) := by rw [ha2]; exact ev_same _ _ _ (Nat.lt_of_le_of_lt (by decide) qz1)
  rw [← ha2] at h0 ⊢
  clear ha2
  refine wpAnyH_take (i := 7) (oi := no_7 s) (v := .pointer (some ⟨wz, 0, none⟩)) (by kernel_rfl) (by kernel_rfl) (by kernel_rfl) (by kernel_rfl) (fun c a w h => hQ c _ _ _ w h) (Or.inl ⟨wanted_none rfl, fun w hw => run_nil rfl f2_153 w⟩) hS ?_
  change wpAnyH _ _ _ _ _ _ _ (a0_2.put (some 160) (.pointer (some ⟨wz, 0, none⟩))) _
  obtain ⟨a0_3, ha3⟩ : ∃ rr : Act, rr = a0_2.put (some 160) (.pointer (some ⟨wz, 0, none⟩)) := ⟨_, rfl⟩
  have qz3 : 168 < a0_3.tmps.size := by rw [ha3, sz_put]; exact qz2
  have f3_0 : a0_3.eval (.tmp 0) = .pointer (some ⟨wz, 0, none⟩) := by rw [ha3, ev_other _ _ _ _ (by decide)]; exact f2_0
  have f3_5 : a0_3.eval (.tmp 5) = .int .i64 (j : Int) := by rw [ha3, ev_other _ _ _ _ (by decide)]; exact f2_5
  have f3_154 : a0_3.eval (.tmp 154) = .int .i64 (j : Int) := by rw [ha3, ev_other _ _ _ _ (by decide)]; exact f2_154
  have f3_160 : a0_3.eval (.tmp 160) = .pointer (some ⟨wz, 0, none⟩) := by rw [ha3]; exact ev_same _ _ _ (Nat.lt_of_le_of_lt (by decide) qz2)
  rw [← ha3] at h0 ⊢
  clear ha3
  refine wpAnyH_take (i := 8) (oi := no_8 s) (v := .pointer (some ⟨wz, 0, none⟩)) (by kernel_rfl) (by kernel_rfl) (by kernel_rfl) (by kernel_rfl) (fun c a w h => hQ c _ _ _ w h) (Or.inl ⟨wanted_none rfl, fun w hw => fldW wz 0 0 (fW0 wz) rfl f3_160 w⟩) hS ?_
  change wpAnyH _ _ _ _ _ _ _ (a0_3.put (some 161) (.pointer (some ⟨wz, 0, none⟩))) _
  obtain ⟨a0_4, ha4⟩ : ∃ rr : Act, rr = a0_3.put (some 161) (.pointer (some ⟨wz, 0, none⟩)) := ⟨_, rfl⟩
  have qz4 : 168 < a0_4.tmps.size := by rw [ha4, sz_put]; exact qz3
  have f4_0 : a0_4.eval (.tmp 0) = .pointer (some ⟨wz, 0, none⟩) := by rw [ha4, ev_other _ _ _ _ (by decide)]; exact f3_0
  have f4_5 : a0_4.eval (.tmp 5) = .int .i64 (j : Int) := by rw [ha4, ev_other _ _ _ _ (by decide)]; exact f3_5
  have f4_154 : a0_4.eval (.tmp 154) = .int .i64 (j : Int) := by rw [ha4, ev_other _ _ _ _ (by decide)]; exact f3_154
  have f4_161 : a0_4.eval (.tmp 161) = .pointer (some ⟨wz, 0, none⟩) := by rw [ha4]; exact ev_same _ _ _ (Nat.lt_of_le_of_lt (by decide) qz3)
  rw [← ha4] at h0 ⊢
  clear ha4
  refine wpAnyH_take (i := 2) (oi := no_2 s) (v := .pointer (some ⟨wz, 0, none⟩)) (by kernel_rfl) (by kernel_rfl) (by kernel_rfl) (by kernel_rfl) (fun c a w h => hQ c _ _ _ w h) (Or.inl ⟨wanted_none rfl, fun w hw => by simp only [execOp, no_2, f4_0]; rfl⟩) hS ?_
  change wpAnyH _ _ _ _ _ _ _ (a0_4.put (some 155) (.pointer (some ⟨wz, 0, none⟩))) _
  obtain ⟨a0_5, ha5⟩ : ∃ rr : Act, rr = a0_4.put (some 155) (.pointer (some ⟨wz, 0, none⟩)) := ⟨_, rfl⟩
  have qz5 : 168 < a0_5.tmps.size := by rw [ha5, sz_put]; exact qz4
  have f5_0 : a0_5.eval (.tmp 0) = .pointer (some ⟨wz, 0, none⟩) := by rw [ha5, ev_other _ _ _ _ (by decide)]; exact f4_0
  have f5_5 : a0_5.eval (.tmp 5) = .int .i64 (j : Int) := by rw [ha5, ev_other _ _ _ _ (by decide)]; exact f4_5
  have f5_154 : a0_5.eval (.tmp 154) = .int .i64 (j : Int) := by rw [ha5, ev_other _ _ _ _ (by decide)]; exact f4_154
  have f5_155 : a0_5.eval (.tmp 155) = .pointer (some ⟨wz, 0, none⟩) := by rw [ha5]; exact ev_same _ _ _ (Nat.lt_of_le_of_lt (by decide) qz4)
  have f5_161 : a0_5.eval (.tmp 161) = .pointer (some ⟨wz, 0, none⟩) := by rw [ha5, ev_other _ _ _ _ (by decide)]; exact f4_161
  rw [← ha5] at h0 ⊢
  clear ha5
  refine wpAnyH_take (i := 3) (oi := no_3 s) (v := .int .i64 (j : Int)) (by kernel_rfl) (by kernel_rfl) (by kernel_rfl) (by kernel_rfl) (fun c a w h => hQ c _ _ _ w h) (Or.inl ⟨wanted_none rfl, fun w hw => by simp only [execOp, no_3, f5_5]; rfl⟩) hS ?_
  change wpAnyH _ _ _ _ _ _ _ (a0_5.put (some 156) (.int .i64 (j : Int))) _
  obtain ⟨a0_6, ha6⟩ : ∃ rr : Act, rr = a0_5.put (some 156) (.int .i64 (j : Int)) := ⟨_, rfl⟩
  have qz6 : 168 < a0_6.tmps.size := by rw [ha6, sz_put]; exact qz5
  have f6_0 : a0_6.eval (.tmp 0) = .pointer (some ⟨wz, 0, none⟩) := by rw [ha6, ev_other _ _ _ _ (by decide)]; exact f5_0
  have f6_5 : a0_6.eval (.tmp 5) = .int .i64 (j : Int) := by rw [ha6, ev_other _ _ _ _ (by decide)]; exact f5_5
  have f6_154 : a0_6.eval (.tmp 154) = .int .i64 (j : Int) := by rw [ha6, ev_other _ _ _ _ (by decide)]; exact f5_154
  have f6_155 : a0_6.eval (.tmp 155) = .pointer (some ⟨wz, 0, none⟩) := by rw [ha6, ev_other _ _ _ _ (by decide)]; exact f5_155
  have f6_156 : a0_6.eval (.tmp 156) = .int .i64 (j : Int) := by rw [ha6]; exact ev_same _ _ _ (Nat.lt_of_le_of_lt (by decide) qz5)
  have f6_161 : a0_6.eval (.tmp 161) = .pointer (some ⟨wz, 0, none⟩) := by rw [ha6, ev_other _ _ _ _ (by decide)]; exact f5_161
  rw [← ha6] at h0 ⊢
  clear ha6
  refine wpAnyH_take (i := 4) (oi := no_4 s) (v := .pointer (some ⟨wz, 0, none⟩)) (by kernel_rfl) (by kernel_rfl) (by kernel_rfl) (by kernel_rfl) (fun c a w h => hQ c _ _ _ w h) (Or.inl ⟨wanted_none rfl, fun w hw => by simp only [execOp, no_4, f6_0]; rfl⟩) hS ?_
  change wpAnyH _ _ _ _ _ _ _ (a0_6.put (some 157) (.pointer (some ⟨wz, 0, none⟩))) _
  obtain ⟨a0_7, ha7⟩ : ∃ rr : Act, rr = a0_6.put (some 157) (.pointer (some ⟨wz, 0, none⟩)) := ⟨_, rfl⟩
  have qz7 : 168 < a0_7.tmps.size := by rw [ha7, sz_put]; exact qz6
  have f7_5 : a0_7.eval (.tmp 5) = .int .i64 (j : Int) := by rw [ha7, ev_other _ _ _ _ (by decide)]; exact f6_5
  have f7_154 : a0_7.eval (.tmp 154) = .int .i64 (j : Int) := by rw [ha7, ev_other _ _ _ _ (by decide)]; exact f6_154
  have f7_155 : a0_7.eval (.tmp 155) = .pointer (some ⟨wz, 0, none⟩) := by rw [ha7, ev_other _ _ _ _ (by decide)]; exact f6_155
  have f7_156 : a0_7.eval (.tmp 156) = .int .i64 (j : Int) := by rw [ha7, ev_other _ _ _ _ (by decide)]; exact f6_156
  have f7_157 : a0_7.eval (.tmp 157) = .pointer (some ⟨wz, 0, none⟩) := by rw [ha7]; exact ev_same _ _ _ (Nat.lt_of_le_of_lt (by decide) qz6)
  have f7_161 : a0_7.eval (.tmp 161) = .pointer (some ⟨wz, 0, none⟩) := by rw [ha7, ev_other _ _ _ _ (by decide)]; exact f6_161
  rw [← ha7] at h0 ⊢
  clear ha7
  refine wpAnyH_take (i := 5) (oi := no_5 s) (v := .int .i64 (j : Int)) (by kernel_rfl) (by kernel_rfl) (by kernel_rfl) (by kernel_rfl) (fun c a w h => hQ c _ _ _ w h) (Or.inl ⟨wanted_none rfl, fun w hw => by simp only [execOp, no_5, f7_5]; rfl⟩) hS ?_
  change wpAnyH _ _ _ _ _ _ _ (a0_7.put (some 158) (.int .i64 (j : Int))) _
  obtain ⟨a0_8, ha8⟩ : ∃ rr : Act, rr = a0_7.put (some 158) (.int .i64 (j : Int)) := ⟨_, rfl⟩
  have qz8 : 168 < a0_8.tmps.size := by rw [ha8, sz_put]; exact qz7
  have f8_154 : a0_8.eval (.tmp 154) = .int .i64 (j : Int) := by rw [ha8, ev_other _ _ _ _ (by decide)]; exact f7_154
  have f8_155 : a0_8.eval (.tmp 155) = .pointer (some ⟨wz, 0, none⟩) := by rw [ha8, ev_other _ _ _ _ (by decide)]; exact f7_155
  have f8_156 : a0_8.eval (.tmp 156) = .int .i64 (j : Int) := by rw [ha8, ev_other _ _ _ _ (by decide)]; exact f7_156
  have f8_157 : a0_8.eval (.tmp 157) = .pointer (some ⟨wz, 0, none⟩) := by rw [ha8, ev_other _ _ _ _ (by decide)]; exact f7_157
  have f8_158 : a0_8.eval (.tmp 158) = .int .i64 (j : Int) := by rw [ha8]; exact ev_same _ _ _ (Nat.lt_of_le_of_lt (by decide) qz7)
  have f8_161 : a0_8.eval (.tmp 161) = .pointer (some ⟨wz, 0, none⟩) := by rw [ha8, ev_other _ _ _ _ (by decide)]; exact f7_161
  rw [← ha8] at h0 ⊢
  clear ha8
  refine wpAnyH_take (i := 11) (oi := no_11 s) (v := .pointer (some ⟨wz, 0, none⟩)) (by kernel_rfl) (by kernel_rfl) (by kernel_rfl) (by kernel_rfl) (fun c a w h => hQ c _ _ _ w h) (Or.inl ⟨wanted_none rfl, fun w hw => run_nil rfl f8_155 w⟩) hS ?_
  change wpAnyH _ _ _ _ _ _ _ (a0_8.put (some 163) (.pointer (some ⟨wz, 0, none⟩))) _
  obtain ⟨a0_9, ha9⟩ : ∃ rr : Act, rr = a0_8.put (some 163) (.pointer (some ⟨wz, 0, none⟩)) := ⟨_, rfl⟩
  have qz9 : 168 < a0_9.tmps.size := by rw [ha9, sz_put]; exact qz8
  have f9_154 : a0_9.eval (.tmp 154) = .int .i64 (j : Int) := by rw [ha9, ev_other _ _ _ _ (by decide)]; exact f8_154
  have f9_156 : a0_9.eval (.tmp 156) = .int .i64 (j : Int) := by rw [ha9, ev_other _ _ _ _ (by decide)]; exact f8_156
  have f9_157 : a0_9.eval (.tmp 157) = .pointer (some ⟨wz, 0, none⟩) := by rw [ha9, ev_other _ _ _ _ (by decide)]; exact f8_157
  have f9_158 : a0_9.eval (.tmp 158) = .int .i64 (j : Int) := by rw [ha9, ev_other _ _ _ _ (by decide)]; exact f8_158
  have f9_161 : a0_9.eval (.tmp 161) = .pointer (some ⟨wz, 0, none⟩) := by rw [ha9, ev_other _ _ _ _ (by decide)]; exact f8_161
  have f9_163 : a0_9.eval (.tmp 163) = .pointer (some ⟨wz, 0, none⟩) := by rw [ha9]; exact ev_same _ _ _ (Nat.lt_of_le_of_lt (by decide) qz8)
  rw [← ha9] at h0 ⊢
  clear ha9
  refine wpAnyH_take (i := 12) (oi := no_12 s) (v := .pointer (some ⟨wz, 3, none⟩)) (by kernel_rfl) (by kernel_rfl) (by kernel_rfl) (by kernel_rfl) (fun c a w h => hQ c _ _ _ w h) (Or.inl ⟨wanted_none rfl, fun w hw => fldW wz 1 3 (fW1 wz) rfl f9_163 w⟩) hS ?_
  change wpAnyH _ _ _ _ _ _ _ (a0_9.put (some 164) (.pointer (some ⟨wz, 3, none⟩))) _
  obtain ⟨a0_10, ha10⟩ : ∃ rr : Act, rr = a0_9.put (some 164) (.pointer (some ⟨wz, 3, none⟩)) := ⟨_, rfl⟩
  have qz10 : 168 < a0_10.tmps.size := by rw [ha10, sz_put]; exact qz9
  have f10_154 : a0_10.eval (.tmp 154) = .int .i64 (j : Int) := by rw [ha10, ev_other _ _ _ _ (by decide)]; exact f9_154
  have f10_156 : a0_10.eval (.tmp 156) = .int .i64 (j : Int) := by rw [ha10, ev_other _ _ _ _ (by decide)]; exact f9_156
  have f10_157 : a0_10.eval (.tmp 157) = .pointer (some ⟨wz, 0, none⟩) := by rw [ha10, ev_other _ _ _ _ (by decide)]; exact f9_157
  have f10_158 : a0_10.eval (.tmp 158) = .int .i64 (j : Int) := by rw [ha10, ev_other _ _ _ _ (by decide)]; exact f9_158
  have f10_161 : a0_10.eval (.tmp 161) = .pointer (some ⟨wz, 0, none⟩) := by rw [ha10, ev_other _ _ _ _ (by decide)]; exact f9_161
  have f10_164 : a0_10.eval (.tmp 164) = .pointer (some ⟨wz, 3, none⟩) := by rw [ha10]; exact ev_same _ _ _ (Nat.lt_of_le_of_lt (by decide) qz9)
  rw [← ha10] at h0 ⊢
  clear ha10
  refine wpAnyH_take (i := 15) (oi := no_15 s) (v := .pointer (some ⟨wz, 0, none⟩)) (by kernel_rfl) (by kernel_rfl) (by kernel_rfl) (by kernel_rfl) (fun c a w h => hQ c _ _ _ w h) (Or.inl ⟨wanted_none rfl, fun w hw => run_nil rfl f10_157 w⟩) hS ?_
  change wpAnyH _ _ _ _ _ _ _ (a0_10.put (some 166) (.pointer (some ⟨wz, 0, none⟩))) _
  obtain ⟨a0_11, ha11⟩ : ∃ rr : Act, rr = a0_10.put (some 166) (.pointer (some ⟨wz, 0, none⟩)) := ⟨_, rfl⟩
  have qz11 : 168 < a0_11.tmps.size := by rw [ha11, sz_put]; exact qz10
  have f11_154 : a0_11.eval (.tmp 154) = .int .i64 (j : Int) := by rw [ha11, ev_other _ _ _ _ (by decide)]; exact f10_154
  have f11_156 : a0_11.eval (.tmp 156) = .int .i64 (j : Int) := by rw [ha11, ev_other _ _ _ _ (by decide)]; exact f10_156
  have f11_158 : a0_11.eval (.tmp 158) = .int .i64 (j : Int) := by rw [ha11, ev_other _ _ _ _ (by decide)]; exact f10_158
  have f11_161 : a0_11.eval (.tmp 161) = .pointer (some ⟨wz, 0, none⟩) := by rw [ha11, ev_other _ _ _ _ (by decide)]; exact f10_161
  have f11_164 : a0_11.eval (.tmp 164) = .pointer (some ⟨wz, 3, none⟩) := by rw [ha11, ev_other _ _ _ _ (by decide)]; exact f10_164
  have f11_166 : a0_11.eval (.tmp 166) = .pointer (some ⟨wz, 0, none⟩) := by rw [ha11]; exact ev_same _ _ _ (Nat.lt_of_le_of_lt (by decide) qz10)
  rw [← ha11] at h0 ⊢
  clear ha11
  refine wpAnyH_take (i := 16) (oi := no_16 s) (v := .pointer (some ⟨wz, 6, none⟩)) (by kernel_rfl) (by kernel_rfl) (by kernel_rfl) (by kernel_rfl) (fun c a w h => hQ c _ _ _ w h) (Or.inl ⟨wanted_none rfl, fun w hw => fldW wz 2 6 (fW2 wz) rfl f11_166 w⟩) hS ?_
  change wpAnyH _ _ _ _ _ _ _ (a0_11.put (some 167) (.pointer (some ⟨wz, 6, none⟩))) _
  obtain ⟨a0_12, ha12⟩ : ∃ rr : Act, rr = a0_11.put (some 167) (.pointer (some ⟨wz, 6, none⟩)) := ⟨_, rfl⟩
  have qz12 : 168 < a0_12.tmps.size := by rw [ha12, sz_put]; exact qz11
  have f12_154 : a0_12.eval (.tmp 154) = .int .i64 (j : Int) := by rw [ha12, ev_other _ _ _ _ (by decide)]; exact f11_154
  have f12_156 : a0_12.eval (.tmp 156) = .int .i64 (j : Int) := by rw [ha12, ev_other _ _ _ _ (by decide)]; exact f11_156
  have f12_158 : a0_12.eval (.tmp 158) = .int .i64 (j : Int) := by rw [ha12, ev_other _ _ _ _ (by decide)]; exact f11_158
  have f12_161 : a0_12.eval (.tmp 161) = .pointer (some ⟨wz, 0, none⟩) := by rw [ha12, ev_other _ _ _ _ (by decide)]; exact f11_161
  have f12_164 : a0_12.eval (.tmp 164) = .pointer (some ⟨wz, 3, none⟩) := by rw [ha12, ev_other _ _ _ _ (by decide)]; exact f11_164
  have f12_167 : a0_12.eval (.tmp 167) = .pointer (some ⟨wz, 6, none⟩) := by rw [ha12]; exact ev_same _ _ _ (Nat.lt_of_le_of_lt (by decide) qz11)
  rw [← ha12] at h0 ⊢
  clear ha12
  refine wpAnyH_ready (rs := [6]) (by kernel_rfl) (by simp) ?_
  refine AllReadyH.cons (o := no_6 s) (by kernel_rfl) (fun KQ hKQ => ?_) AllReadyH.nil
  rw [if_pos (wanted_none rfl)]
  refine step_enterE 7 #[.slice none 0 0] (by rw [no_enter6]) (fun V w' => ∃ zn, V = .pointer (some ⟨zn, 0, none⟩) ∧ M1 zn w') (hc1.mono (fun e w' ⟨x, h1, h2⟩ => ⟨_, h1, x, rfl, h2⟩)) ?_
  rintro _ w2 ⟨zn, rfl, hM1⟩
  refine hKQ.out _ _ (trivial) (fun _ => ?_)
  clear hKQ KQ
  change wpAnyH _ _ _ _ _ _ _ (a0_12.put (some 159) (.pointer (some ⟨zn, 0, none⟩))) _
  have h0 := h0 zn w2 hM1
  obtain ⟨a0_13, ha13⟩ : ∃ rr : Act, rr = a0_12.put (some 159) (.pointer (some ⟨zn, 0, none⟩)) := ⟨_, rfl⟩
  have qz13 : 168 < a0_13.tmps.size := by rw [ha13, sz_put]; exact qz12
  have f13_154 : a0_13.eval (.tmp 154) = .int .i64 (j : Int) := by rw [ha13, ev_other _ _ _ _ (by decide)]; exact f12_154
  have f13_156 : a0_13.eval (.tmp 156) = .int .i64 (j : Int) := by rw [ha13, ev_other _ _ _ _ (by decide)]; exact f12_156
  have f13_158 : a0_13.eval (.tmp 158) = .int .i64 (j : Int) := by rw [ha13, ev_other _ _ _ _ (by decide)]; exact f12_158
  have f13_159 : a0_13.eval (.tmp 159) = .pointer (some ⟨zn, 0, none⟩) := by rw [ha13]; exact ev_same _ _ _ (Nat.lt_of_le_of_lt (by decide) qz12)
  have f13_161 : a0_13.eval (.tmp 161) = .pointer (some ⟨wz, 0, none⟩) := by rw [ha13, ev_other _ _ _ _ (by decide)]; exact f12_161
  have f13_164 : a0_13.eval (.tmp 164) = .pointer (some ⟨wz, 3, none⟩) := by rw [ha13, ev_other _ _ _ _ (by decide)]; exact f12_164
  have f13_167 : a0_13.eval (.tmp 167) = .pointer (some ⟨wz, 6, none⟩) := by rw [ha13, ev_other _ _ _ _ (by decide)]; exact f12_167
  rw [← ha13] at h0 ⊢
  clear ha13
  refine wpAnyH_take (i := 9) (oi := no_9 s) (v := .pointer (some ⟨wz, j, none⟩)) (by kernel_rfl) (by kernel_rfl) (by kernel_rfl) (by kernel_rfl) (fun c a w h => hQ c _ _ _ w h) (Or.inl ⟨wanted_none rfl, fun w hw => run_ixP rfl f13_161 f13_154 hj w⟩) hS ?_
  change wpAnyH _ _ _ _ _ _ _ (a0_13.put (some 162) (.pointer (some ⟨wz, j, none⟩))) _
  obtain ⟨a0_14, ha14⟩ : ∃ rr : Act, rr = a0_13.put (some 162) (.pointer (some ⟨wz, j, none⟩)) := ⟨_, rfl⟩
  have qz14 : 168 < a0_14.tmps.size := by rw [ha14, sz_put]; exact qz13
  have f14_156 : a0_14.eval (.tmp 156) = .int .i64 (j : Int) := by rw [ha14, ev_other _ _ _ _ (by decide)]; exact f13_156
  have f14_158 : a0_14.eval (.tmp 158) = .int .i64 (j : Int) := by rw [ha14, ev_other _ _ _ _ (by decide)]; exact f13_158
  have f14_159 : a0_14.eval (.tmp 159) = .pointer (some ⟨zn, 0, none⟩) := by rw [ha14, ev_other _ _ _ _ (by decide)]; exact f13_159
  have f14_162 : a0_14.eval (.tmp 162) = .pointer (some ⟨wz, j, none⟩) := by rw [ha14]; exact ev_same _ _ _ (Nat.lt_of_le_of_lt (by decide) qz13)
  have f14_164 : a0_14.eval (.tmp 164) = .pointer (some ⟨wz, 3, none⟩) := by rw [ha14, ev_other _ _ _ _ (by decide)]; exact f13_164
  have f14_167 : a0_14.eval (.tmp 167) = .pointer (some ⟨wz, 6, none⟩) := by rw [ha14, ev_other _ _ _ _ (by decide)]; exact f13_167
  rw [← ha14] at h0 ⊢
  clear ha14
  refine wpAnyH_ready (rs := [10]) (by kernel_rfl) (by simp) ?_
  refine AllReadyH.cons (o := no_10 s) (by kernel_rfl) (fun KQ hKQ => ?_) AllReadyH.nil
  rw [if_pos (wanted_none rfl)]
  refine step_skipE (w2.setCell ⟨wz, j, none⟩ (.pointer none)) (run_stX rfl f14_162 rfl (by rw [Blk.cell (hB zn w2 hM1), Array.getElem?_eq_getElem (by first | omega | (simp; omega))]) (Blk.frozen (hB zn w2 hM1) (j))) ?_
  refine hKQ.out _ _ (trivial) (fun _ => ?_)
  clear hKQ KQ
  change wpAnyH _ _ _ _ _ _ _ a0_14 _
  refine wpAnyH_take (i := 13) (oi := no_13 s) (v := .pointer (some ⟨wz, 3 + j, none⟩)) (by kernel_rfl) (by kernel_rfl) (by kernel_rfl) (by kernel_rfl) (fun c a w h => hQ c _ _ _ w h) (Or.inl ⟨wanted_none rfl, fun w hw => run_ixR rfl f14_164 f14_156 hj w⟩) hS ?_
  change wpAnyH _ _ _ _ _ _ _ (a0_14.put (some 165) (.pointer (some ⟨wz, 3 + j, none⟩))) _
  obtain ⟨a0_16, ha16⟩ : ∃ rr : Act, rr = a0_14.put (some 165) (.pointer (some ⟨wz, 3 + j, none⟩)) := ⟨_, rfl⟩
  have qz16 : 168 < a0_16.tmps.size := by rw [ha16, sz_put]; exact qz14
  have f16_158 : a0_16.eval (.tmp 158) = .int .i64 (j : Int) := by rw [ha16, ev_other _ _ _ _ (by decide)]; exact f14_158
  have f16_159 : a0_16.eval (.tmp 159) = .pointer (some ⟨zn, 0, none⟩) := by rw [ha16, ev_other _ _ _ _ (by decide)]; exact f14_159
  have f16_165 : a0_16.eval (.tmp 165) = .pointer (some ⟨wz, 3 + j, none⟩) := by rw [ha16]; exact ev_same _ _ _ (Nat.lt_of_le_of_lt (by decide) qz14)
  have f16_167 : a0_16.eval (.tmp 167) = .pointer (some ⟨wz, 6, none⟩) := by rw [ha16, ev_other _ _ _ _ (by decide)]; exact f14_167
  rw [← ha16] at h0 ⊢
  clear ha16
  refine wpAnyH_ready (rs := [14]) (by kernel_rfl) (by simp) ?_
  refine AllReadyH.cons (o := no_14 s) (by kernel_rfl) (fun KQ hKQ => ?_) AllReadyH.nil
  rw [if_pos (wanted_none rfl)]
  refine step_skipE ((w2.setCell ⟨wz, j, none⟩ (.pointer none)).setCell ⟨wz, 3 + j, none⟩ (.pointer (some ⟨zn, 0, none⟩))) (run_stQ rfl f16_165 f16_159 (by rw [Blk.cell ((hB zn w2 hM1).set j (.pointer none)), Array.getElem?_eq_getElem (by first | omega | (simp; omega))]) (Blk.frozen ((hB zn w2 hM1).set j (.pointer none)) (3 + j))) ?_
  refine hKQ.out _ _ (trivial) (fun _ => ?_)
  clear hKQ KQ
  change wpAnyH _ _ _ _ _ _ _ a0_16 _
  refine wpAnyH_take (i := 17) (oi := no_17 s) (v := .pointer (some ⟨wz, 6 + j, none⟩)) (by kernel_rfl) (by kernel_rfl) (by kernel_rfl) (by kernel_rfl) (fun c a w h => hQ c _ _ _ w h) (Or.inl ⟨wanted_none rfl, fun w hw => run_ixN rfl f16_167 f16_158 hj w⟩) hS ?_
  change wpAnyH _ _ _ _ _ _ _ (a0_16.put (some 168) (.pointer (some ⟨wz, 6 + j, none⟩))) _
  obtain ⟨a0_18, ha18⟩ : ∃ rr : Act, rr = a0_16.put (some 168) (.pointer (some ⟨wz, 6 + j, none⟩)) := ⟨_, rfl⟩
  have qz18 : 168 < a0_18.tmps.size := by rw [ha18, sz_put]; exact qz16
  have f18_168 : a0_18.eval (.tmp 168) = .pointer (some ⟨wz, 6 + j, none⟩) := by rw [ha18]; exact ev_same _ _ _ (Nat.lt_of_le_of_lt (by decide) qz16)
  rw [← ha18] at h0 ⊢
  clear ha18
  refine wpAnyH_ready (rs := [18]) (by kernel_rfl) (by simp) ?_
  refine AllReadyH.cons (o := no_18 s) (by kernel_rfl) (fun KQ hKQ => ?_) AllReadyH.nil
  rw [if_pos (wanted_none rfl)]
  refine step_skipE (((w2.setCell ⟨wz, j, none⟩ (.pointer none)).setCell ⟨wz, 3 + j, none⟩ (.pointer (some ⟨zn, 0, none⟩))).setCell ⟨wz, 6 + j, none⟩ (.bool true)) (run_stB rfl f18_168 rfl (by rw [Blk.cell (((hB zn w2 hM1).set j (.pointer none)).set (3 + j) (.pointer (some ⟨zn, 0, none⟩))), Array.getElem?_eq_getElem (by first | omega | (simp; omega))]) (Blk.frozen (((hB zn w2 hM1).set j (.pointer none)).set (3 + j) (.pointer (some ⟨zn, 0, none⟩))) (6 + j))) ?_
  refine hKQ.out _ _ (trivial) (fun _ => ?_)
  clear hKQ KQ
  refine wpAnyH_done (by kernel_rfl) ?_ _
  exact h0
end Go.Proofs.Ytnloglecfbhpcaa
