/- TablePlays: the region with the put and the get at the end. -/
import Derived.Test.YtnknjcnbbljagaaTRK
namespace Go.Proofs.Ytnknjcnbbljagaa
set_option linter.unusedVariables false
set_option linter.unusedSimpArgs false
namespace RR
set_option maxRecDepth 100000
open Go.RowKit

theorem run_idx2P {op : Oper} {ev : Operand → Value} {x y : Operand} {b i : Nat} (ho : op.op = .indexAddr 27 x y) (hx : ev x = .pointer (some ⟨b, 0, none⟩)) (hy : ev y = .int .i64 (i : Int)) (hi : i = 0 ∨ i = 1) (w : World) : (execOp ev op).run Try.prog w = .ok (.value (.pointer (some ⟨b, i, none⟩))) w := by
  simp only [execOp, ho, hx, hy]
  rcases hi with rfl | rfl
  · kernel_rfl
  · kernel_rfl
theorem run_idx2R {op : Oper} {ev : Operand → Value} {x y : Operand} {b i : Nat} (ho : op.op = .indexAddr 29 x y) (hx : ev x = .pointer (some ⟨b, 0, none⟩)) (hy : ev y = .int .i64 (i : Int)) (hi : i = 0 ∨ i = 1) (w : World) : (execOp ev op).run Try.prog w = .ok (.value (.pointer (some ⟨b, i, none⟩))) w := by
  simp only [execOp, ho, hx, hy]
  rcases hi with rfl | rfl
  · kernel_rfl
  · kernel_rfl
theorem load_pP {w : World} {b o : Nat} {v : Value} (h : w.cell? ⟨b, o, none⟩ = some v) : (Instr.loadAt 26 (.pointer (some ⟨b, o, none⟩))).run Try.prog w = .ok v w := by
  have hu := Try.underlying26
  simp [go_sem, h, hu]
theorem load_pR {w : World} {b o : Nat} {v : Value} (h : w.cell? ⟨b, o, none⟩ = some v) : (Instr.loadAt 28 (.pointer (some ⟨b, o, none⟩))).run Try.prog w = .ok v w := by
  have hu := Try.underlying28
  simp [go_sem, h, hu]
def tl_0 (s : String) : Oper := { dst := some 81, op := Op.move (Operand.tmp 10), type := 3, pos := s, after := #[], guard := none }
def tl_1 (s : String) : Oper := { dst := some 82, op := Op.indexAddr 27 (Operand.tmp 3) (Operand.tmp 81), type := 0, pos := s, after := #[{ on := 0, ground := Ground.data }], guard := none }
def tl_2 (s : String) : Oper := { dst := some 83, op := Op.load 26 (Operand.tmp 82), type := 26, pos := s, after := #[{ on := 1, ground := Ground.data }], guard := none }
def tl_3 (s : String) : Oper := { dst := some 84, op := Op.move (Operand.tmp 10), type := 3, pos := s, after := #[], guard := none }
def tl_4 (s : String) : Oper := { dst := some 85, op := Op.indexAddr 29 (Operand.tmp 4) (Operand.tmp 84), type := 0, pos := s, after := #[{ on := 3, ground := Ground.data }], guard := none }
def tl_5 (s : String) : Oper := { dst := some 86, op := Op.load 28 (Operand.tmp 85), type := 28, pos := s, after := #[{ on := 4, ground := Ground.data }], guard := none }
def tl_6 (s : String) : Oper := { dst := some 87, op := Op.build 36 #[(0, Operand.const (Value.int IntKind.i64 0)), (2, Operand.const (Value.int IntKind.i64 5)), (3, Operand.const (Value.int IntKind.i64 6))], type := 36, pos := s, after := #[], guard := none }
def tl_7 (s : String) : Oper := { dst := some 88, op := Op.call { callee := Callee.value (Operand.func 12), args := #[Operand.tmp 83, Operand.tmp 86, Operand.tmp 87], argTypes := #[26, 28, 36] }, type := 4, pos := s, after := #[{ on := 2, ground := Ground.data }, { on := 5, ground := Ground.data }, { on := 6, ground := Ground.data }], guard := none }
def tl_8 (s : String) : Oper := { dst := some 89, op := Op.unOp UnOp.not 4 (Operand.tmp 88), type := 4, pos := s, after := #[{ on := 7, ground := Ground.data }], guard := none }
def tl_9 (s : String) : Oper := { dst := some 90, op := Op.move (Operand.tmp 89), type := 4, pos := s, after := #[{ on := 8, ground := Ground.data }, { on := 7, ground := Ground.chain }], guard := none }
def tl_10 (s : String) : Oper := { dst := some 91, op := Op.move (Operand.tmp 10), type := 3, pos := s, after := #[{ on := 9, ground := Ground.guard }], guard := some (9, false) }
def tl_11 (s : String) : Oper := { dst := some 92, op := Op.indexAddr 27 (Operand.tmp 3) (Operand.tmp 91), type := 0, pos := s, after := #[{ on := 10, ground := Ground.data }, { on := 9, ground := Ground.guard }], guard := some (9, false) }
def tl_12 (s : String) : Oper := { dst := some 93, op := Op.load 26 (Operand.tmp 92), type := 26, pos := s, after := #[{ on := 11, ground := Ground.data }, { on := 9, ground := Ground.guard }], guard := some (9, false) }
def tl_13 (s : String) : Oper := { dst := some 94, op := Op.move (Operand.tmp 10), type := 3, pos := s, after := #[{ on := 9, ground := Ground.guard }], guard := some (9, false) }
def tl_14 (s : String) : Oper := { dst := some 95, op := Op.indexAddr 29 (Operand.tmp 4) (Operand.tmp 94), type := 0, pos := s, after := #[{ on := 13, ground := Ground.data }, { on := 9, ground := Ground.guard }], guard := some (9, false) }
def tl_15 (s : String) : Oper := { dst := some 96, op := Op.load 28 (Operand.tmp 95), type := 28, pos := s, after := #[{ on := 14, ground := Ground.data }, { on := 9, ground := Ground.guard }], guard := some (9, false) }
def tl_16 (s : String) : Oper := { dst := some 97, op := Op.build 36 #[(0, Operand.const (Value.int IntKind.i64 2)), (2, Operand.const (Value.int IntKind.i64 5))], type := 36, pos := s, after := #[{ on := 9, ground := Ground.guard }], guard := some (9, false) }
def tl_17 (s : String) : Oper := { dst := some 98, op := Op.call { callee := Callee.value (Operand.func 12), args := #[Operand.tmp 93, Operand.tmp 96, Operand.tmp 97], argTypes := #[26, 28, 36] }, type := 4, pos := s, after := #[{ on := 12, ground := Ground.data }, { on := 15, ground := Ground.data }, { on := 16, ground := Ground.data }, { on := 9, ground := Ground.chain }, { on := 9, ground := Ground.guard }], guard := some (9, false) }
def tl_18 (s : String) : Oper := { dst := some 99, op := Op.unOp UnOp.not 4 (Operand.tmp 98), type := 4, pos := s, after := #[{ on := 17, ground := Ground.data }, { on := 9, ground := Ground.guard }], guard := some (9, false) }
def tl_19 (s : String) : Oper := { dst := some 100, op := Op.pick (Operand.tmp 90) (Operand.const (Value.bool true)) (Operand.tmp 99), type := 4, pos := s, after := #[{ on := 9, ground := Ground.data }, { on := 18, ground := Ground.data }], guard := none }
def tl_ops (s : String) : Array Oper := #[tl_0 s, tl_1 s, tl_2 s, tl_3 s, tl_4 s, tl_5 s, tl_6 s, tl_7 s, tl_8 s, tl_9 s, tl_10 s, tl_11 s, tl_12 s, tl_13 s, tl_14 s, tl_15 s, tl_16 s, tl_17 s, tl_18 s, tl_19 s]
theorem tl_enter7 (s : String) (a : Act) (w : World) : (execOp a.eval (tl_7 s)).run Try.prog w = .ok (.enter 12 #[a.eval (.tmp 83), a.eval (.tmp 86), a.eval (.tmp 87)]) w := by kernel_rfl
theorem tl_enter17 (s : String) (a : Act) (w : World) : (execOp a.eval (tl_17 s)).run Try.prog w = .ok (.enter 12 #[a.eval (.tmp 93), a.eval (.tmp 96), a.eval (.tmp 97)]) w := by kernel_rfl
theorem bld1 {a : Act} (s : String) (w : World) : (execOp a.eval (tl_6 s)).run Try.prog w = .ok (.value (.agg #[.int .i64 0, .bool false, .int .i64 5, .int .i64 6])) w := by kernel_rfl
theorem bld2 {a : Act} (s : String) (w : World) : (execOp a.eval (tl_16 s)).run Try.prog w = .ok (.value (.agg #[.int .i64 2, .bool false, .int .i64 5, .int .i64 0])) w := by kernel_rfl
theorem tl_walk (s : String) {Q : Exit → Act → World → Prop} (hQ : ∀ c (a : Act) t v w, Q (.panic c) (a.put (some t) v) w → Q (.panic c) a w) (W : World) (N z r i : Nat) (M1 M2 : World → Prop) (hi : i = 0 ∨ i = 1) (hS0 : W.cell? ⟨N + 1, i, none⟩ = some (.pointer (some ⟨z, 0, none⟩)) ∧ W.cell? ⟨N + 1 + 1, i, none⟩ = some (.pointer (some ⟨r, 0, none⟩))) (hk1 : ∀ w, M1 w → w.cell? ⟨N + 1, i, none⟩ = some (.pointer (some ⟨z, 0, none⟩)) ∧ w.cell? ⟨N + 1 + 1, i, none⟩ = some (.pointer (some ⟨r, 0, none⟩))) (hk2 : ∀ w, M2 w → w.cell? ⟨N + 1, i, none⟩ = some (.pointer (some ⟨z, 0, none⟩)) ∧ w.cell? ⟨N + 1 + 1, i, none⟩ = some (.pointer (some ⟨r, 0, none⟩))) (hc1 : Calls Try.prog 12 #[.pointer (some ⟨z, 0, none⟩), .pointer (some ⟨r, 0, none⟩), .agg #[.int .i64 0, .bool false, .int .i64 5, .int .i64 6]] W.drew fun e w' => e = .returned (.bool true) ∧ M1 w') (hc2 : ∀ w1, M1 w1 → Calls Try.prog 12 #[.pointer (some ⟨z, 0, none⟩), .pointer (some ⟨r, 0, none⟩), .agg #[.int .i64 2, .bool false, .int .i64 5, .int .i64 0]] w1 fun e w' => e = .returned (.bool true) ∧ M2 w')
    (a : Act) (hs : 100 < a.tmps.size) (e3 : a.eval (.tmp 3) = .pointer (some ⟨N + 1, 0, none⟩)) (e4 : a.eval (.tmp 4) = .pointer (some ⟨N + 1 + 1, 0, none⟩)) (e10 : a.eval (.tmp 10) = .int .i64 (i : Int))
    (h0 : ∀ w2, M2 w2 → Q .normal ((((((((((((((((((((a.put (some 81) (.int .i64 (i : Int))).put (some 82) (.pointer (some ⟨N + 1, i, none⟩))).put (some 83) (.pointer (some ⟨z, 0, none⟩))).put (some 84) (.int .i64 (i : Int))).put (some 85) (.pointer (some ⟨N + 1 + 1, i, none⟩))).put (some 86) (.pointer (some ⟨r, 0, none⟩))).put (some 87) (.agg #[.int .i64 0, .bool false, .int .i64 5, .int .i64 6])).put (some 88) (.bool true)).put (some 89) (.bool false)).put (some 90) (.bool false)).put (some 91) (.int .i64 (i : Int))).put (some 92) (.pointer (some ⟨N + 1, i, none⟩))).put (some 93) (.pointer (some ⟨z, 0, none⟩))).put (some 94) (.int .i64 (i : Int))).put (some 95) (.pointer (some ⟨N + 1 + 1, i, none⟩))).put (some 96) (.pointer (some ⟨r, 0, none⟩))).put (some 97) (.agg #[.int .i64 2, .bool false, .int .i64 5, .int .i64 0])).put (some 98) (.bool true)).put (some 99) (.bool false)).put (some 100) (.bool false)) w2) :
    Code.wp Try.prog (.region 28 (tl_ops s) true) Q a W := by
  refine wp_region_held_drew (S := fun W' => W'.cell? ⟨N + 1, i, none⟩ = some (.pointer (some ⟨z, 0, none⟩)) ∧ W'.cell? ⟨N + 1 + 1, i, none⟩ = some (.pointer (some ⟨r, 0, none⟩))) (by kernel_rfl) hS0 (fun hS => ?_)
  change wpAnyH _ _ _ _ _ _ _ _ (World.drew _)
  refine wpAnyH_take (i := 0) (oi := tl_0 s) (v := .int .i64 (i : Int)) (by kernel_rfl) (by kernel_rfl) (by kernel_rfl) (by kernel_rfl) (fun c a w h => hQ c _ _ _ w h) (Or.inl ⟨wanted_none rfl, fun w hw => by simp only [execOp, tl_0, e10]; rfl⟩) hS ?_
  change wpAnyH _ _ _ _ _ _ _ (a.put (some 81) (.int .i64 (i : Int))) _
  obtain ⟨a0_1, ha1⟩ : ∃ rr : Act, rr = a.put (some 81) (.int .i64 (i : Int)) := ⟨_, rfl⟩
  have qz1 : 100 < a0_1.tmps.size := by rw [ha1, sz_put]; exact hs
  have f1_3 : a0_1.eval (.tmp 3) = .pointer (some ⟨N + 1, 0, none⟩) := by rw [ha1, ev_other _ _ _ _ (by decide)]; exact e3
  have f1_4 : a0_1.eval (.tmp 4) = .pointer (some ⟨N + 1 + 1, 0, none⟩) := by rw [ha1, ev_other _ _ _ _ (by decide)]; exact e4
  have f1_10 : a0_1.eval (.tmp 10) = .int .i64 (i : Int) := by rw [ha1, ev_other _ _ _ _ (by decide)]; exact e10
  have f1_81 : a0_1.eval (.tmp 81) = .int .i64 (i : Int) := by rw [ha1]; exact ev_same _ _ _ (Nat.lt_of_le_of_lt (by decide) hs)
  rw [← ha1] at h0 ⊢
  clear ha1
  refine wpAnyH_take (i := 1) (oi := tl_1 s) (v := .pointer (some ⟨N + 1, i, none⟩)) (by kernel_rfl) (by kernel_rfl) (by kernel_rfl) (by kernel_rfl) (fun c a w h => hQ c _ _ _ w h) (Or.inl ⟨wanted_none rfl, fun w hw => run_idx2P rfl f1_3 f1_81 hi w⟩) hS ?_
  change wpAnyH _ _ _ _ _ _ _ (a0_1.put (some 82) (.pointer (some ⟨N + 1, i, none⟩))) _
  obtain ⟨a0_2, ha2⟩ : ∃ rr : Act, rr = a0_1.put (some 82) (.pointer (some ⟨N + 1, i, none⟩)) := ⟨_, rfl⟩
  have qz2 : 100 < a0_2.tmps.size := by rw [ha2, sz_put]; exact qz1
  have f2_3 : a0_2.eval (.tmp 3) = .pointer (some ⟨N + 1, 0, none⟩) := by rw [ha2, ev_other _ _ _ _ (by decide)]; exact f1_3
  have f2_4 : a0_2.eval (.tmp 4) = .pointer (some ⟨N + 1 + 1, 0, none⟩) := by rw [ha2, ev_other _ _ _ _ (by decide)]; exact f1_4
  have f2_10 : a0_2.eval (.tmp 10) = .int .i64 (i : Int) := by rw [ha2, ev_other _ _ _ _ (by decide)]; exact f1_10
  have f2_82 : a0_2.eval (.tmp 82) = .pointer (some ⟨N + 1, i, none⟩) := by rw [ha2]; exact ev_same _ _ _ (Nat.lt_of_le_of_lt (by decide) qz1)
  rw [← ha2] at h0 ⊢
  clear ha2
  refine wpAnyH_take (i := 2) (oi := tl_2 s) (v := .pointer (some ⟨z, 0, none⟩)) (by kernel_rfl) (by kernel_rfl) (by kernel_rfl) (by kernel_rfl) (fun c a w h => hQ c _ _ _ w h) (Or.inl ⟨wanted_none rfl, fun w hw => run_load rfl f2_82 (load_pP hw.1)⟩) hS ?_
  change wpAnyH _ _ _ _ _ _ _ (a0_2.put (some 83) (.pointer (some ⟨z, 0, none⟩))) _
  obtain ⟨a0_3, ha3⟩ : ∃ rr : Act, rr = a0_2.put (some 83) (.pointer (some ⟨z, 0, none⟩)) := ⟨_, rfl⟩
  have qz3 : 100 < a0_3.tmps.size := by rw [ha3, sz_put]; exact qz2
  have f3_3 : a0_3.eval (.tmp 3) = .pointer (some ⟨N + 1, 0, none⟩) := by rw [ha3, ev_other _ _ _ _ (by decide)]; exact f2_3
  have f3_4 : a0_3.eval (.tmp 4) = .pointer (some ⟨N + 1 + 1, 0, none⟩) := by rw [ha3, ev_other _ _ _ _ (by decide)]; exact f2_4
  have f3_10 : a0_3.eval (.tmp 10) = .int .i64 (i : Int) := by rw [ha3, ev_other _ _ _ _ (by decide)]; exact f2_10
  have f3_83 : a0_3.eval (.tmp 83) = .pointer (some ⟨z, 0, none⟩) := by rw [ha3]; exact ev_same _ _ _ (Nat.lt_of_le_of_lt (by decide) qz2)
  rw [← ha3] at h0 ⊢
  clear ha3
  refine wpAnyH_take (i := 3) (oi := tl_3 s) (v := .int .i64 (i : Int)) (by kernel_rfl) (by kernel_rfl) (by kernel_rfl) (by kernel_rfl) (fun c a w h => hQ c _ _ _ w h) (Or.inl ⟨wanted_none rfl, fun w hw => by simp only [execOp, tl_3, f3_10]; rfl⟩) hS ?_
  change wpAnyH _ _ _ _ _ _ _ (a0_3.put (some 84) (.int .i64 (i : Int))) _
  obtain ⟨a0_4, ha4⟩ : ∃ rr : Act, rr = a0_3.put (some 84) (.int .i64 (i : Int)) := ⟨_, rfl⟩
  have qz4 : 100 < a0_4.tmps.size := by rw [ha4, sz_put]; exact qz3
  have f4_3 : a0_4.eval (.tmp 3) = .pointer (some ⟨N + 1, 0, none⟩) := by rw [ha4, ev_other _ _ _ _ (by decide)]; exact f3_3
  have f4_4 : a0_4.eval (.tmp 4) = .pointer (some ⟨N + 1 + 1, 0, none⟩) := by rw [ha4, ev_other _ _ _ _ (by decide)]; exact f3_4
  have f4_10 : a0_4.eval (.tmp 10) = .int .i64 (i : Int) := by rw [ha4, ev_other _ _ _ _ (by decide)]; exact f3_10
  have f4_83 : a0_4.eval (.tmp 83) = .pointer (some ⟨z, 0, none⟩) := by rw [ha4, ev_other _ _ _ _ (by decide)]; exact f3_83
  have f4_84 : a0_4.eval (.tmp 84) = .int .i64 (i : Int) := by rw [ha4]; exact ev_same _ _ _ (Nat.lt_of_le_of_lt (by decide) qz3)
  rw [← ha4] at h0 ⊢
  clear ha4
  refine wpAnyH_take (i := 4) (oi := tl_4 s) (v := .pointer (some ⟨N + 1 + 1, i, none⟩)) (by kernel_rfl) (by kernel_rfl) (by kernel_rfl) (by kernel_rfl) (fun c a w h => hQ c _ _ _ w h) (Or.inl ⟨wanted_none rfl, fun w hw => run_idx2R rfl f4_4 f4_84 hi w⟩) hS ?_
  change wpAnyH _ _ _ _ _ _ _ (a0_4.put (some 85) (.pointer (some ⟨N + 1 + 1, i, none⟩))) _
  obtain ⟨a0_5, ha5⟩ : ∃ rr : Act, rr = a0_4.put (some 85) (.pointer (some ⟨N + 1 + 1, i, none⟩)) := ⟨_, rfl⟩
  have qz5 : 100 < a0_5.tmps.size := by rw [ha5, sz_put]; exact qz4
  have f5_3 : a0_5.eval (.tmp 3) = .pointer (some ⟨N + 1, 0, none⟩) := by rw [ha5, ev_other _ _ _ _ (by decide)]; exact f4_3
  have f5_4 : a0_5.eval (.tmp 4) = .pointer (some ⟨N + 1 + 1, 0, none⟩) := by rw [ha5, ev_other _ _ _ _ (by decide)]; exact f4_4
  have f5_10 : a0_5.eval (.tmp 10) = .int .i64 (i : Int) := by rw [ha5, ev_other _ _ _ _ (by decide)]; exact f4_10
  have f5_83 : a0_5.eval (.tmp 83) = .pointer (some ⟨z, 0, none⟩) := by rw [ha5, ev_other _ _ _ _ (by decide)]; exact f4_83
  have f5_85 : a0_5.eval (.tmp 85) = .pointer (some ⟨N + 1 + 1, i, none⟩) := by rw [ha5]; exact ev_same _ _ _ (Nat.lt_of_le_of_lt (by decide) qz4)
  rw [← ha5] at h0 ⊢
  clear ha5
  refine wpAnyH_take (i := 5) (oi := tl_5 s) (v := .pointer (some ⟨r, 0, none⟩)) (by kernel_rfl) (by kernel_rfl) (by kernel_rfl) (by kernel_rfl) (fun c a w h => hQ c _ _ _ w h) (Or.inl ⟨wanted_none rfl, fun w hw => run_load rfl f5_85 (load_pR hw.2)⟩) hS ?_
  change wpAnyH _ _ _ _ _ _ _ (a0_5.put (some 86) (.pointer (some ⟨r, 0, none⟩))) _
  obtain ⟨a0_6, ha6⟩ : ∃ rr : Act, rr = a0_5.put (some 86) (.pointer (some ⟨r, 0, none⟩)) := ⟨_, rfl⟩
  have qz6 : 100 < a0_6.tmps.size := by rw [ha6, sz_put]; exact qz5
  have f6_3 : a0_6.eval (.tmp 3) = .pointer (some ⟨N + 1, 0, none⟩) := by rw [ha6, ev_other _ _ _ _ (by decide)]; exact f5_3
  have f6_4 : a0_6.eval (.tmp 4) = .pointer (some ⟨N + 1 + 1, 0, none⟩) := by rw [ha6, ev_other _ _ _ _ (by decide)]; exact f5_4
  have f6_10 : a0_6.eval (.tmp 10) = .int .i64 (i : Int) := by rw [ha6, ev_other _ _ _ _ (by decide)]; exact f5_10
  have f6_83 : a0_6.eval (.tmp 83) = .pointer (some ⟨z, 0, none⟩) := by rw [ha6, ev_other _ _ _ _ (by decide)]; exact f5_83
  have f6_86 : a0_6.eval (.tmp 86) = .pointer (some ⟨r, 0, none⟩) := by rw [ha6]; exact ev_same _ _ _ (Nat.lt_of_le_of_lt (by decide) qz5)
  rw [← ha6] at h0 ⊢
  clear ha6
  refine wpAnyH_take (i := 6) (oi := tl_6 s) (v := .agg #[.int .i64 0, .bool false, .int .i64 5, .int .i64 6]) (by kernel_rfl) (by kernel_rfl) (by kernel_rfl) (by kernel_rfl) (fun c a w h => hQ c _ _ _ w h) (Or.inl ⟨wanted_none rfl, fun w hw => bld1 _ w⟩) hS ?_
  change wpAnyH _ _ _ _ _ _ _ (a0_6.put (some 87) (.agg #[.int .i64 0, .bool false, .int .i64 5, .int .i64 6])) _
  obtain ⟨a0_7, ha7⟩ : ∃ rr : Act, rr = a0_6.put (some 87) (.agg #[.int .i64 0, .bool false, .int .i64 5, .int .i64 6]) := ⟨_, rfl⟩
  have qz7 : 100 < a0_7.tmps.size := by rw [ha7, sz_put]; exact qz6
  have f7_3 : a0_7.eval (.tmp 3) = .pointer (some ⟨N + 1, 0, none⟩) := by rw [ha7, ev_other _ _ _ _ (by decide)]; exact f6_3
  have f7_4 : a0_7.eval (.tmp 4) = .pointer (some ⟨N + 1 + 1, 0, none⟩) := by rw [ha7, ev_other _ _ _ _ (by decide)]; exact f6_4
  have f7_10 : a0_7.eval (.tmp 10) = .int .i64 (i : Int) := by rw [ha7, ev_other _ _ _ _ (by decide)]; exact f6_10
  have f7_83 : a0_7.eval (.tmp 83) = .pointer (some ⟨z, 0, none⟩) := by rw [ha7, ev_other _ _ _ _ (by decide)]; exact f6_83
  have f7_86 : a0_7.eval (.tmp 86) = .pointer (some ⟨r, 0, none⟩) := by rw [ha7, ev_other _ _ _ _ (by decide)]; exact f6_86
  have f7_87 : a0_7.eval (.tmp 87) = .agg #[.int .i64 0, .bool false, .int .i64 5, .int .i64 6] := by rw [ha7]; exact ev_same _ _ _ (Nat.lt_of_le_of_lt (by decide) qz6)
  rw [← ha7] at h0 ⊢
  clear ha7
  refine wpAnyH_ready (rs := [7]) (by kernel_rfl) (by simp) ?_
  refine AllReadyH.cons (o := tl_7 s) (by kernel_rfl) (fun KQ hKQ => ?_) AllReadyH.nil
  rw [if_pos (wanted_none rfl)]
  refine step_enterE 12 #[.pointer (some ⟨z, 0, none⟩), .pointer (some ⟨r, 0, none⟩), .agg #[.int .i64 0, .bool false, .int .i64 5, .int .i64 6]] (by rw [tl_enter7, f7_83, f7_86, f7_87]) (fun V w' => V = .bool true ∧ M1 w') (hc1.mono (fun e w' h => ⟨_, h.1, rfl, h.2⟩)) ?_
  rintro _ w1 ⟨rfl, hM1⟩
  refine hKQ.out _ _ (hk1 w1 hM1) (fun _ => ?_)
  clear hKQ KQ
  change wpAnyH _ _ _ _ _ _ _ (a0_7.put (some 88) (.bool true)) _
  obtain ⟨a0_8, ha8⟩ : ∃ rr : Act, rr = a0_7.put (some 88) (.bool true) := ⟨_, rfl⟩
  have qz8 : 100 < a0_8.tmps.size := by rw [ha8, sz_put]; exact qz7
  have f8_3 : a0_8.eval (.tmp 3) = .pointer (some ⟨N + 1, 0, none⟩) := by rw [ha8, ev_other _ _ _ _ (by decide)]; exact f7_3
  have f8_4 : a0_8.eval (.tmp 4) = .pointer (some ⟨N + 1 + 1, 0, none⟩) := by rw [ha8, ev_other _ _ _ _ (by decide)]; exact f7_4
  have f8_10 : a0_8.eval (.tmp 10) = .int .i64 (i : Int) := by rw [ha8, ev_other _ _ _ _ (by decide)]; exact f7_10
  have f8_88 : a0_8.eval (.tmp 88) = .bool true := by rw [ha8]; exact ev_same _ _ _ (Nat.lt_of_le_of_lt (by decide) qz7)
  rw [← ha8] at h0 ⊢
  clear ha8
  refine wpAnyH_take (i := 8) (oi := tl_8 s) (v := .bool false) (by kernel_rfl) (by kernel_rfl) (by kernel_rfl) (by kernel_rfl) (fun c a w h => hQ c _ _ _ w h) (Or.inl ⟨wanted_none rfl, fun w hw => by simp only [execOp, tl_8, f8_88]; kernel_rfl⟩) (hk1 w1 hM1) ?_
  change wpAnyH _ _ _ _ _ _ _ (a0_8.put (some 89) (.bool false)) _
  obtain ⟨a0_9, ha9⟩ : ∃ rr : Act, rr = a0_8.put (some 89) (.bool false) := ⟨_, rfl⟩
  have qz9 : 100 < a0_9.tmps.size := by rw [ha9, sz_put]; exact qz8
  have f9_3 : a0_9.eval (.tmp 3) = .pointer (some ⟨N + 1, 0, none⟩) := by rw [ha9, ev_other _ _ _ _ (by decide)]; exact f8_3
  have f9_4 : a0_9.eval (.tmp 4) = .pointer (some ⟨N + 1 + 1, 0, none⟩) := by rw [ha9, ev_other _ _ _ _ (by decide)]; exact f8_4
  have f9_10 : a0_9.eval (.tmp 10) = .int .i64 (i : Int) := by rw [ha9, ev_other _ _ _ _ (by decide)]; exact f8_10
  have f9_89 : a0_9.eval (.tmp 89) = .bool false := by rw [ha9]; exact ev_same _ _ _ (Nat.lt_of_le_of_lt (by decide) qz8)
  rw [← ha9] at h0 ⊢
  clear ha9
  refine wpAnyH_take (i := 9) (oi := tl_9 s) (v := .bool false) (by kernel_rfl) (by kernel_rfl) (by kernel_rfl) (by kernel_rfl) (fun c a w h => hQ c _ _ _ w h) (Or.inl ⟨wanted_none rfl, fun w hw => by simp only [execOp, tl_9, f9_89]; rfl⟩) (hk1 w1 hM1) ?_
  change wpAnyH _ _ _ _ _ _ _ (a0_9.put (some 90) (.bool false)) _
  obtain ⟨a0_10, ha10⟩ : ∃ rr : Act, rr = a0_9.put (some 90) (.bool false) := ⟨_, rfl⟩
  have qz10 : 100 < a0_10.tmps.size := by rw [ha10, sz_put]; exact qz9
  have f10_3 : a0_10.eval (.tmp 3) = .pointer (some ⟨N + 1, 0, none⟩) := by rw [ha10, ev_other _ _ _ _ (by decide)]; exact f9_3
  have f10_4 : a0_10.eval (.tmp 4) = .pointer (some ⟨N + 1 + 1, 0, none⟩) := by rw [ha10, ev_other _ _ _ _ (by decide)]; exact f9_4
  have f10_10 : a0_10.eval (.tmp 10) = .int .i64 (i : Int) := by rw [ha10, ev_other _ _ _ _ (by decide)]; exact f9_10
  have f10_90 : a0_10.eval (.tmp 90) = .bool false := by rw [ha10]; exact ev_same _ _ _ (Nat.lt_of_le_of_lt (by decide) qz9)
  rw [← ha10] at h0 ⊢
  clear ha10
  refine wpAnyH_take (i := 10) (oi := tl_10 s) (v := .int .i64 (i : Int)) (by kernel_rfl) (by kernel_rfl) (by kernel_rfl) (by kernel_rfl) (fun c a w h => hQ c _ _ _ w h) (Or.inl ⟨wanted_some rfl (by kernel_rfl) f10_90 (Nat.lt_of_le_of_lt (by decide) qz10), fun w hw => by simp only [execOp, tl_10, f10_10]; rfl⟩) (hk1 w1 hM1) ?_
  change wpAnyH _ _ _ _ _ _ _ (a0_10.put (some 91) (.int .i64 (i : Int))) _
  obtain ⟨a0_11, ha11⟩ : ∃ rr : Act, rr = a0_10.put (some 91) (.int .i64 (i : Int)) := ⟨_, rfl⟩
  have qz11 : 100 < a0_11.tmps.size := by rw [ha11, sz_put]; exact qz10
  have f11_3 : a0_11.eval (.tmp 3) = .pointer (some ⟨N + 1, 0, none⟩) := by rw [ha11, ev_other _ _ _ _ (by decide)]; exact f10_3
  have f11_4 : a0_11.eval (.tmp 4) = .pointer (some ⟨N + 1 + 1, 0, none⟩) := by rw [ha11, ev_other _ _ _ _ (by decide)]; exact f10_4
  have f11_10 : a0_11.eval (.tmp 10) = .int .i64 (i : Int) := by rw [ha11, ev_other _ _ _ _ (by decide)]; exact f10_10
  have f11_90 : a0_11.eval (.tmp 90) = .bool false := by rw [ha11, ev_other _ _ _ _ (by decide)]; exact f10_90
  have f11_91 : a0_11.eval (.tmp 91) = .int .i64 (i : Int) := by rw [ha11]; exact ev_same _ _ _ (Nat.lt_of_le_of_lt (by decide) qz10)
  rw [← ha11] at h0 ⊢
  clear ha11
  refine wpAnyH_take (i := 11) (oi := tl_11 s) (v := .pointer (some ⟨N + 1, i, none⟩)) (by kernel_rfl) (by kernel_rfl) (by kernel_rfl) (by kernel_rfl) (fun c a w h => hQ c _ _ _ w h) (Or.inl ⟨wanted_some rfl (by kernel_rfl) f11_90 (Nat.lt_of_le_of_lt (by decide) qz11), fun w hw => run_idx2P rfl f11_3 f11_91 hi w⟩) (hk1 w1 hM1) ?_
  change wpAnyH _ _ _ _ _ _ _ (a0_11.put (some 92) (.pointer (some ⟨N + 1, i, none⟩))) _
  obtain ⟨a0_12, ha12⟩ : ∃ rr : Act, rr = a0_11.put (some 92) (.pointer (some ⟨N + 1, i, none⟩)) := ⟨_, rfl⟩
  have qz12 : 100 < a0_12.tmps.size := by rw [ha12, sz_put]; exact qz11
  have f12_4 : a0_12.eval (.tmp 4) = .pointer (some ⟨N + 1 + 1, 0, none⟩) := by rw [ha12, ev_other _ _ _ _ (by decide)]; exact f11_4
  have f12_10 : a0_12.eval (.tmp 10) = .int .i64 (i : Int) := by rw [ha12, ev_other _ _ _ _ (by decide)]; exact f11_10
  have f12_90 : a0_12.eval (.tmp 90) = .bool false := by rw [ha12, ev_other _ _ _ _ (by decide)]; exact f11_90
  have f12_92 : a0_12.eval (.tmp 92) = .pointer (some ⟨N + 1, i, none⟩) := by rw [ha12]; exact ev_same _ _ _ (Nat.lt_of_le_of_lt (by decide) qz11)
  rw [← ha12] at h0 ⊢
  clear ha12
  refine wpAnyH_take (i := 12) (oi := tl_12 s) (v := .pointer (some ⟨z, 0, none⟩)) (by kernel_rfl) (by kernel_rfl) (by kernel_rfl) (by kernel_rfl) (fun c a w h => hQ c _ _ _ w h) (Or.inl ⟨wanted_some rfl (by kernel_rfl) f12_90 (Nat.lt_of_le_of_lt (by decide) qz12), fun w hw => run_load rfl f12_92 (load_pP hw.1)⟩) (hk1 w1 hM1) ?_
  change wpAnyH _ _ _ _ _ _ _ (a0_12.put (some 93) (.pointer (some ⟨z, 0, none⟩))) _
  obtain ⟨a0_13, ha13⟩ : ∃ rr : Act, rr = a0_12.put (some 93) (.pointer (some ⟨z, 0, none⟩)) := ⟨_, rfl⟩
  have qz13 : 100 < a0_13.tmps.size := by rw [ha13, sz_put]; exact qz12
  have f13_4 : a0_13.eval (.tmp 4) = .pointer (some ⟨N + 1 + 1, 0, none⟩) := by rw [ha13, ev_other _ _ _ _ (by decide)]; exact f12_4
  have f13_10 : a0_13.eval (.tmp 10) = .int .i64 (i : Int) := by rw [ha13, ev_other _ _ _ _ (by decide)]; exact f12_10
  have f13_90 : a0_13.eval (.tmp 90) = .bool false := by rw [ha13, ev_other _ _ _ _ (by decide)]; exact f12_90
  have f13_93 : a0_13.eval (.tmp 93) = .pointer (some ⟨z, 0, none⟩) := by rw [ha13]; exact ev_same _ _ _ (Nat.lt_of_le_of_lt (by decide) qz12)
  rw [← ha13] at h0 ⊢
  clear ha13
  refine wpAnyH_take (i := 13) (oi := tl_13 s) (v := .int .i64 (i : Int)) (by kernel_rfl) (by kernel_rfl) (by kernel_rfl) (by kernel_rfl) (fun c a w h => hQ c _ _ _ w h) (Or.inl ⟨wanted_some rfl (by kernel_rfl) f13_90 (Nat.lt_of_le_of_lt (by decide) qz13), fun w hw => by simp only [execOp, tl_13, f13_10]; rfl⟩) (hk1 w1 hM1) ?_
  change wpAnyH _ _ _ _ _ _ _ (a0_13.put (some 94) (.int .i64 (i : Int))) _
  obtain ⟨a0_14, ha14⟩ : ∃ rr : Act, rr = a0_13.put (some 94) (.int .i64 (i : Int)) := ⟨_, rfl⟩
  have qz14 : 100 < a0_14.tmps.size := by rw [ha14, sz_put]; exact qz13
  have f14_4 : a0_14.eval (.tmp 4) = .pointer (some ⟨N + 1 + 1, 0, none⟩) := by rw [ha14, ev_other _ _ _ _ (by decide)]; exact f13_4
  have f14_90 : a0_14.eval (.tmp 90) = .bool false := by rw [ha14, ev_other _ _ _ _ (by decide)]; exact f13_90
  have f14_93 : a0_14.eval (.tmp 93) = .pointer (some ⟨z, 0, none⟩) := by rw [ha14, ev_other _ _ _ _ (by decide)]; exact f13_93
  have f14_94 : a0_14.eval (.tmp 94) = .int .i64 (i : Int) := by rw [ha14]; exact ev_same _ _ _ (Nat.lt_of_le_of_lt (by decide) qz13)
  rw [← ha14] at h0 ⊢
  clear ha14
  refine wpAnyH_take (i := 14) (oi := tl_14 s) (v := .pointer (some ⟨N + 1 + 1, i, none⟩)) (by kernel_rfl) (by kernel_rfl) (by kernel_rfl) (by kernel_rfl) (fun c a w h => hQ c _ _ _ w h) (Or.inl ⟨wanted_some rfl (by kernel_rfl) f14_90 (Nat.lt_of_le_of_lt (by decide) qz14), fun w hw => run_idx2R rfl f14_4 f14_94 hi w⟩) (hk1 w1 hM1) ?_
  change wpAnyH _ _ _ _ _ _ _ (a0_14.put (some 95) (.pointer (some ⟨N + 1 + 1, i, none⟩))) _
  obtain ⟨a0_15, ha15⟩ : ∃ rr : Act, rr = a0_14.put (some 95) (.pointer (some ⟨N + 1 + 1, i, none⟩)) := ⟨_, rfl⟩
  have qz15 : 100 < a0_15.tmps.size := by rw [ha15, sz_put]; exact qz14
  have f15_90 : a0_15.eval (.tmp 90) = .bool false := by rw [ha15, ev_other _ _ _ _ (by decide)]; exact f14_90
  have f15_93 : a0_15.eval (.tmp 93) = .pointer (some ⟨z, 0, none⟩) := by rw [ha15, ev_other _ _ _ _ (by decide)]; exact f14_93
  have f15_95 : a0_15.eval (.tmp 95) = .pointer (some ⟨N + 1 + 1, i, none⟩) := by rw [ha15]; exact ev_same _ _ _ (Nat.lt_of_le_of_lt (by decide) qz14)
  rw [← ha15] at h0 ⊢
  clear ha15
  refine wpAnyH_take (i := 15) (oi := tl_15 s) (v := .pointer (some ⟨r, 0, none⟩)) (by kernel_rfl) (by kernel_rfl) (by kernel_rfl) (by kernel_rfl) (fun c a w h => hQ c _ _ _ w h) (Or.inl ⟨wanted_some rfl (by kernel_rfl) f15_90 (Nat.lt_of_le_of_lt (by decide) qz15), fun w hw => run_load rfl f15_95 (load_pR hw.2)⟩) (hk1 w1 hM1) ?_
  change wpAnyH _ _ _ _ _ _ _ (a0_15.put (some 96) (.pointer (some ⟨r, 0, none⟩))) _
  obtain ⟨a0_16, ha16⟩ : ∃ rr : Act, rr = a0_15.put (some 96) (.pointer (some ⟨r, 0, none⟩)) := ⟨_, rfl⟩
  have qz16 : 100 < a0_16.tmps.size := by rw [ha16, sz_put]; exact qz15
  have f16_90 : a0_16.eval (.tmp 90) = .bool false := by rw [ha16, ev_other _ _ _ _ (by decide)]; exact f15_90
  have f16_93 : a0_16.eval (.tmp 93) = .pointer (some ⟨z, 0, none⟩) := by rw [ha16, ev_other _ _ _ _ (by decide)]; exact f15_93
  have f16_96 : a0_16.eval (.tmp 96) = .pointer (some ⟨r, 0, none⟩) := by rw [ha16]; exact ev_same _ _ _ (Nat.lt_of_le_of_lt (by decide) qz15)
  rw [← ha16] at h0 ⊢
  clear ha16
  refine wpAnyH_take (i := 16) (oi := tl_16 s) (v := .agg #[.int .i64 2, .bool false, .int .i64 5, .int .i64 0]) (by kernel_rfl) (by kernel_rfl) (by kernel_rfl) (by kernel_rfl) (fun c a w h => hQ c _ _ _ w h) (Or.inl ⟨wanted_some rfl (by kernel_rfl) f16_90 (Nat.lt_of_le_of_lt (by decide) qz16), fun w hw => bld2 _ w⟩) (hk1 w1 hM1) ?_
  change wpAnyH _ _ _ _ _ _ _ (a0_16.put (some 97) (.agg #[.int .i64 2, .bool false, .int .i64 5, .int .i64 0])) _
  obtain ⟨a0_17, ha17⟩ : ∃ rr : Act, rr = a0_16.put (some 97) (.agg #[.int .i64 2, .bool false, .int .i64 5, .int .i64 0]) := ⟨_, rfl⟩
  have qz17 : 100 < a0_17.tmps.size := by rw [ha17, sz_put]; exact qz16
  have f17_90 : a0_17.eval (.tmp 90) = .bool false := by rw [ha17, ev_other _ _ _ _ (by decide)]; exact f16_90
  have f17_93 : a0_17.eval (.tmp 93) = .pointer (some ⟨z, 0, none⟩) := by rw [ha17, ev_other _ _ _ _ (by decide)]; exact f16_93
  have f17_96 : a0_17.eval (.tmp 96) = .pointer (some ⟨r, 0, none⟩) := by rw [ha17, ev_other _ _ _ _ (by decide)]; exact f16_96
  have f17_97 : a0_17.eval (.tmp 97) = .agg #[.int .i64 2, .bool false, .int .i64 5, .int .i64 0] := by rw [ha17]; exact ev_same _ _ _ (Nat.lt_of_le_of_lt (by decide) qz16)
  rw [← ha17] at h0 ⊢
  clear ha17
  refine wpAnyH_ready (rs := [17]) (by kernel_rfl) (by simp) ?_
  refine AllReadyH.cons (o := tl_17 s) (by kernel_rfl) (fun KQ hKQ => ?_) AllReadyH.nil
  rw [if_pos (wanted_some rfl (by kernel_rfl) f17_90 (Nat.lt_of_le_of_lt (by decide) qz17))]
  refine step_enterE 12 #[.pointer (some ⟨z, 0, none⟩), .pointer (some ⟨r, 0, none⟩), .agg #[.int .i64 2, .bool false, .int .i64 5, .int .i64 0]] (by rw [tl_enter17, f17_93, f17_96, f17_97]) (fun V w' => V = .bool true ∧ M2 w') ((hc2 w1 hM1).mono (fun e w' h => ⟨_, h.1, rfl, h.2⟩)) ?_
  rintro _ w2 ⟨rfl, hM2⟩
  refine hKQ.out _ _ (hk2 w2 hM2) (fun _ => ?_)
  clear hKQ KQ
  change wpAnyH _ _ _ _ _ _ _ (a0_17.put (some 98) (.bool true)) _
  have h0 := h0 w2 hM2
  obtain ⟨a0_18, ha18⟩ : ∃ rr : Act, rr = a0_17.put (some 98) (.bool true) := ⟨_, rfl⟩
  have qz18 : 100 < a0_18.tmps.size := by rw [ha18, sz_put]; exact qz17
  have f18_90 : a0_18.eval (.tmp 90) = .bool false := by rw [ha18, ev_other _ _ _ _ (by decide)]; exact f17_90
  have f18_98 : a0_18.eval (.tmp 98) = .bool true := by rw [ha18]; exact ev_same _ _ _ (Nat.lt_of_le_of_lt (by decide) qz17)
  rw [← ha18] at h0 ⊢
  clear ha18
  refine wpAnyH_take (i := 18) (oi := tl_18 s) (v := .bool false) (by kernel_rfl) (by kernel_rfl) (by kernel_rfl) (by kernel_rfl) (fun c a w h => hQ c _ _ _ w h) (Or.inl ⟨wanted_some rfl (by kernel_rfl) f18_90 (Nat.lt_of_le_of_lt (by decide) qz18), fun w hw => by simp only [execOp, tl_18, f18_98]; kernel_rfl⟩) (hk2 w2 hM2) ?_
  change wpAnyH _ _ _ _ _ _ _ (a0_18.put (some 99) (.bool false)) _
  obtain ⟨a0_19, ha19⟩ : ∃ rr : Act, rr = a0_18.put (some 99) (.bool false) := ⟨_, rfl⟩
  have qz19 : 100 < a0_19.tmps.size := by rw [ha19, sz_put]; exact qz18
  have f19_90 : a0_19.eval (.tmp 90) = .bool false := by rw [ha19, ev_other _ _ _ _ (by decide)]; exact f18_90
  have f19_99 : a0_19.eval (.tmp 99) = .bool false := by rw [ha19]; exact ev_same _ _ _ (Nat.lt_of_le_of_lt (by decide) qz18)
  rw [← ha19] at h0 ⊢
  clear ha19
  refine wpAnyH_take (i := 19) (oi := tl_19 s) (v := .bool false) (by kernel_rfl) (by kernel_rfl) (by kernel_rfl) (by kernel_rfl) (fun c a w h => hQ c _ _ _ w h) (Or.inl ⟨wanted_none rfl, fun w hw => by simp only [execOp, tl_19, f19_90, f19_99]; rfl⟩) (hk2 w2 hM2) ?_
  change wpAnyH _ _ _ _ _ _ _ (a0_19.put (some 100) (.bool false)) _
  obtain ⟨a0_20, ha20⟩ : ∃ rr : Act, rr = a0_19.put (some 100) (.bool false) := ⟨_, rfl⟩
  have qz20 : 100 < a0_20.tmps.size := by rw [ha20, sz_put]; exact qz19
  rw [← ha20] at h0 ⊢
  clear ha20
  refine wpAnyH_done (by kernel_rfl) ?_ _
  exact h0
end RR
end Go.Proofs.Ytnknjcnbbljagaa
