/- KeySets: the last loop's regions. -/
import Derived.Test.YtnloglecfbhpcaaKL5
namespace Go.Proofs.Ytnloglecfbhpcaa
set_option linter.unusedVariables false
set_option linter.unusedSimpArgs false
open Go.RowKit Go.Sort Go.Shelf
set_option maxRecDepth 100000
set_option maxHeartbeats 8000000

theorem iKPT : (Try.prog.info? KPT).map (·.size) = some 2 := by kernel_rfl
theorem run_ldKPT {w : World} {b o : Nat} {x y : Value} (h : w.rangeAt b o [x, y]) : (Instr.loadAt KPT (.pointer (some ⟨b, o, none⟩))).run Try.prog w = .ok (.agg #[x, y]) w :=
  run_loadAt_mid (P := Try.prog) w b o KPT [x, y] _ h Try.underlying44 rfl iKPT
theorem run_alKP {op : Oper} {ev : Operand → Value} {w : World} (ho : op.op = .alloc KPT) : (execOp ev op).run Try.prog w = .ok (.value (.pointer (some ⟨w.heap.size, 0, none⟩))) (w.alloc (.cells #[.nilFunc, .slice none 0 0] KPT)) := by
  simp only [execOp, ho]
  kernel_rfl
theorem run_stKP {op : Oper} {ev : Operand → Value} {x y : Operand} {z lb : Nat} {ao : Option Addr} {n c : Nat} {w : World} (ho : op.op = .store KPT x y) (hx : ev x = .pointer (some ⟨z, 0, none⟩)) (hy : ev y = .agg #[riF lb, .slice ao n c]) (hb : Blk w z #[.nilFunc, .slice none 0 0] KPT) : (execOp ev op).run Try.prog w = .ok .skip (w.setCells z 0 [riF lb, .slice ao n c]) := by
  have hst := run_storeAt_mid (P := Try.prog) w z 0 KPT #[riF lb, .slice ao n c] (there_row hb 0 _ (by simp)) (by kernel_rfl) (by simp [riF, Value.oneCell'])
  simp only [execOp, ho, hx, hy, Sem.run_bind, hst, Result.andThen_ok, Sem.run_pure]
theorem run_neqIn {op : Oper} {ev : Operand → Value} {x y : Operand} {u : TypeId} {q : Int} (ho : op.op = .binOp .neq 3 x y u) (hx : ev x = .int .i64 q) (hy : ev y = .int .i64 q) (w : World) : (execOp ev op).run Try.prog w = .ok (.value (.bool false)) w := by
  have := Try.underlying3
  simp [execOp, ho, hx, hy, go_sem, this]
def le_0 (s : String) : Oper := { dst := some 66, op := Op.move (Operand.tmp 3), type := 24, pos := s, after := #[], guard := none }
def le_1 (s : String) : Oper := { dst := some 67, op := Op.move (Operand.tmp 7), type := 3, pos := s, after := #[], guard := none }
def le_2 (s : String) : Oper := { dst := some 68, op := Op.nilCheck (Operand.tmp 66), type := 0, pos := s, after := #[{ on := 0, ground := Ground.data }], guard := none }
def le_3 (s : String) : Oper := { dst := some 69, op := Op.fieldAddr 32 (Operand.tmp 68) 0, type := 0, pos := s, after := #[{ on := 2, ground := Ground.data }], guard := none }
def le_4 (s : String) : Oper := { dst := some 70, op := Op.indexAddr 26 (Operand.tmp 69) (Operand.tmp 67), type := 0, pos := s, after := #[{ on := 3, ground := Ground.data }, { on := 1, ground := Ground.data }], guard := none }
def le_5 (s : String) : Oper := { dst := some 71, op := Op.load 25 (Operand.tmp 70), type := 25, pos := s, after := #[{ on := 4, ground := Ground.data }], guard := none }
def le_6 (s : String) : Oper := { dst := some 72, op := Op.call { callee := Callee.value (Operand.func 11), args := #[Operand.tmp 71], argTypes := #[25] }, type := 45, pos := s, after := #[{ on := 5, ground := Ground.data }], guard := none }
def le_7 (s : String) : Oper := { dst := some 73, op := Op.move (Operand.tmp 3), type := 24, pos := s, after := #[], guard := none }
def le_8 (s : String) : Oper := { dst := some 74, op := Op.move (Operand.tmp 7), type := 3, pos := s, after := #[], guard := none }
def le_9 (s : String) : Oper := { dst := some 75, op := Op.nilCheck (Operand.tmp 73), type := 0, pos := s, after := #[{ on := 7, ground := Ground.data }], guard := none }
def le_10 (s : String) : Oper := { dst := some 76, op := Op.fieldAddr 32 (Operand.tmp 75) 1, type := 0, pos := s, after := #[{ on := 9, ground := Ground.data }], guard := none }
def le_11 (s : String) : Oper := { dst := some 77, op := Op.indexAddr 28 (Operand.tmp 76) (Operand.tmp 74), type := 0, pos := s, after := #[{ on := 10, ground := Ground.data }, { on := 8, ground := Ground.data }], guard := none }
def le_12 (s : String) : Oper := { dst := some 78, op := Op.load 27 (Operand.tmp 77), type := 27, pos := s, after := #[{ on := 11, ground := Ground.data }], guard := none }
def le_13 (s : String) : Oper := { dst := some 79, op := Op.nilCheck (Operand.tmp 78), type := 0, pos := s, after := #[{ on := 12, ground := Ground.data }], guard := none }
def le_14 (s : String) : Oper := { dst := some 80, op := Op.fieldAddr 48 (Operand.tmp 79) 0, type := 0, pos := s, after := #[{ on := 13, ground := Ground.data }], guard := none }
def le_15 (s : String) : Oper := { dst := some 81, op := Op.load 39 (Operand.tmp 80), type := 39, pos := s, after := #[{ on := 14, ground := Ground.data }], guard := none }
def le_16 (s : String) : Oper := { dst := some 82, op := Op.build 44 #[(0, Operand.tmp 72), (1, Operand.tmp 81)], type := 44, pos := s, after := #[{ on := 6, ground := Ground.data }, { on := 15, ground := Ground.data }], guard := none }
def le_17 (s : String) : Oper := { dst := some 8, op := Op.alloc 44, type := 0, pos := s, after := #[], guard := none }
def le_18 (s : String) : Oper := { dst := none, op := Op.store 44 (Operand.tmp 8) (Operand.tmp 82), type := 0, pos := s, after := #[{ on := 17, ground := Ground.data }, { on := 16, ground := Ground.data }, { on := 6, ground := Ground.chain }, { on := 0, ground := Ground.phase }, { on := 1, ground := Ground.phase }, { on := 2, ground := Ground.phase }, { on := 3, ground := Ground.phase }, { on := 4, ground := Ground.phase }, { on := 5, ground := Ground.phase }, { on := 6, ground := Ground.phase }, { on := 7, ground := Ground.phase }, { on := 8, ground := Ground.phase }, { on := 9, ground := Ground.phase }, { on := 10, ground := Ground.phase }, { on := 11, ground := Ground.phase }, { on := 12, ground := Ground.phase }, { on := 13, ground := Ground.phase }, { on := 14, ground := Ground.phase }, { on := 15, ground := Ground.phase }, { on := 16, ground := Ground.phase }, { on := 17, ground := Ground.phase }], guard := none }
def le_ops (s : String) : Array Oper := #[le_0 s, le_1 s, le_2 s, le_3 s, le_4 s, le_5 s, le_6 s, le_7 s, le_8 s, le_9 s, le_10 s, le_11 s, le_12 s, le_13 s, le_14 s, le_15 s, le_16 s, le_17 s, le_18 s]
theorem le_enter6 (s : String) (a : Act) (w : World) : (execOp a.eval (le_6 s)).run Try.prog w = .ok (.enter 11 #[a.eval (.tmp 71)]) w := by kernel_rfl
theorem le_walk (s : String) {Q : Exit → Act → World → Prop} (hQ : ∀ c (a : Act) t v w, Q (.panic c) (a.put (some t) v) w → Q (.panic c) a w) (W : World) (wz z n c j : Nat) (hj : j < 3) (ao q : Option Addr) (M1 : Nat → World → Prop) (M2 : Nat → World → Prop) (hS0 : W.drew.cell? ⟨wz, j, none⟩ = some (.pointer q) ∧ W.drew.cell? ⟨wz, 3 + j, none⟩ = some (.pointer (some ⟨z, 0, none⟩)) ∧ W.drew.cell? ⟨z, 0, none⟩ = some (.slice ao n c)) (hSA : (W.drew.alloc (.cells #[.nilFunc, .slice none 0 0] KPT)).cell? ⟨wz, j, none⟩ = some (.pointer q) ∧ (W.drew.alloc (.cells #[.nilFunc, .slice none 0 0] KPT)).cell? ⟨wz, 3 + j, none⟩ = some (.pointer (some ⟨z, 0, none⟩)) ∧ (W.drew.alloc (.cells #[.nilFunc, .slice none 0 0] KPT)).cell? ⟨z, 0, none⟩ = some (.slice ao n c)) (hc1 : Calls Try.prog 11 #[.pointer q] W.drew fun e w' => ∃ lb, e = .returned (riF lb) ∧ M1 lb w') (hc2 : Calls Try.prog 11 #[.pointer q] (W.drew.alloc (.cells #[.nilFunc, .slice none 0 0] KPT)) fun e w' => ∃ lb, e = .returned (riF lb) ∧ M2 lb w') (hk1 : ∀ lb w2, M1 lb w2 → (w2.cell? ⟨wz, j, none⟩ = some (.pointer q) ∧ w2.cell? ⟨wz, 3 + j, none⟩ = some (.pointer (some ⟨z, 0, none⟩)) ∧ w2.cell? ⟨z, 0, none⟩ = some (.slice ao n c)) ∧ ((w2.alloc (.cells #[.nilFunc, .slice none 0 0] KPT)).cell? ⟨wz, j, none⟩ = some (.pointer q) ∧ (w2.alloc (.cells #[.nilFunc, .slice none 0 0] KPT)).cell? ⟨wz, 3 + j, none⟩ = some (.pointer (some ⟨z, 0, none⟩)) ∧ (w2.alloc (.cells #[.nilFunc, .slice none 0 0] KPT)).cell? ⟨z, 0, none⟩ = some (.slice ao n c))) (hk2 : ∀ lb w2, M2 lb w2 → (w2.cell? ⟨wz, j, none⟩ = some (.pointer q) ∧ w2.cell? ⟨wz, 3 + j, none⟩ = some (.pointer (some ⟨z, 0, none⟩)) ∧ w2.cell? ⟨z, 0, none⟩ = some (.slice ao n c)) ∧ Blk w2 W.drew.heap.size #[.nilFunc, .slice none 0 0] KPT) (hf1 : ∀ lb w2, M1 lb w2 → ((w2.alloc (.cells #[.nilFunc, .slice none 0 0] KPT)).setCells w2.heap.size 0 [riF lb, .slice ao n c]).cell? ⟨wz, j, none⟩ = some (.pointer q) ∧ ((w2.alloc (.cells #[.nilFunc, .slice none 0 0] KPT)).setCells w2.heap.size 0 [riF lb, .slice ao n c]).cell? ⟨wz, 3 + j, none⟩ = some (.pointer (some ⟨z, 0, none⟩)) ∧ ((w2.alloc (.cells #[.nilFunc, .slice none 0 0] KPT)).setCells w2.heap.size 0 [riF lb, .slice ao n c]).cell? ⟨z, 0, none⟩ = some (.slice ao n c)) (hf2 : ∀ lb w2, M2 lb w2 → (w2.setCells W.drew.heap.size 0 [riF lb, .slice ao n c]).cell? ⟨wz, j, none⟩ = some (.pointer q) ∧ (w2.setCells W.drew.heap.size 0 [riF lb, .slice ao n c]).cell? ⟨wz, 3 + j, none⟩ = some (.pointer (some ⟨z, 0, none⟩)) ∧ (w2.setCells W.drew.heap.size 0 [riF lb, .slice ao n c]).cell? ⟨z, 0, none⟩ = some (.slice ao n c))
    (a : Act) (hs : 82 < a.tmps.size) (e3 : a.eval (.tmp 3) = .pointer (some ⟨wz, 0, none⟩)) (e7 : a.eval (.tmp 7) = .int .i64 (j : Int))
    (h0 : ∀ lb w2, M1 lb w2 → Q .normal ((((((((((((((((((a.put (some 66) (.pointer (some ⟨wz, 0, none⟩))).put (some 67) (.int .i64 (j : Int))).put (some 68) (.pointer (some ⟨wz, 0, none⟩))).put (some 69) (.pointer (some ⟨wz, 0, none⟩))).put (some 70) (.pointer (some ⟨wz, j, none⟩))).put (some 71) (.pointer q)).put (some 73) (.pointer (some ⟨wz, 0, none⟩))).put (some 74) (.int .i64 (j : Int))).put (some 75) (.pointer (some ⟨wz, 0, none⟩))).put (some 76) (.pointer (some ⟨wz, 3, none⟩))).put (some 77) (.pointer (some ⟨wz, 3 + j, none⟩))).put (some 78) (.pointer (some ⟨z, 0, none⟩))).put (some 79) (.pointer (some ⟨z, 0, none⟩))).put (some 80) (.pointer (some ⟨z, 0, none⟩))).put (some 81) (.slice ao n c)).put (some 72) (riF lb)).put (some 82) (.agg #[riF lb, .slice ao n c])).put (some 8) (.pointer (some ⟨w2.heap.size, 0, none⟩))) ((w2.alloc (.cells #[.nilFunc, .slice none 0 0] KPT)).setCells w2.heap.size 0 [riF lb, .slice ao n c])) (h1 : ∀ lb w2, M2 lb w2 → Q .normal ((((((((((((((((((a.put (some 66) (.pointer (some ⟨wz, 0, none⟩))).put (some 67) (.int .i64 (j : Int))).put (some 68) (.pointer (some ⟨wz, 0, none⟩))).put (some 69) (.pointer (some ⟨wz, 0, none⟩))).put (some 70) (.pointer (some ⟨wz, j, none⟩))).put (some 71) (.pointer q)).put (some 73) (.pointer (some ⟨wz, 0, none⟩))).put (some 74) (.int .i64 (j : Int))).put (some 75) (.pointer (some ⟨wz, 0, none⟩))).put (some 76) (.pointer (some ⟨wz, 3, none⟩))).put (some 77) (.pointer (some ⟨wz, 3 + j, none⟩))).put (some 78) (.pointer (some ⟨z, 0, none⟩))).put (some 79) (.pointer (some ⟨z, 0, none⟩))).put (some 80) (.pointer (some ⟨z, 0, none⟩))).put (some 81) (.slice ao n c)).put (some 8) (.pointer (some ⟨W.drew.heap.size, 0, none⟩))).put (some 72) (riF lb)).put (some 82) (.agg #[riF lb, .slice ao n c])) (w2.setCells W.drew.heap.size 0 [riF lb, .slice ao n c])) :
    Code.wp Try.prog (.region 21 (le_ops s) true) Q a W := by
  refine wp_region_held_drew (S := fun w => w.cell? ⟨wz, j, none⟩ = some (.pointer q) ∧ w.cell? ⟨wz, 3 + j, none⟩ = some (.pointer (some ⟨z, 0, none⟩)) ∧ w.cell? ⟨z, 0, none⟩ = some (.slice ao n c)) (by kernel_rfl) hS0 (fun hS => ?_)
  change wpAnyH _ _ _ _ _ _ _ _ (World.drew _)
  refine wpAnyH_take (i := 0) (oi := le_0 s) (v := .pointer (some ⟨wz, 0, none⟩)) (by kernel_rfl) (by kernel_rfl) (by kernel_rfl) (by kernel_rfl) (fun c a w h => hQ c _ _ _ w h) (Or.inl ⟨wanted_none rfl, fun w hw => by simp only [execOp, le_0, e3]; rfl⟩) hS ?_
  change wpAnyH _ _ _ _ _ _ _ (a.put (some 66) (.pointer (some ⟨wz, 0, none⟩))) _
  obtain ⟨a0_1, ha1⟩ : ∃ rr : Act, rr = a.put (some 66) (.pointer (some ⟨wz, 0, none⟩)) := ⟨_, rfl⟩
  have qz1 : 82 < a0_1.tmps.size := by rw [ha1, sz_put]; exact hs
  have f1_3 : a0_1.eval (.tmp 3) = .pointer (some ⟨wz, 0, none⟩) := by rw [ha1, ev_other _ _ _ _ (by decide)]; exact e3
  have f1_7 : a0_1.eval (.tmp 7) = .int .i64 (j : Int) := by rw [ha1, ev_other _ _ _ _ (by decide)]; exact e7
  have f1_66 : a0_1.eval (.tmp 66) = .pointer (some ⟨wz, 0, none⟩) := by rw [ha1]; exact ev_same _ _ _ (Nat.lt_of_le_of_lt (by decide) hs)
  rw [← ha1] at h0 h1 ⊢
  clear ha1
  refine wpAnyH_take (i := 1) (oi := le_1 s) (v := .int .i64 (j : Int)) (by kernel_rfl) (by kernel_rfl) (by kernel_rfl) (by kernel_rfl) (fun c a w h => hQ c _ _ _ w h) (Or.inl ⟨wanted_none rfl, fun w hw => by simp only [execOp, le_1, f1_7]; rfl⟩) hS ?_
  change wpAnyH _ _ _ _ _ _ _ (a0_1.put (some 67) (.int .i64 (j : Int))) _
  obtain ⟨a0_2, ha2⟩ : ∃ rr : Act, rr = a0_1.put (some 67) (.int .i64 (j : Int)) := ⟨_, rfl⟩
  have qz2 : 82 < a0_2.tmps.size := by rw [ha2, sz_put]; exact qz1
  have f2_3 : a0_2.eval (.tmp 3) = .pointer (some ⟨wz, 0, none⟩) := by rw [ha2, ev_other _ _ _ _ (by decide)]; exact f1_3
  have f2_7 : a0_2.eval (.tmp 7) = .int .i64 (j : Int) := by rw [ha2, ev_other _ _ _ _ (by decide)]; exact f1_7
  have f2_66 : a0_2.eval (.tmp 66) = .pointer (some ⟨wz, 0, none⟩) := by rw [ha2, ev_other _ _ _ _ (by decide)]; exact f1_66
  have f2_67 : a0_2.eval (.tmp 67) = .int .i64 (j : Int) := by rw [ha2]; exact ev_same _ _ _ (Nat.lt_of_le_of_lt (by decide) qz1)
  rw [← ha2] at h0 h1 ⊢
  clear ha2
  refine wpAnyH_take (i := 2) (oi := le_2 s) (v := .pointer (some ⟨wz, 0, none⟩)) (by kernel_rfl) (by kernel_rfl) (by kernel_rfl) (by kernel_rfl) (fun c a w h => hQ c _ _ _ w h) (Or.inl ⟨wanted_none rfl, fun w hw => run_nil rfl f2_66 w⟩) hS ?_
  change wpAnyH _ _ _ _ _ _ _ (a0_2.put (some 68) (.pointer (some ⟨wz, 0, none⟩))) _
  obtain ⟨a0_3, ha3⟩ : ∃ rr : Act, rr = a0_2.put (some 68) (.pointer (some ⟨wz, 0, none⟩)) := ⟨_, rfl⟩
  have qz3 : 82 < a0_3.tmps.size := by rw [ha3, sz_put]; exact qz2
  have f3_3 : a0_3.eval (.tmp 3) = .pointer (some ⟨wz, 0, none⟩) := by rw [ha3, ev_other _ _ _ _ (by decide)]; exact f2_3
  have f3_7 : a0_3.eval (.tmp 7) = .int .i64 (j : Int) := by rw [ha3, ev_other _ _ _ _ (by decide)]; exact f2_7
  have f3_67 : a0_3.eval (.tmp 67) = .int .i64 (j : Int) := by rw [ha3, ev_other _ _ _ _ (by decide)]; exact f2_67
  have f3_68 : a0_3.eval (.tmp 68) = .pointer (some ⟨wz, 0, none⟩) := by rw [ha3]; exact ev_same _ _ _ (Nat.lt_of_le_of_lt (by decide) qz2)
  rw [← ha3] at h0 h1 ⊢
  clear ha3
  refine wpAnyH_take (i := 3) (oi := le_3 s) (v := .pointer (some ⟨wz, 0, none⟩)) (by kernel_rfl) (by kernel_rfl) (by kernel_rfl) (by kernel_rfl) (fun c a w h => hQ c _ _ _ w h) (Or.inl ⟨wanted_none rfl, fun w hw => fldW wz 0 0 (fW0 wz) rfl f3_68 w⟩) hS ?_
  change wpAnyH _ _ _ _ _ _ _ (a0_3.put (some 69) (.pointer (some ⟨wz, 0, none⟩))) _
  obtain ⟨a0_4, ha4⟩ : ∃ rr : Act, rr = a0_3.put (some 69) (.pointer (some ⟨wz, 0, none⟩)) := ⟨_, rfl⟩
  have qz4 : 82 < a0_4.tmps.size := by rw [ha4, sz_put]; exact qz3
  have f4_3 : a0_4.eval (.tmp 3) = .pointer (some ⟨wz, 0, none⟩) := by rw [ha4, ev_other _ _ _ _ (by decide)]; exact f3_3
  have f4_7 : a0_4.eval (.tmp 7) = .int .i64 (j : Int) := by rw [ha4, ev_other _ _ _ _ (by decide)]; exact f3_7
  have f4_67 : a0_4.eval (.tmp 67) = .int .i64 (j : Int) := by rw [ha4, ev_other _ _ _ _ (by decide)]; exact f3_67
  have f4_69 : a0_4.eval (.tmp 69) = .pointer (some ⟨wz, 0, none⟩) := by rw [ha4]; exact ev_same _ _ _ (Nat.lt_of_le_of_lt (by decide) qz3)
  rw [← ha4] at h0 h1 ⊢
  clear ha4
  refine wpAnyH_take (i := 4) (oi := le_4 s) (v := .pointer (some ⟨wz, j, none⟩)) (by kernel_rfl) (by kernel_rfl) (by kernel_rfl) (by kernel_rfl) (fun c a w h => hQ c _ _ _ w h) (Or.inl ⟨wanted_none rfl, fun w hw => run_ixP rfl f4_69 f4_67 hj w⟩) hS ?_
  change wpAnyH _ _ _ _ _ _ _ (a0_4.put (some 70) (.pointer (some ⟨wz, j, none⟩))) _
  obtain ⟨a0_5, ha5⟩ : ∃ rr : Act, rr = a0_4.put (some 70) (.pointer (some ⟨wz, j, none⟩)) := ⟨_, rfl⟩
  have qz5 : 82 < a0_5.tmps.size := by rw [ha5, sz_put]; exact qz4
  have f5_3 : a0_5.eval (.tmp 3) = .pointer (some ⟨wz, 0, none⟩) := by rw [ha5, ev_other _ _ _ _ (by decide)]; exact f4_3
  have f5_7 : a0_5.eval (.tmp 7) = .int .i64 (j : Int) := by rw [ha5, ev_other _ _ _ _ (by decide)]; exact f4_7
  have f5_70 : a0_5.eval (.tmp 70) = .pointer (some ⟨wz, j, none⟩) := by rw [ha5]; exact ev_same _ _ _ (Nat.lt_of_le_of_lt (by decide) qz4)
  rw [← ha5] at h0 h1 ⊢
  clear ha5
  refine wpAnyH_take (i := 5) (oi := le_5 s) (v := .pointer q) (by kernel_rfl) (by kernel_rfl) (by kernel_rfl) (by kernel_rfl) (fun c a w h => hQ c _ _ _ w h) (Or.inl ⟨wanted_none rfl, fun w hw => run_load rfl f5_70 (load_xp hw.1)⟩) hS ?_
  change wpAnyH _ _ _ _ _ _ _ (a0_5.put (some 71) (.pointer q)) _
  obtain ⟨a0_6, ha6⟩ : ∃ rr : Act, rr = a0_5.put (some 71) (.pointer q) := ⟨_, rfl⟩
  have qz6 : 82 < a0_6.tmps.size := by rw [ha6, sz_put]; exact qz5
  have f6_3 : a0_6.eval (.tmp 3) = .pointer (some ⟨wz, 0, none⟩) := by rw [ha6, ev_other _ _ _ _ (by decide)]; exact f5_3
  have f6_7 : a0_6.eval (.tmp 7) = .int .i64 (j : Int) := by rw [ha6, ev_other _ _ _ _ (by decide)]; exact f5_7
  have f6_71 : a0_6.eval (.tmp 71) = .pointer q := by rw [ha6]; exact ev_same _ _ _ (Nat.lt_of_le_of_lt (by decide) qz5)
  rw [← ha6] at h0 h1 ⊢
  clear ha6
  refine wpAnyH_take (i := 7) (oi := le_7 s) (v := .pointer (some ⟨wz, 0, none⟩)) (by kernel_rfl) (by kernel_rfl) (by kernel_rfl) (by kernel_rfl) (fun c a w h => hQ c _ _ _ w h) (Or.inl ⟨wanted_none rfl, fun w hw => by simp only [execOp, le_7, f6_3]; rfl⟩) hS ?_
  change wpAnyH _ _ _ _ _ _ _ (a0_6.put (some 73) (.pointer (some ⟨wz, 0, none⟩))) _
  obtain ⟨a0_7, ha7⟩ : ∃ rr : Act, rr = a0_6.put (some 73) (.pointer (some ⟨wz, 0, none⟩)) := ⟨_, rfl⟩
  have qz7 : 82 < a0_7.tmps.size := by rw [ha7, sz_put]; exact qz6
  have f7_7 : a0_7.eval (.tmp 7) = .int .i64 (j : Int) := by rw [ha7, ev_other _ _ _ _ (by decide)]; exact f6_7
  have f7_71 : a0_7.eval (.tmp 71) = .pointer q := by rw [ha7, ev_other _ _ _ _ (by decide)]; exact f6_71
  have f7_73 : a0_7.eval (.tmp 73) = .pointer (some ⟨wz, 0, none⟩) := by rw [ha7]; exact ev_same _ _ _ (Nat.lt_of_le_of_lt (by decide) qz6)
  rw [← ha7] at h0 h1 ⊢
  clear ha7
  refine wpAnyH_take (i := 8) (oi := le_8 s) (v := .int .i64 (j : Int)) (by kernel_rfl) (by kernel_rfl) (by kernel_rfl) (by kernel_rfl) (fun c a w h => hQ c _ _ _ w h) (Or.inl ⟨wanted_none rfl, fun w hw => by simp only [execOp, le_8, f7_7]; rfl⟩) hS ?_
  change wpAnyH _ _ _ _ _ _ _ (a0_7.put (some 74) (.int .i64 (j : Int))) _
  obtain ⟨a0_8, ha8⟩ : ∃ rr : Act, rr = a0_7.put (some 74) (.int .i64 (j : Int)) := ⟨_, rfl⟩
  have qz8 : 82 < a0_8.tmps.size := by rw [ha8, sz_put]; exact qz7
  have f8_71 : a0_8.eval (.tmp 71) = .pointer q := by rw [ha8, ev_other _ _ _ _ (by decide)]; exact f7_71
  have f8_73 : a0_8.eval (.tmp 73) = .pointer (some ⟨wz, 0, none⟩) := by rw [ha8, ev_other _ _ _ _ (by decide)]; exact f7_73
  have f8_74 : a0_8.eval (.tmp 74) = .int .i64 (j : Int) := by rw [ha8]; exact ev_same _ _ _ (Nat.lt_of_le_of_lt (by decide) qz7)
  rw [← ha8] at h0 h1 ⊢
  clear ha8
  refine wpAnyH_take (i := 9) (oi := le_9 s) (v := .pointer (some ⟨wz, 0, none⟩)) (by kernel_rfl) (by kernel_rfl) (by kernel_rfl) (by kernel_rfl) (fun c a w h => hQ c _ _ _ w h) (Or.inl ⟨wanted_none rfl, fun w hw => run_nil rfl f8_73 w⟩) hS ?_
  change wpAnyH _ _ _ _ _ _ _ (a0_8.put (some 75) (.pointer (some ⟨wz, 0, none⟩))) _
  obtain ⟨a0_9, ha9⟩ : ∃ rr : Act, rr = a0_8.put (some 75) (.pointer (some ⟨wz, 0, none⟩)) := ⟨_, rfl⟩
  have qz9 : 82 < a0_9.tmps.size := by rw [ha9, sz_put]; exact qz8
  have f9_71 : a0_9.eval (.tmp 71) = .pointer q := by rw [ha9, ev_other _ _ _ _ (by decide)]; exact f8_71
  have f9_74 : a0_9.eval (.tmp 74) = .int .i64 (j : Int) := by rw [ha9, ev_other _ _ _ _ (by decide)]; exact f8_74
  have f9_75 : a0_9.eval (.tmp 75) = .pointer (some ⟨wz, 0, none⟩) := by rw [ha9]; exact ev_same _ _ _ (Nat.lt_of_le_of_lt (by decide) qz8)
  rw [← ha9] at h0 h1 ⊢
  clear ha9
  refine wpAnyH_take (i := 10) (oi := le_10 s) (v := .pointer (some ⟨wz, 3, none⟩)) (by kernel_rfl) (by kernel_rfl) (by kernel_rfl) (by kernel_rfl) (fun c a w h => hQ c _ _ _ w h) (Or.inl ⟨wanted_none rfl, fun w hw => fldW wz 1 3 (fW1 wz) rfl f9_75 w⟩) hS ?_
  change wpAnyH _ _ _ _ _ _ _ (a0_9.put (some 76) (.pointer (some ⟨wz, 3, none⟩))) _
  obtain ⟨a0_10, ha10⟩ : ∃ rr : Act, rr = a0_9.put (some 76) (.pointer (some ⟨wz, 3, none⟩)) := ⟨_, rfl⟩
  have qz10 : 82 < a0_10.tmps.size := by rw [ha10, sz_put]; exact qz9
  have f10_71 : a0_10.eval (.tmp 71) = .pointer q := by rw [ha10, ev_other _ _ _ _ (by decide)]; exact f9_71
  have f10_74 : a0_10.eval (.tmp 74) = .int .i64 (j : Int) := by rw [ha10, ev_other _ _ _ _ (by decide)]; exact f9_74
  have f10_76 : a0_10.eval (.tmp 76) = .pointer (some ⟨wz, 3, none⟩) := by rw [ha10]; exact ev_same _ _ _ (Nat.lt_of_le_of_lt (by decide) qz9)
  rw [← ha10] at h0 h1 ⊢
  clear ha10
  refine wpAnyH_take (i := 11) (oi := le_11 s) (v := .pointer (some ⟨wz, 3 + j, none⟩)) (by kernel_rfl) (by kernel_rfl) (by kernel_rfl) (by kernel_rfl) (fun c a w h => hQ c _ _ _ w h) (Or.inl ⟨wanted_none rfl, fun w hw => run_ixR rfl f10_76 f10_74 hj w⟩) hS ?_
  change wpAnyH _ _ _ _ _ _ _ (a0_10.put (some 77) (.pointer (some ⟨wz, 3 + j, none⟩))) _
  obtain ⟨a0_11, ha11⟩ : ∃ rr : Act, rr = a0_10.put (some 77) (.pointer (some ⟨wz, 3 + j, none⟩)) := ⟨_, rfl⟩
  have qz11 : 82 < a0_11.tmps.size := by rw [ha11, sz_put]; exact qz10
  have f11_71 : a0_11.eval (.tmp 71) = .pointer q := by rw [ha11, ev_other _ _ _ _ (by decide)]; exact f10_71
  have f11_77 : a0_11.eval (.tmp 77) = .pointer (some ⟨wz, 3 + j, none⟩) := by rw [ha11]; exact ev_same _ _ _ (Nat.lt_of_le_of_lt (by decide) qz10)
  rw [← ha11] at h0 h1 ⊢
  clear ha11
  refine wpAnyH_take (i := 12) (oi := le_12 s) (v := .pointer (some ⟨z, 0, none⟩)) (by kernel_rfl) (by kernel_rfl) (by kernel_rfl) (by kernel_rfl) (fun c a w h => hQ c _ _ _ w h) (Or.inl ⟨wanted_none rfl, fun w hw => run_load rfl f11_77 (load_qp hw.2.1)⟩) hS ?_
  change wpAnyH _ _ _ _ _ _ _ (a0_11.put (some 78) (.pointer (some ⟨z, 0, none⟩))) _
  obtain ⟨a0_12, ha12⟩ : ∃ rr : Act, rr = a0_11.put (some 78) (.pointer (some ⟨z, 0, none⟩)) := ⟨_, rfl⟩
  have qz12 : 82 < a0_12.tmps.size := by rw [ha12, sz_put]; exact qz11
  have f12_71 : a0_12.eval (.tmp 71) = .pointer q := by rw [ha12, ev_other _ _ _ _ (by decide)]; exact f11_71
  have f12_78 : a0_12.eval (.tmp 78) = .pointer (some ⟨z, 0, none⟩) := by rw [ha12]; exact ev_same _ _ _ (Nat.lt_of_le_of_lt (by decide) qz11)
  rw [← ha12] at h0 h1 ⊢
  clear ha12
  refine wpAnyH_take (i := 13) (oi := le_13 s) (v := .pointer (some ⟨z, 0, none⟩)) (by kernel_rfl) (by kernel_rfl) (by kernel_rfl) (by kernel_rfl) (fun c a w h => hQ c _ _ _ w h) (Or.inl ⟨wanted_none rfl, fun w hw => run_nil rfl f12_78 w⟩) hS ?_
  change wpAnyH _ _ _ _ _ _ _ (a0_12.put (some 79) (.pointer (some ⟨z, 0, none⟩))) _
  obtain ⟨a0_13, ha13⟩ : ∃ rr : Act, rr = a0_12.put (some 79) (.pointer (some ⟨z, 0, none⟩)) := ⟨_, rfl⟩
  have qz13 : 82 < a0_13.tmps.size := by rw [ha13, sz_put]; exact qz12
  have f13_71 : a0_13.eval (.tmp 71) = .pointer q := by rw [ha13, ev_other _ _ _ _ (by decide)]; exact f12_71
  have f13_79 : a0_13.eval (.tmp 79) = .pointer (some ⟨z, 0, none⟩) := by rw [ha13]; exact ev_same _ _ _ (Nat.lt_of_le_of_lt (by decide) qz12)
  rw [← ha13] at h0 h1 ⊢
  clear ha13
  refine wpAnyH_take (i := 14) (oi := le_14 s) (v := .pointer (some ⟨z, 0, none⟩)) (by kernel_rfl) (by kernel_rfl) (by kernel_rfl) (by kernel_rfl) (fun c a w h => hQ c _ _ _ w h) (Or.inl ⟨wanted_none rfl, fun w hw => fldQ rfl f13_79 w⟩) hS ?_
  change wpAnyH _ _ _ _ _ _ _ (a0_13.put (some 80) (.pointer (some ⟨z, 0, none⟩))) _
  obtain ⟨a0_14, ha14⟩ : ∃ rr : Act, rr = a0_13.put (some 80) (.pointer (some ⟨z, 0, none⟩)) := ⟨_, rfl⟩
  have qz14 : 82 < a0_14.tmps.size := by rw [ha14, sz_put]; exact qz13
  have f14_71 : a0_14.eval (.tmp 71) = .pointer q := by rw [ha14, ev_other _ _ _ _ (by decide)]; exact f13_71
  have f14_80 : a0_14.eval (.tmp 80) = .pointer (some ⟨z, 0, none⟩) := by rw [ha14]; exact ev_same _ _ _ (Nat.lt_of_le_of_lt (by decide) qz13)
  rw [← ha14] at h0 h1 ⊢
  clear ha14
  refine wpAnyH_take (i := 15) (oi := le_15 s) (v := .slice ao n c) (by kernel_rfl) (by kernel_rfl) (by kernel_rfl) (by kernel_rfl) (fun c a w h => hQ c _ _ _ w h) (Or.inl ⟨wanted_none rfl, fun w hw => run_load rfl f14_80 (load_kl hw.2.2)⟩) hS ?_
  change wpAnyH _ _ _ _ _ _ _ (a0_14.put (some 81) (.slice ao n c)) _
  obtain ⟨a0_15, ha15⟩ : ∃ rr : Act, rr = a0_14.put (some 81) (.slice ao n c) := ⟨_, rfl⟩
  have qz15 : 82 < a0_15.tmps.size := by rw [ha15, sz_put]; exact qz14
  have f15_71 : a0_15.eval (.tmp 71) = .pointer q := by rw [ha15, ev_other _ _ _ _ (by decide)]; exact f14_71
  have f15_81 : a0_15.eval (.tmp 81) = .slice ao n c := by rw [ha15]; exact ev_same _ _ _ (Nat.lt_of_le_of_lt (by decide) qz14)
  rw [← ha15] at h0 h1 ⊢
  clear ha15
  refine wpAnyH_ready (rs := [6, 17]) (by kernel_rfl) (by simp) ?_
  refine (AllReadyH.cons (o := le_6 s) (by kernel_rfl) (fun KQ hKQ => ?_) (AllReadyH.cons (o := le_17 s) (by kernel_rfl) (fun KQ hKQ => ?_) AllReadyH.nil))
  · skip
    rw [if_pos (wanted_none rfl)]
    refine step_enterE 11 #[.pointer q] (by rw [le_enter6, f15_71]) (fun V w' => ∃ lb, V = riF lb ∧ M1 lb w') (hc1.mono (fun e w' ⟨lb, h1, h2⟩ => ⟨_, h1, lb, rfl, h2⟩)) ?_
    rintro _ w2 ⟨lb, rfl, hM1⟩
    refine hKQ.out _ _ ((hk1 lb w2 hM1).1) (fun _ => ?_)
    clear hKQ KQ
    change wpAnyH _ _ _ _ _ _ _ (a0_15.put (some 72) (riF lb)) _
    have h0 := h0 lb w2 hM1
    obtain ⟨a0_16, ha16⟩ : ∃ rr : Act, rr = a0_15.put (some 72) (riF lb) := ⟨_, rfl⟩
    have qz16 : 82 < a0_16.tmps.size := by rw [ha16, sz_put]; exact qz15
    have f16_72 : a0_16.eval (.tmp 72) = riF lb := by rw [ha16]; exact ev_same _ _ _ (Nat.lt_of_le_of_lt (by decide) qz15)
    have f16_81 : a0_16.eval (.tmp 81) = .slice ao n c := by rw [ha16, ev_other _ _ _ _ (by decide)]; exact f15_81
    rw [← ha16] at h0 ⊢
    clear ha16
    refine wpAnyH_take (i := 16) (oi := le_16 s) (v := .agg #[riF lb, .slice ao n c]) (by kernel_rfl) (by kernel_rfl) (by kernel_rfl) (by kernel_rfl) (fun c a w h => hQ c _ _ _ w h) (Or.inl ⟨wanted_none rfl, fun w hw => run_bdKP rfl f16_72 f16_81 w⟩) (hk1 lb w2 hM1).1 ?_
    change wpAnyH _ _ _ _ _ _ _ (a0_16.put (some 82) (.agg #[riF lb, .slice ao n c])) _
    obtain ⟨a0_17, ha17⟩ : ∃ rr : Act, rr = a0_16.put (some 82) (.agg #[riF lb, .slice ao n c]) := ⟨_, rfl⟩
    have qz17 : 82 < a0_17.tmps.size := by rw [ha17, sz_put]; exact qz16
    have f17_82 : a0_17.eval (.tmp 82) = .agg #[riF lb, .slice ao n c] := by rw [ha17]; exact ev_same _ _ _ (Nat.lt_of_le_of_lt (by decide) qz16)
    rw [← ha17] at h0 ⊢
    clear ha17
    refine wpAnyH_ready (rs := [17]) (by kernel_rfl) (by simp) ?_
    refine AllReadyH.cons (o := le_17 s) (by kernel_rfl) (fun KQ hKQ => ?_) AllReadyH.nil
    rw [if_pos (wanted_none rfl)]
    refine step_runE (.pointer (some ⟨w2.heap.size, 0, none⟩)) ((w2.alloc (.cells #[.nilFunc, .slice none 0 0] KPT))) (run_alKP rfl) ?_
    refine hKQ.out _ _ ((hk1 lb w2 hM1).2) (fun _ => ?_)
    clear hKQ KQ
    change wpAnyH _ _ _ _ _ _ _ (a0_17.put (some 8) (.pointer (some ⟨w2.heap.size, 0, none⟩))) _
    obtain ⟨a0_18, ha18⟩ : ∃ rr : Act, rr = a0_17.put (some 8) (.pointer (some ⟨w2.heap.size, 0, none⟩)) := ⟨_, rfl⟩
    have qz18 : 82 < a0_18.tmps.size := by rw [ha18, sz_put]; exact qz17
    have f18_8 : a0_18.eval (.tmp 8) = .pointer (some ⟨w2.heap.size, 0, none⟩) := by rw [ha18]; exact ev_same _ _ _ (Nat.lt_of_le_of_lt (by decide) qz17)
    have f18_82 : a0_18.eval (.tmp 82) = .agg #[riF lb, .slice ao n c] := by rw [ha18, ev_other _ _ _ _ (by decide)]; exact f17_82
    rw [← ha18] at h0 ⊢
    clear ha18
    refine wpAnyH_ready (rs := [18]) (by kernel_rfl) (by simp) ?_
    refine AllReadyH.cons (o := le_18 s) (by kernel_rfl) (fun KQ hKQ => ?_) AllReadyH.nil
    rw [if_pos (wanted_none rfl)]
    refine step_skipE ((w2.alloc (.cells #[.nilFunc, .slice none 0 0] KPT)).setCells w2.heap.size 0 [riF lb, .slice ao n c]) (run_stKP rfl f18_8 f18_82 (Blk.made w2 _ _)) ?_
    refine hKQ.out _ _ (hf1 lb w2 hM1) (fun _ => ?_)
    clear hKQ KQ
    refine wpAnyH_done (by kernel_rfl) ?_ _
    exact h0
  · skip
    rw [if_pos (wanted_none rfl)]
    refine step_runE (.pointer (some ⟨W.drew.heap.size, 0, none⟩)) ((W.drew.alloc (.cells #[.nilFunc, .slice none 0 0] KPT))) (run_alKP rfl) ?_
    refine hKQ.out _ _ (hSA) (fun _ => ?_)
    clear hKQ KQ
    change wpAnyH _ _ _ _ _ _ _ (a0_15.put (some 8) (.pointer (some ⟨W.drew.heap.size, 0, none⟩))) _
    obtain ⟨a1_16, ha16⟩ : ∃ rr : Act, rr = a0_15.put (some 8) (.pointer (some ⟨W.drew.heap.size, 0, none⟩)) := ⟨_, rfl⟩
    have qz16 : 82 < a1_16.tmps.size := by rw [ha16, sz_put]; exact qz15
    have f16_8 : a1_16.eval (.tmp 8) = .pointer (some ⟨W.drew.heap.size, 0, none⟩) := by rw [ha16]; exact ev_same _ _ _ (Nat.lt_of_le_of_lt (by decide) qz15)
    have f16_71 : a1_16.eval (.tmp 71) = .pointer q := by rw [ha16, ev_other _ _ _ _ (by decide)]; exact f15_71
    have f16_81 : a1_16.eval (.tmp 81) = .slice ao n c := by rw [ha16, ev_other _ _ _ _ (by decide)]; exact f15_81
    rw [← ha16] at h1 ⊢
    clear ha16
    refine wpAnyH_ready (rs := [6]) (by kernel_rfl) (by simp) ?_
    refine AllReadyH.cons (o := le_6 s) (by kernel_rfl) (fun KQ hKQ => ?_) AllReadyH.nil
    rw [if_pos (wanted_none rfl)]
    refine step_enterE 11 #[.pointer q] (by rw [le_enter6, f16_71]) (fun V w' => ∃ lb, V = riF lb ∧ M2 lb w') (hc2.mono (fun e w' ⟨lb, h1, h2⟩ => ⟨_, h1, lb, rfl, h2⟩)) ?_
    rintro _ w2 ⟨lb, rfl, hM2⟩
    refine hKQ.out _ _ ((hk2 lb w2 hM2).1) (fun _ => ?_)
    clear hKQ KQ
    change wpAnyH _ _ _ _ _ _ _ (a1_16.put (some 72) (riF lb)) _
    have h1 := h1 lb w2 hM2
    obtain ⟨a1_17, ha17⟩ : ∃ rr : Act, rr = a1_16.put (some 72) (riF lb) := ⟨_, rfl⟩
    have qz17 : 82 < a1_17.tmps.size := by rw [ha17, sz_put]; exact qz16
    have f17_8 : a1_17.eval (.tmp 8) = .pointer (some ⟨W.drew.heap.size, 0, none⟩) := by rw [ha17, ev_other _ _ _ _ (by decide)]; exact f16_8
    have f17_72 : a1_17.eval (.tmp 72) = riF lb := by rw [ha17]; exact ev_same _ _ _ (Nat.lt_of_le_of_lt (by decide) qz16)
    have f17_81 : a1_17.eval (.tmp 81) = .slice ao n c := by rw [ha17, ev_other _ _ _ _ (by decide)]; exact f16_81
    rw [← ha17] at h1 ⊢
    clear ha17
    refine wpAnyH_take (i := 16) (oi := le_16 s) (v := .agg #[riF lb, .slice ao n c]) (by kernel_rfl) (by kernel_rfl) (by kernel_rfl) (by kernel_rfl) (fun c a w h => hQ c _ _ _ w h) (Or.inl ⟨wanted_none rfl, fun w hw => run_bdKP rfl f17_72 f17_81 w⟩) (hk2 lb w2 hM2).1 ?_
    change wpAnyH _ _ _ _ _ _ _ (a1_17.put (some 82) (.agg #[riF lb, .slice ao n c])) _
    obtain ⟨a1_18, ha18⟩ : ∃ rr : Act, rr = a1_17.put (some 82) (.agg #[riF lb, .slice ao n c]) := ⟨_, rfl⟩
    have qz18 : 82 < a1_18.tmps.size := by rw [ha18, sz_put]; exact qz17
    have f18_8 : a1_18.eval (.tmp 8) = .pointer (some ⟨W.drew.heap.size, 0, none⟩) := by rw [ha18, ev_other _ _ _ _ (by decide)]; exact f17_8
    have f18_82 : a1_18.eval (.tmp 82) = .agg #[riF lb, .slice ao n c] := by rw [ha18]; exact ev_same _ _ _ (Nat.lt_of_le_of_lt (by decide) qz17)
    rw [← ha18] at h1 ⊢
    clear ha18
    refine wpAnyH_ready (rs := [18]) (by kernel_rfl) (by simp) ?_
    refine AllReadyH.cons (o := le_18 s) (by kernel_rfl) (fun KQ hKQ => ?_) AllReadyH.nil
    rw [if_pos (wanted_none rfl)]
    refine step_skipE (w2.setCells W.drew.heap.size 0 [riF lb, .slice ao n c]) (run_stKP rfl f18_8 f18_82 (hk2 lb w2 hM2).2) ?_
    refine hKQ.out _ _ (hf2 lb w2 hM2) (fun _ => ?_)
    clear hKQ KQ
    refine wpAnyH_done (by kernel_rfl) ?_ _
    exact h1
def lf_0 (s : String) : Oper := { dst := some 83, op := Op.load 44 (Operand.tmp 8), type := 44, pos := s, after := #[], guard := none }
def lf_1 (s : String) : Oper := { dst := some 84, op := Op.call { callee := Callee.value (Operand.func 10), args := #[Operand.tmp 83], argTypes := #[44] }, type := 4, pos := s, after := #[{ on := 0, ground := Ground.data }], guard := none }
def lf_2 (s : String) : Oper := { dst := some 85, op := Op.unOp UnOp.not 4 (Operand.tmp 84), type := 4, pos := s, after := #[{ on := 1, ground := Ground.data }], guard := none }
def lf_3 (s : String) : Oper := { dst := some 86, op := Op.move (Operand.tmp 85), type := 4, pos := s, after := #[{ on := 2, ground := Ground.data }, { on := 1, ground := Ground.chain }], guard := none }
def lf_4 (s : String) : Oper := { dst := some 87, op := Op.move (Operand.tmp 3), type := 24, pos := s, after := #[{ on := 3, ground := Ground.guard }], guard := some (3, false) }
def lf_5 (s : String) : Oper := { dst := some 88, op := Op.move (Operand.tmp 7), type := 3, pos := s, after := #[{ on := 3, ground := Ground.guard }], guard := some (3, false) }
def lf_6 (s : String) : Oper := { dst := some 89, op := Op.nilCheck (Operand.tmp 87), type := 0, pos := s, after := #[{ on := 4, ground := Ground.data }, { on := 3, ground := Ground.guard }], guard := some (3, false) }
def lf_7 (s : String) : Oper := { dst := some 90, op := Op.fieldAddr 32 (Operand.tmp 89) 0, type := 0, pos := s, after := #[{ on := 6, ground := Ground.data }, { on := 3, ground := Ground.guard }], guard := some (3, false) }
def lf_8 (s : String) : Oper := { dst := some 91, op := Op.indexAddr 26 (Operand.tmp 90) (Operand.tmp 88), type := 0, pos := s, after := #[{ on := 7, ground := Ground.data }, { on := 5, ground := Ground.data }, { on := 3, ground := Ground.guard }], guard := some (3, false) }
def lf_9 (s : String) : Oper := { dst := some 92, op := Op.load 25 (Operand.tmp 91), type := 25, pos := s, after := #[{ on := 8, ground := Ground.data }, { on := 3, ground := Ground.guard }], guard := some (3, false) }
def lf_10 (s : String) : Oper := { dst := some 93, op := Op.call { callee := Callee.value (Operand.func 12), args := #[Operand.tmp 92], argTypes := #[25] }, type := 3, pos := s, after := #[{ on := 9, ground := Ground.data }, { on := 3, ground := Ground.chain }, { on := 3, ground := Ground.guard }], guard := some (3, false) }
def lf_11 (s : String) : Oper := { dst := some 94, op := Op.move (Operand.tmp 3), type := 24, pos := s, after := #[{ on := 3, ground := Ground.guard }], guard := some (3, false) }
def lf_12 (s : String) : Oper := { dst := some 95, op := Op.move (Operand.tmp 7), type := 3, pos := s, after := #[{ on := 3, ground := Ground.guard }], guard := some (3, false) }
def lf_13 (s : String) : Oper := { dst := some 96, op := Op.nilCheck (Operand.tmp 94), type := 0, pos := s, after := #[{ on := 11, ground := Ground.data }, { on := 3, ground := Ground.guard }], guard := some (3, false) }
def lf_14 (s : String) : Oper := { dst := some 97, op := Op.fieldAddr 32 (Operand.tmp 96) 1, type := 0, pos := s, after := #[{ on := 13, ground := Ground.data }, { on := 3, ground := Ground.guard }], guard := some (3, false) }
def lf_15 (s : String) : Oper := { dst := some 98, op := Op.indexAddr 28 (Operand.tmp 97) (Operand.tmp 95), type := 0, pos := s, after := #[{ on := 14, ground := Ground.data }, { on := 12, ground := Ground.data }, { on := 3, ground := Ground.guard }], guard := some (3, false) }
def lf_16 (s : String) : Oper := { dst := some 99, op := Op.load 27 (Operand.tmp 98), type := 27, pos := s, after := #[{ on := 15, ground := Ground.data }, { on := 3, ground := Ground.guard }], guard := some (3, false) }
def lf_17 (s : String) : Oper := { dst := some 100, op := Op.nilCheck (Operand.tmp 99), type := 0, pos := s, after := #[{ on := 16, ground := Ground.data }, { on := 3, ground := Ground.guard }], guard := some (3, false) }
def lf_18 (s : String) : Oper := { dst := some 101, op := Op.fieldAddr 48 (Operand.tmp 100) 0, type := 0, pos := s, after := #[{ on := 17, ground := Ground.data }, { on := 3, ground := Ground.guard }], guard := some (3, false) }
def lf_19 (s : String) : Oper := { dst := some 102, op := Op.load 39 (Operand.tmp 101), type := 39, pos := s, after := #[{ on := 18, ground := Ground.data }, { on := 3, ground := Ground.guard }], guard := some (3, false) }
def lf_20 (s : String) : Oper := { dst := some 103, op := Op.call { callee := Callee.builtin Builtin.len, args := #[Operand.tmp 102], argTypes := #[39] }, type := 3, pos := s, after := #[{ on := 19, ground := Ground.data }, { on := 3, ground := Ground.guard }], guard := some (3, false) }
def lf_21 (s : String) : Oper := { dst := some 104, op := Op.binOp BinOp.neq 3 (Operand.tmp 93) (Operand.tmp 103) 3, type := 4, pos := s, after := #[{ on := 10, ground := Ground.data }, { on := 20, ground := Ground.data }, { on := 3, ground := Ground.guard }], guard := some (3, false) }
def lf_22 (s : String) : Oper := { dst := some 105, op := Op.pick (Operand.tmp 86) (Operand.const (Value.bool true)) (Operand.tmp 104), type := 4, pos := s, after := #[{ on := 3, ground := Ground.data }, { on := 21, ground := Ground.data }], guard := none }
def lf_ops (s : String) : Array Oper := #[lf_0 s, lf_1 s, lf_2 s, lf_3 s, lf_4 s, lf_5 s, lf_6 s, lf_7 s, lf_8 s, lf_9 s, lf_10 s, lf_11 s, lf_12 s, lf_13 s, lf_14 s, lf_15 s, lf_16 s, lf_17 s, lf_18 s, lf_19 s, lf_20 s, lf_21 s, lf_22 s]
theorem lf_enter1 (s : String) (a : Act) (w : World) : (execOp a.eval (lf_1 s)).run Try.prog w = .ok (.enter 10 #[a.eval (.tmp 83)]) w := by kernel_rfl
theorem lf_enter10 (s : String) (a : Act) (w : World) : (execOp a.eval (lf_10 s)).run Try.prog w = .ok (.enter 12 #[a.eval (.tmp 92)]) w := by kernel_rfl
theorem lf_walk (s : String) {Q : Exit → Act → World → Prop} (hQ : ∀ c (a : Act) t v w, Q (.panic c) (a.put (some t) v) w → Q (.panic c) a w) (W : World) (wz z eb lb n c j : Nat) (hj : j < 3) (ao q : Option Addr) (M1 : World → Prop) (hS0 : W.drew.cell? ⟨wz, j, none⟩ = some (.pointer q) ∧ W.drew.cell? ⟨wz, 3 + j, none⟩ = some (.pointer (some ⟨z, 0, none⟩)) ∧ W.drew.cell? ⟨z, 0, none⟩ = some (.slice ao n c) ∧ W.drew.rangeAt eb 0 [riF lb, .slice ao n c]) (hc1 : Calls Try.prog 10 #[.agg #[riF lb, .slice ao n c]] W.drew fun e w' => e = .returned (.bool true) ∧ M1 w') (hk1 : ∀ w2, M1 w2 → w2.cell? ⟨wz, j, none⟩ = some (.pointer q) ∧ w2.cell? ⟨wz, 3 + j, none⟩ = some (.pointer (some ⟨z, 0, none⟩)) ∧ w2.cell? ⟨z, 0, none⟩ = some (.slice ao n c) ∧ w2.rangeAt eb 0 [riF lb, .slice ao n c]) (hc2 : ∀ w2, M1 w2 → Calls Try.prog 12 #[.pointer q] w2 fun e w' => e = .returned (.int .i64 (n : Int)) ∧ w' = w2)
    (a : Act) (hs : 105 < a.tmps.size) (e3 : a.eval (.tmp 3) = .pointer (some ⟨wz, 0, none⟩)) (e7 : a.eval (.tmp 7) = .int .i64 (j : Int)) (e8 : a.eval (.tmp 8) = .pointer (some ⟨eb, 0, none⟩))
    (h0 : ∀ w2, M1 w2 → Q .normal (((((((((((((((((((((((a.put (some 83) (.agg #[riF lb, .slice ao n c])).put (some 84) (.bool true)).put (some 85) (.bool false)).put (some 86) (.bool false)).put (some 87) (.pointer (some ⟨wz, 0, none⟩))).put (some 88) (.int .i64 (j : Int))).put (some 89) (.pointer (some ⟨wz, 0, none⟩))).put (some 90) (.pointer (some ⟨wz, 0, none⟩))).put (some 91) (.pointer (some ⟨wz, j, none⟩))).put (some 92) (.pointer q)).put (some 94) (.pointer (some ⟨wz, 0, none⟩))).put (some 95) (.int .i64 (j : Int))).put (some 96) (.pointer (some ⟨wz, 0, none⟩))).put (some 97) (.pointer (some ⟨wz, 3, none⟩))).put (some 98) (.pointer (some ⟨wz, 3 + j, none⟩))).put (some 99) (.pointer (some ⟨z, 0, none⟩))).put (some 100) (.pointer (some ⟨z, 0, none⟩))).put (some 101) (.pointer (some ⟨z, 0, none⟩))).put (some 102) (.slice ao n c)).put (some 103) (.int .i64 (n : Int))).put (some 93) (.int .i64 (n : Int))).put (some 104) (.bool false)).put (some 105) (.bool false)) w2) :
    Code.wp Try.prog (.region 22 (lf_ops s) true) Q a W := by
  refine wp_region_held_drew (S := fun w => w.cell? ⟨wz, j, none⟩ = some (.pointer q) ∧ w.cell? ⟨wz, 3 + j, none⟩ = some (.pointer (some ⟨z, 0, none⟩)) ∧ w.cell? ⟨z, 0, none⟩ = some (.slice ao n c) ∧ w.rangeAt eb 0 [riF lb, .slice ao n c]) (by kernel_rfl) hS0 (fun hS => ?_)
  change wpAnyH _ _ _ _ _ _ _ _ (World.drew _)
  refine wpAnyH_take (i := 0) (oi := lf_0 s) (v := .agg #[riF lb, .slice ao n c]) (by kernel_rfl) (by kernel_rfl) (by kernel_rfl) (by kernel_rfl) (fun c a w h => hQ c _ _ _ w h) (Or.inl ⟨wanted_none rfl, fun w hw => run_load rfl e8 (run_ldKPT hw.2.2.2)⟩) hS ?_
  change wpAnyH _ _ _ _ _ _ _ (a.put (some 83) (.agg #[riF lb, .slice ao n c])) _
  obtain ⟨a0_1, ha1⟩ : ∃ rr : Act, rr = a.put (some 83) (.agg #[riF lb, .slice ao n c]) := ⟨_, rfl⟩
  have qz1 : 105 < a0_1.tmps.size := by rw [ha1, sz_put]; exact hs
  have f1_3 : a0_1.eval (.tmp 3) = .pointer (some ⟨wz, 0, none⟩) := by rw [ha1, ev_other _ _ _ _ (by decide)]; exact e3
  have f1_7 : a0_1.eval (.tmp 7) = .int .i64 (j : Int) := by rw [ha1, ev_other _ _ _ _ (by decide)]; exact e7
  have f1_83 : a0_1.eval (.tmp 83) = .agg #[riF lb, .slice ao n c] := by rw [ha1]; exact ev_same _ _ _ (Nat.lt_of_le_of_lt (by decide) hs)
  rw [← ha1] at h0 ⊢
  clear ha1
  refine wpAnyH_ready (rs := [1]) (by kernel_rfl) (by simp) ?_
  refine AllReadyH.cons (o := lf_1 s) (by kernel_rfl) (fun KQ hKQ => ?_) AllReadyH.nil
  rw [if_pos (wanted_none rfl)]
  refine step_enterE 10 #[.agg #[riF lb, .slice ao n c]] (by rw [lf_enter1, f1_83]) (fun V w' => V = .bool true ∧ M1 w') (hc1.mono (fun e w' ⟨h1, h2⟩ => ⟨_, h1, rfl, h2⟩)) ?_
  rintro _ w2 ⟨rfl, hM1⟩
  refine hKQ.out _ _ (hk1 w2 hM1) (fun _ => ?_)
  clear hKQ KQ
  change wpAnyH _ _ _ _ _ _ _ (a0_1.put (some 84) (.bool true)) _
  have h0 := h0 w2 hM1
  obtain ⟨a0_2, ha2⟩ : ∃ rr : Act, rr = a0_1.put (some 84) (.bool true) := ⟨_, rfl⟩
  have qz2 : 105 < a0_2.tmps.size := by rw [ha2, sz_put]; exact qz1
  have f2_3 : a0_2.eval (.tmp 3) = .pointer (some ⟨wz, 0, none⟩) := by rw [ha2, ev_other _ _ _ _ (by decide)]; exact f1_3
  have f2_7 : a0_2.eval (.tmp 7) = .int .i64 (j : Int) := by rw [ha2, ev_other _ _ _ _ (by decide)]; exact f1_7
  have f2_84 : a0_2.eval (.tmp 84) = .bool true := by rw [ha2]; exact ev_same _ _ _ (Nat.lt_of_le_of_lt (by decide) qz1)
  rw [← ha2] at h0 ⊢
  clear ha2
  refine wpAnyH_take (i := 2) (oi := lf_2 s) (v := .bool false) (by kernel_rfl) (by kernel_rfl) (by kernel_rfl) (by kernel_rfl) (fun c a w h => hQ c _ _ _ w h) (Or.inl ⟨wanted_none rfl, fun w hw => run_notB rfl f2_84 w⟩) (hk1 w2 hM1) ?_
  change wpAnyH _ _ _ _ _ _ _ (a0_2.put (some 85) (.bool false)) _
  obtain ⟨a0_3, ha3⟩ : ∃ rr : Act, rr = a0_2.put (some 85) (.bool false) := ⟨_, rfl⟩
  have qz3 : 105 < a0_3.tmps.size := by rw [ha3, sz_put]; exact qz2
  have f3_3 : a0_3.eval (.tmp 3) = .pointer (some ⟨wz, 0, none⟩) := by rw [ha3, ev_other _ _ _ _ (by decide)]; exact f2_3
  have f3_7 : a0_3.eval (.tmp 7) = .int .i64 (j : Int) := by rw [ha3, ev_other _ _ _ _ (by decide)]; exact f2_7
  have f3_85 : a0_3.eval (.tmp 85) = .bool false := by rw [ha3]; exact ev_same _ _ _ (Nat.lt_of_le_of_lt (by decide) qz2)
  rw [← ha3] at h0 ⊢
  clear ha3
  refine wpAnyH_take (i := 3) (oi := lf_3 s) (v := .bool false) (by kernel_rfl) (by kernel_rfl) (by kernel_rfl) (by kernel_rfl) (fun c a w h => hQ c _ _ _ w h) (Or.inl ⟨wanted_none rfl, fun w hw => by simp only [execOp, lf_3, f3_85]; rfl⟩) (hk1 w2 hM1) ?_
  change wpAnyH _ _ _ _ _ _ _ (a0_3.put (some 86) (.bool false)) _
  obtain ⟨a0_4, ha4⟩ : ∃ rr : Act, rr = a0_3.put (some 86) (.bool false) := ⟨_, rfl⟩
  have qz4 : 105 < a0_4.tmps.size := by rw [ha4, sz_put]; exact qz3
  have f4_3 : a0_4.eval (.tmp 3) = .pointer (some ⟨wz, 0, none⟩) := by rw [ha4, ev_other _ _ _ _ (by decide)]; exact f3_3
  have f4_7 : a0_4.eval (.tmp 7) = .int .i64 (j : Int) := by rw [ha4, ev_other _ _ _ _ (by decide)]; exact f3_7
  have f4_86 : a0_4.eval (.tmp 86) = .bool false := by rw [ha4]; exact ev_same _ _ _ (Nat.lt_of_le_of_lt (by decide) qz3)
  rw [← ha4] at h0 ⊢
  clear ha4
  refine wpAnyH_take (i := 4) (oi := lf_4 s) (v := .pointer (some ⟨wz, 0, none⟩)) (by kernel_rfl) (by kernel_rfl) (by kernel_rfl) (by kernel_rfl) (fun c a w h => hQ c _ _ _ w h) (Or.inl ⟨wanted_some rfl (by kernel_rfl) f4_86 (Nat.lt_of_le_of_lt (by decide) qz4), fun w hw => by simp only [execOp, lf_4, f4_3]; rfl⟩) (hk1 w2 hM1) ?_
  change wpAnyH _ _ _ _ _ _ _ (a0_4.put (some 87) (.pointer (some ⟨wz, 0, none⟩))) _
  obtain ⟨a0_5, ha5⟩ : ∃ rr : Act, rr = a0_4.put (some 87) (.pointer (some ⟨wz, 0, none⟩)) := ⟨_, rfl⟩
  have qz5 : 105 < a0_5.tmps.size := by rw [ha5, sz_put]; exact qz4
  have f5_3 : a0_5.eval (.tmp 3) = .pointer (some ⟨wz, 0, none⟩) := by rw [ha5, ev_other _ _ _ _ (by decide)]; exact f4_3
  have f5_7 : a0_5.eval (.tmp 7) = .int .i64 (j : Int) := by rw [ha5, ev_other _ _ _ _ (by decide)]; exact f4_7
  have f5_86 : a0_5.eval (.tmp 86) = .bool false := by rw [ha5, ev_other _ _ _ _ (by decide)]; exact f4_86
  have f5_87 : a0_5.eval (.tmp 87) = .pointer (some ⟨wz, 0, none⟩) := by rw [ha5]; exact ev_same _ _ _ (Nat.lt_of_le_of_lt (by decide) qz4)
  rw [← ha5] at h0 ⊢
  clear ha5
  refine wpAnyH_take (i := 5) (oi := lf_5 s) (v := .int .i64 (j : Int)) (by kernel_rfl) (by kernel_rfl) (by kernel_rfl) (by kernel_rfl) (fun c a w h => hQ c _ _ _ w h) (Or.inl ⟨wanted_some rfl (by kernel_rfl) f5_86 (Nat.lt_of_le_of_lt (by decide) qz5), fun w hw => by simp only [execOp, lf_5, f5_7]; rfl⟩) (hk1 w2 hM1) ?_
  change wpAnyH _ _ _ _ _ _ _ (a0_5.put (some 88) (.int .i64 (j : Int))) _
  obtain ⟨a0_6, ha6⟩ : ∃ rr : Act, rr = a0_5.put (some 88) (.int .i64 (j : Int)) := ⟨_, rfl⟩
  have qz6 : 105 < a0_6.tmps.size := by rw [ha6, sz_put]; exact qz5
  have f6_3 : a0_6.eval (.tmp 3) = .pointer (some ⟨wz, 0, none⟩) := by rw [ha6, ev_other _ _ _ _ (by decide)]; exact f5_3
  have f6_7 : a0_6.eval (.tmp 7) = .int .i64 (j : Int) := by rw [ha6, ev_other _ _ _ _ (by decide)]; exact f5_7
  have f6_86 : a0_6.eval (.tmp 86) = .bool false := by rw [ha6, ev_other _ _ _ _ (by decide)]; exact f5_86
  have f6_87 : a0_6.eval (.tmp 87) = .pointer (some ⟨wz, 0, none⟩) := by rw [ha6, ev_other _ _ _ _ (by decide)]; exact f5_87
  have f6_88 : a0_6.eval (.tmp 88) = .int .i64 (j : Int) := by rw [ha6]; exact ev_same _ _ _ (Nat.lt_of_le_of_lt (by decide) qz5)
  rw [← ha6] at h0 ⊢
  clear ha6
  refine wpAnyH_take (i := 6) (oi := lf_6 s) (v := .pointer (some ⟨wz, 0, none⟩)) (by kernel_rfl) (by kernel_rfl) (by kernel_rfl) (by kernel_rfl) (fun c a w h => hQ c _ _ _ w h) (Or.inl ⟨wanted_some rfl (by kernel_rfl) f6_86 (Nat.lt_of_le_of_lt (by decide) qz6), fun w hw => run_nil rfl f6_87 w⟩) (hk1 w2 hM1) ?_
  change wpAnyH _ _ _ _ _ _ _ (a0_6.put (some 89) (.pointer (some ⟨wz, 0, none⟩))) _
  obtain ⟨a0_7, ha7⟩ : ∃ rr : Act, rr = a0_6.put (some 89) (.pointer (some ⟨wz, 0, none⟩)) := ⟨_, rfl⟩
  have qz7 : 105 < a0_7.tmps.size := by rw [ha7, sz_put]; exact qz6
  have f7_3 : a0_7.eval (.tmp 3) = .pointer (some ⟨wz, 0, none⟩) := by rw [ha7, ev_other _ _ _ _ (by decide)]; exact f6_3
  have f7_7 : a0_7.eval (.tmp 7) = .int .i64 (j : Int) := by rw [ha7, ev_other _ _ _ _ (by decide)]; exact f6_7
  have f7_86 : a0_7.eval (.tmp 86) = .bool false := by rw [ha7, ev_other _ _ _ _ (by decide)]; exact f6_86
  have f7_88 : a0_7.eval (.tmp 88) = .int .i64 (j : Int) := by rw [ha7, ev_other _ _ _ _ (by decide)]; exact f6_88
  have f7_89 : a0_7.eval (.tmp 89) = .pointer (some ⟨wz, 0, none⟩) := by rw [ha7]; exact ev_same _ _ _ (Nat.lt_of_le_of_lt (by decide) qz6)
  rw [← ha7] at h0 ⊢
  clear ha7
  refine wpAnyH_take (i := 7) (oi := lf_7 s) (v := .pointer (some ⟨wz, 0, none⟩)) (by kernel_rfl) (by kernel_rfl) (by kernel_rfl) (by kernel_rfl) (fun c a w h => hQ c _ _ _ w h) (Or.inl ⟨wanted_some rfl (by kernel_rfl) f7_86 (Nat.lt_of_le_of_lt (by decide) qz7), fun w hw => fldW wz 0 0 (fW0 wz) rfl f7_89 w⟩) (hk1 w2 hM1) ?_
  change wpAnyH _ _ _ _ _ _ _ (a0_7.put (some 90) (.pointer (some ⟨wz, 0, none⟩))) _
  obtain ⟨a0_8, ha8⟩ : ∃ rr : Act, rr = a0_7.put (some 90) (.pointer (some ⟨wz, 0, none⟩)) := ⟨_, rfl⟩
  have qz8 : 105 < a0_8.tmps.size := by rw [ha8, sz_put]; exact qz7
  have f8_3 : a0_8.eval (.tmp 3) = .pointer (some ⟨wz, 0, none⟩) := by rw [ha8, ev_other _ _ _ _ (by decide)]; exact f7_3
  have f8_7 : a0_8.eval (.tmp 7) = .int .i64 (j : Int) := by rw [ha8, ev_other _ _ _ _ (by decide)]; exact f7_7
  have f8_86 : a0_8.eval (.tmp 86) = .bool false := by rw [ha8, ev_other _ _ _ _ (by decide)]; exact f7_86
  have f8_88 : a0_8.eval (.tmp 88) = .int .i64 (j : Int) := by rw [ha8, ev_other _ _ _ _ (by decide)]; exact f7_88
  have f8_90 : a0_8.eval (.tmp 90) = .pointer (some ⟨wz, 0, none⟩) := by rw [ha8]; exact ev_same _ _ _ (Nat.lt_of_le_of_lt (by decide) qz7)
  rw [← ha8] at h0 ⊢
  clear ha8
  refine wpAnyH_take (i := 8) (oi := lf_8 s) (v := .pointer (some ⟨wz, j, none⟩)) (by kernel_rfl) (by kernel_rfl) (by kernel_rfl) (by kernel_rfl) (fun c a w h => hQ c _ _ _ w h) (Or.inl ⟨wanted_some rfl (by kernel_rfl) f8_86 (Nat.lt_of_le_of_lt (by decide) qz8), fun w hw => run_ixP rfl f8_90 f8_88 hj w⟩) (hk1 w2 hM1) ?_
  change wpAnyH _ _ _ _ _ _ _ (a0_8.put (some 91) (.pointer (some ⟨wz, j, none⟩))) _
  obtain ⟨a0_9, ha9⟩ : ∃ rr : Act, rr = a0_8.put (some 91) (.pointer (some ⟨wz, j, none⟩)) := ⟨_, rfl⟩
  have qz9 : 105 < a0_9.tmps.size := by rw [ha9, sz_put]; exact qz8
  have f9_3 : a0_9.eval (.tmp 3) = .pointer (some ⟨wz, 0, none⟩) := by rw [ha9, ev_other _ _ _ _ (by decide)]; exact f8_3
  have f9_7 : a0_9.eval (.tmp 7) = .int .i64 (j : Int) := by rw [ha9, ev_other _ _ _ _ (by decide)]; exact f8_7
  have f9_86 : a0_9.eval (.tmp 86) = .bool false := by rw [ha9, ev_other _ _ _ _ (by decide)]; exact f8_86
  have f9_91 : a0_9.eval (.tmp 91) = .pointer (some ⟨wz, j, none⟩) := by rw [ha9]; exact ev_same _ _ _ (Nat.lt_of_le_of_lt (by decide) qz8)
  rw [← ha9] at h0 ⊢
  clear ha9
  refine wpAnyH_take (i := 9) (oi := lf_9 s) (v := .pointer q) (by kernel_rfl) (by kernel_rfl) (by kernel_rfl) (by kernel_rfl) (fun c a w h => hQ c _ _ _ w h) (Or.inl ⟨wanted_some rfl (by kernel_rfl) f9_86 (Nat.lt_of_le_of_lt (by decide) qz9), fun w hw => run_load rfl f9_91 (load_xp hw.1)⟩) (hk1 w2 hM1) ?_
  change wpAnyH _ _ _ _ _ _ _ (a0_9.put (some 92) (.pointer q)) _
  obtain ⟨a0_10, ha10⟩ : ∃ rr : Act, rr = a0_9.put (some 92) (.pointer q) := ⟨_, rfl⟩
  have qz10 : 105 < a0_10.tmps.size := by rw [ha10, sz_put]; exact qz9
  have f10_3 : a0_10.eval (.tmp 3) = .pointer (some ⟨wz, 0, none⟩) := by rw [ha10, ev_other _ _ _ _ (by decide)]; exact f9_3
  have f10_7 : a0_10.eval (.tmp 7) = .int .i64 (j : Int) := by rw [ha10, ev_other _ _ _ _ (by decide)]; exact f9_7
  have f10_86 : a0_10.eval (.tmp 86) = .bool false := by rw [ha10, ev_other _ _ _ _ (by decide)]; exact f9_86
  have f10_92 : a0_10.eval (.tmp 92) = .pointer q := by rw [ha10]; exact ev_same _ _ _ (Nat.lt_of_le_of_lt (by decide) qz9)
  rw [← ha10] at h0 ⊢
  clear ha10
  refine wpAnyH_take (i := 11) (oi := lf_11 s) (v := .pointer (some ⟨wz, 0, none⟩)) (by kernel_rfl) (by kernel_rfl) (by kernel_rfl) (by kernel_rfl) (fun c a w h => hQ c _ _ _ w h) (Or.inl ⟨wanted_some rfl (by kernel_rfl) f10_86 (Nat.lt_of_le_of_lt (by decide) qz10), fun w hw => by simp only [execOp, lf_11, f10_3]; rfl⟩) (hk1 w2 hM1) ?_
  change wpAnyH _ _ _ _ _ _ _ (a0_10.put (some 94) (.pointer (some ⟨wz, 0, none⟩))) _
  obtain ⟨a0_11, ha11⟩ : ∃ rr : Act, rr = a0_10.put (some 94) (.pointer (some ⟨wz, 0, none⟩)) := ⟨_, rfl⟩
  have qz11 : 105 < a0_11.tmps.size := by rw [ha11, sz_put]; exact qz10
  have f11_7 : a0_11.eval (.tmp 7) = .int .i64 (j : Int) := by rw [ha11, ev_other _ _ _ _ (by decide)]; exact f10_7
  have f11_86 : a0_11.eval (.tmp 86) = .bool false := by rw [ha11, ev_other _ _ _ _ (by decide)]; exact f10_86
  have f11_92 : a0_11.eval (.tmp 92) = .pointer q := by rw [ha11, ev_other _ _ _ _ (by decide)]; exact f10_92
  have f11_94 : a0_11.eval (.tmp 94) = .pointer (some ⟨wz, 0, none⟩) := by rw [ha11]; exact ev_same _ _ _ (Nat.lt_of_le_of_lt (by decide) qz10)
  rw [← ha11] at h0 ⊢
  clear ha11
  refine wpAnyH_take (i := 12) (oi := lf_12 s) (v := .int .i64 (j : Int)) (by kernel_rfl) (by kernel_rfl) (by kernel_rfl) (by kernel_rfl) (fun c a w h => hQ c _ _ _ w h) (Or.inl ⟨wanted_some rfl (by kernel_rfl) f11_86 (Nat.lt_of_le_of_lt (by decide) qz11), fun w hw => by simp only [execOp, lf_12, f11_7]; rfl⟩) (hk1 w2 hM1) ?_
  change wpAnyH _ _ _ _ _ _ _ (a0_11.put (some 95) (.int .i64 (j : Int))) _
  obtain ⟨a0_12, ha12⟩ : ∃ rr : Act, rr = a0_11.put (some 95) (.int .i64 (j : Int)) := ⟨_, rfl⟩
  have qz12 : 105 < a0_12.tmps.size := by rw [ha12, sz_put]; exact qz11
  have f12_86 : a0_12.eval (.tmp 86) = .bool false := by rw [ha12, ev_other _ _ _ _ (by decide)]; exact f11_86
  have f12_92 : a0_12.eval (.tmp 92) = .pointer q := by rw [ha12, ev_other _ _ _ _ (by decide)]; exact f11_92
  have f12_94 : a0_12.eval (.tmp 94) = .pointer (some ⟨wz, 0, none⟩) := by rw [ha12, ev_other _ _ _ _ (by decide)]; exact f11_94
  have f12_95 : a0_12.eval (.tmp 95) = .int .i64 (j : Int) := by rw [ha12]; exact ev_same _ _ _ (Nat.lt_of_le_of_lt (by decide) qz11)
  rw [← ha12] at h0 ⊢
  clear ha12
  refine wpAnyH_take (i := 13) (oi := lf_13 s) (v := .pointer (some ⟨wz, 0, none⟩)) (by kernel_rfl) (by kernel_rfl) (by kernel_rfl) (by kernel_rfl) (fun c a w h => hQ c _ _ _ w h) (Or.inl ⟨wanted_some rfl (by kernel_rfl) f12_86 (Nat.lt_of_le_of_lt (by decide) qz12), fun w hw => run_nil rfl f12_94 w⟩) (hk1 w2 hM1) ?_
  change wpAnyH _ _ _ _ _ _ _ (a0_12.put (some 96) (.pointer (some ⟨wz, 0, none⟩))) _
  obtain ⟨a0_13, ha13⟩ : ∃ rr : Act, rr = a0_12.put (some 96) (.pointer (some ⟨wz, 0, none⟩)) := ⟨_, rfl⟩
  have qz13 : 105 < a0_13.tmps.size := by rw [ha13, sz_put]; exact qz12
  have f13_86 : a0_13.eval (.tmp 86) = .bool false := by rw [ha13, ev_other _ _ _ _ (by decide)]; exact f12_86
  have f13_92 : a0_13.eval (.tmp 92) = .pointer q := by rw [ha13, ev_other _ _ _ _ (by decide)]; exact f12_92
  have f13_95 : a0_13.eval (.tmp 95) = .int .i64 (j : Int) := by rw [ha13, ev_other _ _ _ _ (by decide)]; exact f12_95
  have f13_96 : a0_13.eval (.tmp 96) = .pointer (some ⟨wz, 0, none⟩) := by rw [ha13]; exact ev_same _ _ _ (Nat.lt_of_le_of_lt (by decide) qz12)
  rw [← ha13] at h0 ⊢
  clear ha13
  refine wpAnyH_take (i := 14) (oi := lf_14 s) (v := .pointer (some ⟨wz, 3, none⟩)) (by kernel_rfl) (by kernel_rfl) (by kernel_rfl) (by kernel_rfl) (fun c a w h => hQ c _ _ _ w h) (Or.inl ⟨wanted_some rfl (by kernel_rfl) f13_86 (Nat.lt_of_le_of_lt (by decide) qz13), fun w hw => fldW wz 1 3 (fW1 wz) rfl f13_96 w⟩) (hk1 w2 hM1) ?_
  change wpAnyH _ _ _ _ _ _ _ (a0_13.put (some 97) (.pointer (some ⟨wz, 3, none⟩))) _
  obtain ⟨a0_14, ha14⟩ : ∃ rr : Act, rr = a0_13.put (some 97) (.pointer (some ⟨wz, 3, none⟩)) := ⟨_, rfl⟩
  have qz14 : 105 < a0_14.tmps.size := by rw [ha14, sz_put]; exact qz13
  have f14_86 : a0_14.eval (.tmp 86) = .bool false := by rw [ha14, ev_other _ _ _ _ (by decide)]; exact f13_86
  have f14_92 : a0_14.eval (.tmp 92) = .pointer q := by rw [ha14, ev_other _ _ _ _ (by decide)]; exact f13_92
  have f14_95 : a0_14.eval (.tmp 95) = .int .i64 (j : Int) := by rw [ha14, ev_other _ _ _ _ (by decide)]; exact f13_95
  have f14_97 : a0_14.eval (.tmp 97) = .pointer (some ⟨wz, 3, none⟩) := by rw [ha14]; exact ev_same _ _ _ (Nat.lt_of_le_of_lt (by decide) qz13)
  rw [← ha14] at h0 ⊢
  clear ha14
  refine wpAnyH_take (i := 15) (oi := lf_15 s) (v := .pointer (some ⟨wz, 3 + j, none⟩)) (by kernel_rfl) (by kernel_rfl) (by kernel_rfl) (by kernel_rfl) (fun c a w h => hQ c _ _ _ w h) (Or.inl ⟨wanted_some rfl (by kernel_rfl) f14_86 (Nat.lt_of_le_of_lt (by decide) qz14), fun w hw => run_ixR rfl f14_97 f14_95 hj w⟩) (hk1 w2 hM1) ?_
  change wpAnyH _ _ _ _ _ _ _ (a0_14.put (some 98) (.pointer (some ⟨wz, 3 + j, none⟩))) _
  obtain ⟨a0_15, ha15⟩ : ∃ rr : Act, rr = a0_14.put (some 98) (.pointer (some ⟨wz, 3 + j, none⟩)) := ⟨_, rfl⟩
  have qz15 : 105 < a0_15.tmps.size := by rw [ha15, sz_put]; exact qz14
  have f15_86 : a0_15.eval (.tmp 86) = .bool false := by rw [ha15, ev_other _ _ _ _ (by decide)]; exact f14_86
  have f15_92 : a0_15.eval (.tmp 92) = .pointer q := by rw [ha15, ev_other _ _ _ _ (by decide)]; exact f14_92
  have f15_98 : a0_15.eval (.tmp 98) = .pointer (some ⟨wz, 3 + j, none⟩) := by rw [ha15]; exact ev_same _ _ _ (Nat.lt_of_le_of_lt (by decide) qz14)
  rw [← ha15] at h0 ⊢
  clear ha15
  refine wpAnyH_take (i := 16) (oi := lf_16 s) (v := .pointer (some ⟨z, 0, none⟩)) (by kernel_rfl) (by kernel_rfl) (by kernel_rfl) (by kernel_rfl) (fun c a w h => hQ c _ _ _ w h) (Or.inl ⟨wanted_some rfl (by kernel_rfl) f15_86 (Nat.lt_of_le_of_lt (by decide) qz15), fun w hw => run_load rfl f15_98 (load_qp hw.2.1)⟩) (hk1 w2 hM1) ?_
  change wpAnyH _ _ _ _ _ _ _ (a0_15.put (some 99) (.pointer (some ⟨z, 0, none⟩))) _
  obtain ⟨a0_16, ha16⟩ : ∃ rr : Act, rr = a0_15.put (some 99) (.pointer (some ⟨z, 0, none⟩)) := ⟨_, rfl⟩
  have qz16 : 105 < a0_16.tmps.size := by rw [ha16, sz_put]; exact qz15
  have f16_86 : a0_16.eval (.tmp 86) = .bool false := by rw [ha16, ev_other _ _ _ _ (by decide)]; exact f15_86
  have f16_92 : a0_16.eval (.tmp 92) = .pointer q := by rw [ha16, ev_other _ _ _ _ (by decide)]; exact f15_92
  have f16_99 : a0_16.eval (.tmp 99) = .pointer (some ⟨z, 0, none⟩) := by rw [ha16]; exact ev_same _ _ _ (Nat.lt_of_le_of_lt (by decide) qz15)
  rw [← ha16] at h0 ⊢
  clear ha16
  refine wpAnyH_take (i := 17) (oi := lf_17 s) (v := .pointer (some ⟨z, 0, none⟩)) (by kernel_rfl) (by kernel_rfl) (by kernel_rfl) (by kernel_rfl) (fun c a w h => hQ c _ _ _ w h) (Or.inl ⟨wanted_some rfl (by kernel_rfl) f16_86 (Nat.lt_of_le_of_lt (by decide) qz16), fun w hw => run_nil rfl f16_99 w⟩) (hk1 w2 hM1) ?_
  change wpAnyH _ _ _ _ _ _ _ (a0_16.put (some 100) (.pointer (some ⟨z, 0, none⟩))) _
  obtain ⟨a0_17, ha17⟩ : ∃ rr : Act, rr = a0_16.put (some 100) (.pointer (some ⟨z, 0, none⟩)) := ⟨_, rfl⟩
  have qz17 : 105 < a0_17.tmps.size := by rw [ha17, sz_put]; exact qz16
  have f17_86 : a0_17.eval (.tmp 86) = .bool false := by rw [ha17, ev_other _ _ _ _ (by decide)]; exact f16_86
  have f17_92 : a0_17.eval (.tmp 92) = .pointer q := by rw [ha17, ev_other _ _ _ _ (by decide)]; exact f16_92
  have f17_100 : a0_17.eval (.tmp 100) = .pointer (some ⟨z, 0, none⟩) := by rw [ha17]; exact ev_same _ _ _ (Nat.lt_of_le_of_lt (by decide) qz16)
  rw [← ha17] at h0 ⊢
  clear ha17
  refine wpAnyH_take (i := 18) (oi := lf_18 s) (v := .pointer (some ⟨z, 0, none⟩)) (by kernel_rfl) (by kernel_rfl) (by kernel_rfl) (by kernel_rfl) (fun c a w h => hQ c _ _ _ w h) (Or.inl ⟨wanted_some rfl (by kernel_rfl) f17_86 (Nat.lt_of_le_of_lt (by decide) qz17), fun w hw => fldQ rfl f17_100 w⟩) (hk1 w2 hM1) ?_
  change wpAnyH _ _ _ _ _ _ _ (a0_17.put (some 101) (.pointer (some ⟨z, 0, none⟩))) _
  obtain ⟨a0_18, ha18⟩ : ∃ rr : Act, rr = a0_17.put (some 101) (.pointer (some ⟨z, 0, none⟩)) := ⟨_, rfl⟩
  have qz18 : 105 < a0_18.tmps.size := by rw [ha18, sz_put]; exact qz17
  have f18_86 : a0_18.eval (.tmp 86) = .bool false := by rw [ha18, ev_other _ _ _ _ (by decide)]; exact f17_86
  have f18_92 : a0_18.eval (.tmp 92) = .pointer q := by rw [ha18, ev_other _ _ _ _ (by decide)]; exact f17_92
  have f18_101 : a0_18.eval (.tmp 101) = .pointer (some ⟨z, 0, none⟩) := by rw [ha18]; exact ev_same _ _ _ (Nat.lt_of_le_of_lt (by decide) qz17)
  rw [← ha18] at h0 ⊢
  clear ha18
  refine wpAnyH_take (i := 19) (oi := lf_19 s) (v := .slice ao n c) (by kernel_rfl) (by kernel_rfl) (by kernel_rfl) (by kernel_rfl) (fun c a w h => hQ c _ _ _ w h) (Or.inl ⟨wanted_some rfl (by kernel_rfl) f18_86 (Nat.lt_of_le_of_lt (by decide) qz18), fun w hw => run_load rfl f18_101 (load_kl hw.2.2.1)⟩) (hk1 w2 hM1) ?_
  change wpAnyH _ _ _ _ _ _ _ (a0_18.put (some 102) (.slice ao n c)) _
  obtain ⟨a0_19, ha19⟩ : ∃ rr : Act, rr = a0_18.put (some 102) (.slice ao n c) := ⟨_, rfl⟩
  have qz19 : 105 < a0_19.tmps.size := by rw [ha19, sz_put]; exact qz18
  have f19_86 : a0_19.eval (.tmp 86) = .bool false := by rw [ha19, ev_other _ _ _ _ (by decide)]; exact f18_86
  have f19_92 : a0_19.eval (.tmp 92) = .pointer q := by rw [ha19, ev_other _ _ _ _ (by decide)]; exact f18_92
  have f19_102 : a0_19.eval (.tmp 102) = .slice ao n c := by rw [ha19]; exact ev_same _ _ _ (Nat.lt_of_le_of_lt (by decide) qz18)
  rw [← ha19] at h0 ⊢
  clear ha19
  refine wpAnyH_take (i := 20) (oi := lf_20 s) (v := .int .i64 (n : Int)) (by kernel_rfl) (by kernel_rfl) (by kernel_rfl) (by kernel_rfl) (fun c a w h => hQ c _ _ _ w h) (Or.inl ⟨wanted_some rfl (by kernel_rfl) f19_86 (Nat.lt_of_le_of_lt (by decide) qz19), fun w hw => run_lenQ rfl f19_102 w⟩) (hk1 w2 hM1) ?_
  change wpAnyH _ _ _ _ _ _ _ (a0_19.put (some 103) (.int .i64 (n : Int))) _
  obtain ⟨a0_20, ha20⟩ : ∃ rr : Act, rr = a0_19.put (some 103) (.int .i64 (n : Int)) := ⟨_, rfl⟩
  have qz20 : 105 < a0_20.tmps.size := by rw [ha20, sz_put]; exact qz19
  have f20_86 : a0_20.eval (.tmp 86) = .bool false := by rw [ha20, ev_other _ _ _ _ (by decide)]; exact f19_86
  have f20_92 : a0_20.eval (.tmp 92) = .pointer q := by rw [ha20, ev_other _ _ _ _ (by decide)]; exact f19_92
  have f20_103 : a0_20.eval (.tmp 103) = .int .i64 (n : Int) := by rw [ha20]; exact ev_same _ _ _ (Nat.lt_of_le_of_lt (by decide) qz19)
  rw [← ha20] at h0 ⊢
  clear ha20
  refine wpAnyH_ready (rs := [10]) (by kernel_rfl) (by simp) ?_
  refine AllReadyH.cons (o := lf_10 s) (by kernel_rfl) (fun KQ hKQ => ?_) AllReadyH.nil
  rw [if_pos (wanted_some rfl (by kernel_rfl) f20_86 (Nat.lt_of_le_of_lt (by decide) qz20))]
  refine step_enterE 12 #[.pointer q] (by rw [lf_enter10, f20_92]) (fun V w' => V = .int .i64 (n : Int) ∧ w' = w2) ((hc2 w2 hM1).mono (fun e w' ⟨h1, h2⟩ => ⟨_, h1, rfl, h2⟩)) ?_
  rintro _ _ ⟨rfl, rfl⟩
  refine hKQ.out _ _ (hk1 _ hM1) (fun _ => ?_)
  clear hKQ KQ
  change wpAnyH _ _ _ _ _ _ _ (a0_20.put (some 93) (.int .i64 (n : Int))) _
  obtain ⟨a0_21, ha21⟩ : ∃ rr : Act, rr = a0_20.put (some 93) (.int .i64 (n : Int)) := ⟨_, rfl⟩
  have qz21 : 105 < a0_21.tmps.size := by rw [ha21, sz_put]; exact qz20
  have f21_86 : a0_21.eval (.tmp 86) = .bool false := by rw [ha21, ev_other _ _ _ _ (by decide)]; exact f20_86
  have f21_93 : a0_21.eval (.tmp 93) = .int .i64 (n : Int) := by rw [ha21]; exact ev_same _ _ _ (Nat.lt_of_le_of_lt (by decide) qz20)
  have f21_103 : a0_21.eval (.tmp 103) = .int .i64 (n : Int) := by rw [ha21, ev_other _ _ _ _ (by decide)]; exact f20_103
  rw [← ha21] at h0 ⊢
  clear ha21
  refine wpAnyH_take (i := 21) (oi := lf_21 s) (v := .bool false) (by kernel_rfl) (by kernel_rfl) (by kernel_rfl) (by kernel_rfl) (fun c a w h => hQ c _ _ _ w h) (Or.inl ⟨wanted_some rfl (by kernel_rfl) f21_86 (Nat.lt_of_le_of_lt (by decide) qz21), fun w hw => run_neqIn rfl f21_93 f21_103 w⟩) (hk1 _ hM1) ?_
  change wpAnyH _ _ _ _ _ _ _ (a0_21.put (some 104) (.bool false)) _
  obtain ⟨a0_22, ha22⟩ : ∃ rr : Act, rr = a0_21.put (some 104) (.bool false) := ⟨_, rfl⟩
  have qz22 : 105 < a0_22.tmps.size := by rw [ha22, sz_put]; exact qz21
  have f22_86 : a0_22.eval (.tmp 86) = .bool false := by rw [ha22, ev_other _ _ _ _ (by decide)]; exact f21_86
  have f22_104 : a0_22.eval (.tmp 104) = .bool false := by rw [ha22]; exact ev_same _ _ _ (Nat.lt_of_le_of_lt (by decide) qz21)
  rw [← ha22] at h0 ⊢
  clear ha22
  refine wpAnyH_take (i := 22) (oi := lf_22 s) (v := .bool false) (by kernel_rfl) (by kernel_rfl) (by kernel_rfl) (by kernel_rfl) (fun c a w h => hQ c _ _ _ w h) (Or.inl ⟨wanted_none rfl, fun w hw => by simp only [execOp, lf_22, f22_86, f22_104]; rfl⟩) (hk1 _ hM1) ?_
  change wpAnyH _ _ _ _ _ _ _ (a0_22.put (some 105) (.bool false)) _
  obtain ⟨a0_23, ha23⟩ : ∃ rr : Act, rr = a0_22.put (some 105) (.bool false) := ⟨_, rfl⟩
  have qz23 : 105 < a0_23.tmps.size := by rw [ha23, sz_put]; exact qz22
  rw [← ha23] at h0 ⊢
  clear ha23
  refine wpAnyH_done (by kernel_rfl) ?_ _
  exact h0
end Go.Proofs.Ytnloglecfbhpcaa
