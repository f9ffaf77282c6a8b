/- WireAdds: the statements that draw their order. -/
import Derived.Test.YtinjcefekbpabaaY0
namespace Go.Proofs.Ytinjcefekbpabaa
set_option linter.unusedVariables false
set_option linter.unusedSimpArgs false
open Go.RowKit

theorem step_runE {op : Oper} {a : Act} {w : World} {K : Act → World → Prop} {Q : Exit → Act → World → Prop} (v : Value) (w' : World) (hr : (execOp a.eval op).run Try.prog w = .ok (.value v) w') (h : K (a.put op.dst v) w') : op.wp Try.prog a w K Q := by
  unfold Oper.wp
  rw [hr]
  exact h
theorem step_skipE {op : Oper} {a : Act} {w : World} {K : Act → World → Prop} {Q : Exit → Act → World → Prop} (w' : World) (hr : (execOp a.eval op).run Try.prog w = .ok .skip w') (h : K (a.put op.dst undef) w') : op.wp Try.prog a w K Q := by
  unfold Oper.wp
  rw [hr]
  exact h
theorem field3 {op : Oper} {ev : Operand → Value} {x : Operand} {b : Nat} (ho : op.op = .fieldAddr 37 x 3) (hx : ev x = .pointer (some ⟨b, 0, none⟩)) (w : World) : (execOp ev op).run Try.prog w = .ok (.value (.pointer (some ⟨b, 3, none⟩))) w := by
  simp only [execOp, ho, hx]
  kernel_rfl
theorem field3o {op : Oper} {ev : Operand → Value} {x : Operand} {b o : Nat} (ho : op.op = .fieldAddr 37 x 3) (hx : ev x = .pointer (some ⟨b, o, none⟩)) (w : World) : (execOp ev op).run Try.prog w = .ok (.value (.pointer (some ⟨b, o + 3, none⟩))) w := by
  simp only [execOp, ho, hx]
  kernel_rfl
theorem load_sl {w : World} {b o : Nat} {v : Value} (h : w.cell? ⟨b, o, none⟩ = some v) : (Instr.loadAt 28 (.pointer (some ⟨b, o, none⟩))).run Try.prog w = .ok v w := by
  simp [Instr.loadAt, Instr.sureAddr, loadVar, isAgg, underlying, Try.underlying28, h, Result.andThen]
theorem load_st {w : World} {b o : Nat} {v : Value} (h : w.cell? ⟨b, o, none⟩ = some v) : (Instr.loadAt 9 (.pointer (some ⟨b, o, none⟩))).run Try.prog w = .ok v w := by
  simp [Instr.loadAt, Instr.sureAddr, loadVar, isAgg, underlying, Try.underlying9, h, Result.andThen]
theorem load_u8 {w : World} {b o : Nat} {v : Value} (h : w.cell? ⟨b, o, none⟩ = some v) : (Instr.loadAt 5 (.pointer (some ⟨b, o, none⟩))).run Try.prog w = .ok v w := by
  simp [Instr.loadAt, Instr.sureAddr, loadVar, isAgg, underlying, Try.underlying5, h, Result.andThen]
theorem indexA36 {op : Oper} {ev : Operand → Value} {x y : Operand} (ho : op.op = .indexAddr 22 x y) {ab ao n ca j : Nat} (h : j < n) (e1 : ev x = .slice (some ⟨ab, ao, none⟩) n ca) (e2 : ev y = .int .i64 j) (w : World) : (execOp ev op).run Try.prog w = .ok (.value (.pointer (some ⟨ab, ao + j * 36, none⟩))) w := by
  have hs : (sizeOf 37).run Try.prog w = .ok 36 w := by kernel_rfl
  have hu := Try.underlying22
  simp only [execOp, ho, e1, e2]
  simp [go_sem, hu, hs, h]
theorem index_u8 {op : Oper} {ev : Operand → Value} {x y : Operand} (ho : op.op = .indexAddr 28 x y) {g n ca j : Nat} (h : j < n) (e1 : ev x = .slice (some ⟨g, 0, none⟩) n ca) (e2 : ev y = .int .i64 j) (w : World) : (execOp ev op).run Try.prog w = .ok (.value (.pointer (some ⟨g, j, none⟩))) w := by
  have hs : (sizeOf 5).run Try.prog w = .ok 1 w := by kernel_rfl
  have hu := Try.underlying28
  simp only [execOp, ho, e1, e2]
  simp [go_sem, hu, hs, h]
theorem index_sl {op : Oper} {ev : Operand → Value} {x y : Operand} (ho : op.op = .indexAddr 29 x y) {g n ca j : Nat} (h : j < n) (e1 : ev x = .slice (some ⟨g, 0, none⟩) n ca) (e2 : ev y = .int .i64 j) (w : World) : (execOp ev op).run Try.prog w = .ok (.value (.pointer (some ⟨g, j, none⟩))) w := by
  have hs : (sizeOf 28).run Try.prog w = .ok 1 w := by kernel_rfl
  have hu := Try.underlying29
  simp only [execOp, ho, e1, e2]
  simp [go_sem, hu, hs, h]
theorem index_st {op : Oper} {ev : Operand → Value} {x y : Operand} (ho : op.op = .indexAddr 30 x y) {g n ca j : Nat} (h : j < n) (e1 : ev x = .slice (some ⟨g, 0, none⟩) n ca) (e2 : ev y = .int .i64 j) (w : World) : (execOp ev op).run Try.prog w = .ok (.value (.pointer (some ⟨g, j, none⟩))) w := by
  have hs : (sizeOf 9).run Try.prog w = .ok 1 w := by kernel_rfl
  have hu := Try.underlying30
  simp only [execOp, ho, e1, e2]
  simp [go_sem, hu, hs, h]
theorem run_neqSame {op : Oper} {ev : Operand → Value} {x y : Operand} {u : TypeId} {s : ByteArray} (ho : op.op = .binOp .neq 9 x y u) (hx : ev x = .string s) (hy : ev y = .string s) (w : World) : (execOp ev op).run Try.prog w = .ok (.value (.bool false)) w := by
  simp only [execOp, ho, hx, hy]
  simp [go_sem]
theorem run_neqInt {op : Oper} {ev : Operand → Value} {x y : Operand} {u : TypeId} {n : Int} (ho : op.op = .binOp .neq 3 x y u) (hx : ev x = .int .i64 n) (hy : ev y = .int .i64 n) (w : World) : (execOp ev op).run Try.prog w = .ok (.value (.bool false)) w := by
  simp only [execOp, ho, hx, hy]
  simp [go_sem]
theorem run_inc {op : Oper} {ev : Operand → Value} {x : Operand} {u : TypeId} {q : Int} (ho : op.op = .binOp .add 5 x (.const (.int .u8 1)) u) (hx : ev x = .int .u8 q) (w : World) (hc : ev (.const (.int .u8 1)) = .int .u8 1 := by rfl) : (execOp ev op).run Try.prog w = .ok (.value (.int .u8 (IntKind.u8.wrap (q + 1)))) w := by
  simp only [execOp, ho, hx, hc]
  simp [go_sem]
theorem run_len {op : Oper} {ev : Operand → Value} {x : Operand} {v : Value} {xs : List UInt8} {W : World} (ho : op.op = .call { callee := .builtin .len, args := #[x], argTypes := #[28] }) (hx : ev x = v) (h : RdA W v xs) (w : World) : (execOp ev op).run Try.prog w = .ok (.value (.int .i64 (xs.length : Int))) w := by
  obtain ⟨ao, c, rfl, _⟩ := h.slice
  have hu := Try.underlying28
  simp [execOp, ho, resolve, invoke, builtin, hx, go_sem, hu, Result.andThen]
theorem run_store8 {op : Oper} {ev : Operand → Value} {x y : Operand} {g j : Nat} {q r : Int} {w : World} (ho : op.op = .store 5 x y) (hx : ev x = .pointer (some ⟨g, j, none⟩)) (hy : ev y = .int .u8 r) (hc : w.cell? ⟨g, j, none⟩ = some (.int .u8 q)) (hf : w.frozen? ⟨g, j, none⟩ = false) : (execOp ev op).run Try.prog w = .ok .skip (w.setCell ⟨g, j, none⟩ (.int .u8 r)) := by
  simp only [execOp, ho, hx, hy]
  simp [go_sem, hc, hf]
def y13_0 (s : String) : Oper := { dst := some 40, op := Op.fieldAddr 37 (Operand.tmp 10) 3, type := 0, pos := s, after := #[], guard := none }
def y13_1 (s : String) : Oper := { dst := some 41, op := Op.load 28 (Operand.tmp 40), type := 28, pos := s, after := #[{ on := 0, ground := Ground.data }], guard := none }
def y13_2 (s : String) : Oper := { dst := some 42, op := Op.convert 28 9 (Operand.tmp 41), type := 9, pos := s, after := #[{ on := 1, ground := Ground.data }], guard := none }
def y13_3 (s : String) : Oper := { dst := some 43, op := Op.move (Operand.tmp 0), type := 22, pos := s, after := #[], guard := none }
def y13_4 (s : String) : Oper := { dst := some 44, op := Op.move (Operand.tmp 9), type := 3, pos := s, after := #[], guard := none }
def y13_5 (s : String) : Oper := { dst := some 45, op := Op.indexAddr 22 (Operand.tmp 43) (Operand.tmp 44), type := 0, pos := s, after := #[{ on := 3, ground := Ground.data }, { on := 4, ground := Ground.data }], guard := none }
def y13_6 (s : String) : Oper := { dst := some 46, op := Op.fieldAddr 37 (Operand.tmp 45) 3, type := 0, pos := s, after := #[{ on := 5, ground := Ground.data }], guard := none }
def y13_7 (s : String) : Oper := { dst := some 47, op := Op.load 28 (Operand.tmp 46), type := 28, pos := s, after := #[{ on := 6, ground := Ground.data }], guard := none }
def y13_8 (s : String) : Oper := { dst := some 48, op := Op.convert 28 9 (Operand.tmp 47), type := 9, pos := s, after := #[{ on := 7, ground := Ground.data }], guard := none }
def y13_9 (s : String) : Oper := { dst := some 49, op := Op.binOp BinOp.neq 9 (Operand.tmp 42) (Operand.tmp 48) 9, type := 4, pos := s, after := #[{ on := 2, ground := Ground.data }, { on := 8, ground := Ground.data }], guard := none }
def y13_ops (s : String) : Array Oper := #[y13_0 s, y13_1 s, y13_2 s, y13_3 s, y13_4 s, y13_5 s, y13_6 s, y13_7 s, y13_8 s, y13_9 s]
theorem y13_walk (s : String) {Q : Exit → Act → World → Prop} (hQ : ∀ c (a : Act) t v w, Q (.panic c) (a.put (some t) v) w → Q (.panic c) a w) (W : World) (sa ab ao n ca k : Nat) (v u : Value) (bs : List UInt8) (hk : k < n) (c1 : W.cell? ⟨sa, 3, none⟩ = some v) (c2 : W.cell? ⟨ab, ao + k * 36 + 3, none⟩ = some u) (h1 : RdA W v bs) (h2 : RdA W u bs)
    (a : Act) (hs : 49 < a.tmps.size) (e0 : a.eval (.tmp 0) = .slice (some ⟨ab, ao, none⟩) n ca) (e9 : a.eval (.tmp 9) = .int .i64 k) (e10 : a.eval (.tmp 10) = .pointer (some ⟨sa, 0, none⟩))
    (h0 :  Q .normal ((((((((((a.put (some 40) (.pointer (some ⟨sa, 3, none⟩))).put (some 41) (v)).put (some 42) (.string ⟨bs.toArray⟩)).put (some 43) (.slice (some ⟨ab, ao, none⟩) n ca)).put (some 44) (.int .i64 k)).put (some 45) (.pointer (some ⟨ab, ao + k * 36, none⟩))).put (some 46) (.pointer (some ⟨ab, ao + k * 36 + 3, none⟩))).put (some 47) (u)).put (some 48) (.string ⟨bs.toArray⟩)).put (some 49) (.bool false)) W.drew) :
    Code.wp Try.prog (.region 13 (y13_ops s) true) Q a W := by
  refine wp_region_held_drew (S := fun W' => (W'.cell? ⟨sa, 3, none⟩ = some v ∧ W'.cell? ⟨ab, ao + k * 36 + 3, none⟩ = some u) ∧ (convert 28 9 v).run Try.prog W' = .ok (.string ⟨bs.toArray⟩) W' ∧ (convert 28 9 u).run Try.prog W' = .ok (.string ⟨bs.toArray⟩) W') (by kernel_rfl) ⟨⟨c1, c2⟩, conv_rdA _ _ _ h1, conv_rdA _ _ _ h2⟩ (fun hS => ?_)
  change wpAnyH _ _ _ _ _ _ _ _ (World.drew _)
  refine wpAnyH_take (i := 0) (oi := y13_0 s) (v := .pointer (some ⟨sa, 3, none⟩)) (by kernel_rfl) (by kernel_rfl) (by kernel_rfl) (by kernel_rfl) (fun c a w h => hQ c _ _ _ w h) (Or.inl ⟨wanted_none rfl, fun w hw => field3 rfl e10 w⟩) hS ?_
  change wpAnyH _ _ _ _ _ _ _ (a.put (some 40) (.pointer (some ⟨sa, 3, none⟩))) _
  obtain ⟨a0_1, ha1⟩ : ∃ rr : Act, rr = a.put (some 40) (.pointer (some ⟨sa, 3, none⟩)) := ⟨_, rfl⟩
  have qz1 : 49 < a0_1.tmps.size := by rw [ha1, sz_put]; exact hs
  have f1_0 : a0_1.eval (.tmp 0) = .slice (some ⟨ab, ao, none⟩) n ca := by rw [ha1, ev_other _ _ _ _ (by decide)]; exact e0
  have f1_9 : a0_1.eval (.tmp 9) = .int .i64 k := by rw [ha1, ev_other _ _ _ _ (by decide)]; exact e9
  have f1_40 : a0_1.eval (.tmp 40) = .pointer (some ⟨sa, 3, none⟩) := by rw [ha1]; exact ev_same _ _ _ (Nat.lt_of_le_of_lt (by decide) hs)
  rw [← ha1] at h0 ⊢
  clear ha1
  refine wpAnyH_take (i := 1) (oi := y13_1 s) (v := v) (by kernel_rfl) (by kernel_rfl) (by kernel_rfl) (by kernel_rfl) (fun c a w h => hQ c _ _ _ w h) (Or.inl ⟨wanted_none rfl, fun w hw => run_load rfl f1_40 (load_sl hw.1.1)⟩) hS ?_
  change wpAnyH _ _ _ _ _ _ _ (a0_1.put (some 41) (v)) _
  obtain ⟨a0_2, ha2⟩ : ∃ rr : Act, rr = a0_1.put (some 41) (v) := ⟨_, rfl⟩
  have qz2 : 49 < a0_2.tmps.size := by rw [ha2, sz_put]; exact qz1
  have f2_0 : a0_2.eval (.tmp 0) = .slice (some ⟨ab, ao, none⟩) n ca := by rw [ha2, ev_other _ _ _ _ (by decide)]; exact f1_0
  have f2_9 : a0_2.eval (.tmp 9) = .int .i64 k := by rw [ha2, ev_other _ _ _ _ (by decide)]; exact f1_9
  have f2_41 : a0_2.eval (.tmp 41) = v := by rw [ha2]; exact ev_same _ _ _ (Nat.lt_of_le_of_lt (by decide) qz1)
  rw [← ha2] at h0 ⊢
  clear ha2
  refine wpAnyH_take (i := 2) (oi := y13_2 s) (v := .string ⟨bs.toArray⟩) (by kernel_rfl) (by kernel_rfl) (by kernel_rfl) (by kernel_rfl) (fun c a w h => hQ c _ _ _ w h) (Or.inl ⟨wanted_none rfl, fun w hw => run_conv rfl f2_41 hw.2.1⟩) hS ?_
  change wpAnyH _ _ _ _ _ _ _ (a0_2.put (some 42) (.string ⟨bs.toArray⟩)) _
  obtain ⟨a0_3, ha3⟩ : ∃ rr : Act, rr = a0_2.put (some 42) (.string ⟨bs.toArray⟩) := ⟨_, rfl⟩
  have qz3 : 49 < a0_3.tmps.size := by rw [ha3, sz_put]; exact qz2
  have f3_0 : a0_3.eval (.tmp 0) = .slice (some ⟨ab, ao, none⟩) n ca := by rw [ha3, ev_other _ _ _ _ (by decide)]; exact f2_0
  have f3_9 : a0_3.eval (.tmp 9) = .int .i64 k := by rw [ha3, ev_other _ _ _ _ (by decide)]; exact f2_9
  have f3_42 : a0_3.eval (.tmp 42) = .string ⟨bs.toArray⟩ := by rw [ha3]; exact ev_same _ _ _ (Nat.lt_of_le_of_lt (by decide) qz2)
  rw [← ha3] at h0 ⊢
  clear ha3
  refine wpAnyH_take (i := 3) (oi := y13_3 s) (v := .slice (some ⟨ab, ao, none⟩) n ca) (by kernel_rfl) (by kernel_rfl) (by kernel_rfl) (by kernel_rfl) (fun c a w h => hQ c _ _ _ w h) (Or.inl ⟨wanted_none rfl, fun w hw => by simp only [execOp, y13_3, f3_0]; rfl⟩) hS ?_
  change wpAnyH _ _ _ _ _ _ _ (a0_3.put (some 43) (.slice (some ⟨ab, ao, none⟩) n ca)) _
  obtain ⟨a0_4, ha4⟩ : ∃ rr : Act, rr = a0_3.put (some 43) (.slice (some ⟨ab, ao, none⟩) n ca) := ⟨_, rfl⟩
  have qz4 : 49 < a0_4.tmps.size := by rw [ha4, sz_put]; exact qz3
  have f4_9 : a0_4.eval (.tmp 9) = .int .i64 k := by rw [ha4, ev_other _ _ _ _ (by decide)]; exact f3_9
  have f4_42 : a0_4.eval (.tmp 42) = .string ⟨bs.toArray⟩ := by rw [ha4, ev_other _ _ _ _ (by decide)]; exact f3_42
  have f4_43 : a0_4.eval (.tmp 43) = .slice (some ⟨ab, ao, none⟩) n ca := by rw [ha4]; exact ev_same _ _ _ (Nat.lt_of_le_of_lt (by decide) qz3)
  rw [← ha4] at h0 ⊢
  clear ha4
  refine wpAnyH_take (i := 4) (oi := y13_4 s) (v := .int .i64 k) (by kernel_rfl) (by kernel_rfl) (by kernel_rfl) (by kernel_rfl) (fun c a w h => hQ c _ _ _ w h) (Or.inl ⟨wanted_none rfl, fun w hw => by simp only [execOp, y13_4, f4_9]; rfl⟩) hS ?_
  change wpAnyH _ _ _ _ _ _ _ (a0_4.put (some 44) (.int .i64 k)) _
  obtain ⟨a0_5, ha5⟩ : ∃ rr : Act, rr = a0_4.put (some 44) (.int .i64 k) := ⟨_, rfl⟩
  have qz5 : 49 < a0_5.tmps.size := by rw [ha5, sz_put]; exact qz4
  have f5_42 : a0_5.eval (.tmp 42) = .string ⟨bs.toArray⟩ := by rw [ha5, ev_other _ _ _ _ (by decide)]; exact f4_42
  have f5_43 : a0_5.eval (.tmp 43) = .slice (some ⟨ab, ao, none⟩) n ca := by rw [ha5, ev_other _ _ _ _ (by decide)]; exact f4_43
  have f5_44 : a0_5.eval (.tmp 44) = .int .i64 k := by rw [ha5]; exact ev_same _ _ _ (Nat.lt_of_le_of_lt (by decide) qz4)
  rw [← ha5] at h0 ⊢
  clear ha5
  refine wpAnyH_take (i := 5) (oi := y13_5 s) (v := .pointer (some ⟨ab, ao + k * 36, none⟩)) (by kernel_rfl) (by kernel_rfl) (by kernel_rfl) (by kernel_rfl) (fun c a w h => hQ c _ _ _ w h) (Or.inl ⟨wanted_none rfl, fun w hw => indexA36 rfl hk f5_43 f5_44 w⟩) hS ?_
  change wpAnyH _ _ _ _ _ _ _ (a0_5.put (some 45) (.pointer (some ⟨ab, ao + k * 36, none⟩))) _
  obtain ⟨a0_6, ha6⟩ : ∃ rr : Act, rr = a0_5.put (some 45) (.pointer (some ⟨ab, ao + k * 36, none⟩)) := ⟨_, rfl⟩
  have qz6 : 49 < a0_6.tmps.size := by rw [ha6, sz_put]; exact qz5
  have f6_42 : a0_6.eval (.tmp 42) = .string ⟨bs.toArray⟩ := by rw [ha6, ev_other _ _ _ _ (by decide)]; exact f5_42
  have f6_45 : a0_6.eval (.tmp 45) = .pointer (some ⟨ab, ao + k * 36, none⟩) := by rw [ha6]; exact ev_same _ _ _ (Nat.lt_of_le_of_lt (by decide) qz5)
  rw [← ha6] at h0 ⊢
  clear ha6
  refine wpAnyH_take (i := 6) (oi := y13_6 s) (v := .pointer (some ⟨ab, ao + k * 36 + 3, none⟩)) (by kernel_rfl) (by kernel_rfl) (by kernel_rfl) (by kernel_rfl) (fun c a w h => hQ c _ _ _ w h) (Or.inl ⟨wanted_none rfl, fun w hw => field3o rfl f6_45 w⟩) hS ?_
  change wpAnyH _ _ _ _ _ _ _ (a0_6.put (some 46) (.pointer (some ⟨ab, ao + k * 36 + 3, none⟩))) _
  obtain ⟨a0_7, ha7⟩ : ∃ rr : Act, rr = a0_6.put (some 46) (.pointer (some ⟨ab, ao + k * 36 + 3, none⟩)) := ⟨_, rfl⟩
  have qz7 : 49 < a0_7.tmps.size := by rw [ha7, sz_put]; exact qz6
  have f7_42 : a0_7.eval (.tmp 42) = .string ⟨bs.toArray⟩ := by rw [ha7, ev_other _ _ _ _ (by decide)]; exact f6_42
  have f7_46 : a0_7.eval (.tmp 46) = .pointer (some ⟨ab, ao + k * 36 + 3, none⟩) := by rw [ha7]; exact ev_same _ _ _ (Nat.lt_of_le_of_lt (by decide) qz6)
  rw [← ha7] at h0 ⊢
  clear ha7
  refine wpAnyH_take (i := 7) (oi := y13_7 s) (v := u) (by kernel_rfl) (by kernel_rfl) (by kernel_rfl) (by kernel_rfl) (fun c a w h => hQ c _ _ _ w h) (Or.inl ⟨wanted_none rfl, fun w hw => run_load rfl f7_46 (load_sl hw.1.2)⟩) hS ?_
  change wpAnyH _ _ _ _ _ _ _ (a0_7.put (some 47) (u)) _
  obtain ⟨a0_8, ha8⟩ : ∃ rr : Act, rr = a0_7.put (some 47) (u) := ⟨_, rfl⟩
  have qz8 : 49 < a0_8.tmps.size := by rw [ha8, sz_put]; exact qz7
  have f8_42 : a0_8.eval (.tmp 42) = .string ⟨bs.toArray⟩ := by rw [ha8, ev_other _ _ _ _ (by decide)]; exact f7_42
  have f8_47 : a0_8.eval (.tmp 47) = u := by rw [ha8]; exact ev_same _ _ _ (Nat.lt_of_le_of_lt (by decide) qz7)
  rw [← ha8] at h0 ⊢
  clear ha8
  refine wpAnyH_take (i := 8) (oi := y13_8 s) (v := .string ⟨bs.toArray⟩) (by kernel_rfl) (by kernel_rfl) (by kernel_rfl) (by kernel_rfl) (fun c a w h => hQ c _ _ _ w h) (Or.inl ⟨wanted_none rfl, fun w hw => run_conv rfl f8_47 hw.2.2⟩) hS ?_
  change wpAnyH _ _ _ _ _ _ _ (a0_8.put (some 48) (.string ⟨bs.toArray⟩)) _
  obtain ⟨a0_9, ha9⟩ : ∃ rr : Act, rr = a0_8.put (some 48) (.string ⟨bs.toArray⟩) := ⟨_, rfl⟩
  have qz9 : 49 < a0_9.tmps.size := by rw [ha9, sz_put]; exact qz8
  have f9_42 : a0_9.eval (.tmp 42) = .string ⟨bs.toArray⟩ := by rw [ha9, ev_other _ _ _ _ (by decide)]; exact f8_42
  have f9_48 : a0_9.eval (.tmp 48) = .string ⟨bs.toArray⟩ := by rw [ha9]; exact ev_same _ _ _ (Nat.lt_of_le_of_lt (by decide) qz8)
  rw [← ha9] at h0 ⊢
  clear ha9
  refine wpAnyH_take (i := 9) (oi := y13_9 s) (v := .bool false) (by kernel_rfl) (by kernel_rfl) (by kernel_rfl) (by kernel_rfl) (fun c a w h => hQ c _ _ _ w h) (Or.inl ⟨wanted_none rfl, fun w hw => run_neqSame rfl f9_42 f9_48 w⟩) hS ?_
  change wpAnyH _ _ _ _ _ _ _ (a0_9.put (some 49) (.bool false)) _
  obtain ⟨a0_10, ha10⟩ : ∃ rr : Act, rr = a0_9.put (some 49) (.bool false) := ⟨_, rfl⟩
  have qz10 : 49 < a0_10.tmps.size := by rw [ha10, sz_put]; exact qz9
  rw [← ha10] at h0 ⊢
  clear ha10
  refine wpAnyH_done (by kernel_rfl) ?_ _
  exact h0
def y18_0 (s : String) : Oper := { dst := some 57, op := Op.fieldAddr 37 (Operand.tmp 10) 3, type := 0, pos := s, after := #[], guard := none }
def y18_1 (s : String) : Oper := { dst := some 58, op := Op.load 28 (Operand.tmp 57), type := 28, pos := s, after := #[{ on := 0, ground := Ground.data }], guard := none }
def y18_2 (s : String) : Oper := { dst := some 59, op := Op.move (Operand.tmp 11), type := 3, pos := s, after := #[], guard := none }
def y18_3 (s : String) : Oper := { dst := some 60, op := Op.fieldAddr 37 (Operand.tmp 10) 3, type := 0, pos := s, after := #[], guard := none }
def y18_4 (s : String) : Oper := { dst := some 61, op := Op.load 28 (Operand.tmp 60), type := 28, pos := s, after := #[{ on := 3, ground := Ground.data }], guard := none }
def y18_5 (s : String) : Oper := { dst := some 62, op := Op.move (Operand.tmp 11), type := 3, pos := s, after := #[], guard := none }
def y18_6 (s : String) : Oper := { dst := some 63, op := Op.indexAddr 28 (Operand.tmp 61) (Operand.tmp 62), type := 0, pos := s, after := #[{ on := 4, ground := Ground.data }, { on := 5, ground := Ground.data }], guard := none }
def y18_7 (s : String) : Oper := { dst := some 64, op := Op.load 5 (Operand.tmp 63), type := 5, pos := s, after := #[{ on := 6, ground := Ground.data }], guard := none }
def y18_8 (s : String) : Oper := { dst := some 65, op := Op.binOp BinOp.add 5 (Operand.tmp 64) (Operand.const (Value.int IntKind.u8 1)) 5, type := 5, pos := s, after := #[{ on := 7, ground := Ground.data }], guard := none }
def y18_9 (s : String) : Oper := { dst := some 66, op := Op.indexAddr 28 (Operand.tmp 58) (Operand.tmp 59), type := 0, pos := s, after := #[{ on := 1, ground := Ground.data }, { on := 2, ground := Ground.data }, { on := 0, ground := Ground.phase }, { on := 1, ground := Ground.phase }, { on := 2, ground := Ground.phase }, { on := 3, ground := Ground.phase }, { on := 4, ground := Ground.phase }, { on := 5, ground := Ground.phase }, { on := 6, ground := Ground.phase }, { on := 7, ground := Ground.phase }, { on := 8, ground := Ground.phase }], guard := none }
def y18_10 (s : String) : Oper := { dst := none, op := Op.store 5 (Operand.tmp 66) (Operand.tmp 65), type := 0, pos := s, after := #[{ on := 9, ground := Ground.data }, { on := 8, ground := Ground.data }, { on := 0, ground := Ground.phase }, { on := 1, ground := Ground.phase }, { on := 2, ground := Ground.phase }, { on := 3, ground := Ground.phase }, { on := 4, ground := Ground.phase }, { on := 5, ground := Ground.phase }, { on := 6, ground := Ground.phase }, { on := 7, ground := Ground.phase }, { on := 8, ground := Ground.phase }], guard := none }
def y18_ops (s : String) : Array Oper := #[y18_0 s, y18_1 s, y18_2 s, y18_3 s, y18_4 s, y18_5 s, y18_6 s, y18_7 s, y18_8 s, y18_9 s, y18_10 s]
theorem y18_walk (s : String) {Q : Exit → Act → World → Prop} (hQ : ∀ c (a : Act) t v w, Q (.panic c) (a.put (some t) v) w → Q (.panic c) a w) (W : World) (sa g m cap j : Nat) (q : Int) (hj : j < m) (c1 : W.cell? ⟨sa, 3, none⟩ = some (.slice (some ⟨g, 0, none⟩) m cap)) (c2 : W.cell? ⟨g, j, none⟩ = some (.int .u8 q)) (hf : W.frozen? ⟨g, j, none⟩ = false) (hne : sa ≠ g)
    (a : Act) (hs : 66 < a.tmps.size) (e10 : a.eval (.tmp 10) = .pointer (some ⟨sa, 0, none⟩)) (e11 : a.eval (.tmp 11) = .int .i64 j)
    (h0 :  Q .normal ((((((((((a.put (some 57) (.pointer (some ⟨sa, 3, none⟩))).put (some 58) (.slice (some ⟨g, 0, none⟩) m cap)).put (some 59) (.int .i64 j)).put (some 60) (.pointer (some ⟨sa, 3, none⟩))).put (some 61) (.slice (some ⟨g, 0, none⟩) m cap)).put (some 62) (.int .i64 j)).put (some 63) (.pointer (some ⟨g, j, none⟩))).put (some 64) (.int .u8 q)).put (some 65) (.int .u8 (IntKind.u8.wrap (q + 1)))).put (some 66) (.pointer (some ⟨g, j, none⟩))) (W.drew.setCell ⟨g, j, none⟩ (.int .u8 (IntKind.u8.wrap (q + 1))))) :
    Code.wp Try.prog (.region 18 (y18_ops s) true) Q a W := by
  refine wp_region_held_drew (S := fun W' => W'.cell? ⟨sa, 3, none⟩ = some (.slice (some ⟨g, 0, none⟩) m cap)) (by kernel_rfl) c1 (fun hS => ?_)
  change wpAnyH _ _ _ _ _ _ _ _ (World.drew _)
  refine wpAnyH_take (i := 0) (oi := y18_0 s) (v := .pointer (some ⟨sa, 3, none⟩)) (by kernel_rfl) (by kernel_rfl) (by kernel_rfl) (by kernel_rfl) (fun c a w h => hQ c _ _ _ w h) (Or.inl ⟨wanted_none rfl, fun w hw => field3 rfl e10 w⟩) hS ?_
  change wpAnyH _ _ _ _ _ _ _ (a.put (some 57) (.pointer (some ⟨sa, 3, none⟩))) _
  obtain ⟨a0_1, ha1⟩ : ∃ rr : Act, rr = a.put (some 57) (.pointer (some ⟨sa, 3, none⟩)) := ⟨_, rfl⟩
  have qz1 : 66 < a0_1.tmps.size := by rw [ha1, sz_put]; exact hs
  have f1_10 : a0_1.eval (.tmp 10) = .pointer (some ⟨sa, 0, none⟩) := by rw [ha1, ev_other _ _ _ _ (by decide)]; exact e10
  have f1_11 : a0_1.eval (.tmp 11) = .int .i64 j := by rw [ha1, ev_other _ _ _ _ (by decide)]; exact e11
  have f1_57 : a0_1.eval (.tmp 57) = .pointer (some ⟨sa, 3, none⟩) := by rw [ha1]; exact ev_same _ _ _ (Nat.lt_of_le_of_lt (by decide) hs)
  rw [← ha1] at h0 ⊢
  clear ha1
  refine wpAnyH_take (i := 1) (oi := y18_1 s) (v := .slice (some ⟨g, 0, none⟩) m cap) (by kernel_rfl) (by kernel_rfl) (by kernel_rfl) (by kernel_rfl) (fun c a w h => hQ c _ _ _ w h) (Or.inl ⟨wanted_none rfl, fun w hw => run_load rfl f1_57 (load_sl hw)⟩) hS ?_
  change wpAnyH _ _ _ _ _ _ _ (a0_1.put (some 58) (.slice (some ⟨g, 0, none⟩) m cap)) _
  obtain ⟨a0_2, ha2⟩ : ∃ rr : Act, rr = a0_1.put (some 58) (.slice (some ⟨g, 0, none⟩) m cap) := ⟨_, rfl⟩
  have qz2 : 66 < a0_2.tmps.size := by rw [ha2, sz_put]; exact qz1
  have f2_10 : a0_2.eval (.tmp 10) = .pointer (some ⟨sa, 0, none⟩) := by rw [ha2, ev_other _ _ _ _ (by decide)]; exact f1_10
  have f2_11 : a0_2.eval (.tmp 11) = .int .i64 j := by rw [ha2, ev_other _ _ _ _ (by decide)]; exact f1_11
  have f2_58 : a0_2.eval (.tmp 58) = .slice (some ⟨g, 0, none⟩) m cap := by rw [ha2]; exact ev_same _ _ _ (Nat.lt_of_le_of_lt (by decide) qz1)
  rw [← ha2] at h0 ⊢
  clear ha2
  refine wpAnyH_take (i := 2) (oi := y18_2 s) (v := .int .i64 j) (by kernel_rfl) (by kernel_rfl) (by kernel_rfl) (by kernel_rfl) (fun c a w h => hQ c _ _ _ w h) (Or.inl ⟨wanted_none rfl, fun w hw => by simp only [execOp, y18_2, f2_11]; rfl⟩) hS ?_
  change wpAnyH _ _ _ _ _ _ _ (a0_2.put (some 59) (.int .i64 j)) _
  obtain ⟨a0_3, ha3⟩ : ∃ rr : Act, rr = a0_2.put (some 59) (.int .i64 j) := ⟨_, rfl⟩
  have qz3 : 66 < a0_3.tmps.size := by rw [ha3, sz_put]; exact qz2
  have f3_10 : a0_3.eval (.tmp 10) = .pointer (some ⟨sa, 0, none⟩) := by rw [ha3, ev_other _ _ _ _ (by decide)]; exact f2_10
  have f3_11 : a0_3.eval (.tmp 11) = .int .i64 j := by rw [ha3, ev_other _ _ _ _ (by decide)]; exact f2_11
  have f3_58 : a0_3.eval (.tmp 58) = .slice (some ⟨g, 0, none⟩) m cap := by rw [ha3, ev_other _ _ _ _ (by decide)]; exact f2_58
  have f3_59 : a0_3.eval (.tmp 59) = .int .i64 j := by rw [ha3]; exact ev_same _ _ _ (Nat.lt_of_le_of_lt (by decide) qz2)
  rw [← ha3] at h0 ⊢
  clear ha3
  refine wpAnyH_take (i := 3) (oi := y18_3 s) (v := .pointer (some ⟨sa, 3, none⟩)) (by kernel_rfl) (by kernel_rfl) (by kernel_rfl) (by kernel_rfl) (fun c a w h => hQ c _ _ _ w h) (Or.inl ⟨wanted_none rfl, fun w hw => field3 rfl f3_10 w⟩) hS ?_
  change wpAnyH _ _ _ _ _ _ _ (a0_3.put (some 60) (.pointer (some ⟨sa, 3, none⟩))) _
  obtain ⟨a0_4, ha4⟩ : ∃ rr : Act, rr = a0_3.put (some 60) (.pointer (some ⟨sa, 3, none⟩)) := ⟨_, rfl⟩
  have qz4 : 66 < a0_4.tmps.size := by rw [ha4, sz_put]; exact qz3
  have f4_11 : a0_4.eval (.tmp 11) = .int .i64 j := by rw [ha4, ev_other _ _ _ _ (by decide)]; exact f3_11
  have f4_58 : a0_4.eval (.tmp 58) = .slice (some ⟨g, 0, none⟩) m cap := by rw [ha4, ev_other _ _ _ _ (by decide)]; exact f3_58
  have f4_59 : a0_4.eval (.tmp 59) = .int .i64 j := by rw [ha4, ev_other _ _ _ _ (by decide)]; exact f3_59
  have f4_60 : a0_4.eval (.tmp 60) = .pointer (some ⟨sa, 3, none⟩) := by rw [ha4]; exact ev_same _ _ _ (Nat.lt_of_le_of_lt (by decide) qz3)
  rw [← ha4] at h0 ⊢
  clear ha4
  refine wpAnyH_take (i := 4) (oi := y18_4 s) (v := .slice (some ⟨g, 0, none⟩) m cap) (by kernel_rfl) (by kernel_rfl) (by kernel_rfl) (by kernel_rfl) (fun c a w h => hQ c _ _ _ w h) (Or.inl ⟨wanted_none rfl, fun w hw => run_load rfl f4_60 (load_sl hw)⟩) hS ?_
  change wpAnyH _ _ _ _ _ _ _ (a0_4.put (some 61) (.slice (some ⟨g, 0, none⟩) m cap)) _
  obtain ⟨a0_5, ha5⟩ : ∃ rr : Act, rr = a0_4.put (some 61) (.slice (some ⟨g, 0, none⟩) m cap) := ⟨_, rfl⟩
  have qz5 : 66 < a0_5.tmps.size := by rw [ha5, sz_put]; exact qz4
  have f5_11 : a0_5.eval (.tmp 11) = .int .i64 j := by rw [ha5, ev_other _ _ _ _ (by decide)]; exact f4_11
  have f5_58 : a0_5.eval (.tmp 58) = .slice (some ⟨g, 0, none⟩) m cap := by rw [ha5, ev_other _ _ _ _ (by decide)]; exact f4_58
  have f5_59 : a0_5.eval (.tmp 59) = .int .i64 j := by rw [ha5, ev_other _ _ _ _ (by decide)]; exact f4_59
  have f5_61 : a0_5.eval (.tmp 61) = .slice (some ⟨g, 0, none⟩) m cap := by rw [ha5]; exact ev_same _ _ _ (Nat.lt_of_le_of_lt (by decide) qz4)
  rw [← ha5] at h0 ⊢
  clear ha5
  refine wpAnyH_take (i := 5) (oi := y18_5 s) (v := .int .i64 j) (by kernel_rfl) (by kernel_rfl) (by kernel_rfl) (by kernel_rfl) (fun c a w h => hQ c _ _ _ w h) (Or.inl ⟨wanted_none rfl, fun w hw => by simp only [execOp, y18_5, f5_11]; rfl⟩) hS ?_
  change wpAnyH _ _ _ _ _ _ _ (a0_5.put (some 62) (.int .i64 j)) _
  obtain ⟨a0_6, ha6⟩ : ∃ rr : Act, rr = a0_5.put (some 62) (.int .i64 j) := ⟨_, rfl⟩
  have qz6 : 66 < a0_6.tmps.size := by rw [ha6, sz_put]; exact qz5
  have f6_58 : a0_6.eval (.tmp 58) = .slice (some ⟨g, 0, none⟩) m cap := by rw [ha6, ev_other _ _ _ _ (by decide)]; exact f5_58
  have f6_59 : a0_6.eval (.tmp 59) = .int .i64 j := by rw [ha6, ev_other _ _ _ _ (by decide)]; exact f5_59
  have f6_61 : a0_6.eval (.tmp 61) = .slice (some ⟨g, 0, none⟩) m cap := by rw [ha6, ev_other _ _ _ _ (by decide)]; exact f5_61
  have f6_62 : a0_6.eval (.tmp 62) = .int .i64 j := by rw [ha6]; exact ev_same _ _ _ (Nat.lt_of_le_of_lt (by decide) qz5)
  rw [← ha6] at h0 ⊢
  clear ha6
  refine wpAnyH_take (i := 6) (oi := y18_6 s) (v := .pointer (some ⟨g, j, none⟩)) (by kernel_rfl) (by kernel_rfl) (by kernel_rfl) (by kernel_rfl) (fun c a w h => hQ c _ _ _ w h) (Or.inl ⟨wanted_none rfl, fun w hw => index_u8 rfl hj f6_61 f6_62 w⟩) hS ?_
  change wpAnyH _ _ _ _ _ _ _ (a0_6.put (some 63) (.pointer (some ⟨g, j, none⟩))) _
  obtain ⟨a0_7, ha7⟩ : ∃ rr : Act, rr = a0_6.put (some 63) (.pointer (some ⟨g, j, none⟩)) := ⟨_, rfl⟩
  have qz7 : 66 < a0_7.tmps.size := by rw [ha7, sz_put]; exact qz6
  have f7_58 : a0_7.eval (.tmp 58) = .slice (some ⟨g, 0, none⟩) m cap := by rw [ha7, ev_other _ _ _ _ (by decide)]; exact f6_58
  have f7_59 : a0_7.eval (.tmp 59) = .int .i64 j := by rw [ha7, ev_other _ _ _ _ (by decide)]; exact f6_59
  have f7_63 : a0_7.eval (.tmp 63) = .pointer (some ⟨g, j, none⟩) := by rw [ha7]; exact ev_same _ _ _ (Nat.lt_of_le_of_lt (by decide) qz6)
  rw [← ha7] at h0 ⊢
  clear ha7
  refine wpAnyH_ready (rs := [7]) (by kernel_rfl) (by simp) ?_
  refine AllReadyH.cons (o := y18_7 s) (by kernel_rfl) (fun KQ hKQ => ?_) AllReadyH.nil
  rw [if_pos (wanted_none rfl)]
  refine step_runE (.int .u8 q) (W.drew) (run_load rfl f7_63 (load_u8 c2)) ?_
  refine hKQ.out _ _ (hS) (fun _ => ?_)
  clear hKQ KQ
  change wpAnyH _ _ _ _ _ _ _ (a0_7.put (some 64) (.int .u8 q)) _
  obtain ⟨a0_8, ha8⟩ : ∃ rr : Act, rr = a0_7.put (some 64) (.int .u8 q) := ⟨_, rfl⟩
  have qz8 : 66 < a0_8.tmps.size := by rw [ha8, sz_put]; exact qz7
  have f8_58 : a0_8.eval (.tmp 58) = .slice (some ⟨g, 0, none⟩) m cap := by rw [ha8, ev_other _ _ _ _ (by decide)]; exact f7_58
  have f8_59 : a0_8.eval (.tmp 59) = .int .i64 j := by rw [ha8, ev_other _ _ _ _ (by decide)]; exact f7_59
  have f8_64 : a0_8.eval (.tmp 64) = .int .u8 q := by rw [ha8]; exact ev_same _ _ _ (Nat.lt_of_le_of_lt (by decide) qz7)
  rw [← ha8] at h0 ⊢
  clear ha8
  refine wpAnyH_take (i := 8) (oi := y18_8 s) (v := .int .u8 (IntKind.u8.wrap (q + 1))) (by kernel_rfl) (by kernel_rfl) (by kernel_rfl) (by kernel_rfl) (fun c a w h => hQ c _ _ _ w h) (Or.inl ⟨wanted_none rfl, fun w hw => run_inc rfl f8_64 w⟩) hS ?_
  change wpAnyH _ _ _ _ _ _ _ (a0_8.put (some 65) (.int .u8 (IntKind.u8.wrap (q + 1)))) _
  obtain ⟨a0_9, ha9⟩ : ∃ rr : Act, rr = a0_8.put (some 65) (.int .u8 (IntKind.u8.wrap (q + 1))) := ⟨_, rfl⟩
  have qz9 : 66 < a0_9.tmps.size := by rw [ha9, sz_put]; exact qz8
  have f9_58 : a0_9.eval (.tmp 58) = .slice (some ⟨g, 0, none⟩) m cap := by rw [ha9, ev_other _ _ _ _ (by decide)]; exact f8_58
  have f9_59 : a0_9.eval (.tmp 59) = .int .i64 j := by rw [ha9, ev_other _ _ _ _ (by decide)]; exact f8_59
  have f9_65 : a0_9.eval (.tmp 65) = .int .u8 (IntKind.u8.wrap (q + 1)) := by rw [ha9]; exact ev_same _ _ _ (Nat.lt_of_le_of_lt (by decide) qz8)
  rw [← ha9] at h0 ⊢
  clear ha9
  refine wpAnyH_take (i := 9) (oi := y18_9 s) (v := .pointer (some ⟨g, j, none⟩)) (by kernel_rfl) (by kernel_rfl) (by kernel_rfl) (by kernel_rfl) (fun c a w h => hQ c _ _ _ w h) (Or.inl ⟨wanted_none rfl, fun w hw => index_u8 rfl hj f9_58 f9_59 w⟩) hS ?_
  change wpAnyH _ _ _ _ _ _ _ (a0_9.put (some 66) (.pointer (some ⟨g, j, none⟩))) _
  obtain ⟨a0_10, ha10⟩ : ∃ rr : Act, rr = a0_9.put (some 66) (.pointer (some ⟨g, j, none⟩)) := ⟨_, rfl⟩
  have qz10 : 66 < a0_10.tmps.size := by rw [ha10, sz_put]; exact qz9
  have f10_65 : a0_10.eval (.tmp 65) = .int .u8 (IntKind.u8.wrap (q + 1)) := by rw [ha10, ev_other _ _ _ _ (by decide)]; exact f9_65
  have f10_66 : a0_10.eval (.tmp 66) = .pointer (some ⟨g, j, none⟩) := by rw [ha10]; exact ev_same _ _ _ (Nat.lt_of_le_of_lt (by decide) qz9)
  rw [← ha10] at h0 ⊢
  clear ha10
  refine wpAnyH_ready (rs := [10]) (by kernel_rfl) (by simp) ?_
  refine AllReadyH.cons (o := y18_10 s) (by kernel_rfl) (fun KQ hKQ => ?_) AllReadyH.nil
  rw [if_pos (wanted_none rfl)]
  refine step_skipE (W.drew.setCell ⟨g, j, none⟩ (.int .u8 (IntKind.u8.wrap (q + 1)))) (run_store8 rfl f10_66 f10_65 c2 hf) ?_
  refine hKQ.out _ _ ((World.cell?_setCell_other _ _ _ _ (fun e => hne (by injection e with h1; exact h1.symm))).trans c1) (fun _ => ?_)
  clear hKQ KQ
  refine wpAnyH_done (by kernel_rfl) ?_ _
  exact h0
def y24_0 (s : String) : Oper := { dst := some 94, op := Op.call { callee := Callee.value (Operand.func 8), args := #[Operand.tmp 5], argTypes := #[27] }, type := 3, pos := s, after := #[], guard := none }
def y24_1 (s : String) : Oper := { dst := some 95, op := Op.move (Operand.tmp 6), type := 28, pos := s, after := #[], guard := none }
def y24_2 (s : String) : Oper := { dst := some 96, op := Op.call { callee := Callee.builtin Builtin.len, args := #[Operand.tmp 95], argTypes := #[28] }, type := 3, pos := s, after := #[{ on := 1, ground := Ground.data }], guard := none }
def y24_3 (s : String) : Oper := { dst := some 97, op := Op.binOp BinOp.neq 3 (Operand.tmp 94) (Operand.tmp 96) 3, type := 4, pos := s, after := #[{ on := 0, ground := Ground.data }, { on := 2, ground := Ground.data }], guard := none }
def y24_4 (s : String) : Oper := { dst := some 98, op := Op.move (Operand.tmp 97), type := 4, pos := s, after := #[{ on := 3, ground := Ground.data }, { on := 0, ground := Ground.chain }], guard := none }
def y24_5 (s : String) : Oper := { dst := some 99, op := Op.call { callee := Callee.value (Operand.func 9), args := #[Operand.tmp 5], argTypes := #[27] }, type := 28, pos := s, after := #[{ on := 4, ground := Ground.chain }, { on := 4, ground := Ground.guard }], guard := some (4, false) }
def y24_6 (s : String) : Oper := { dst := some 100, op := Op.convert 28 9 (Operand.tmp 99), type := 9, pos := s, after := #[{ on := 5, ground := Ground.data }, { on := 4, ground := Ground.guard }], guard := some (4, false) }
def y24_7 (s : String) : Oper := { dst := some 101, op := Op.move (Operand.tmp 6), type := 28, pos := s, after := #[{ on := 4, ground := Ground.guard }], guard := some (4, false) }
def y24_8 (s : String) : Oper := { dst := some 102, op := Op.convert 28 9 (Operand.tmp 101), type := 9, pos := s, after := #[{ on := 7, ground := Ground.data }, { on := 4, ground := Ground.guard }], guard := some (4, false) }
def y24_9 (s : String) : Oper := { dst := some 103, op := Op.binOp BinOp.neq 9 (Operand.tmp 100) (Operand.tmp 102) 9, type := 4, pos := s, after := #[{ on := 6, ground := Ground.data }, { on := 8, ground := Ground.data }, { on := 4, ground := Ground.guard }], guard := some (4, false) }
def y24_10 (s : String) : Oper := { dst := some 104, op := Op.pick (Operand.tmp 98) (Operand.const (Value.bool true)) (Operand.tmp 103), type := 4, pos := s, after := #[{ on := 4, ground := Ground.data }, { on := 9, ground := Ground.data }], guard := none }
def y24_ops (s : String) : Array Oper := #[y24_0 s, y24_1 s, y24_2 s, y24_3 s, y24_4 s, y24_5 s, y24_6 s, y24_7 s, y24_8 s, y24_9 s, y24_10 s]
theorem y24_enter0 (s : String) (a : Act) (w : World) : (execOp a.eval (y24_0 s)).run Try.prog w = .ok (.enter 8 #[a.eval (.tmp 5)]) w := by kernel_rfl
theorem y24_enter5 (s : String) (a : Act) (w : World) : (execOp a.eval (y24_5 s)).run Try.prog w = .ok (.enter 9 #[a.eval (.tmp 5)]) w := by kernel_rfl
theorem y24_walk (s : String) {Q : Exit → Act → World → Prop} (hQ : ∀ c (a : Act) t v w, Q (.panic c) (a.put (some t) v) w → Q (.panic c) a w) (W : World) (X : Nat → Prop) (z : Nat) (xs : List UInt8) (va : Value) (hE : EncSt W X z xs) (hl : xs.length ≤ 281474976710656) (hra : RdA W va xs)
    (a : Act) (hs : 104 < a.tmps.size) (e5 : a.eval (.tmp 5) = .pointer (some ⟨z, 0, none⟩)) (e6 : a.eval (.tmp 6) = va)
    (h0 : ∀ v w1, Below W.heap.size W w1 → Q .normal (((((((((((a.put (some 95) (va)).put (some 96) (.int .i64 (xs.length : Int))).put (some 94) (.int .i64 (xs.length : Int))).put (some 97) (.bool false)).put (some 98) (.bool false)).put (some 101) (va)).put (some 102) (.string ⟨xs.toArray⟩)).put (some 99) (v)).put (some 100) (.string ⟨xs.toArray⟩)).put (some 103) (.bool false)).put (some 104) (.bool false)) w1) :
    Code.wp Try.prog (.region 24 (y24_ops s) true) Q a W := by
  refine wp_region_held_drew (S := fun W' => (convert 28 9 va).run Try.prog W' = .ok (.string ⟨xs.toArray⟩) W') (by kernel_rfl) (conv_rdA _ _ _ hra) (fun hS => ?_)
  change wpAnyH _ _ _ _ _ _ _ _ (World.drew _)
  refine wpAnyH_take (i := 1) (oi := y24_1 s) (v := va) (by kernel_rfl) (by kernel_rfl) (by kernel_rfl) (by kernel_rfl) (fun c a w h => hQ c _ _ _ w h) (Or.inl ⟨wanted_none rfl, fun w hw => by simp only [execOp, y24_1, e6]; rfl⟩) hS ?_
  change wpAnyH _ _ _ _ _ _ _ (a.put (some 95) (va)) _
  obtain ⟨a0_1, ha1⟩ : ∃ rr : Act, rr = a.put (some 95) (va) := ⟨_, rfl⟩
  have qz1 : 104 < a0_1.tmps.size := by rw [ha1, sz_put]; exact hs
  have f1_5 : a0_1.eval (.tmp 5) = .pointer (some ⟨z, 0, none⟩) := by rw [ha1, ev_other _ _ _ _ (by decide)]; exact e5
  have f1_6 : a0_1.eval (.tmp 6) = va := by rw [ha1, ev_other _ _ _ _ (by decide)]; exact e6
  have f1_95 : a0_1.eval (.tmp 95) = va := by rw [ha1]; exact ev_same _ _ _ (Nat.lt_of_le_of_lt (by decide) hs)
  rw [← ha1] at h0 ⊢
  clear ha1
  refine wpAnyH_take (i := 2) (oi := y24_2 s) (v := .int .i64 (xs.length : Int)) (by kernel_rfl) (by kernel_rfl) (by kernel_rfl) (by kernel_rfl) (fun c a w h => hQ c _ _ _ w h) (Or.inl ⟨wanted_none rfl, fun w hw => run_len rfl f1_95 hra w⟩) hS ?_
  change wpAnyH _ _ _ _ _ _ _ (a0_1.put (some 96) (.int .i64 (xs.length : Int))) _
  obtain ⟨a0_2, ha2⟩ : ∃ rr : Act, rr = a0_1.put (some 96) (.int .i64 (xs.length : Int)) := ⟨_, rfl⟩
  have qz2 : 104 < a0_2.tmps.size := by rw [ha2, sz_put]; exact qz1
  have f2_5 : a0_2.eval (.tmp 5) = .pointer (some ⟨z, 0, none⟩) := by rw [ha2, ev_other _ _ _ _ (by decide)]; exact f1_5
  have f2_6 : a0_2.eval (.tmp 6) = va := by rw [ha2, ev_other _ _ _ _ (by decide)]; exact f1_6
  have f2_96 : a0_2.eval (.tmp 96) = .int .i64 (xs.length : Int) := by rw [ha2]; exact ev_same _ _ _ (Nat.lt_of_le_of_lt (by decide) qz1)
  rw [← ha2] at h0 ⊢
  clear ha2
  refine wpAnyH_ready (rs := [0]) (by kernel_rfl) (by simp) ?_
  refine AllReadyH.cons (o := y24_0 s) (by kernel_rfl) (fun KQ hKQ => ?_) AllReadyH.nil
  rw [if_pos (wanted_none rfl)]
  refine step_enterE 8 #[.pointer (some ⟨z, 0, none⟩)] (by rw [y24_enter0, f2_5]) (fun V w' => V = .int .i64 (xs.length : Int) ∧ w' = W.drew) ((elen_enc W.drew X z xs hE.drew).mono (fun e w' h => ⟨_, h.1, rfl, h.2⟩)) ?_
  rintro _ _ ⟨rfl, rfl⟩
  refine hKQ.out _ _ (hS) (fun _ => ?_)
  clear hKQ KQ
  change wpAnyH _ _ _ _ _ _ _ (a0_2.put (some 94) (.int .i64 (xs.length : Int))) _
  obtain ⟨a0_3, ha3⟩ : ∃ rr : Act, rr = a0_2.put (some 94) (.int .i64 (xs.length : Int)) := ⟨_, rfl⟩
  have qz3 : 104 < a0_3.tmps.size := by rw [ha3, sz_put]; exact qz2
  have f3_5 : a0_3.eval (.tmp 5) = .pointer (some ⟨z, 0, none⟩) := by rw [ha3, ev_other _ _ _ _ (by decide)]; exact f2_5
  have f3_6 : a0_3.eval (.tmp 6) = va := by rw [ha3, ev_other _ _ _ _ (by decide)]; exact f2_6
  have f3_94 : a0_3.eval (.tmp 94) = .int .i64 (xs.length : Int) := by rw [ha3]; exact ev_same _ _ _ (Nat.lt_of_le_of_lt (by decide) qz2)
  have f3_96 : a0_3.eval (.tmp 96) = .int .i64 (xs.length : Int) := by rw [ha3, ev_other _ _ _ _ (by decide)]; exact f2_96
  rw [← ha3] at h0 ⊢
  clear ha3
  refine wpAnyH_take (i := 3) (oi := y24_3 s) (v := .bool false) (by kernel_rfl) (by kernel_rfl) (by kernel_rfl) (by kernel_rfl) (fun c a w h => hQ c _ _ _ w h) (Or.inl ⟨wanted_none rfl, fun w hw => run_neqInt rfl f3_94 f3_96 w⟩) hS ?_
  change wpAnyH _ _ _ _ _ _ _ (a0_3.put (some 97) (.bool false)) _
  obtain ⟨a0_4, ha4⟩ : ∃ rr : Act, rr = a0_3.put (some 97) (.bool false) := ⟨_, rfl⟩
  have qz4 : 104 < a0_4.tmps.size := by rw [ha4, sz_put]; exact qz3
  have f4_5 : a0_4.eval (.tmp 5) = .pointer (some ⟨z, 0, none⟩) := by rw [ha4, ev_other _ _ _ _ (by decide)]; exact f3_5
  have f4_6 : a0_4.eval (.tmp 6) = va := by rw [ha4, ev_other _ _ _ _ (by decide)]; exact f3_6
  have f4_97 : a0_4.eval (.tmp 97) = .bool false := by rw [ha4]; exact ev_same _ _ _ (Nat.lt_of_le_of_lt (by decide) qz3)
  rw [← ha4] at h0 ⊢
  clear ha4
  refine wpAnyH_take (i := 4) (oi := y24_4 s) (v := .bool false) (by kernel_rfl) (by kernel_rfl) (by kernel_rfl) (by kernel_rfl) (fun c a w h => hQ c _ _ _ w h) (Or.inl ⟨wanted_none rfl, fun w hw => by simp only [execOp, y24_4, f4_97]; rfl⟩) hS ?_
  change wpAnyH _ _ _ _ _ _ _ (a0_4.put (some 98) (.bool false)) _
  obtain ⟨a0_5, ha5⟩ : ∃ rr : Act, rr = a0_4.put (some 98) (.bool false) := ⟨_, rfl⟩
  have qz5 : 104 < a0_5.tmps.size := by rw [ha5, sz_put]; exact qz4
  have f5_5 : a0_5.eval (.tmp 5) = .pointer (some ⟨z, 0, none⟩) := by rw [ha5, ev_other _ _ _ _ (by decide)]; exact f4_5
  have f5_6 : a0_5.eval (.tmp 6) = va := by rw [ha5, ev_other _ _ _ _ (by decide)]; exact f4_6
  have f5_98 : a0_5.eval (.tmp 98) = .bool false := by rw [ha5]; exact ev_same _ _ _ (Nat.lt_of_le_of_lt (by decide) qz4)
  rw [← ha5] at h0 ⊢
  clear ha5
  refine wpAnyH_take (i := 7) (oi := y24_7 s) (v := va) (by kernel_rfl) (by kernel_rfl) (by kernel_rfl) (by kernel_rfl) (fun c a w h => hQ c _ _ _ w h) (Or.inl ⟨wanted_some rfl (by kernel_rfl) f5_98 (Nat.lt_of_le_of_lt (by decide) qz5), fun w hw => by simp only [execOp, y24_7, f5_6]; rfl⟩) hS ?_
  change wpAnyH _ _ _ _ _ _ _ (a0_5.put (some 101) (va)) _
  obtain ⟨a0_6, ha6⟩ : ∃ rr : Act, rr = a0_5.put (some 101) (va) := ⟨_, rfl⟩
  have qz6 : 104 < a0_6.tmps.size := by rw [ha6, sz_put]; exact qz5
  have f6_5 : a0_6.eval (.tmp 5) = .pointer (some ⟨z, 0, none⟩) := by rw [ha6, ev_other _ _ _ _ (by decide)]; exact f5_5
  have f6_98 : a0_6.eval (.tmp 98) = .bool false := by rw [ha6, ev_other _ _ _ _ (by decide)]; exact f5_98
  have f6_101 : a0_6.eval (.tmp 101) = va := by rw [ha6]; exact ev_same _ _ _ (Nat.lt_of_le_of_lt (by decide) qz5)
  rw [← ha6] at h0 ⊢
  clear ha6
  refine wpAnyH_take (i := 8) (oi := y24_8 s) (v := .string ⟨xs.toArray⟩) (by kernel_rfl) (by kernel_rfl) (by kernel_rfl) (by kernel_rfl) (fun c a w h => hQ c _ _ _ w h) (Or.inl ⟨wanted_some rfl (by kernel_rfl) f6_98 (Nat.lt_of_le_of_lt (by decide) qz6), fun w hw => run_conv rfl f6_101 hw⟩) hS ?_
  change wpAnyH _ _ _ _ _ _ _ (a0_6.put (some 102) (.string ⟨xs.toArray⟩)) _
  obtain ⟨a0_7, ha7⟩ : ∃ rr : Act, rr = a0_6.put (some 102) (.string ⟨xs.toArray⟩) := ⟨_, rfl⟩
  have qz7 : 104 < a0_7.tmps.size := by rw [ha7, sz_put]; exact qz6
  have f7_5 : a0_7.eval (.tmp 5) = .pointer (some ⟨z, 0, none⟩) := by rw [ha7, ev_other _ _ _ _ (by decide)]; exact f6_5
  have f7_98 : a0_7.eval (.tmp 98) = .bool false := by rw [ha7, ev_other _ _ _ _ (by decide)]; exact f6_98
  have f7_102 : a0_7.eval (.tmp 102) = .string ⟨xs.toArray⟩ := by rw [ha7]; exact ev_same _ _ _ (Nat.lt_of_le_of_lt (by decide) qz6)
  rw [← ha7] at h0 ⊢
  clear ha7
  refine wpAnyH_ready (rs := [5]) (by kernel_rfl) (by simp) ?_
  refine AllReadyH.cons (o := y24_5 s) (by kernel_rfl) (fun KQ hKQ => ?_) AllReadyH.nil
  rw [if_pos (wanted_some rfl (by kernel_rfl) f7_98 (Nat.lt_of_le_of_lt (by decide) qz7))]
  refine step_enterE 9 #[.pointer (some ⟨z, 0, none⟩)] (by rw [y24_enter5, f7_5]) (fun V w' => w'.ownsRow W.heap.size 5 1 V xs.length (xs.map u8c) ∧ Below W.heap.size W w') ((ebytes_enc W.drew X z xs hE.drew hl).mono (fun e w' h => by obtain ⟨V, h1, h2, h3⟩ := h; exact ⟨V, h1, h2, ⟨h3.os, h3.tape, h3.output, h3.size, h3.block⟩⟩)) ?_
  rintro v w1 ⟨hown, hb1⟩
  have hv := conv_rd w1 v xs (Rd_owned hown)
  have hva := conv_rdA w1 va xs (RdA.below hra hb1)
  refine hKQ.out _ _ (hva) (fun _ => ?_)
  clear hKQ KQ
  change wpAnyH _ _ _ _ _ _ _ (a0_7.put (some 99) (v)) _
  refine wpAnyH_mono (S' := fun W' => (convert 28 9 v).run Try.prog W' = .ok (.string ⟨xs.toArray⟩) W' ∧ (convert 28 9 va).run Try.prog W' = .ok (.string ⟨xs.toArray⟩) W') (fun w h => h.2) _ _ _ _ ?_
  have hS8 : (fun W' => (convert 28 9 v).run Try.prog W' = .ok (.string ⟨xs.toArray⟩) W' ∧ (convert 28 9 va).run Try.prog W' = .ok (.string ⟨xs.toArray⟩) W') _ := ⟨hv, hva⟩
  have h0 := h0 v w1 hb1
  obtain ⟨a0_8, ha8⟩ : ∃ rr : Act, rr = a0_7.put (some 99) (v) := ⟨_, rfl⟩
  have qz8 : 104 < a0_8.tmps.size := by rw [ha8, sz_put]; exact qz7
  have f8_98 : a0_8.eval (.tmp 98) = .bool false := by rw [ha8, ev_other _ _ _ _ (by decide)]; exact f7_98
  have f8_99 : a0_8.eval (.tmp 99) = v := by rw [ha8]; exact ev_same _ _ _ (Nat.lt_of_le_of_lt (by decide) qz7)
  have f8_102 : a0_8.eval (.tmp 102) = .string ⟨xs.toArray⟩ := by rw [ha8, ev_other _ _ _ _ (by decide)]; exact f7_102
  rw [← ha8] at h0 ⊢
  clear ha8
  refine wpAnyH_take (i := 6) (oi := y24_6 s) (v := .string ⟨xs.toArray⟩) (by kernel_rfl) (by kernel_rfl) (by kernel_rfl) (by kernel_rfl) (fun c a w h => hQ c _ _ _ w h) (Or.inl ⟨wanted_some rfl (by kernel_rfl) f8_98 (Nat.lt_of_le_of_lt (by decide) qz8), fun w hw => run_conv rfl f8_99 hw.1⟩) hS8 ?_
  change wpAnyH _ _ _ _ _ _ _ (a0_8.put (some 100) (.string ⟨xs.toArray⟩)) _
  obtain ⟨a0_9, ha9⟩ : ∃ rr : Act, rr = a0_8.put (some 100) (.string ⟨xs.toArray⟩) := ⟨_, rfl⟩
  have qz9 : 104 < a0_9.tmps.size := by rw [ha9, sz_put]; exact qz8
  have f9_98 : a0_9.eval (.tmp 98) = .bool false := by rw [ha9, ev_other _ _ _ _ (by decide)]; exact f8_98
  have f9_100 : a0_9.eval (.tmp 100) = .string ⟨xs.toArray⟩ := by rw [ha9]; exact ev_same _ _ _ (Nat.lt_of_le_of_lt (by decide) qz8)
  have f9_102 : a0_9.eval (.tmp 102) = .string ⟨xs.toArray⟩ := by rw [ha9, ev_other _ _ _ _ (by decide)]; exact f8_102
  rw [← ha9] at h0 ⊢
  clear ha9
  refine wpAnyH_take (i := 9) (oi := y24_9 s) (v := .bool false) (by kernel_rfl) (by kernel_rfl) (by kernel_rfl) (by kernel_rfl) (fun c a w h => hQ c _ _ _ w h) (Or.inl ⟨wanted_some rfl (by kernel_rfl) f9_98 (Nat.lt_of_le_of_lt (by decide) qz9), fun w hw => run_neqSame rfl f9_100 f9_102 w⟩) hS8 ?_
  change wpAnyH _ _ _ _ _ _ _ (a0_9.put (some 103) (.bool false)) _
  obtain ⟨a0_10, ha10⟩ : ∃ rr : Act, rr = a0_9.put (some 103) (.bool false) := ⟨_, rfl⟩
  have qz10 : 104 < a0_10.tmps.size := by rw [ha10, sz_put]; exact qz9
  have f10_98 : a0_10.eval (.tmp 98) = .bool false := by rw [ha10, ev_other _ _ _ _ (by decide)]; exact f9_98
  have f10_103 : a0_10.eval (.tmp 103) = .bool false := by rw [ha10]; exact ev_same _ _ _ (Nat.lt_of_le_of_lt (by decide) qz9)
  rw [← ha10] at h0 ⊢
  clear ha10
  refine wpAnyH_take (i := 10) (oi := y24_10 s) (v := .bool false) (by kernel_rfl) (by kernel_rfl) (by kernel_rfl) (by kernel_rfl) (fun c a w h => hQ c _ _ _ w h) (Or.inl ⟨wanted_none rfl, fun w hw => by simp only [execOp, y24_10, f10_98, f10_103]; rfl⟩) hS8 ?_
  change wpAnyH _ _ _ _ _ _ _ (a0_10.put (some 104) (.bool false)) _
  obtain ⟨a0_11, ha11⟩ : ∃ rr : Act, rr = a0_10.put (some 104) (.bool false) := ⟨_, rfl⟩
  have qz11 : 104 < a0_11.tmps.size := by rw [ha11, sz_put]; exact qz10
  rw [← ha11] at h0 ⊢
  clear ha11
  refine wpAnyH_done (by kernel_rfl) ?_ _
  exact h0
def y29_0 (s : String) : Oper := { dst := some 111, op := Op.move (Operand.tmp 7), type := 29, pos := s, after := #[], guard := none }
def y29_1 (s : String) : Oper := { dst := some 112, op := Op.move (Operand.tmp 13), type := 3, pos := s, after := #[], guard := none }
def y29_2 (s : String) : Oper := { dst := some 113, op := Op.indexAddr 29 (Operand.tmp 111) (Operand.tmp 112), type := 0, pos := s, after := #[{ on := 0, ground := Ground.data }, { on := 1, ground := Ground.data }], guard := none }
def y29_3 (s : String) : Oper := { dst := some 114, op := Op.load 28 (Operand.tmp 113), type := 28, pos := s, after := #[{ on := 2, ground := Ground.data }], guard := none }
def y29_4 (s : String) : Oper := { dst := some 115, op := Op.convert 28 9 (Operand.tmp 114), type := 9, pos := s, after := #[{ on := 3, ground := Ground.data }], guard := none }
def y29_5 (s : String) : Oper := { dst := some 116, op := Op.move (Operand.tmp 8), type := 30, pos := s, after := #[], guard := none }
def y29_6 (s : String) : Oper := { dst := some 117, op := Op.move (Operand.tmp 13), type := 3, pos := s, after := #[], guard := none }
def y29_7 (s : String) : Oper := { dst := some 118, op := Op.indexAddr 30 (Operand.tmp 116) (Operand.tmp 117), type := 0, pos := s, after := #[{ on := 5, ground := Ground.data }, { on := 6, ground := Ground.data }], guard := none }
def y29_8 (s : String) : Oper := { dst := some 119, op := Op.load 9 (Operand.tmp 118), type := 9, pos := s, after := #[{ on := 7, ground := Ground.data }], guard := none }
def y29_9 (s : String) : Oper := { dst := some 120, op := Op.binOp BinOp.neq 9 (Operand.tmp 115) (Operand.tmp 119) 9, type := 4, pos := s, after := #[{ on := 4, ground := Ground.data }, { on := 8, ground := Ground.data }], guard := none }
def y29_ops (s : String) : Array Oper := #[y29_0 s, y29_1 s, y29_2 s, y29_3 s, y29_4 s, y29_5 s, y29_6 s, y29_7 s, y29_8 s, y29_9 s]
theorem y29_walk (s : String) {Q : Exit → Act → World → Prop} (hQ : ∀ c (a : Act) t v w, Q (.panic c) (a.put (some t) v) w → Q (.panic c) a w) (W : World) (gk gw n ck cw j : Nat) (v : Value) (bs : List UInt8) (hj : j < n) (c1 : W.cell? ⟨gk, j, none⟩ = some v) (c2 : W.cell? ⟨gw, j, none⟩ = some (.string ⟨bs.toArray⟩)) (h1 : Rd W v bs)
    (a : Act) (hs : 120 < a.tmps.size) (e7 : a.eval (.tmp 7) = .slice (some ⟨gk, 0, none⟩) n ck) (e8 : a.eval (.tmp 8) = .slice (some ⟨gw, 0, none⟩) n cw) (e13 : a.eval (.tmp 13) = .int .i64 j)
    (h0 :  Q .normal ((((((((((a.put (some 111) (.slice (some ⟨gk, 0, none⟩) n ck)).put (some 112) (.int .i64 j)).put (some 113) (.pointer (some ⟨gk, j, none⟩))).put (some 114) (v)).put (some 115) (.string ⟨bs.toArray⟩)).put (some 116) (.slice (some ⟨gw, 0, none⟩) n cw)).put (some 117) (.int .i64 j)).put (some 118) (.pointer (some ⟨gw, j, none⟩))).put (some 119) (.string ⟨bs.toArray⟩)).put (some 120) (.bool false)) W.drew) :
    Code.wp Try.prog (.region 29 (y29_ops s) true) Q a W := by
  refine wp_region_held_drew (S := fun W' => (W'.cell? ⟨gk, j, none⟩ = some v ∧ W'.cell? ⟨gw, j, none⟩ = some (.string ⟨bs.toArray⟩)) ∧ (convert 28 9 v).run Try.prog W' = .ok (.string ⟨bs.toArray⟩) W') (by kernel_rfl) ⟨⟨c1, c2⟩, conv_rd _ _ _ h1⟩ (fun hS => ?_)
  change wpAnyH _ _ _ _ _ _ _ _ (World.drew _)
  refine wpAnyH_take (i := 0) (oi := y29_0 s) (v := .slice (some ⟨gk, 0, none⟩) n ck) (by kernel_rfl) (by kernel_rfl) (by kernel_rfl) (by kernel_rfl) (fun c a w h => hQ c _ _ _ w h) (Or.inl ⟨wanted_none rfl, fun w hw => by simp only [execOp, y29_0, e7]; rfl⟩) hS ?_
  change wpAnyH _ _ _ _ _ _ _ (a.put (some 111) (.slice (some ⟨gk, 0, none⟩) n ck)) _
  obtain ⟨a0_1, ha1⟩ : ∃ rr : Act, rr = a.put (some 111) (.slice (some ⟨gk, 0, none⟩) n ck) := ⟨_, rfl⟩
  have qz1 : 120 < a0_1.tmps.size := by rw [ha1, sz_put]; exact hs
  have f1_8 : a0_1.eval (.tmp 8) = .slice (some ⟨gw, 0, none⟩) n cw := by rw [ha1, ev_other _ _ _ _ (by decide)]; exact e8
  have f1_13 : a0_1.eval (.tmp 13) = .int .i64 j := by rw [ha1, ev_other _ _ _ _ (by decide)]; exact e13
  have f1_111 : a0_1.eval (.tmp 111) = .slice (some ⟨gk, 0, none⟩) n ck := by rw [ha1]; exact ev_same _ _ _ (Nat.lt_of_le_of_lt (by decide) hs)
  rw [← ha1] at h0 ⊢
  clear ha1
  refine wpAnyH_take (i := 1) (oi := y29_1 s) (v := .int .i64 j) (by kernel_rfl) (by kernel_rfl) (by kernel_rfl) (by kernel_rfl) (fun c a w h => hQ c _ _ _ w h) (Or.inl ⟨wanted_none rfl, fun w hw => by simp only [execOp, y29_1, f1_13]; rfl⟩) hS ?_
  change wpAnyH _ _ _ _ _ _ _ (a0_1.put (some 112) (.int .i64 j)) _
  obtain ⟨a0_2, ha2⟩ : ∃ rr : Act, rr = a0_1.put (some 112) (.int .i64 j) := ⟨_, rfl⟩
  have qz2 : 120 < a0_2.tmps.size := by rw [ha2, sz_put]; exact qz1
  have f2_8 : a0_2.eval (.tmp 8) = .slice (some ⟨gw, 0, none⟩) n cw := by rw [ha2, ev_other _ _ _ _ (by decide)]; exact f1_8
  have f2_13 : a0_2.eval (.tmp 13) = .int .i64 j := by rw [ha2, ev_other _ _ _ _ (by decide)]; exact f1_13
  have f2_111 : a0_2.eval (.tmp 111) = .slice (some ⟨gk, 0, none⟩) n ck := by rw [ha2, ev_other _ _ _ _ (by decide)]; exact f1_111
  have f2_112 : a0_2.eval (.tmp 112) = .int .i64 j := by rw [ha2]; exact ev_same _ _ _ (Nat.lt_of_le_of_lt (by decide) qz1)
  rw [← ha2] at h0 ⊢
  clear ha2
  refine wpAnyH_take (i := 2) (oi := y29_2 s) (v := .pointer (some ⟨gk, j, none⟩)) (by kernel_rfl) (by kernel_rfl) (by kernel_rfl) (by kernel_rfl) (fun c a w h => hQ c _ _ _ w h) (Or.inl ⟨wanted_none rfl, fun w hw => index_sl rfl hj f2_111 f2_112 w⟩) hS ?_
  change wpAnyH _ _ _ _ _ _ _ (a0_2.put (some 113) (.pointer (some ⟨gk, j, none⟩))) _
  obtain ⟨a0_3, ha3⟩ : ∃ rr : Act, rr = a0_2.put (some 113) (.pointer (some ⟨gk, j, none⟩)) := ⟨_, rfl⟩
  have qz3 : 120 < a0_3.tmps.size := by rw [ha3, sz_put]; exact qz2
  have f3_8 : a0_3.eval (.tmp 8) = .slice (some ⟨gw, 0, none⟩) n cw := by rw [ha3, ev_other _ _ _ _ (by decide)]; exact f2_8
  have f3_13 : a0_3.eval (.tmp 13) = .int .i64 j := by rw [ha3, ev_other _ _ _ _ (by decide)]; exact f2_13
  have f3_113 : a0_3.eval (.tmp 113) = .pointer (some ⟨gk, j, none⟩) := by rw [ha3]; exact ev_same _ _ _ (Nat.lt_of_le_of_lt (by decide) qz2)
  rw [← ha3] at h0 ⊢
  clear ha3
  refine wpAnyH_take (i := 3) (oi := y29_3 s) (v := v) (by kernel_rfl) (by kernel_rfl) (by kernel_rfl) (by kernel_rfl) (fun c a w h => hQ c _ _ _ w h) (Or.inl ⟨wanted_none rfl, fun w hw => run_load rfl f3_113 (load_sl hw.1.1)⟩) hS ?_
  change wpAnyH _ _ _ _ _ _ _ (a0_3.put (some 114) (v)) _
  obtain ⟨a0_4, ha4⟩ : ∃ rr : Act, rr = a0_3.put (some 114) (v) := ⟨_, rfl⟩
  have qz4 : 120 < a0_4.tmps.size := by rw [ha4, sz_put]; exact qz3
  have f4_8 : a0_4.eval (.tmp 8) = .slice (some ⟨gw, 0, none⟩) n cw := by rw [ha4, ev_other _ _ _ _ (by decide)]; exact f3_8
  have f4_13 : a0_4.eval (.tmp 13) = .int .i64 j := by rw [ha4, ev_other _ _ _ _ (by decide)]; exact f3_13
  have f4_114 : a0_4.eval (.tmp 114) = v := by rw [ha4]; exact ev_same _ _ _ (Nat.lt_of_le_of_lt (by decide) qz3)
  rw [← ha4] at h0 ⊢
  clear ha4
  refine wpAnyH_take (i := 4) (oi := y29_4 s) (v := .string ⟨bs.toArray⟩) (by kernel_rfl) (by kernel_rfl) (by kernel_rfl) (by kernel_rfl) (fun c a w h => hQ c _ _ _ w h) (Or.inl ⟨wanted_none rfl, fun w hw => run_conv rfl f4_114 hw.2⟩) hS ?_
  change wpAnyH _ _ _ _ _ _ _ (a0_4.put (some 115) (.string ⟨bs.toArray⟩)) _
  obtain ⟨a0_5, ha5⟩ : ∃ rr : Act, rr = a0_4.put (some 115) (.string ⟨bs.toArray⟩) := ⟨_, rfl⟩
  have qz5 : 120 < a0_5.tmps.size := by rw [ha5, sz_put]; exact qz4
  have f5_8 : a0_5.eval (.tmp 8) = .slice (some ⟨gw, 0, none⟩) n cw := by rw [ha5, ev_other _ _ _ _ (by decide)]; exact f4_8
  have f5_13 : a0_5.eval (.tmp 13) = .int .i64 j := by rw [ha5, ev_other _ _ _ _ (by decide)]; exact f4_13
  have f5_115 : a0_5.eval (.tmp 115) = .string ⟨bs.toArray⟩ := by rw [ha5]; exact ev_same _ _ _ (Nat.lt_of_le_of_lt (by decide) qz4)
  rw [← ha5] at h0 ⊢
  clear ha5
  refine wpAnyH_take (i := 5) (oi := y29_5 s) (v := .slice (some ⟨gw, 0, none⟩) n cw) (by kernel_rfl) (by kernel_rfl) (by kernel_rfl) (by kernel_rfl) (fun c a w h => hQ c _ _ _ w h) (Or.inl ⟨wanted_none rfl, fun w hw => by simp only [execOp, y29_5, f5_8]; rfl⟩) hS ?_
  change wpAnyH _ _ _ _ _ _ _ (a0_5.put (some 116) (.slice (some ⟨gw, 0, none⟩) n cw)) _
  obtain ⟨a0_6, ha6⟩ : ∃ rr : Act, rr = a0_5.put (some 116) (.slice (some ⟨gw, 0, none⟩) n cw) := ⟨_, rfl⟩
  have qz6 : 120 < a0_6.tmps.size := by rw [ha6, sz_put]; exact qz5
  have f6_13 : a0_6.eval (.tmp 13) = .int .i64 j := by rw [ha6, ev_other _ _ _ _ (by decide)]; exact f5_13
  have f6_115 : a0_6.eval (.tmp 115) = .string ⟨bs.toArray⟩ := by rw [ha6, ev_other _ _ _ _ (by decide)]; exact f5_115
  have f6_116 : a0_6.eval (.tmp 116) = .slice (some ⟨gw, 0, none⟩) n cw := by rw [ha6]; exact ev_same _ _ _ (Nat.lt_of_le_of_lt (by decide) qz5)
  rw [← ha6] at h0 ⊢
  clear ha6
  refine wpAnyH_take (i := 6) (oi := y29_6 s) (v := .int .i64 j) (by kernel_rfl) (by kernel_rfl) (by kernel_rfl) (by kernel_rfl) (fun c a w h => hQ c _ _ _ w h) (Or.inl ⟨wanted_none rfl, fun w hw => by simp only [execOp, y29_6, f6_13]; rfl⟩) hS ?_
  change wpAnyH _ _ _ _ _ _ _ (a0_6.put (some 117) (.int .i64 j)) _
  obtain ⟨a0_7, ha7⟩ : ∃ rr : Act, rr = a0_6.put (some 117) (.int .i64 j) := ⟨_, rfl⟩
  have qz7 : 120 < a0_7.tmps.size := by rw [ha7, sz_put]; exact qz6
  have f7_115 : a0_7.eval (.tmp 115) = .string ⟨bs.toArray⟩ := by rw [ha7, ev_other _ _ _ _ (by decide)]; exact f6_115
  have f7_116 : a0_7.eval (.tmp 116) = .slice (some ⟨gw, 0, none⟩) n cw := by rw [ha7, ev_other _ _ _ _ (by decide)]; exact f6_116
  have f7_117 : a0_7.eval (.tmp 117) = .int .i64 j := by rw [ha7]; exact ev_same _ _ _ (Nat.lt_of_le_of_lt (by decide) qz6)
  rw [← ha7] at h0 ⊢
  clear ha7
  refine wpAnyH_take (i := 7) (oi := y29_7 s) (v := .pointer (some ⟨gw, j, none⟩)) (by kernel_rfl) (by kernel_rfl) (by kernel_rfl) (by kernel_rfl) (fun c a w h => hQ c _ _ _ w h) (Or.inl ⟨wanted_none rfl, fun w hw => index_st rfl hj f7_116 f7_117 w⟩) hS ?_
  change wpAnyH _ _ _ _ _ _ _ (a0_7.put (some 118) (.pointer (some ⟨gw, j, none⟩))) _
  obtain ⟨a0_8, ha8⟩ : ∃ rr : Act, rr = a0_7.put (some 118) (.pointer (some ⟨gw, j, none⟩)) := ⟨_, rfl⟩
  have qz8 : 120 < a0_8.tmps.size := by rw [ha8, sz_put]; exact qz7
  have f8_115 : a0_8.eval (.tmp 115) = .string ⟨bs.toArray⟩ := by rw [ha8, ev_other _ _ _ _ (by decide)]; exact f7_115
  have f8_118 : a0_8.eval (.tmp 118) = .pointer (some ⟨gw, j, none⟩) := by rw [ha8]; exact ev_same _ _ _ (Nat.lt_of_le_of_lt (by decide) qz7)
  rw [← ha8] at h0 ⊢
  clear ha8
  refine wpAnyH_take (i := 8) (oi := y29_8 s) (v := .string ⟨bs.toArray⟩) (by kernel_rfl) (by kernel_rfl) (by kernel_rfl) (by kernel_rfl) (fun c a w h => hQ c _ _ _ w h) (Or.inl ⟨wanted_none rfl, fun w hw => run_load rfl f8_118 (load_st hw.1.2)⟩) hS ?_
  change wpAnyH _ _ _ _ _ _ _ (a0_8.put (some 119) (.string ⟨bs.toArray⟩)) _
  obtain ⟨a0_9, ha9⟩ : ∃ rr : Act, rr = a0_8.put (some 119) (.string ⟨bs.toArray⟩) := ⟨_, rfl⟩
  have qz9 : 120 < a0_9.tmps.size := by rw [ha9, sz_put]; exact qz8
  have f9_115 : a0_9.eval (.tmp 115) = .string ⟨bs.toArray⟩ := by rw [ha9, ev_other _ _ _ _ (by decide)]; exact f8_115
  have f9_119 : a0_9.eval (.tmp 119) = .string ⟨bs.toArray⟩ := by rw [ha9]; exact ev_same _ _ _ (Nat.lt_of_le_of_lt (by decide) qz8)
  rw [← ha9] at h0 ⊢
  clear ha9
  refine wpAnyH_take (i := 9) (oi := y29_9 s) (v := .bool false) (by kernel_rfl) (by kernel_rfl) (by kernel_rfl) (by kernel_rfl) (fun c a w h => hQ c _ _ _ w h) (Or.inl ⟨wanted_none rfl, fun w hw => run_neqSame rfl f9_115 f9_119 w⟩) hS ?_
  change wpAnyH _ _ _ _ _ _ _ (a0_9.put (some 120) (.bool false)) _
  obtain ⟨a0_10, ha10⟩ : ∃ rr : Act, rr = a0_9.put (some 120) (.bool false) := ⟨_, rfl⟩
  have qz10 : 120 < a0_10.tmps.size := by rw [ha10, sz_put]; exact qz9
  rw [← ha10] at h0 ⊢
  clear ha10
  refine wpAnyH_done (by kernel_rfl) ?_ _
  exact h0
end Go.Proofs.Ytinjcefekbpabaa
