/- A record read behind other bytes: the statement's region draws its order. -/
import Derived.Test.YtbnedlcldfpfdaaRW1
namespace Go.Proofs.Ytbnedlcldfpfdaa
set_option linter.unusedVariables false
set_option linter.unusedSimpArgs false
open Go.RowKit

theorem rowField (z : Nat) (w : World) : (Instr.fieldAt 33 (.pointer (some ⟨z, 0, none⟩)) 1).run Try.prog w = .ok (.pointer (some ⟨z, 1, none⟩)) w := by kernel_rfl
theorem load_sl {w : World} {b o : Nat} {v : Value} (h : w.cell? ⟨b, o, none⟩ = some v) : (Instr.loadAt 22 (.pointer (some ⟨b, o, none⟩))).run Try.prog w = .ok v w := by
  have hu := Try.underlying22
  simp [go_sem, h, hu]
theorem load_si {w : World} {b o : Nat} {v : Value} (h : w.cell? ⟨b, o, none⟩ = some v) : (Instr.loadAt 34 (.pointer (some ⟨b, o, none⟩))).run Try.prog w = .ok v w := by
  have hu := Try.underlying34
  simp [go_sem, h, hu]
theorem load_i {w : World} {b o : Nat} {v : Value} (h : w.cell? ⟨b, o, none⟩ = some v) : (Instr.loadAt 3 (.pointer (some ⟨b, o, none⟩))).run Try.prog w = .ok v w := by
  have hu := Try.underlying3
  simp [go_sem, h, hu]
theorem run_idxI {op : Oper} {ev : Operand → Value} {x y : Operand} {g n c j : Nat} (ho : op.op = .indexAddr 34 x y) (hx : ev x = .slice (some ⟨g, 0, none⟩) n c) (hy : ev y = .int .i64 (j : Int)) (h : (j : Int) < (n : Int)) (w : World) : (execOp ev op).run Try.prog w = .ok (.value (.pointer (some ⟨g, j, none⟩))) w := by
  have hu := Try.underlying34
  have hs := Try.sizeOf3
  simp only [execOp, ho, hx, hy]
  simp [go_sem, hu, hs, h]
theorem run_addI {op : Oper} {ev : Operand → Value} {x y : Operand} {u : TypeId} {p q r : Int} (ho : op.op = .binOp .add 3 x y u) (hx : ev x = .int .i64 p) (hy : ev y = .int .i64 q) (h : IntKind.i64.wrap (p + q) = r) (w : World) : (execOp ev op).run Try.prog w = .ok (.value (.int .i64 r)) w := by
  have hu := Try.underlying3
  simp only [execOp, ho, hx, hy]
  simp [go_sem, hu, h]
theorem run_lenB {op : Oper} {ev : Operand → Value} {x : Operand} {ao : Option Addr} {n c : Nat} (ho : op.op = .call { callee := .builtin .len, args := #[x], argTypes := #[22] }) (hx : ev x = .slice ao n c) (w : World) : (execOp ev op).run Try.prog w = .ok (.value (.int .i64 (n : Int))) w := by
  have hu := Try.underlying22
  simp only [execOp, ho]
  simp [hx, go_sem, hu]
def rw_0 (s : String) : Oper := { dst := some 153, op := Op.move (Operand.tmp 17), type := 22, pos := s, after := #[], guard := none }
def rw_1 (s : String) : Oper := { dst := some 154, op := Op.fieldAddr 33 (Operand.tmp 1) 1, type := 0, pos := s, after := #[], guard := none }
def rw_2 (s : String) : Oper := { dst := some 155, op := Op.load 22 (Operand.tmp 154), type := 22, pos := s, after := #[{ on := 1, ground := Ground.data }], guard := none }
def rw_3 (s : String) : Oper := { dst := some 156, op := Op.call { callee := Callee.builtin Builtin.len, args := #[Operand.tmp 155], argTypes := #[22] }, type := 3, pos := s, after := #[{ on := 2, ground := Ground.data }], guard := none }
def rw_4 (s : String) : Oper := { dst := some 157, op := Op.load 34 (Operand.tmp 6), type := 34, pos := s, after := #[], guard := none }
def rw_5 (s : String) : Oper := { dst := some 158, op := Op.move (Operand.tmp 18), type := 3, pos := s, after := #[], guard := none }
def rw_6 (s : String) : Oper := { dst := some 159, op := Op.indexAddr 34 (Operand.tmp 157) (Operand.tmp 158), type := 0, pos := s, after := #[{ on := 4, ground := Ground.data }, { on := 5, ground := Ground.data }], guard := none }
def rw_7 (s : String) : Oper := { dst := some 160, op := Op.load 3 (Operand.tmp 159), type := 3, pos := s, after := #[{ on := 6, ground := Ground.data }], guard := none }
def rw_8 (s : String) : Oper := { dst := some 161, op := Op.binOp BinOp.add 3 (Operand.tmp 156) (Operand.tmp 160) 3, type := 3, pos := s, after := #[{ on := 3, ground := Ground.data }, { on := 7, ground := Ground.data }], guard := none }
def rw_9 (s : String) : Oper := { dst := some 162, op := Op.call { callee := Callee.value (Operand.func 20), args := #[Operand.tmp 153, Operand.tmp 161], argTypes := #[22, 3] }, type := 44, pos := s, after := #[{ on := 0, ground := Ground.data }, { on := 8, ground := Ground.data }], guard := none }
def rw_10 (s : String) : Oper := { dst := some 152, op := Op.move (Operand.tmp 162), type := 44, pos := s, after := #[{ on := 9, ground := Ground.data }], guard := none }
def rw_11 (s : String) : Oper := { dst := some 163, op := Op.extract (Operand.tmp 152) 0, type := 22, pos := s, after := #[{ on := 10, ground := Ground.data }], guard := none }
def rw_12 (s : String) : Oper := { dst := some 164, op := Op.extract (Operand.tmp 152) 1, type := 3, pos := s, after := #[{ on := 10, ground := Ground.data }, { on := 14, ground := Ground.gcOnly Departure.lateStores }], guard := none }
def rw_13 (s : String) : Oper := { dst := some 165, op := Op.extract (Operand.tmp 152) 2, type := 35, pos := s, after := #[{ on := 10, ground := Ground.data }, { on := 15, ground := Ground.gcOnly Departure.lateStores }], guard := none }
def rw_14 (s : String) : Oper := { dst := some 19, op := Op.assign (Operand.tmp 163), type := 22, pos := s, after := #[{ on := 11, ground := Ground.data }, { on := 9, ground := Ground.chain }, { on := 0, ground := Ground.phase }, { on := 1, ground := Ground.phase }, { on := 2, ground := Ground.phase }, { on := 3, ground := Ground.phase }, { on := 4, ground := Ground.phase }, { on := 5, ground := Ground.phase }, { on := 6, ground := Ground.phase }, { on := 7, ground := Ground.phase }, { on := 8, ground := Ground.phase }, { on := 9, ground := Ground.phase }, { on := 10, ground := Ground.phase }, { on := 11, ground := Ground.phase }, { on := 12, ground := Ground.textOnly Departure.lateStores }, { on := 13, ground := Ground.textOnly Departure.lateStores }], guard := none }
def rw_15 (s : String) : Oper := { dst := some 20, op := Op.assign (Operand.tmp 164), type := 3, pos := s, after := #[{ on := 12, ground := Ground.data }, { on := 14, ground := Ground.chain }, { on := 0, ground := Ground.phase }, { on := 1, ground := Ground.phase }, { on := 2, ground := Ground.phase }, { on := 3, ground := Ground.phase }, { on := 4, ground := Ground.phase }, { on := 5, ground := Ground.phase }, { on := 6, ground := Ground.phase }, { on := 7, ground := Ground.phase }, { on := 8, ground := Ground.phase }, { on := 9, ground := Ground.phase }, { on := 10, ground := Ground.phase }, { on := 11, ground := Ground.phase }, { on := 12, ground := Ground.phase }, { on := 13, ground := Ground.textOnly Departure.lateStores }, { on := 14, ground := Ground.phase }], guard := none }
def rw_16 (s : String) : Oper := { dst := some 21, op := Op.assign (Operand.tmp 165), type := 35, pos := s, after := #[{ on := 13, ground := Ground.data }, { on := 15, ground := Ground.chain }, { on := 0, ground := Ground.phase }, { on := 1, ground := Ground.phase }, { on := 2, ground := Ground.phase }, { on := 3, ground := Ground.phase }, { on := 4, ground := Ground.phase }, { on := 5, ground := Ground.phase }, { on := 6, ground := Ground.phase }, { on := 7, ground := Ground.phase }, { on := 8, ground := Ground.phase }, { on := 9, ground := Ground.phase }, { on := 10, ground := Ground.phase }, { on := 11, ground := Ground.phase }, { on := 12, ground := Ground.phase }, { on := 13, ground := Ground.phase }, { on := 14, ground := Ground.phase }, { on := 15, ground := Ground.phase }], guard := none }
def rw_ops (s : String) : Array Oper := #[rw_0 s, rw_1 s, rw_2 s, rw_3 s, rw_4 s, rw_5 s, rw_6 s, rw_7 s, rw_8 s, rw_9 s, rw_10 s, rw_11 s, rw_12 s, rw_13 s, rw_14 s, rw_15 s, rw_16 s]
theorem rw_enter9 (s : String) (a : Act) (w : World) : (execOp a.eval (rw_9 s)).run Try.prog w = .ok (.enter 20 #[a.eval (.tmp 153), a.eval (.tmp 161)]) w := by kernel_rfl
set_option maxRecDepth 20000 in
set_option maxHeartbeats 2000000 in
theorem rw_walk (s : String) {Q : Exit → Act → World → Prop} (hQ : ∀ c (a : Act) t v w, Q (.panic c) (a.put (some t) v) w → Q (.panic c) a w) (W : World) (z0 z6 gt n5 c5 m ca N cat j oj pos ml : Nat) (a5 ao : Option Addr) (body : List UInt8) (hcl : W.cell? ⟨z0, 1, none⟩ = some (.slice ao m ca) ∧ W.cell? ⟨z6, 0, none⟩ = some (.slice (some ⟨gt, 0, none⟩) N cat) ∧ W.cell? ⟨gt, j, none⟩ = some (.int .i64 (oj : Int))) (hjN : (j : Int) < (N : Int)) (hpos : IntKind.i64.wrap ((m : Int) + (oj : Int)) = (pos : Int)) (hU : Calls Try.prog 20 #[.slice a5 n5 c5, .int .i64 (pos : Int)] W.drew (UnpackC W.drew (body, ml, 0)))
    (a : Act) (hs : 165 < a.tmps.size) (e1 : a.eval (.tmp 1) = .pointer (some ⟨z0, 0, none⟩)) (e6 : a.eval (.tmp 6) = .pointer (some ⟨z6, 0, none⟩)) (e17 : a.eval (.tmp 17) = .slice a5 n5 c5) (e18 : a.eval (.tmp 18) = .int .i64 (j : Int))
    (h0 : ∀ (v6 : Value) (w6 : World), OwnsB w6 W.heap.size v6 body → Below W.heap.size W w6 → Q .normal (((((((((((((((((a.put (some 153) (.slice a5 n5 c5)).put (some 154) (.pointer (some ⟨z0, 1, none⟩))).put (some 155) (.slice ao m ca)).put (some 156) (.int .i64 (m : Int))).put (some 157) (.slice (some ⟨gt, 0, none⟩) N cat)).put (some 158) (.int .i64 (j : Int))).put (some 159) (.pointer (some ⟨gt, j, none⟩))).put (some 160) (.int .i64 (oj : Int))).put (some 161) (.int .i64 (pos : Int))).put (some 162) (.tuple #[v6, .int .i64 (ml : Int), .int .i64 0])).put (some 152) (.tuple #[v6, .int .i64 (ml : Int), .int .i64 0])).put (some 163) (v6)).put (some 164) (.int .i64 (ml : Int))).put (some 165) (.int .i64 0)).put (some 19) (v6)).put (some 20) (.int .i64 (ml : Int))).put (some 21) (.int .i64 0)) w6) :
    Code.wp Try.prog (.region 38 (rw_ops s) true) Q a W := by
  have hkeep : ∀ W', Below W.heap.size W W' → W'.cell? ⟨z0, 1, none⟩ = some (.slice ao m ca) ∧ W'.cell? ⟨z6, 0, none⟩ = some (.slice (some ⟨gt, 0, none⟩) N cat) ∧ W'.cell? ⟨gt, j, none⟩ = some (.int .i64 (oj : Int)) := fun W' hb => ⟨(hb.cell (World.block_lt_of_cell? W _ hcl.1)).trans hcl.1, (hb.cell (World.block_lt_of_cell? W _ hcl.2.1)).trans hcl.2.1, (hb.cell (World.block_lt_of_cell? W _ hcl.2.2)).trans hcl.2.2⟩
  refine wp_region_held_drew (S := fun W' => W'.cell? ⟨z0, 1, none⟩ = some (.slice ao m ca) ∧ W'.cell? ⟨z6, 0, none⟩ = some (.slice (some ⟨gt, 0, none⟩) N cat) ∧ W'.cell? ⟨gt, j, none⟩ = some (.int .i64 (oj : Int))) (by kernel_rfl) hcl (fun hS => ?_)
  change wpAnyH _ _ _ _ _ _ _ _ (World.drew _)
  refine wpAnyH_take (i := 0) (oi := rw_0 s) (v := .slice a5 n5 c5) (by kernel_rfl) (by kernel_rfl) (by kernel_rfl) (by kernel_rfl) (fun c a w h => hQ c _ _ _ w h) (Or.inl ⟨wanted_none rfl, fun w hw => by simp only [execOp, rw_0, e17]; rfl⟩) hS ?_
  change wpAnyH _ _ _ _ _ _ _ (a.put (some 153) (.slice a5 n5 c5)) _
  obtain ⟨a0_1, ha1⟩ : ∃ rr : Act, rr = a.put (some 153) (.slice a5 n5 c5) := ⟨_, rfl⟩
  have qz1 : 165 < a0_1.tmps.size := by rw [ha1, sz_put]; exact hs
  have f1_1 : a0_1.eval (.tmp 1) = .pointer (some ⟨z0, 0, none⟩) := by rw [ha1, ev_other _ _ _ _ (by decide)]; exact e1
  have f1_6 : a0_1.eval (.tmp 6) = .pointer (some ⟨z6, 0, none⟩) := by rw [ha1, ev_other _ _ _ _ (by decide)]; exact e6
  have f1_18 : a0_1.eval (.tmp 18) = .int .i64 (j : Int) := by rw [ha1, ev_other _ _ _ _ (by decide)]; exact e18
  have f1_153 : a0_1.eval (.tmp 153) = .slice a5 n5 c5 := by rw [ha1]; exact ev_same _ _ _ (Nat.lt_of_le_of_lt (by decide) hs)
  rw [← ha1] at h0 ⊢
  clear ha1
  refine wpAnyH_take (i := 1) (oi := rw_1 s) (v := .pointer (some ⟨z0, 1, none⟩)) (by kernel_rfl) (by kernel_rfl) (by kernel_rfl) (by kernel_rfl) (fun c a w h => hQ c _ _ _ w h) (Or.inl ⟨wanted_none rfl, fun w hw => by simp only [execOp, rw_1, f1_1, Sem.run_bind, rowField, Result.andThen_ok, Sem.run_pure]⟩) hS ?_
  change wpAnyH _ _ _ _ _ _ _ (a0_1.put (some 154) (.pointer (some ⟨z0, 1, none⟩))) _
  obtain ⟨a0_2, ha2⟩ : ∃ rr : Act, rr = a0_1.put (some 154) (.pointer (some ⟨z0, 1, none⟩)) := ⟨_, rfl⟩
  have qz2 : 165 < a0_2.tmps.size := by rw [ha2, sz_put]; exact qz1
  have f2_6 : a0_2.eval (.tmp 6) = .pointer (some ⟨z6, 0, none⟩) := by rw [ha2, ev_other _ _ _ _ (by decide)]; exact f1_6
  have f2_18 : a0_2.eval (.tmp 18) = .int .i64 (j : Int) := by rw [ha2, ev_other _ _ _ _ (by decide)]; exact f1_18
  have f2_153 : a0_2.eval (.tmp 153) = .slice a5 n5 c5 := by rw [ha2, ev_other _ _ _ _ (by decide)]; exact f1_153
  have f2_154 : a0_2.eval (.tmp 154) = .pointer (some ⟨z0, 1, none⟩) := by rw [ha2]; exact ev_same _ _ _ (Nat.lt_of_le_of_lt (by decide) qz1)
  rw [← ha2] at h0 ⊢
  clear ha2
  refine wpAnyH_take (i := 2) (oi := rw_2 s) (v := .slice ao m ca) (by kernel_rfl) (by kernel_rfl) (by kernel_rfl) (by kernel_rfl) (fun c a w h => hQ c _ _ _ w h) (Or.inl ⟨wanted_none rfl, fun w hw => run_load rfl f2_154 (load_sl hw.1)⟩) hS ?_
  change wpAnyH _ _ _ _ _ _ _ (a0_2.put (some 155) (.slice ao m ca)) _
  obtain ⟨a0_3, ha3⟩ : ∃ rr : Act, rr = a0_2.put (some 155) (.slice ao m ca) := ⟨_, rfl⟩
  have qz3 : 165 < a0_3.tmps.size := by rw [ha3, sz_put]; exact qz2
  have f3_6 : a0_3.eval (.tmp 6) = .pointer (some ⟨z6, 0, none⟩) := by rw [ha3, ev_other _ _ _ _ (by decide)]; exact f2_6
  have f3_18 : a0_3.eval (.tmp 18) = .int .i64 (j : Int) := by rw [ha3, ev_other _ _ _ _ (by decide)]; exact f2_18
  have f3_153 : a0_3.eval (.tmp 153) = .slice a5 n5 c5 := by rw [ha3, ev_other _ _ _ _ (by decide)]; exact f2_153
  have f3_155 : a0_3.eval (.tmp 155) = .slice ao m ca := by rw [ha3]; exact ev_same _ _ _ (Nat.lt_of_le_of_lt (by decide) qz2)
  rw [← ha3] at h0 ⊢
  clear ha3
  refine wpAnyH_take (i := 3) (oi := rw_3 s) (v := .int .i64 (m : Int)) (by kernel_rfl) (by kernel_rfl) (by kernel_rfl) (by kernel_rfl) (fun c a w h => hQ c _ _ _ w h) (Or.inl ⟨wanted_none rfl, fun w hw => run_lenB rfl f3_155 w⟩) hS ?_
  change wpAnyH _ _ _ _ _ _ _ (a0_3.put (some 156) (.int .i64 (m : Int))) _
  obtain ⟨a0_4, ha4⟩ : ∃ rr : Act, rr = a0_3.put (some 156) (.int .i64 (m : Int)) := ⟨_, rfl⟩
  have qz4 : 165 < a0_4.tmps.size := by rw [ha4, sz_put]; exact qz3
  have f4_6 : a0_4.eval (.tmp 6) = .pointer (some ⟨z6, 0, none⟩) := by rw [ha4, ev_other _ _ _ _ (by decide)]; exact f3_6
  have f4_18 : a0_4.eval (.tmp 18) = .int .i64 (j : Int) := by rw [ha4, ev_other _ _ _ _ (by decide)]; exact f3_18
  have f4_153 : a0_4.eval (.tmp 153) = .slice a5 n5 c5 := by rw [ha4, ev_other _ _ _ _ (by decide)]; exact f3_153
  have f4_156 : a0_4.eval (.tmp 156) = .int .i64 (m : Int) := by rw [ha4]; exact ev_same _ _ _ (Nat.lt_of_le_of_lt (by decide) qz3)
  rw [← ha4] at h0 ⊢
  clear ha4
  refine wpAnyH_take (i := 4) (oi := rw_4 s) (v := .slice (some ⟨gt, 0, none⟩) N cat) (by kernel_rfl) (by kernel_rfl) (by kernel_rfl) (by kernel_rfl) (fun c a w h => hQ c _ _ _ w h) (Or.inl ⟨wanted_none rfl, fun w hw => run_load rfl f4_6 (load_si hw.2.1)⟩) hS ?_
  change wpAnyH _ _ _ _ _ _ _ (a0_4.put (some 157) (.slice (some ⟨gt, 0, none⟩) N cat)) _
  obtain ⟨a0_5, ha5⟩ : ∃ rr : Act, rr = a0_4.put (some 157) (.slice (some ⟨gt, 0, none⟩) N cat) := ⟨_, rfl⟩
  have qz5 : 165 < a0_5.tmps.size := by rw [ha5, sz_put]; exact qz4
  have f5_18 : a0_5.eval (.tmp 18) = .int .i64 (j : Int) := by rw [ha5, ev_other _ _ _ _ (by decide)]; exact f4_18
  have f5_153 : a0_5.eval (.tmp 153) = .slice a5 n5 c5 := by rw [ha5, ev_other _ _ _ _ (by decide)]; exact f4_153
  have f5_156 : a0_5.eval (.tmp 156) = .int .i64 (m : Int) := by rw [ha5, ev_other _ _ _ _ (by decide)]; exact f4_156
  have f5_157 : a0_5.eval (.tmp 157) = .slice (some ⟨gt, 0, none⟩) N cat := by rw [ha5]; exact ev_same _ _ _ (Nat.lt_of_le_of_lt (by decide) qz4)
  rw [← ha5] at h0 ⊢
  clear ha5
  refine wpAnyH_take (i := 5) (oi := rw_5 s) (v := .int .i64 (j : Int)) (by kernel_rfl) (by kernel_rfl) (by kernel_rfl) (by kernel_rfl) (fun c a w h => hQ c _ _ _ w h) (Or.inl ⟨wanted_none rfl, fun w hw => by simp only [execOp, rw_5, f5_18]; rfl⟩) hS ?_
  change wpAnyH _ _ _ _ _ _ _ (a0_5.put (some 158) (.int .i64 (j : Int))) _
  obtain ⟨a0_6, ha6⟩ : ∃ rr : Act, rr = a0_5.put (some 158) (.int .i64 (j : Int)) := ⟨_, rfl⟩
  have qz6 : 165 < a0_6.tmps.size := by rw [ha6, sz_put]; exact qz5
  have f6_153 : a0_6.eval (.tmp 153) = .slice a5 n5 c5 := by rw [ha6, ev_other _ _ _ _ (by decide)]; exact f5_153
  have f6_156 : a0_6.eval (.tmp 156) = .int .i64 (m : Int) := by rw [ha6, ev_other _ _ _ _ (by decide)]; exact f5_156
  have f6_157 : a0_6.eval (.tmp 157) = .slice (some ⟨gt, 0, none⟩) N cat := by rw [ha6, ev_other _ _ _ _ (by decide)]; exact f5_157
  have f6_158 : a0_6.eval (.tmp 158) = .int .i64 (j : Int) := by rw [ha6]; exact ev_same _ _ _ (Nat.lt_of_le_of_lt (by decide) qz5)
  rw [← ha6] at h0 ⊢
  clear ha6
  refine wpAnyH_take (i := 6) (oi := rw_6 s) (v := .pointer (some ⟨gt, j, none⟩)) (by kernel_rfl) (by kernel_rfl) (by kernel_rfl) (by kernel_rfl) (fun c a w h => hQ c _ _ _ w h) (Or.inl ⟨wanted_none rfl, fun w hw => run_idxI rfl f6_157 f6_158 hjN w⟩) hS ?_
  change wpAnyH _ _ _ _ _ _ _ (a0_6.put (some 159) (.pointer (some ⟨gt, j, none⟩))) _
  obtain ⟨a0_7, ha7⟩ : ∃ rr : Act, rr = a0_6.put (some 159) (.pointer (some ⟨gt, j, none⟩)) := ⟨_, rfl⟩
  have qz7 : 165 < a0_7.tmps.size := by rw [ha7, sz_put]; exact qz6
  have f7_153 : a0_7.eval (.tmp 153) = .slice a5 n5 c5 := by rw [ha7, ev_other _ _ _ _ (by decide)]; exact f6_153
  have f7_156 : a0_7.eval (.tmp 156) = .int .i64 (m : Int) := by rw [ha7, ev_other _ _ _ _ (by decide)]; exact f6_156
  have f7_159 : a0_7.eval (.tmp 159) = .pointer (some ⟨gt, j, none⟩) := by rw [ha7]; exact ev_same _ _ _ (Nat.lt_of_le_of_lt (by decide) qz6)
  rw [← ha7] at h0 ⊢
  clear ha7
  refine wpAnyH_take (i := 7) (oi := rw_7 s) (v := .int .i64 (oj : Int)) (by kernel_rfl) (by kernel_rfl) (by kernel_rfl) (by kernel_rfl) (fun c a w h => hQ c _ _ _ w h) (Or.inl ⟨wanted_none rfl, fun w hw => run_load rfl f7_159 (load_i hw.2.2)⟩) hS ?_
  change wpAnyH _ _ _ _ _ _ _ (a0_7.put (some 160) (.int .i64 (oj : Int))) _
  obtain ⟨a0_8, ha8⟩ : ∃ rr : Act, rr = a0_7.put (some 160) (.int .i64 (oj : Int)) := ⟨_, rfl⟩
  have qz8 : 165 < a0_8.tmps.size := by rw [ha8, sz_put]; exact qz7
  have f8_153 : a0_8.eval (.tmp 153) = .slice a5 n5 c5 := by rw [ha8, ev_other _ _ _ _ (by decide)]; exact f7_153
  have f8_156 : a0_8.eval (.tmp 156) = .int .i64 (m : Int) := by rw [ha8, ev_other _ _ _ _ (by decide)]; exact f7_156
  have f8_160 : a0_8.eval (.tmp 160) = .int .i64 (oj : Int) := by rw [ha8]; exact ev_same _ _ _ (Nat.lt_of_le_of_lt (by decide) qz7)
  rw [← ha8] at h0 ⊢
  clear ha8
  refine wpAnyH_take (i := 8) (oi := rw_8 s) (v := .int .i64 (pos : Int)) (by kernel_rfl) (by kernel_rfl) (by kernel_rfl) (by kernel_rfl) (fun c a w h => hQ c _ _ _ w h) (Or.inl ⟨wanted_none rfl, fun w hw => run_addI rfl f8_156 f8_160 hpos w⟩) hS ?_
  change wpAnyH _ _ _ _ _ _ _ (a0_8.put (some 161) (.int .i64 (pos : Int))) _
  obtain ⟨a0_9, ha9⟩ : ∃ rr : Act, rr = a0_8.put (some 161) (.int .i64 (pos : Int)) := ⟨_, rfl⟩
  have qz9 : 165 < a0_9.tmps.size := by rw [ha9, sz_put]; exact qz8
  have f9_153 : a0_9.eval (.tmp 153) = .slice a5 n5 c5 := by rw [ha9, ev_other _ _ _ _ (by decide)]; exact f8_153
  have f9_161 : a0_9.eval (.tmp 161) = .int .i64 (pos : Int) := by rw [ha9]; exact ev_same _ _ _ (Nat.lt_of_le_of_lt (by decide) qz8)
  rw [← ha9] at h0 ⊢
  clear ha9
  refine wpAnyH_ready (rs := [9]) (by kernel_rfl) (by simp) ?_
  refine AllReadyH.cons (o := rw_9 s) (by kernel_rfl) (fun KQ hKQ => ?_) AllReadyH.nil
  rw [if_pos (wanted_none rfl)]
  refine step_enterE 20 #[.slice a5 n5 c5, .int .i64 (pos : Int)] (by rw [rw_enter9, f9_153, f9_161]) (fun V w' => ∃ v6, V = .tuple #[v6, .int .i64 (ml : Int), .int .i64 0] ∧ OwnsB w' W.heap.size v6 body ∧ Below W.heap.size W w') (hU.mono (fun e w' h => by obtain ⟨v', h1, h2, h3⟩ := h; exact ⟨_, h1, v', rfl, h2, ⟨h3.os, h3.tape, h3.output, h3.size, h3.block⟩⟩)) ?_
  rintro _ w6 ⟨v6, rfl, hO6, hb6⟩
  have hT6 := hkeep w6 hb6
  refine hKQ.out _ _ (hT6) (fun _ => ?_)
  clear hKQ KQ
  change wpAnyH _ _ _ _ _ _ _ (a0_9.put (some 162) (.tuple #[v6, .int .i64 (ml : Int), .int .i64 0])) _
  have h0 := h0 v6 w6 hO6 hb6
  obtain ⟨a0_10, ha10⟩ : ∃ rr : Act, rr = a0_9.put (some 162) (.tuple #[v6, .int .i64 (ml : Int), .int .i64 0]) := ⟨_, rfl⟩
  have qz10 : 165 < a0_10.tmps.size := by rw [ha10, sz_put]; exact qz9
  have f10_162 : a0_10.eval (.tmp 162) = .tuple #[v6, .int .i64 (ml : Int), .int .i64 0] := by rw [ha10]; exact ev_same _ _ _ (Nat.lt_of_le_of_lt (by decide) qz9)
  rw [← ha10] at h0 ⊢
  clear ha10
  refine wpAnyH_take (i := 10) (oi := rw_10 s) (v := .tuple #[v6, .int .i64 (ml : Int), .int .i64 0]) (by kernel_rfl) (by kernel_rfl) (by kernel_rfl) (by kernel_rfl) (fun c a w h => hQ c _ _ _ w h) (Or.inl ⟨wanted_none rfl, fun w hw => by simp only [execOp, rw_10, f10_162]; rfl⟩) hT6 ?_
  change wpAnyH _ _ _ _ _ _ _ (a0_10.put (some 152) (.tuple #[v6, .int .i64 (ml : Int), .int .i64 0])) _
  obtain ⟨a0_11, ha11⟩ : ∃ rr : Act, rr = a0_10.put (some 152) (.tuple #[v6, .int .i64 (ml : Int), .int .i64 0]) := ⟨_, rfl⟩
  have qz11 : 165 < a0_11.tmps.size := by rw [ha11, sz_put]; exact qz10
  have f11_152 : a0_11.eval (.tmp 152) = .tuple #[v6, .int .i64 (ml : Int), .int .i64 0] := by rw [ha11]; exact ev_same _ _ _ (Nat.lt_of_le_of_lt (by decide) qz10)
  rw [← ha11] at h0 ⊢
  clear ha11
  refine wpAnyH_take (i := 11) (oi := rw_11 s) (v := v6) (by kernel_rfl) (by kernel_rfl) (by kernel_rfl) (by kernel_rfl) (fun c a w h => hQ c _ _ _ w h) (Or.inl ⟨wanted_none rfl, fun w hw => by simp only [execOp, rw_11, f11_152]; rfl⟩) hT6 ?_
  change wpAnyH _ _ _ _ _ _ _ (a0_11.put (some 163) (v6)) _
  obtain ⟨a0_12, ha12⟩ : ∃ rr : Act, rr = a0_11.put (some 163) (v6) := ⟨_, rfl⟩
  have qz12 : 165 < a0_12.tmps.size := by rw [ha12, sz_put]; exact qz11
  have f12_152 : a0_12.eval (.tmp 152) = .tuple #[v6, .int .i64 (ml : Int), .int .i64 0] := by rw [ha12, ev_other _ _ _ _ (by decide)]; exact f11_152
  have f12_163 : a0_12.eval (.tmp 163) = v6 := by rw [ha12]; exact ev_same _ _ _ (Nat.lt_of_le_of_lt (by decide) qz11)
  rw [← ha12] at h0 ⊢
  clear ha12
  refine wpAnyH_take (i := 12) (oi := rw_12 s) (v := .int .i64 (ml : Int)) (by kernel_rfl) (by kernel_rfl) (by kernel_rfl) (by kernel_rfl) (fun c a w h => hQ c _ _ _ w h) (Or.inl ⟨wanted_none rfl, fun w hw => by simp only [execOp, rw_12, f12_152]; rfl⟩) hT6 ?_
  change wpAnyH _ _ _ _ _ _ _ (a0_12.put (some 164) (.int .i64 (ml : Int))) _
  obtain ⟨a0_13, ha13⟩ : ∃ rr : Act, rr = a0_12.put (some 164) (.int .i64 (ml : Int)) := ⟨_, rfl⟩
  have qz13 : 165 < a0_13.tmps.size := by rw [ha13, sz_put]; exact qz12
  have f13_152 : a0_13.eval (.tmp 152) = .tuple #[v6, .int .i64 (ml : Int), .int .i64 0] := by rw [ha13, ev_other _ _ _ _ (by decide)]; exact f12_152
  have f13_163 : a0_13.eval (.tmp 163) = v6 := by rw [ha13, ev_other _ _ _ _ (by decide)]; exact f12_163
  have f13_164 : a0_13.eval (.tmp 164) = .int .i64 (ml : Int) := by rw [ha13]; exact ev_same _ _ _ (Nat.lt_of_le_of_lt (by decide) qz12)
  rw [← ha13] at h0 ⊢
  clear ha13
  refine wpAnyH_take (i := 13) (oi := rw_13 s) (v := .int .i64 0) (by kernel_rfl) (by kernel_rfl) (by kernel_rfl) (by kernel_rfl) (fun c a w h => hQ c _ _ _ w h) (Or.inl ⟨wanted_none rfl, fun w hw => by simp only [execOp, rw_13, f13_152]; rfl⟩) hT6 ?_
  change wpAnyH _ _ _ _ _ _ _ (a0_13.put (some 165) (.int .i64 0)) _
  obtain ⟨a0_14, ha14⟩ : ∃ rr : Act, rr = a0_13.put (some 165) (.int .i64 0) := ⟨_, rfl⟩
  have qz14 : 165 < a0_14.tmps.size := by rw [ha14, sz_put]; exact qz13
  have f14_163 : a0_14.eval (.tmp 163) = v6 := by rw [ha14, ev_other _ _ _ _ (by decide)]; exact f13_163
  have f14_164 : a0_14.eval (.tmp 164) = .int .i64 (ml : Int) := by rw [ha14, ev_other _ _ _ _ (by decide)]; exact f13_164
  have f14_165 : a0_14.eval (.tmp 165) = .int .i64 0 := by rw [ha14]; exact ev_same _ _ _ (Nat.lt_of_le_of_lt (by decide) qz13)
  rw [← ha14] at h0 ⊢
  clear ha14
  refine wpAnyH_take (i := 14) (oi := rw_14 s) (v := v6) (by kernel_rfl) (by kernel_rfl) (by kernel_rfl) (by kernel_rfl) (fun c a w h => hQ c _ _ _ w h) (Or.inl ⟨wanted_none rfl, fun w hw => by simp only [execOp, rw_14, f14_163]; rfl⟩) hT6 ?_
  change wpAnyH _ _ _ _ _ _ _ (a0_14.put (some 19) (v6)) _
  obtain ⟨a0_15, ha15⟩ : ∃ rr : Act, rr = a0_14.put (some 19) (v6) := ⟨_, rfl⟩
  have qz15 : 165 < a0_15.tmps.size := by rw [ha15, sz_put]; exact qz14
  have f15_164 : a0_15.eval (.tmp 164) = .int .i64 (ml : Int) := by rw [ha15, ev_other _ _ _ _ (by decide)]; exact f14_164
  have f15_165 : a0_15.eval (.tmp 165) = .int .i64 0 := by rw [ha15, ev_other _ _ _ _ (by decide)]; exact f14_165
  rw [← ha15] at h0 ⊢
  clear ha15
  refine wpAnyH_take (i := 15) (oi := rw_15 s) (v := .int .i64 (ml : Int)) (by kernel_rfl) (by kernel_rfl) (by kernel_rfl) (by kernel_rfl) (fun c a w h => hQ c _ _ _ w h) (Or.inl ⟨wanted_none rfl, fun w hw => by simp only [execOp, rw_15, f15_164]; rfl⟩) hT6 ?_
  change wpAnyH _ _ _ _ _ _ _ (a0_15.put (some 20) (.int .i64 (ml : Int))) _
  obtain ⟨a0_16, ha16⟩ : ∃ rr : Act, rr = a0_15.put (some 20) (.int .i64 (ml : Int)) := ⟨_, rfl⟩
  have qz16 : 165 < a0_16.tmps.size := by rw [ha16, sz_put]; exact qz15
  have f16_165 : a0_16.eval (.tmp 165) = .int .i64 0 := by rw [ha16, ev_other _ _ _ _ (by decide)]; exact f15_165
  rw [← ha16] at h0 ⊢
  clear ha16
  refine wpAnyH_take (i := 16) (oi := rw_16 s) (v := .int .i64 0) (by kernel_rfl) (by kernel_rfl) (by kernel_rfl) (by kernel_rfl) (fun c a w h => hQ c _ _ _ w h) (Or.inl ⟨wanted_none rfl, fun w hw => by simp only [execOp, rw_16, f16_165]; rfl⟩) hT6 ?_
  change wpAnyH _ _ _ _ _ _ _ (a0_16.put (some 21) (.int .i64 0)) _
  obtain ⟨a0_17, ha17⟩ : ∃ rr : Act, rr = a0_16.put (some 21) (.int .i64 0) := ⟨_, rfl⟩
  have qz17 : 165 < a0_17.tmps.size := by rw [ha17, sz_put]; exact qz16
  rw [← ha17] at h0 ⊢
  clear ha17
  refine wpAnyH_done (by kernel_rfl) ?_ _
  exact h0
end Go.Proofs.Ytbnedlcldfpfdaa
