/- index.New: the region that makes a table. -/
import Derived.Test.YtdigjpddmfolgaaXN
import Derived.Test.YtdigjpddmfolgaaXR
import Derived.Test.YtdigjpddmfolgaaXH0
namespace Go.Proofs.Ytdigjpddmfolgaa
set_option linter.unusedVariables false
set_option linter.unusedSimpArgs false
namespace TX
set_option maxRecDepth 100000
set_option maxHeartbeats 8000000
open Go.RowKit Go.Sort

abbrev IT : TypeId := 68
abbrev PT : TypeId := 65
abbrev AST : TypeId := 66
theorem fI0 (z : Nat) (w : World) : (Instr.fieldAt IT (.pointer (some ⟨z, 0, none⟩)) 0).run Try.prog w = .ok (.pointer (some ⟨z, 0, none⟩)) w := by kernel_rfl
theorem uA16 : Try.prog.underlying AST = some (.array 16 PT) := Try.underlying66
theorem szP (w : World) : (sizeOf PT).run Try.prog w = .ok 1 w := by kernel_rfl
theorem run_ix16 {op : Oper} {ev : Operand → Value} {x y : Operand} {g j : Nat} (ho : op.op = .indexAddr AST x y) (hx : ev x = .pointer (some ⟨g, 0, none⟩)) (hy : ev y = .int .i64 (j : Int)) (h : j < 16) (w : World) : (execOp ev op).run Try.prog w = .ok (.value (.pointer (some ⟨g, j, none⟩))) w := by
  have hu := uA16
  have hs := szP
  have h1 : (j : Int) < 16 := by omega
  simp only [execOp, ho, hx, hy]
  simp [go_sem, hu, hs, h1]
theorem load_pt {w : World} {b o : Nat} {v : Value} (h : w.cell? ⟨b, o, none⟩ = some v) : (Instr.loadAt PT (.pointer (some ⟨b, o, none⟩))).run Try.prog w = .ok v w := by
  have hu := Try.underlying65
  simp [go_sem, h, hu]
theorem run_stPt {op : Oper} {ev : Operand → Value} {x y : Operand} {b o q : Nat} {v : Value} {w : World} (ho : op.op = .store PT x y) (hx : ev x = .pointer (some ⟨b, o, none⟩)) (hy : ev y = .pointer (some ⟨q, 0, none⟩)) (hc : w.cell? ⟨b, o, none⟩ = some v) (hf : w.frozen? ⟨b, o, none⟩ = false) : (execOp ev op).run Try.prog w = .ok .skip (w.setCell ⟨b, o, none⟩ (.pointer (some ⟨q, 0, none⟩))) := by
  have hu := Try.underlying65
  simp only [execOp, ho, hx, hy]
  simp [go_sem, hu, hc, hf]
def nx5_0 (s : String) : Oper := { dst := some 8, op := Op.move (Operand.tmp 1), type := 24, pos := s, after := #[], guard := none }
def nx5_1 (s : String) : Oper := { dst := some 9, op := Op.move (Operand.tmp 2), type := 3, pos := s, after := #[], guard := none }
def nx5_2 (s : String) : Oper := { dst := some 10, op := Op.call { callee := Callee.value (Operand.func 19), args := #[Operand.func 20], argTypes := #[70] }, type := 65, pos := s, after := #[], guard := none }
def nx5_3 (s : String) : Oper := { dst := some 11, op := Op.nilCheck (Operand.tmp 8), type := 0, pos := s, after := #[{ on := 0, ground := Ground.data }], guard := none }
def nx5_4 (s : String) : Oper := { dst := some 12, op := Op.fieldAddr 68 (Operand.tmp 11) 0, type := 0, pos := s, after := #[{ on := 3, ground := Ground.data }], guard := none }
def nx5_5 (s : String) : Oper := { dst := some 13, op := Op.indexAddr 66 (Operand.tmp 12) (Operand.tmp 9), type := 0, pos := s, after := #[{ on := 4, ground := Ground.data }, { on := 1, ground := Ground.data }, { on := 0, ground := Ground.phase }, { on := 1, ground := Ground.phase }, { on := 2, ground := Ground.phase }], guard := none }
def nx5_6 (s : String) : Oper := { dst := none, op := Op.store 65 (Operand.tmp 13) (Operand.tmp 10), type := 0, pos := s, after := #[{ on := 5, ground := Ground.data }, { on := 2, ground := Ground.data }, { on := 2, ground := Ground.chain }, { on := 0, ground := Ground.phase }, { on := 1, ground := Ground.phase }, { on := 2, ground := Ground.phase }], guard := none }
def nx5_ops (s : String) : Array Oper := #[nx5_0 s, nx5_1 s, nx5_2 s, nx5_3 s, nx5_4 s, nx5_5 s, nx5_6 s]
theorem nx5_enter2 (s : String) (a : Act) (w : World) : (execOp a.eval (nx5_2 s)).run Try.prog w = .ok (.enter 19 #[.func (.func 20) #[] #[]]) w := by kernel_rfl
theorem nx5_walk (s : String) {Q : Exit → Act → World → Prop} (hQ : ∀ c (a : Act) t v w, Q (.panic c) (a.put (some t) v) w → Q (.panic c) a w) (W : World) (x i : Nat) (cs : Array Value) (v : Value) (hx : Blk W.drew x cs IT) (hc : cs[i]? = some v) (hi : i < 16)
    (a : Act) (hs : 13 < a.tmps.size) (e1 : a.eval (.tmp 1) = .pointer (some ⟨x, 0, none⟩)) (e2 : a.eval (.tmp 2) = .int .i64 (i : Int))
    (h0 : ∀ (z g : Nat) (w1 : World), TbM w1 z g g HFN hK (fun _ => none) 0 → W.drew.heap.size ≤ z → W.drew.heap.size ≤ g → Below W.drew.heap.size W.drew w1 → Q .normal ((((((a.put (some 8) (.pointer (some ⟨x, 0, none⟩))).put (some 9) (.int .i64 (i : Int))).put (some 11) (.pointer (some ⟨x, 0, none⟩))).put (some 12) (.pointer (some ⟨x, 0, none⟩))).put (some 10) (.pointer (some ⟨z, 0, none⟩))).put (some 13) (.pointer (some ⟨x, i, none⟩))) (w1.setCell ⟨x, i, none⟩ (.pointer (some ⟨z, 0, none⟩)))) :
    Code.wp Try.prog (.region 5 (nx5_ops s) true) Q a W := by
  refine wp_region_held_drew (S := fun _ => True) (by kernel_rfl) trivial (fun hS => ?_)
  change wpAnyH _ _ _ _ _ _ _ _ (World.drew _)
  refine wpAnyH_take (i := 0) (oi := nx5_0 s) (v := .pointer (some ⟨x, 0, none⟩)) (by kernel_rfl) (by kernel_rfl) (by kernel_rfl) (by kernel_rfl) (fun c a w h => hQ c _ _ _ w h) (Or.inl ⟨wanted_none rfl, fun w hw => by simp only [execOp, nx5_0, e1]; rfl⟩) hS ?_
  change wpAnyH _ _ _ _ _ _ _ (a.put (some 8) (.pointer (some ⟨x, 0, none⟩))) _
  obtain ⟨a0_1, ha1⟩ : ∃ rr : Act, rr = a.put (some 8) (.pointer (some ⟨x, 0, none⟩)) := ⟨_, rfl⟩
  have qz1 : 13 < a0_1.tmps.size := by rw [ha1, sz_put]; exact hs
  have f1_2 : a0_1.eval (.tmp 2) = .int .i64 (i : Int) := by rw [ha1, ev_other _ _ _ _ (by decide)]; exact e2
  have f1_8 : a0_1.eval (.tmp 8) = .pointer (some ⟨x, 0, none⟩) := by rw [ha1]; exact ev_same _ _ _ (Nat.lt_of_le_of_lt (by decide) hs)
  rw [← ha1] at h0 ⊢
  clear ha1
  refine wpAnyH_take (i := 1) (oi := nx5_1 s) (v := .int .i64 (i : Int)) (by kernel_rfl) (by kernel_rfl) (by kernel_rfl) (by kernel_rfl) (fun c a w h => hQ c _ _ _ w h) (Or.inl ⟨wanted_none rfl, fun w hw => by simp only [execOp, nx5_1, f1_2]; rfl⟩) hS ?_
  change wpAnyH _ _ _ _ _ _ _ (a0_1.put (some 9) (.int .i64 (i : Int))) _
  obtain ⟨a0_2, ha2⟩ : ∃ rr : Act, rr = a0_1.put (some 9) (.int .i64 (i : Int)) := ⟨_, rfl⟩
  have qz2 : 13 < a0_2.tmps.size := by rw [ha2, sz_put]; exact qz1
  have f2_8 : a0_2.eval (.tmp 8) = .pointer (some ⟨x, 0, none⟩) := by rw [ha2, ev_other _ _ _ _ (by decide)]; exact f1_8
  have f2_9 : a0_2.eval (.tmp 9) = .int .i64 (i : Int) := by rw [ha2]; exact ev_same _ _ _ (Nat.lt_of_le_of_lt (by decide) qz1)
  rw [← ha2] at h0 ⊢
  clear ha2
  refine wpAnyH_take (i := 3) (oi := nx5_3 s) (v := .pointer (some ⟨x, 0, none⟩)) (by kernel_rfl) (by kernel_rfl) (by kernel_rfl) (by kernel_rfl) (fun c a w h => hQ c _ _ _ w h) (Or.inl ⟨wanted_none rfl, fun w hw => by simp only [execOp, nx5_3, f2_8]; rfl⟩) hS ?_
  change wpAnyH _ _ _ _ _ _ _ (a0_2.put (some 11) (.pointer (some ⟨x, 0, none⟩))) _
  obtain ⟨a0_3, ha3⟩ : ∃ rr : Act, rr = a0_2.put (some 11) (.pointer (some ⟨x, 0, none⟩)) := ⟨_, rfl⟩
  have qz3 : 13 < a0_3.tmps.size := by rw [ha3, sz_put]; exact qz2
  have f3_9 : a0_3.eval (.tmp 9) = .int .i64 (i : Int) := by rw [ha3, ev_other _ _ _ _ (by decide)]; exact f2_9
  have f3_11 : a0_3.eval (.tmp 11) = .pointer (some ⟨x, 0, none⟩) := by rw [ha3]; exact ev_same _ _ _ (Nat.lt_of_le_of_lt (by decide) qz2)
  rw [← ha3] at h0 ⊢
  clear ha3
  refine wpAnyH_take (i := 4) (oi := nx5_4 s) (v := .pointer (some ⟨x, 0, none⟩)) (by kernel_rfl) (by kernel_rfl) (by kernel_rfl) (by kernel_rfl) (fun c a w h => hQ c _ _ _ w h) (Or.inl ⟨wanted_none rfl, fun w hw => fld IT x 0 0 0 (fI0 x) rfl f3_11 w⟩) hS ?_
  change wpAnyH _ _ _ _ _ _ _ (a0_3.put (some 12) (.pointer (some ⟨x, 0, none⟩))) _
  obtain ⟨a0_4, ha4⟩ : ∃ rr : Act, rr = a0_3.put (some 12) (.pointer (some ⟨x, 0, none⟩)) := ⟨_, rfl⟩
  have qz4 : 13 < a0_4.tmps.size := by rw [ha4, sz_put]; exact qz3
  have f4_9 : a0_4.eval (.tmp 9) = .int .i64 (i : Int) := by rw [ha4, ev_other _ _ _ _ (by decide)]; exact f3_9
  have f4_12 : a0_4.eval (.tmp 12) = .pointer (some ⟨x, 0, none⟩) := by rw [ha4]; exact ev_same _ _ _ (Nat.lt_of_le_of_lt (by decide) qz3)
  rw [← ha4] at h0 ⊢
  clear ha4
  refine wpAnyH_ready (rs := [2]) (by kernel_rfl) (by simp) ?_
  refine AllReadyH.cons (o := nx5_2 s) (by kernel_rfl) (fun KQ hKQ => ?_) AllReadyH.nil
  rw [if_pos (wanted_none rfl)]
  refine step_enterE 19 #[.func (.func HFN) #[] #[]] (by rw [nx5_enter2]) (fun V w' => ∃ z g, V = .pointer (some ⟨z, 0, none⟩) ∧ TbM w' z g g HFN hK (fun _ => none) 0 ∧ W.drew.heap.size ≤ z ∧ W.drew.heap.size ≤ g ∧ Below W.drew.heap.size W.drew w') ((tnew_any W.drew HFN hK).mono (fun e w' ⟨z, g, h1, h2, h3, h4, h5⟩ => ⟨_, h1, z, g, rfl, h2, h3, h4, h5⟩)) ?_
  rintro _ w1 ⟨z, g, rfl, hT, h1, h2, hB⟩
  refine hKQ.out _ _ (trivial) (fun _ => ?_)
  clear hKQ KQ
  change wpAnyH _ _ _ _ _ _ _ (a0_4.put (some 10) (.pointer (some ⟨z, 0, none⟩))) _
  have h0 := h0 z g w1 hT h1 h2 hB
  obtain ⟨a0_5, ha5⟩ : ∃ rr : Act, rr = a0_4.put (some 10) (.pointer (some ⟨z, 0, none⟩)) := ⟨_, rfl⟩
  have qz5 : 13 < a0_5.tmps.size := by rw [ha5, sz_put]; exact qz4
  have f5_9 : a0_5.eval (.tmp 9) = .int .i64 (i : Int) := by rw [ha5, ev_other _ _ _ _ (by decide)]; exact f4_9
  have f5_10 : a0_5.eval (.tmp 10) = .pointer (some ⟨z, 0, none⟩) := by rw [ha5]; exact ev_same _ _ _ (Nat.lt_of_le_of_lt (by decide) qz4)
  have f5_12 : a0_5.eval (.tmp 12) = .pointer (some ⟨x, 0, none⟩) := by rw [ha5, ev_other _ _ _ _ (by decide)]; exact f4_12
  rw [← ha5] at h0 ⊢
  clear ha5
  refine wpAnyH_take (i := 5) (oi := nx5_5 s) (v := .pointer (some ⟨x, i, none⟩)) (by kernel_rfl) (by kernel_rfl) (by kernel_rfl) (by kernel_rfl) (fun c a w h => hQ c _ _ _ w h) (Or.inl ⟨wanted_none rfl, fun w hw => run_ix16 rfl f5_12 f5_9 hi w⟩) hS ?_
  change wpAnyH _ _ _ _ _ _ _ (a0_5.put (some 13) (.pointer (some ⟨x, i, none⟩))) _
  obtain ⟨a0_6, ha6⟩ : ∃ rr : Act, rr = a0_5.put (some 13) (.pointer (some ⟨x, i, none⟩)) := ⟨_, rfl⟩
  have qz6 : 13 < a0_6.tmps.size := by rw [ha6, sz_put]; exact qz5
  have f6_10 : a0_6.eval (.tmp 10) = .pointer (some ⟨z, 0, none⟩) := by rw [ha6, ev_other _ _ _ _ (by decide)]; exact f5_10
  have f6_13 : a0_6.eval (.tmp 13) = .pointer (some ⟨x, i, none⟩) := by rw [ha6]; exact ev_same _ _ _ (Nat.lt_of_le_of_lt (by decide) qz5)
  rw [← ha6] at h0 ⊢
  clear ha6
  refine wpAnyH_ready (rs := [6]) (by kernel_rfl) (by simp) ?_
  refine AllReadyH.cons (o := nx5_6 s) (by kernel_rfl) (fun KQ hKQ => ?_) AllReadyH.nil
  rw [if_pos (wanted_none rfl)]
  refine step_skipE (w1.setCell ⟨x, i, none⟩ (.pointer (some ⟨z, 0, none⟩))) (run_stPt rfl f6_13 f6_10 (cell_below hB (by rw [hx.cell]; exact hc)) (Blk.frozen (Blk.below hx hB hx.lt) i)) ?_
  refine hKQ.out _ _ (trivial) (fun _ => ?_)
  clear hKQ KQ
  refine wpAnyH_done (by kernel_rfl) ?_ _
  exact h0
end TX
end Go.Proofs.Ytdigjpddmfolgaa
