/- Pins: the drawn regions of Open and of Next. -/
import Derived.Test.YtagnglkkmdeicaaPN1
namespace Go.Proofs.Ytagnglkkmdeicaa
set_option linter.unusedVariables false
set_option linter.unusedSimpArgs false
open Go.RowKit
set_option maxRecDepth 100000

theorem run_storePS {op : Oper} {ev : Operand → Value} {x y : Operand} {b o : Nat} {k : Option Addr} {v : Value} {w : World} (ho : op.op = .store 50 x y) (hx : ev x = .pointer (some ⟨b, o, none⟩)) (hy : ev y = .pointer k) (hc : w.cell? ⟨b, o, none⟩ = some v) (hf : w.frozen? ⟨b, o, none⟩ = false) : (execOp ev op).run Try.prog w = .ok .skip (w.setCell ⟨b, o, none⟩ (.pointer k)) := by
  have hu := Try.underlying50
  simp only [execOp, ho, hx, hy]
  simp [go_sem, hc, hf, hu]
theorem run_idxPS {op : Oper} {ev : Operand → Value} {x y : Operand} {b i : Nat} (ho : op.op = .indexAddr 51 x y) (hx : ev x = .pointer (some ⟨b, 1, none⟩)) (hy : ev y = .int .i64 (i : Int)) (hi : i < 16) (w : World) : (execOp ev op).run Try.prog w = .ok (.value (.pointer (some ⟨b, 1 + i, none⟩))) w := by
  have hu := Try.underlying51
  have h1 : (i : Int) < 16 := by omega
  have hs : (sizeOf 50).run Try.prog w = .ok 1 w := by kernel_rfl
  simp only [execOp, ho, hx, hy]
  simp [go_sem, hu, h1, hs]
theorem run_buildS {op : Oper} {ev : Operand → Value} {x : Operand} {p : Option Addr} (ho : op.op = .build 66 #[(0, x)]) (hx : ev x = .pointer p) (w : World) : (execOp ev op).run Try.prog w = .ok (.value (.agg #[.pointer p, .int .i64 0])) w := by
  have hu := Try.underlying66
  have hz := Try.zeroValue66
  simp only [execOp, ho]
  simp [hx, go_sem, hu, hz]
theorem run_boxS {op : Oper} {ev : Operand → Value} {x : Operand} {p : Value} {k : Int} (ho : op.op = .box 66 x) (hx : ev x = .agg #[p, .int .i64 k]) (w : World) : (execOp ev op).run Try.prog w = .ok (.value (.pointer (some ⟨w.heap.size, 0, none⟩))) (w.alloc (.cells #[p, .int .i64 k] 66)) := by
  simp only [execOp, ho, hx]
  kernel_rfl
def po_0 (s : String) : Oper := { dst := some 21, op := Op.move (Operand.tmp 0), type := 23, pos := s, after := #[], guard := none }
def po_1 (s : String) : Oper := { dst := some 22, op := Op.move (Operand.tmp 1), type := 3, pos := s, after := #[], guard := none }
def po_2 (s : String) : Oper := { dst := some 23, op := Op.call { callee := Callee.value (Operand.func 30), args := #[Operand.const (Value.slice none 0 0)], argTypes := #[42] }, type := 63, pos := s, after := #[], guard := none }
def po_3 (s : String) : Oper := { dst := some 24, op := Op.build 66 #[(0, Operand.tmp 23)], type := 66, pos := s, after := #[{ on := 2, ground := Ground.data }], guard := none }
def po_4 (s : String) : Oper := { dst := some 25, op := Op.box 66 (Operand.tmp 24), type := 50, pos := s, after := #[{ on := 3, ground := Ground.data }], guard := none }
def po_5 (s : String) : Oper := { dst := some 26, op := Op.nilCheck (Operand.tmp 21), type := 0, pos := s, after := #[{ on := 0, ground := Ground.data }], guard := none }
def po_6 (s : String) : Oper := { dst := some 27, op := Op.fieldAddr 53 (Operand.tmp 26) 1, type := 0, pos := s, after := #[{ on := 5, ground := Ground.data }], guard := none }
def po_7 (s : String) : Oper := { dst := some 28, op := Op.indexAddr 51 (Operand.tmp 27) (Operand.tmp 22), type := 0, pos := s, after := #[{ on := 6, ground := Ground.data }, { on := 1, ground := Ground.data }, { on := 0, ground := Ground.phase }, { on := 1, ground := Ground.phase }, { on := 2, ground := Ground.phase }, { on := 3, ground := Ground.phase }, { on := 4, ground := Ground.phase }], guard := none }
def po_8 (s : String) : Oper := { dst := none, op := Op.store 50 (Operand.tmp 28) (Operand.tmp 25), type := 0, pos := s, after := #[{ on := 7, ground := Ground.data }, { on := 4, ground := Ground.data }, { on := 2, ground := Ground.chain }, { on := 0, ground := Ground.phase }, { on := 1, ground := Ground.phase }, { on := 2, ground := Ground.phase }, { on := 3, ground := Ground.phase }, { on := 4, ground := Ground.phase }], guard := none }
def po_ops (s : String) : Array Oper := #[po_0 s, po_1 s, po_2 s, po_3 s, po_4 s, po_5 s, po_6 s, po_7 s, po_8 s]
theorem po_enter2 (s : String) (a : Act) (w : World) : (execOp a.eval (po_2 s)).run Try.prog w = .ok (.enter 30 #[Value.slice none 0 0]) w := by kernel_rfl
theorem po_walk (s : String) {Q : Exit → Act → World → Prop} (hQ : ∀ c (a : Act) t v w, Q (.panic c) (a.put (some t) v) w → Q (.panic c) a w) (W : World) (zp i : Nat) (v0 : Value) (M1 : Nat → World → Prop) (hi : i < 16) (hk1 : ∀ z w1, M1 z w1 → (w1.alloc (.cells #[.pointer (some ⟨z, 0, none⟩), .int .i64 0] 66)).cell? ⟨zp, 1 + i, none⟩ = some v0 ∧ (w1.alloc (.cells #[.pointer (some ⟨z, 0, none⟩), .int .i64 0] 66)).frozen? ⟨zp, 1 + i, none⟩ = false) (hc1 : Calls Try.prog 30 #[.slice none 0 0] W.drew fun e w' => ∃ z, e = .returned (.pointer (some ⟨z, 0, none⟩)) ∧ M1 z w')
    (a : Act) (hs : 28 < a.tmps.size) (e0 : a.eval (.tmp 0) = .pointer (some ⟨zp, 0, none⟩)) (e1 : a.eval (.tmp 1) = .int .i64 (i : Int))
    (h0 : ∀ z w1, M1 z w1 → Q .normal ((((((((a.put (some 21) (.pointer (some ⟨zp, 0, none⟩))).put (some 22) (.int .i64 (i : Int))).put (some 26) (.pointer (some ⟨zp, 0, none⟩))).put (some 27) (.pointer (some ⟨zp, 1, none⟩))).put (some 23) (.pointer (some ⟨z, 0, none⟩))).put (some 24) (.agg #[.pointer (some ⟨z, 0, none⟩), .int .i64 0])).put (some 25) (.pointer (some ⟨w1.heap.size, 0, none⟩))).put (some 28) (.pointer (some ⟨zp, 1 + i, none⟩))) ((w1.alloc (.cells #[.pointer (some ⟨z, 0, none⟩), .int .i64 0] 66)).setCell ⟨zp, 1 + i, none⟩ (.pointer (some ⟨w1.heap.size, 0, none⟩)))) :
    Code.wp Try.prog (.region 7 (po_ops s) true) Q a W := by
  refine wp_region_held_drew (S := fun _ => True) (by kernel_rfl) trivial (fun hS => ?_)
  change wpAnyH _ _ _ _ _ _ _ _ (World.drew _)
  refine wpAnyH_take (i := 0) (oi := po_0 s) (v := .pointer (some ⟨zp, 0, none⟩)) (by kernel_rfl) (by kernel_rfl) (by kernel_rfl) (by kernel_rfl) (fun c a w h => hQ c _ _ _ w h) (Or.inl ⟨wanted_none rfl, fun w hw => by simp only [execOp, po_0, e0]; rfl⟩) hS ?_
  change wpAnyH _ _ _ _ _ _ _ (a.put (some 21) (.pointer (some ⟨zp, 0, none⟩))) _
  obtain ⟨a0_1, ha1⟩ : ∃ rr : Act, rr = a.put (some 21) (.pointer (some ⟨zp, 0, none⟩)) := ⟨_, rfl⟩
  have qz1 : 28 < a0_1.tmps.size := by rw [ha1, sz_put]; exact hs
  have f1_1 : a0_1.eval (.tmp 1) = .int .i64 (i : Int) := by rw [ha1, ev_other _ _ _ _ (by decide)]; exact e1
  have f1_21 : a0_1.eval (.tmp 21) = .pointer (some ⟨zp, 0, none⟩) := by rw [ha1]; exact ev_same _ _ _ (Nat.lt_of_le_of_lt (by decide) hs)
  rw [← ha1] at h0 ⊢
  clear ha1
  refine wpAnyH_take (i := 1) (oi := po_1 s) (v := .int .i64 (i : Int)) (by kernel_rfl) (by kernel_rfl) (by kernel_rfl) (by kernel_rfl) (fun c a w h => hQ c _ _ _ w h) (Or.inl ⟨wanted_none rfl, fun w hw => by simp only [execOp, po_1, f1_1]; rfl⟩) hS ?_
  change wpAnyH _ _ _ _ _ _ _ (a0_1.put (some 22) (.int .i64 (i : Int))) _
  obtain ⟨a0_2, ha2⟩ : ∃ rr : Act, rr = a0_1.put (some 22) (.int .i64 (i : Int)) := ⟨_, rfl⟩
  have qz2 : 28 < a0_2.tmps.size := by rw [ha2, sz_put]; exact qz1
  have f2_21 : a0_2.eval (.tmp 21) = .pointer (some ⟨zp, 0, none⟩) := by rw [ha2, ev_other _ _ _ _ (by decide)]; exact f1_21
  have f2_22 : a0_2.eval (.tmp 22) = .int .i64 (i : Int) := by rw [ha2]; exact ev_same _ _ _ (Nat.lt_of_le_of_lt (by decide) qz1)
  rw [← ha2] at h0 ⊢
  clear ha2
  refine wpAnyH_take (i := 5) (oi := po_5 s) (v := .pointer (some ⟨zp, 0, none⟩)) (by kernel_rfl) (by kernel_rfl) (by kernel_rfl) (by kernel_rfl) (fun c a w h => hQ c _ _ _ w h) (Or.inl ⟨wanted_none rfl, fun w hw => by simp only [execOp, po_5, f2_21]; rfl⟩) hS ?_
  change wpAnyH _ _ _ _ _ _ _ (a0_2.put (some 26) (.pointer (some ⟨zp, 0, none⟩))) _
  obtain ⟨a0_3, ha3⟩ : ∃ rr : Act, rr = a0_2.put (some 26) (.pointer (some ⟨zp, 0, none⟩)) := ⟨_, rfl⟩
  have qz3 : 28 < a0_3.tmps.size := by rw [ha3, sz_put]; exact qz2
  have f3_22 : a0_3.eval (.tmp 22) = .int .i64 (i : Int) := by rw [ha3, ev_other _ _ _ _ (by decide)]; exact f2_22
  have f3_26 : a0_3.eval (.tmp 26) = .pointer (some ⟨zp, 0, none⟩) := by rw [ha3]; exact ev_same _ _ _ (Nat.lt_of_le_of_lt (by decide) qz2)
  rw [← ha3] at h0 ⊢
  clear ha3
  refine wpAnyH_take (i := 6) (oi := po_6 s) (v := .pointer (some ⟨zp, 1, none⟩)) (by kernel_rfl) (by kernel_rfl) (by kernel_rfl) (by kernel_rfl) (fun c a w h => hQ c _ _ _ w h) (Or.inl ⟨wanted_none rfl, fun w hw => by simp only [execOp, po_6, f3_26]; rfl⟩) hS ?_
  change wpAnyH _ _ _ _ _ _ _ (a0_3.put (some 27) (.pointer (some ⟨zp, 1, none⟩))) _
  obtain ⟨a0_4, ha4⟩ : ∃ rr : Act, rr = a0_3.put (some 27) (.pointer (some ⟨zp, 1, none⟩)) := ⟨_, rfl⟩
  have qz4 : 28 < a0_4.tmps.size := by rw [ha4, sz_put]; exact qz3
  have f4_22 : a0_4.eval (.tmp 22) = .int .i64 (i : Int) := by rw [ha4, ev_other _ _ _ _ (by decide)]; exact f3_22
  have f4_27 : a0_4.eval (.tmp 27) = .pointer (some ⟨zp, 1, none⟩) := by rw [ha4]; exact ev_same _ _ _ (Nat.lt_of_le_of_lt (by decide) qz3)
  rw [← ha4] at h0 ⊢
  clear ha4
  refine wpAnyH_ready (rs := [2]) (by kernel_rfl) (by simp) ?_
  refine AllReadyH.cons (o := po_2 s) (by kernel_rfl) (fun KQ hKQ => ?_) AllReadyH.nil
  rw [if_pos (wanted_none rfl)]
  refine step_enterE 30 #[.slice none 0 0] (by rw [po_enter2]) (fun V w' => ∃ z, V = .pointer (some ⟨z, 0, none⟩) ∧ M1 z w') (hc1.mono (fun e w' ⟨z, h1, h2⟩ => ⟨_, h1, z, rfl, h2⟩)) ?_
  rintro _ w1 ⟨z, rfl, hM1⟩
  refine hKQ.out _ _ (trivial) (fun _ => ?_)
  clear hKQ KQ
  change wpAnyH _ _ _ _ _ _ _ (a0_4.put (some 23) (.pointer (some ⟨z, 0, none⟩))) _
  have h0 := h0 z w1 hM1
  obtain ⟨a0_5, ha5⟩ : ∃ rr : Act, rr = a0_4.put (some 23) (.pointer (some ⟨z, 0, none⟩)) := ⟨_, rfl⟩
  have qz5 : 28 < a0_5.tmps.size := by rw [ha5, sz_put]; exact qz4
  have f5_22 : a0_5.eval (.tmp 22) = .int .i64 (i : Int) := by rw [ha5, ev_other _ _ _ _ (by decide)]; exact f4_22
  have f5_23 : a0_5.eval (.tmp 23) = .pointer (some ⟨z, 0, none⟩) := by rw [ha5]; exact ev_same _ _ _ (Nat.lt_of_le_of_lt (by decide) qz4)
  have f5_27 : a0_5.eval (.tmp 27) = .pointer (some ⟨zp, 1, none⟩) := by rw [ha5, ev_other _ _ _ _ (by decide)]; exact f4_27
  rw [← ha5] at h0 ⊢
  clear ha5
  refine wpAnyH_take (i := 3) (oi := po_3 s) (v := .agg #[.pointer (some ⟨z, 0, none⟩), .int .i64 0]) (by kernel_rfl) (by kernel_rfl) (by kernel_rfl) (by kernel_rfl) (fun c a w h => hQ c _ _ _ w h) (Or.inl ⟨wanted_none rfl, fun w hw => run_buildS rfl f5_23 w⟩) trivial ?_
  change wpAnyH _ _ _ _ _ _ _ (a0_5.put (some 24) (.agg #[.pointer (some ⟨z, 0, none⟩), .int .i64 0])) _
  obtain ⟨a0_6, ha6⟩ : ∃ rr : Act, rr = a0_5.put (some 24) (.agg #[.pointer (some ⟨z, 0, none⟩), .int .i64 0]) := ⟨_, rfl⟩
  have qz6 : 28 < a0_6.tmps.size := by rw [ha6, sz_put]; exact qz5
  have f6_22 : a0_6.eval (.tmp 22) = .int .i64 (i : Int) := by rw [ha6, ev_other _ _ _ _ (by decide)]; exact f5_22
  have f6_24 : a0_6.eval (.tmp 24) = .agg #[.pointer (some ⟨z, 0, none⟩), .int .i64 0] := by rw [ha6]; exact ev_same _ _ _ (Nat.lt_of_le_of_lt (by decide) qz5)
  have f6_27 : a0_6.eval (.tmp 27) = .pointer (some ⟨zp, 1, none⟩) := by rw [ha6, ev_other _ _ _ _ (by decide)]; exact f5_27
  rw [← ha6] at h0 ⊢
  clear ha6
  refine wpAnyH_ready (rs := [4]) (by kernel_rfl) (by simp) ?_
  refine AllReadyH.cons (o := po_4 s) (by kernel_rfl) (fun KQ hKQ => ?_) AllReadyH.nil
  rw [if_pos (wanted_none rfl)]
  refine step_runE (.pointer (some ⟨w1.heap.size, 0, none⟩)) ((w1.alloc (.cells #[.pointer (some ⟨z, 0, none⟩), .int .i64 0] 66))) (run_boxS rfl f6_24 w1) ?_
  refine hKQ.out _ _ (trivial) (fun _ => ?_)
  clear hKQ KQ
  change wpAnyH _ _ _ _ _ _ _ (a0_6.put (some 25) (.pointer (some ⟨w1.heap.size, 0, none⟩))) _
  obtain ⟨a0_7, ha7⟩ : ∃ rr : Act, rr = a0_6.put (some 25) (.pointer (some ⟨w1.heap.size, 0, none⟩)) := ⟨_, rfl⟩
  have qz7 : 28 < a0_7.tmps.size := by rw [ha7, sz_put]; exact qz6
  have f7_22 : a0_7.eval (.tmp 22) = .int .i64 (i : Int) := by rw [ha7, ev_other _ _ _ _ (by decide)]; exact f6_22
  have f7_25 : a0_7.eval (.tmp 25) = .pointer (some ⟨w1.heap.size, 0, none⟩) := by rw [ha7]; exact ev_same _ _ _ (Nat.lt_of_le_of_lt (by decide) qz6)
  have f7_27 : a0_7.eval (.tmp 27) = .pointer (some ⟨zp, 1, none⟩) := by rw [ha7, ev_other _ _ _ _ (by decide)]; exact f6_27
  rw [← ha7] at h0 ⊢
  clear ha7
  refine wpAnyH_take (i := 7) (oi := po_7 s) (v := .pointer (some ⟨zp, 1 + i, none⟩)) (by kernel_rfl) (by kernel_rfl) (by kernel_rfl) (by kernel_rfl) (fun c a w h => hQ c _ _ _ w h) (Or.inl ⟨wanted_none rfl, fun w hw => run_idxPS rfl f7_27 f7_22 hi w⟩) trivial ?_
  change wpAnyH _ _ _ _ _ _ _ (a0_7.put (some 28) (.pointer (some ⟨zp, 1 + i, none⟩))) _
  obtain ⟨a0_8, ha8⟩ : ∃ rr : Act, rr = a0_7.put (some 28) (.pointer (some ⟨zp, 1 + i, none⟩)) := ⟨_, rfl⟩
  have qz8 : 28 < a0_8.tmps.size := by rw [ha8, sz_put]; exact qz7
  have f8_25 : a0_8.eval (.tmp 25) = .pointer (some ⟨w1.heap.size, 0, none⟩) := by rw [ha8, ev_other _ _ _ _ (by decide)]; exact f7_25
  have f8_28 : a0_8.eval (.tmp 28) = .pointer (some ⟨zp, 1 + i, none⟩) := by rw [ha8]; exact ev_same _ _ _ (Nat.lt_of_le_of_lt (by decide) qz7)
  rw [← ha8] at h0 ⊢
  clear ha8
  refine wpAnyH_ready (rs := [8]) (by kernel_rfl) (by simp) ?_
  refine AllReadyH.cons (o := po_8 s) (by kernel_rfl) (fun KQ hKQ => ?_) AllReadyH.nil
  rw [if_pos (wanted_none rfl)]
  refine step_skipE ((w1.alloc (.cells #[.pointer (some ⟨z, 0, none⟩), .int .i64 0] 66)).setCell ⟨zp, 1 + i, none⟩ (.pointer (some ⟨w1.heap.size, 0, none⟩))) (run_storePS rfl f8_28 f8_25 (hk1 z w1 hM1).1 (hk1 z w1 hM1).2) ?_
  refine hKQ.out _ _ (trivial) (fun _ => ?_)
  clear hKQ KQ
  refine wpAnyH_done (by kernel_rfl) ?_ _
  exact h0
def pn_0 (s : String) : Oper := { dst := some 10, op := Op.move (Operand.tmp 0), type := 23, pos := s, after := #[], guard := none }
def pn_1 (s : String) : Oper := { dst := some 11, op := Op.move (Operand.tmp 1), type := 3, pos := s, after := #[], guard := none }
def pn_2 (s : String) : Oper := { dst := some 12, op := Op.call { callee := Callee.value (Operand.func 33), args := #[Operand.tmp 10, Operand.tmp 11], argTypes := #[23, 3] }, type := 50, pos := s, after := #[{ on := 0, ground := Ground.data }, { on := 1, ground := Ground.data }], guard := none }
def pn_3 (s : String) : Oper := { dst := some 13, op := Op.call { callee := Callee.value (Operand.func 34), args := #[Operand.tmp 12], argTypes := #[50] }, type := 63, pos := s, after := #[{ on := 2, ground := Ground.data }, { on := 2, ground := Ground.chain }], guard := none }
def pn_4 (s : String) : Oper := { dst := some 14, op := Op.load 30 (Operand.tmp 6), type := 30, pos := s, after := #[], guard := none }
def pn_5 (s : String) : Oper := { dst := some 15, op := Op.move (Operand.tmp 3), type := 4, pos := s, after := #[], guard := none }
def pn_6 (s : String) : Oper := { dst := some 16, op := Op.call { callee := Callee.value (Operand.func 35), args := #[Operand.tmp 13, Operand.tmp 14, Operand.tmp 15], argTypes := #[63, 30, 4] }, type := 43, pos := s, after := #[{ on := 3, ground := Ground.data }, { on := 4, ground := Ground.data }, { on := 5, ground := Ground.data }, { on := 3, ground := Ground.chain }], guard := none }
def pn_7 (s : String) : Oper := { dst := some 17, op := Op.extract (Operand.tmp 16) 0, type := 30, pos := s, after := #[{ on := 6, ground := Ground.data }], guard := none }
def pn_8 (s : String) : Oper := { dst := some 18, op := Op.extract (Operand.tmp 16) 1, type := 4, pos := s, after := #[{ on := 6, ground := Ground.data }], guard := none }
def pn_9 (s : String) : Oper := { dst := none, op := Op.store 30 (Operand.tmp 8) (Operand.tmp 17), type := 0, pos := s, after := #[{ on := 7, ground := Ground.data }, { on := 6, ground := Ground.chain }, { on := 0, ground := Ground.phase }, { on := 1, ground := Ground.phase }, { on := 2, ground := Ground.phase }, { on := 3, ground := Ground.phase }, { on := 4, ground := Ground.phase }, { on := 5, ground := Ground.phase }, { on := 6, ground := Ground.phase }, { on := 7, ground := Ground.phase }, { on := 8, ground := Ground.phase }], guard := none }
def pn_10 (s : String) : Oper := { dst := some 9, op := Op.assign (Operand.tmp 18), type := 4, pos := s, after := #[{ on := 8, ground := Ground.data }, { on := 9, ground := Ground.chain }, { on := 0, ground := Ground.phase }, { on := 1, ground := Ground.phase }, { on := 2, ground := Ground.phase }, { on := 3, ground := Ground.phase }, { on := 4, ground := Ground.phase }, { on := 5, ground := Ground.phase }, { on := 6, ground := Ground.phase }, { on := 7, ground := Ground.phase }, { on := 8, ground := Ground.phase }, { on := 9, ground := Ground.phase }], guard := none }
def pn_ops (s : String) : Array Oper := #[pn_0 s, pn_1 s, pn_2 s, pn_3 s, pn_4 s, pn_5 s, pn_6 s, pn_7 s, pn_8 s, pn_9 s, pn_10 s]
theorem pn_enter2 (s : String) (a : Act) (w : World) : (execOp a.eval (pn_2 s)).run Try.prog w = .ok (.enter 33 #[a.eval (.tmp 10), a.eval (.tmp 11)]) w := by kernel_rfl
theorem pn_enter3 (s : String) (a : Act) (w : World) : (execOp a.eval (pn_3 s)).run Try.prog w = .ok (.enter 34 #[a.eval (.tmp 12)]) w := by kernel_rfl
theorem pn_enter6 (s : String) (a : Act) (w : World) : (execOp a.eval (pn_6 s)).run Try.prog w = .ok (.enter 35 #[a.eval (.tmp 13), a.eval (.tmp 14), a.eval (.tmp 15)]) w := by kernel_rfl
theorem pn_walk (s : String) {Q : Exit → Act → World → Prop} (hQ : ∀ c (a : Act) t v w, Q (.panic c) (a.put (some t) v) w → Q (.panic c) a w) (W : World) (zp zk zr : Nat) (si : Int) (q q2 : Option Addr) (after : List UInt8) (any : Bool) (M1 : List UInt8 → Bool → World → Prop) (hS0 : KeyAt W.drew zk after) (hk1 : ∀ k ok w1, k.length = 32 → M1 k ok w1 → KeyAt w1 zk after ∧ Blk w1 zr keyZ 30 ∧ KeyAt (w1.setCells zr 0 (k.map u8c).toArray.toList) zk after) (hc1 : Calls Try.prog 33 #[.pointer (some ⟨zp, 0, none⟩), .int .i64 si] W.drew fun e w' => e = .returned (.pointer q) ∧ w' = W.drew) (hc2 : Calls Try.prog 34 #[.pointer q] W.drew fun e w' => e = .returned (.pointer q2) ∧ w' = W.drew) (hc3 : Calls Try.prog 35 #[.pointer q2, keyV after, .bool any] W.drew fun e w' => ∃ k ok, e = .returned (.tuple #[keyV k, .bool ok]) ∧ k.length = 32 ∧ M1 k ok w')
    (a : Act) (hs : 18 < a.tmps.size) (e0 : a.eval (.tmp 0) = .pointer (some ⟨zp, 0, none⟩)) (e1 : a.eval (.tmp 1) = .int .i64 si) (e3 : a.eval (.tmp 3) = .bool any) (e6 : a.eval (.tmp 6) = .pointer (some ⟨zk, 0, none⟩)) (e8 : a.eval (.tmp 8) = .pointer (some ⟨zr, 0, none⟩))
    (h0 : ∀ k ok w1, k.length = 32 → M1 k ok w1 → Q .normal ((((((((((a.put (some 10) (.pointer (some ⟨zp, 0, none⟩))).put (some 11) (.int .i64 si)).put (some 14) (keyV after)).put (some 15) (.bool any)).put (some 12) (.pointer q)).put (some 13) (.pointer q2)).put (some 16) (.tuple #[keyV k, .bool ok])).put (some 17) (keyV k)).put (some 18) (.bool ok)).put (some 9) (.bool ok)) (w1.setCells zr 0 (k.map u8c).toArray.toList)) :
    Code.wp Try.prog (.region 1 (pn_ops s) true) Q a W := by
  refine wp_region_held_drew (S := fun w => KeyAt w zk after) (by kernel_rfl) hS0 (fun hS => ?_)
  change wpAnyH _ _ _ _ _ _ _ _ (World.drew _)
  refine wpAnyH_take (i := 0) (oi := pn_0 s) (v := .pointer (some ⟨zp, 0, none⟩)) (by kernel_rfl) (by kernel_rfl) (by kernel_rfl) (by kernel_rfl) (fun c a w h => hQ c _ _ _ w h) (Or.inl ⟨wanted_none rfl, fun w hw => by simp only [execOp, pn_0, e0]; rfl⟩) hS ?_
  change wpAnyH _ _ _ _ _ _ _ (a.put (some 10) (.pointer (some ⟨zp, 0, none⟩))) _
  obtain ⟨a0_1, ha1⟩ : ∃ rr : Act, rr = a.put (some 10) (.pointer (some ⟨zp, 0, none⟩)) := ⟨_, rfl⟩
  have qz1 : 18 < a0_1.tmps.size := by rw [ha1, sz_put]; exact hs
  have f1_1 : a0_1.eval (.tmp 1) = .int .i64 si := by rw [ha1, ev_other _ _ _ _ (by decide)]; exact e1
  have f1_3 : a0_1.eval (.tmp 3) = .bool any := by rw [ha1, ev_other _ _ _ _ (by decide)]; exact e3
  have f1_6 : a0_1.eval (.tmp 6) = .pointer (some ⟨zk, 0, none⟩) := by rw [ha1, ev_other _ _ _ _ (by decide)]; exact e6
  have f1_8 : a0_1.eval (.tmp 8) = .pointer (some ⟨zr, 0, none⟩) := by rw [ha1, ev_other _ _ _ _ (by decide)]; exact e8
  have f1_10 : a0_1.eval (.tmp 10) = .pointer (some ⟨zp, 0, none⟩) := by rw [ha1]; exact ev_same _ _ _ (Nat.lt_of_le_of_lt (by decide) hs)
  rw [← ha1] at h0 ⊢
  clear ha1
  refine wpAnyH_take (i := 1) (oi := pn_1 s) (v := .int .i64 si) (by kernel_rfl) (by kernel_rfl) (by kernel_rfl) (by kernel_rfl) (fun c a w h => hQ c _ _ _ w h) (Or.inl ⟨wanted_none rfl, fun w hw => by simp only [execOp, pn_1, f1_1]; rfl⟩) hS ?_
  change wpAnyH _ _ _ _ _ _ _ (a0_1.put (some 11) (.int .i64 si)) _
  obtain ⟨a0_2, ha2⟩ : ∃ rr : Act, rr = a0_1.put (some 11) (.int .i64 si) := ⟨_, rfl⟩
  have qz2 : 18 < a0_2.tmps.size := by rw [ha2, sz_put]; exact qz1
  have f2_3 : a0_2.eval (.tmp 3) = .bool any := by rw [ha2, ev_other _ _ _ _ (by decide)]; exact f1_3
  have f2_6 : a0_2.eval (.tmp 6) = .pointer (some ⟨zk, 0, none⟩) := by rw [ha2, ev_other _ _ _ _ (by decide)]; exact f1_6
  have f2_8 : a0_2.eval (.tmp 8) = .pointer (some ⟨zr, 0, none⟩) := by rw [ha2, ev_other _ _ _ _ (by decide)]; exact f1_8
  have f2_10 : a0_2.eval (.tmp 10) = .pointer (some ⟨zp, 0, none⟩) := by rw [ha2, ev_other _ _ _ _ (by decide)]; exact f1_10
  have f2_11 : a0_2.eval (.tmp 11) = .int .i64 si := by rw [ha2]; exact ev_same _ _ _ (Nat.lt_of_le_of_lt (by decide) qz1)
  rw [← ha2] at h0 ⊢
  clear ha2
  refine wpAnyH_take (i := 4) (oi := pn_4 s) (v := keyV after) (by kernel_rfl) (by kernel_rfl) (by kernel_rfl) (by kernel_rfl) (fun c a w h => hQ c _ _ _ w h) (Or.inl ⟨wanted_none rfl, fun w hw => run_load rfl f2_6 hw.load⟩) hS ?_
  change wpAnyH _ _ _ _ _ _ _ (a0_2.put (some 14) (keyV after)) _
  obtain ⟨a0_3, ha3⟩ : ∃ rr : Act, rr = a0_2.put (some 14) (keyV after) := ⟨_, rfl⟩
  have qz3 : 18 < a0_3.tmps.size := by rw [ha3, sz_put]; exact qz2
  have f3_3 : a0_3.eval (.tmp 3) = .bool any := by rw [ha3, ev_other _ _ _ _ (by decide)]; exact f2_3
  have f3_8 : a0_3.eval (.tmp 8) = .pointer (some ⟨zr, 0, none⟩) := by rw [ha3, ev_other _ _ _ _ (by decide)]; exact f2_8
  have f3_10 : a0_3.eval (.tmp 10) = .pointer (some ⟨zp, 0, none⟩) := by rw [ha3, ev_other _ _ _ _ (by decide)]; exact f2_10
  have f3_11 : a0_3.eval (.tmp 11) = .int .i64 si := by rw [ha3, ev_other _ _ _ _ (by decide)]; exact f2_11
  have f3_14 : a0_3.eval (.tmp 14) = keyV after := by rw [ha3]; exact ev_same _ _ _ (Nat.lt_of_le_of_lt (by decide) qz2)
  rw [← ha3] at h0 ⊢
  clear ha3
  refine wpAnyH_take (i := 5) (oi := pn_5 s) (v := .bool any) (by kernel_rfl) (by kernel_rfl) (by kernel_rfl) (by kernel_rfl) (fun c a w h => hQ c _ _ _ w h) (Or.inl ⟨wanted_none rfl, fun w hw => by simp only [execOp, pn_5, f3_3]; rfl⟩) hS ?_
  change wpAnyH _ _ _ _ _ _ _ (a0_3.put (some 15) (.bool any)) _
  obtain ⟨a0_4, ha4⟩ : ∃ rr : Act, rr = a0_3.put (some 15) (.bool any) := ⟨_, rfl⟩
  have qz4 : 18 < a0_4.tmps.size := by rw [ha4, sz_put]; exact qz3
  have f4_8 : a0_4.eval (.tmp 8) = .pointer (some ⟨zr, 0, none⟩) := by rw [ha4, ev_other _ _ _ _ (by decide)]; exact f3_8
  have f4_10 : a0_4.eval (.tmp 10) = .pointer (some ⟨zp, 0, none⟩) := by rw [ha4, ev_other _ _ _ _ (by decide)]; exact f3_10
  have f4_11 : a0_4.eval (.tmp 11) = .int .i64 si := by rw [ha4, ev_other _ _ _ _ (by decide)]; exact f3_11
  have f4_14 : a0_4.eval (.tmp 14) = keyV after := by rw [ha4, ev_other _ _ _ _ (by decide)]; exact f3_14
  have f4_15 : a0_4.eval (.tmp 15) = .bool any := by rw [ha4]; exact ev_same _ _ _ (Nat.lt_of_le_of_lt (by decide) qz3)
  rw [← ha4] at h0 ⊢
  clear ha4
  refine wpAnyH_ready (rs := [2]) (by kernel_rfl) (by simp) ?_
  refine AllReadyH.cons (o := pn_2 s) (by kernel_rfl) (fun KQ hKQ => ?_) AllReadyH.nil
  rw [if_pos (wanted_none rfl)]
  refine step_enterE 33 #[.pointer (some ⟨zp, 0, none⟩), .int .i64 si] (by rw [pn_enter2, f4_10, f4_11]) (fun V w' => V = .pointer q ∧ w' = W.drew) (hc1.mono (fun e w' h => ⟨_, h.1, rfl, h.2⟩)) ?_
  rintro _ _ ⟨rfl, rfl⟩
  refine hKQ.out _ _ (hS0) (fun _ => ?_)
  clear hKQ KQ
  change wpAnyH _ _ _ _ _ _ _ (a0_4.put (some 12) (.pointer q)) _
  obtain ⟨a0_5, ha5⟩ : ∃ rr : Act, rr = a0_4.put (some 12) (.pointer q) := ⟨_, rfl⟩
  have qz5 : 18 < a0_5.tmps.size := by rw [ha5, sz_put]; exact qz4
  have f5_8 : a0_5.eval (.tmp 8) = .pointer (some ⟨zr, 0, none⟩) := by rw [ha5, ev_other _ _ _ _ (by decide)]; exact f4_8
  have f5_12 : a0_5.eval (.tmp 12) = .pointer q := by rw [ha5]; exact ev_same _ _ _ (Nat.lt_of_le_of_lt (by decide) qz4)
  have f5_14 : a0_5.eval (.tmp 14) = keyV after := by rw [ha5, ev_other _ _ _ _ (by decide)]; exact f4_14
  have f5_15 : a0_5.eval (.tmp 15) = .bool any := by rw [ha5, ev_other _ _ _ _ (by decide)]; exact f4_15
  rw [← ha5] at h0 ⊢
  clear ha5
  refine wpAnyH_ready (rs := [3]) (by kernel_rfl) (by simp) ?_
  refine AllReadyH.cons (o := pn_3 s) (by kernel_rfl) (fun KQ hKQ => ?_) AllReadyH.nil
  rw [if_pos (wanted_none rfl)]
  refine step_enterE 34 #[.pointer q] (by rw [pn_enter3, f5_12]) (fun V w' => V = .pointer q2 ∧ w' = W.drew) (hc2.mono (fun e w' h => ⟨_, h.1, rfl, h.2⟩)) ?_
  rintro _ _ ⟨rfl, rfl⟩
  refine hKQ.out _ _ (hS0) (fun _ => ?_)
  clear hKQ KQ
  change wpAnyH _ _ _ _ _ _ _ (a0_5.put (some 13) (.pointer q2)) _
  obtain ⟨a0_6, ha6⟩ : ∃ rr : Act, rr = a0_5.put (some 13) (.pointer q2) := ⟨_, rfl⟩
  have qz6 : 18 < a0_6.tmps.size := by rw [ha6, sz_put]; exact qz5
  have f6_8 : a0_6.eval (.tmp 8) = .pointer (some ⟨zr, 0, none⟩) := by rw [ha6, ev_other _ _ _ _ (by decide)]; exact f5_8
  have f6_13 : a0_6.eval (.tmp 13) = .pointer q2 := by rw [ha6]; exact ev_same _ _ _ (Nat.lt_of_le_of_lt (by decide) qz5)
  have f6_14 : a0_6.eval (.tmp 14) = keyV after := by rw [ha6, ev_other _ _ _ _ (by decide)]; exact f5_14
  have f6_15 : a0_6.eval (.tmp 15) = .bool any := by rw [ha6, ev_other _ _ _ _ (by decide)]; exact f5_15
  rw [← ha6] at h0 ⊢
  clear ha6
  refine wpAnyH_ready (rs := [6]) (by kernel_rfl) (by simp) ?_
  refine AllReadyH.cons (o := pn_6 s) (by kernel_rfl) (fun KQ hKQ => ?_) AllReadyH.nil
  rw [if_pos (wanted_none rfl)]
  refine step_enterE 35 #[.pointer q2, keyV after, .bool any] (by rw [pn_enter6, f6_13, f6_14, f6_15]) (fun V w' => ∃ k ok, V = .tuple #[keyV k, .bool ok] ∧ k.length = 32 ∧ M1 k ok w') (hc3.mono (fun e w' ⟨k, ok, h1, h2⟩ => ⟨_, h1, k, ok, rfl, h2⟩)) ?_
  rintro _ w1 ⟨k, ok, rfl, hk, hM1⟩
  refine hKQ.out _ _ ((hk1 k ok w1 hk hM1).1) (fun _ => ?_)
  clear hKQ KQ
  change wpAnyH _ _ _ _ _ _ _ (a0_6.put (some 16) (.tuple #[keyV k, .bool ok])) _
  have h0 := h0 k ok w1 hk hM1
  obtain ⟨a0_7, ha7⟩ : ∃ rr : Act, rr = a0_6.put (some 16) (.tuple #[keyV k, .bool ok]) := ⟨_, rfl⟩
  have qz7 : 18 < a0_7.tmps.size := by rw [ha7, sz_put]; exact qz6
  have f7_8 : a0_7.eval (.tmp 8) = .pointer (some ⟨zr, 0, none⟩) := by rw [ha7, ev_other _ _ _ _ (by decide)]; exact f6_8
  have f7_16 : a0_7.eval (.tmp 16) = .tuple #[keyV k, .bool ok] := by rw [ha7]; exact ev_same _ _ _ (Nat.lt_of_le_of_lt (by decide) qz6)
  rw [← ha7] at h0 ⊢
  clear ha7
  refine wpAnyH_take (i := 7) (oi := pn_7 s) (v := keyV k) (by kernel_rfl) (by kernel_rfl) (by kernel_rfl) (by kernel_rfl) (fun c a w h => hQ c _ _ _ w h) (Or.inl ⟨wanted_none rfl, fun w hw => by simp only [execOp, pn_7, f7_16]; rfl⟩) (hk1 k ok w1 hk hM1).1 ?_
  change wpAnyH _ _ _ _ _ _ _ (a0_7.put (some 17) (keyV k)) _
  obtain ⟨a0_8, ha8⟩ : ∃ rr : Act, rr = a0_7.put (some 17) (keyV k) := ⟨_, rfl⟩
  have qz8 : 18 < a0_8.tmps.size := by rw [ha8, sz_put]; exact qz7
  have f8_8 : a0_8.eval (.tmp 8) = .pointer (some ⟨zr, 0, none⟩) := by rw [ha8, ev_other _ _ _ _ (by decide)]; exact f7_8
  have f8_16 : a0_8.eval (.tmp 16) = .tuple #[keyV k, .bool ok] := by rw [ha8, ev_other _ _ _ _ (by decide)]; exact f7_16
  have f8_17 : a0_8.eval (.tmp 17) = keyV k := by rw [ha8]; exact ev_same _ _ _ (Nat.lt_of_le_of_lt (by decide) qz7)
  rw [← ha8] at h0 ⊢
  clear ha8
  refine wpAnyH_take (i := 8) (oi := pn_8 s) (v := .bool ok) (by kernel_rfl) (by kernel_rfl) (by kernel_rfl) (by kernel_rfl) (fun c a w h => hQ c _ _ _ w h) (Or.inl ⟨wanted_none rfl, fun w hw => by simp only [execOp, pn_8, f8_16]; rfl⟩) (hk1 k ok w1 hk hM1).1 ?_
  change wpAnyH _ _ _ _ _ _ _ (a0_8.put (some 18) (.bool ok)) _
  obtain ⟨a0_9, ha9⟩ : ∃ rr : Act, rr = a0_8.put (some 18) (.bool ok) := ⟨_, rfl⟩
  have qz9 : 18 < a0_9.tmps.size := by rw [ha9, sz_put]; exact qz8
  have f9_8 : a0_9.eval (.tmp 8) = .pointer (some ⟨zr, 0, none⟩) := by rw [ha9, ev_other _ _ _ _ (by decide)]; exact f8_8
  have f9_17 : a0_9.eval (.tmp 17) = keyV k := by rw [ha9, ev_other _ _ _ _ (by decide)]; exact f8_17
  have f9_18 : a0_9.eval (.tmp 18) = .bool ok := by rw [ha9]; exact ev_same _ _ _ (Nat.lt_of_le_of_lt (by decide) qz8)
  rw [← ha9] at h0 ⊢
  clear ha9
  refine wpAnyH_ready (rs := [9]) (by kernel_rfl) (by simp) ?_
  refine AllReadyH.cons (o := pn_9 s) (by kernel_rfl) (fun KQ hKQ => ?_) AllReadyH.nil
  rw [if_pos (wanted_none rfl)]
  refine step_skipE ((w1.setCells zr 0 (k.map u8c).toArray.toList)) (run_storeA rfl f9_8 f9_17 (hk1 k ok w1 hk hM1).2.1 32 rfl (by simp [hk]) infoKey (all_oneCell_toArray (u8c_one k))) ?_
  refine hKQ.out _ _ ((hk1 k ok w1 hk hM1).2.2) (fun _ => ?_)
  clear hKQ KQ
  change wpAnyH _ _ _ _ _ _ _ a0_9 _
  refine wpAnyH_take (i := 10) (oi := pn_10 s) (v := .bool ok) (by kernel_rfl) (by kernel_rfl) (by kernel_rfl) (by kernel_rfl) (fun c a w h => hQ c _ _ _ w h) (Or.inl ⟨wanted_none rfl, fun w hw => by simp only [execOp, pn_10, f9_18]; rfl⟩) (hk1 k ok w1 hk hM1).2.2 ?_
  change wpAnyH _ _ _ _ _ _ _ (a0_9.put (some 9) (.bool ok)) _
  obtain ⟨a0_11, ha11⟩ : ∃ rr : Act, rr = a0_9.put (some 9) (.bool ok) := ⟨_, rfl⟩
  have qz11 : 18 < a0_11.tmps.size := by rw [ha11, sz_put]; exact qz9
  rw [← ha11] at h0 ⊢
  clear ha11
  refine wpAnyH_done (by kernel_rfl) ?_ _
  exact h0
end Go.Proofs.Ytagnglkkmdeicaa
