/- A wide ring: boxes of an element; the drawn regions of at, set, push, pop. -/
import Derived.Test.YtjdlffmiokobnaaGreatDoorGR5g
namespace Go.Proofs.YtjdlffmiokobnaaGreatDoor
set_option linter.unusedVariables false
set_option linter.unusedSimpArgs false
namespace RG
open Go.RowKit
set_option maxRecDepth 100000

/-- A box that holds one element. -/
def BoxEl (w : World) (k : Nat) (x : EL) : Prop := Blk w k (elA x) elT
theorem rowC_one1 (x : EL) : (rowC [x]).toArray = elA x := by simp [rowC, elA]
theorem BoxEl.row {w : World} {k : Nat} {x : EL} (h : BoxEl w k x) : RowEl w k [x] := by unfold RowEl; rw [rowC_one1]; exact h
theorem BoxEl.of_row {w : World} {k : Nat} {x : EL} (h : RowEl w k [x]) : BoxEl w k x := by unfold RowEl at h; rw [rowC_one1] at h; exact h
theorem BoxEl.lt {w : World} {k : Nat} {x : EL} (h : BoxEl w k x) : k < w.heap.size := Blk.lt h
theorem BoxEl.same {w w' : World} {k : Nat} {x : EL} (h : BoxEl w k x) (hs : w'.heap[k]? = w.heap[k]?) : BoxEl w' k x := hs.trans h
theorem BoxEl.below {w w' : World} {k : Nat} {x : EL} (h : BoxEl w k x) (hb : Below w.heap.size w w') : BoxEl w' k x := h.same (hb.block _ h.lt)
theorem BoxEl.put {w : World} {k : Nat} {x : EL} (h : BoxEl w k x) (v : EL) : BoxEl (w.setCells k 0 (elC v)) k v ∧ w.grownBy (w.setCells k 0 (elC v)) (some k) := by
  obtain ⟨_, h2, h3⟩ := h.row.put 0 (by simp) v
  exact ⟨BoxEl.of_row h2, h3⟩
theorem run_ldB {op : Oper} {ev : Operand → Value} {x : Operand} {k : Nat} {v : EL} {w : World} (ho : op.op = .load elT x) (hx : ev x = .pointer (some ⟨k, 0, none⟩)) (h : BoxEl w k v) : (execOp ev op).run Tryz.prog w = .ok (.value (elV v)) w :=
  run_ldO (j := 0) ho hx h.row rfl
theorem run_stB {op : Oper} {ev : Operand → Value} {x y : Operand} {k : Nat} {u v : EL} {w : World} (ho : op.op = .store elT x y) (hx : ev x = .pointer (some ⟨k, 0, none⟩)) (hy : ev y = elV v) (h : BoxEl w k u) : (execOp ev op).run Tryz.prog w = .ok .skip (w.setCells k 0 (elC v)) :=
  run_stO (j := 0) ho hx hy h.row (by simp)
theorem loadB {w : World} {k : Nat} {v : EL} (h : BoxEl w k v) : (loadVar elT ⟨k, 0, none⟩).run Tryz.prog w = .ok (elV v) w := by
  have hs : (elA v).size = WD := by simp [elA, elC_len]
  exact loadBlkT h elT _ Tryz.underlying111 rfl WD elS hs
theorem zero_el (W : World) : (zeroValue elT).run Tryz.prog W = .ok (.agg (elA elZ)) W := by kernel_rfl
theorem BoxEl.made (w : World) (x : EL) : BoxEl (w.alloc (.cells (elA x) elT)) w.heap.size x := Blk.made w _ _
theorem wpList_ldB {ops : Array Oper} {rest : List Oper} {op : Oper} {a : Act} {w : World} {Q : Exit → Act → World → Prop} (hgd : op.guard = none) (x : Operand) (ho : op.op = .load elT x) (k : Nat) (hx : a.eval x = .pointer (some ⟨k, 0, none⟩)) (v : EL) (h : BoxEl w k v)
    (hk : wpList Tryz.prog ops Q rest (a.put op.dst (elV v)) w) : wpList Tryz.prog ops Q (op :: rest) a w := by
  refine wpList_plain hgd fun K hK => ?_
  unfold Oper.wp
  rw [run_ldB ho hx h]
  exact hK _ _ hk
theorem wpList_stB {ops : Array Oper} {rest : List Oper} {op : Oper} {a : Act} {w : World} {Q : Exit → Act → World → Prop} (hgd : op.guard = none) (x y : Operand) (ho : op.op = .store elT x y) (k : Nat) (hx : a.eval x = .pointer (some ⟨k, 0, none⟩)) (v u : EL) (hy : a.eval y = elV v) (h : BoxEl w k u)
    (hk : ∀ w', Hid (BoxEl w' k v) → Hid (w.grownBy w' (some k)) → wpList Tryz.prog ops Q rest (a.put op.dst undef) w') : wpList Tryz.prog ops Q (op :: rest) a w := by
  refine wpList_plain hgd fun K hK => ?_
  unfold Oper.wp
  rw [run_stB ho hx hy h]
  exact hK _ _ (hk _ (hide (h.put v).1) (hide (h.put v).2))
theorem results_cell_tmp {fn : Func} {p q : Tmp} {ty : TypeId} (h : fn.results = #[.cell p ty, .tmp q]) (tmps : Array Value) (w : World) (a : Addr) (ha : tmps.getD p undef = .pointer (some a)) (v u : Value) (hu : tmps.getD q undef = u) (hl : (loadVar ty a).run Tryz.prog w = .ok v w) :
    (results fn tmps).run Tryz.prog w = .ok (.tuple #[v, u]) w := by
  simp only [results, h]
  have ha' : tmps[p]?.getD undef = .pointer (some a) := by simpa using ha
  have hu' : tmps[q]?.getD undef = u := by simpa using hu
  simp [Sem.run_bind, Result.andThen, ha', hu', asAddr, hl]
def at4_0 (s : String) : Oper := { dst := some 12, op := Op.move (Operand.tmp 0), type := 221, pos := s, after := #[], guard := none }
def at4_1 (s : String) : Oper := { dst := some 13, op := Op.nilCheck (Operand.tmp 12), type := 0, pos := s, after := #[{ on := 0, ground := Ground.data }], guard := none }
def at4_2 (s : String) : Oper := { dst := some 14, op := Op.fieldAddr 117 (Operand.tmp 13) 0, type := 0, pos := s, after := #[{ on := 1, ground := Ground.data }], guard := none }
def at4_3 (s : String) : Oper := { dst := some 15, op := Op.load 57 (Operand.tmp 14), type := 57, pos := s, after := #[{ on := 2, ground := Ground.data }], guard := none }
def at4_4 (s : String) : Oper := { dst := some 16, op := Op.move (Operand.tmp 0), type := 221, pos := s, after := #[], guard := none }
def at4_5 (s : String) : Oper := { dst := some 17, op := Op.move (Operand.tmp 1), type := 3, pos := s, after := #[], guard := none }
def at4_6 (s : String) : Oper := { dst := some 18, op := Op.call { callee := Callee.value (Operand.func 143), args := #[Operand.tmp 16, Operand.tmp 17], argTypes := #[221, 3] }, type := 3, pos := s, after := #[{ on := 4, ground := Ground.data }, { on := 5, ground := Ground.data }], guard := none }
def at4_7 (s : String) : Oper := { dst := some 19, op := Op.indexAddr 57 (Operand.tmp 15) (Operand.tmp 18), type := 0, pos := s, after := #[{ on := 3, ground := Ground.data }, { on := 6, ground := Ground.data }], guard := none }
def at4_8 (s : String) : Oper := { dst := some 20, op := Op.load 111 (Operand.tmp 19), type := 111, pos := s, after := #[{ on := 7, ground := Ground.data }], guard := none }
def at4_9 (s : String) : Oper := { dst := none, op := Op.store 111 (Operand.tmp 4) (Operand.tmp 20), type := 0, pos := s, after := #[{ on := 8, ground := Ground.data }, { on := 6, ground := Ground.chain }, { on := 0, ground := Ground.phase }, { on := 1, ground := Ground.phase }, { on := 2, ground := Ground.phase }, { on := 3, ground := Ground.phase }, { on := 4, ground := Ground.phase }, { on := 5, ground := Ground.phase }, { on := 6, ground := Ground.phase }, { on := 7, ground := Ground.phase }, { on := 8, ground := Ground.phase }], guard := none }
def at4_10 (s : String) : Oper := { dst := some 5, op := Op.assign (Operand.const (Value.bool true)), type := 4, pos := s, after := #[{ on := 9, ground := Ground.chain }, { on := 0, ground := Ground.phase }, { on := 1, ground := Ground.phase }, { on := 2, ground := Ground.phase }, { on := 3, ground := Ground.phase }, { on := 4, ground := Ground.phase }, { on := 5, ground := Ground.phase }, { on := 6, ground := Ground.phase }, { on := 7, ground := Ground.phase }, { on := 8, ground := Ground.phase }, { on := 9, ground := Ground.phase }], guard := none }
def at4_ops (s : String) : Array Oper := #[at4_0 s, at4_1 s, at4_2 s, at4_3 s, at4_4 s, at4_5 s, at4_6 s, at4_7 s, at4_8 s, at4_9 s, at4_10 s]
theorem at4_enter6 (s : String) (a : Act) (w : World) : (execOp a.eval (at4_6 s)).run Tryz.prog w = .ok (.enter 143 #[a.eval (.tmp 16), a.eval (.tmp 17)]) w := by kernel_rfl
theorem at4_walk (s : String) {Q : Exit → Act → World → Prop} (hQ : ∀ c (a : Act) t v w, Q (.panic c) (a.put (some t) v) w → Q (.panic c) a w) (W : World) (z g b c i j k : Nat) (zT : TypeId) (S : List EL) (v u : EL) (hj : S[j]? = some v) (hkz : z ≠ k) (hkg : g ≠ k) (M1 : World → Prop) (hS0 : Blk W.drew z (rgL g S.length b c) zT ∧ RowEl W.drew g S) (hc1 : Calls Tryz.prog 143 #[.pointer (some ⟨z, 0, none⟩), .int .i64 (i : Int)] W.drew fun e w' => e = .returned (.int .i64 (j : Int)) ∧ M1 w') (hk1 : ∀ w1, M1 w1 → (Blk w1 z (rgL g S.length b c) zT ∧ RowEl w1 g S) ∧ BoxEl w1 k u)
    (a : Act) (hs : 20 < a.tmps.size) (e0 : a.eval (.tmp 0) = .pointer (some ⟨z, 0, none⟩)) (e1 : a.eval (.tmp 1) = .int .i64 (i : Int)) (e4 : a.eval (.tmp 4) = .pointer (some ⟨k, 0, none⟩))
    (h0 : ∀ w1, M1 w1 → Q .normal ((((((((((a.put (some 12) (.pointer (some ⟨z, 0, none⟩))).put (some 13) (.pointer (some ⟨z, 0, none⟩))).put (some 14) (.pointer (some ⟨z, 0, none⟩))).put (some 15) (.slice (some ⟨g, 0, none⟩) S.length S.length)).put (some 16) (.pointer (some ⟨z, 0, none⟩))).put (some 17) (.int .i64 (i : Int))).put (some 18) (.int .i64 (j : Int))).put (some 19) (.pointer (some ⟨g, ofs j, none⟩))).put (some 20) (.agg (elA v))).put (some 5) (.bool true)) (w1.setCells k 0 (elC v))) :
    Code.wp Tryz.prog (.region 4 (at4_ops s) true) Q a W := by
  refine wp_region_held_drew (S := fun w => Blk w z (rgL g S.length b c) zT ∧ RowEl w g S) (by kernel_rfl) hS0 (fun hS => ?_)
  change wpAnyH _ _ _ _ _ _ _ _ (World.drew _)
  refine wpAnyH_take (i := 0) (oi := at4_0 s) (v := .pointer (some ⟨z, 0, none⟩)) (by kernel_rfl) (by kernel_rfl) (by kernel_rfl) (by kernel_rfl) (fun c a w h => hQ c _ _ _ w h) (Or.inl ⟨wanted_none rfl, fun w hw => by simp only [execOp, at4_0, e0]; rfl⟩) hS ?_
  change wpAnyH _ _ _ _ _ _ _ (a.put (some 12) (.pointer (some ⟨z, 0, none⟩))) _
  obtain ⟨a0_1, ha1⟩ : ∃ rr : Act, rr = a.put (some 12) (.pointer (some ⟨z, 0, none⟩)) := ⟨_, rfl⟩
  have qz1 : 20 < a0_1.tmps.size := by rw [ha1, sz_put]; exact hs
  have f1_0 : a0_1.eval (.tmp 0) = .pointer (some ⟨z, 0, none⟩) := by rw [ha1, ev_other _ _ _ _ (by decide)]; exact e0
  have f1_1 : a0_1.eval (.tmp 1) = .int .i64 (i : Int) := by rw [ha1, ev_other _ _ _ _ (by decide)]; exact e1
  have f1_4 : a0_1.eval (.tmp 4) = .pointer (some ⟨k, 0, none⟩) := by rw [ha1, ev_other _ _ _ _ (by decide)]; exact e4
  have f1_12 : a0_1.eval (.tmp 12) = .pointer (some ⟨z, 0, none⟩) := by rw [ha1]; exact ev_same _ _ _ (Nat.lt_of_le_of_lt (by decide) hs)
  rw [← ha1] at h0 ⊢
  clear ha1
  refine wpAnyH_take (i := 1) (oi := at4_1 s) (v := .pointer (some ⟨z, 0, none⟩)) (by kernel_rfl) (by kernel_rfl) (by kernel_rfl) (by kernel_rfl) (fun c a w h => hQ c _ _ _ w h) (Or.inl ⟨wanted_none rfl, fun w hw => by simp only [execOp, at4_1, f1_12]; rfl⟩) hS ?_
  change wpAnyH _ _ _ _ _ _ _ (a0_1.put (some 13) (.pointer (some ⟨z, 0, none⟩))) _
  obtain ⟨a0_2, ha2⟩ : ∃ rr : Act, rr = a0_1.put (some 13) (.pointer (some ⟨z, 0, none⟩)) := ⟨_, rfl⟩
  have qz2 : 20 < a0_2.tmps.size := by rw [ha2, sz_put]; exact qz1
  have f2_0 : a0_2.eval (.tmp 0) = .pointer (some ⟨z, 0, none⟩) := by rw [ha2, ev_other _ _ _ _ (by decide)]; exact f1_0
  have f2_1 : a0_2.eval (.tmp 1) = .int .i64 (i : Int) := by rw [ha2, ev_other _ _ _ _ (by decide)]; exact f1_1
  have f2_4 : a0_2.eval (.tmp 4) = .pointer (some ⟨k, 0, none⟩) := by rw [ha2, ev_other _ _ _ _ (by decide)]; exact f1_4
  have f2_13 : a0_2.eval (.tmp 13) = .pointer (some ⟨z, 0, none⟩) := by rw [ha2]; exact ev_same _ _ _ (Nat.lt_of_le_of_lt (by decide) qz1)
  rw [← ha2] at h0 ⊢
  clear ha2
  refine wpAnyH_take (i := 2) (oi := at4_2 s) (v := .pointer (some ⟨z, 0, none⟩)) (by kernel_rfl) (by kernel_rfl) (by kernel_rfl) (by kernel_rfl) (fun c a w h => hQ c _ _ _ w h) (Or.inl ⟨wanted_none rfl, fun w hw => by simp only [execOp, at4_2, f2_13]; rfl⟩) hS ?_
  change wpAnyH _ _ _ _ _ _ _ (a0_2.put (some 14) (.pointer (some ⟨z, 0, none⟩))) _
  obtain ⟨a0_3, ha3⟩ : ∃ rr : Act, rr = a0_2.put (some 14) (.pointer (some ⟨z, 0, none⟩)) := ⟨_, rfl⟩
  have qz3 : 20 < a0_3.tmps.size := by rw [ha3, sz_put]; exact qz2
  have f3_0 : a0_3.eval (.tmp 0) = .pointer (some ⟨z, 0, none⟩) := by rw [ha3, ev_other _ _ _ _ (by decide)]; exact f2_0
  have f3_1 : a0_3.eval (.tmp 1) = .int .i64 (i : Int) := by rw [ha3, ev_other _ _ _ _ (by decide)]; exact f2_1
  have f3_4 : a0_3.eval (.tmp 4) = .pointer (some ⟨k, 0, none⟩) := by rw [ha3, ev_other _ _ _ _ (by decide)]; exact f2_4
  have f3_14 : a0_3.eval (.tmp 14) = .pointer (some ⟨z, 0, none⟩) := by rw [ha3]; exact ev_same _ _ _ (Nat.lt_of_le_of_lt (by decide) qz2)
  rw [← ha3] at h0 ⊢
  clear ha3
  refine wpAnyH_take (i := 3) (oi := at4_3 s) (v := .slice (some ⟨g, 0, none⟩) S.length S.length) (by kernel_rfl) (by kernel_rfl) (by kernel_rfl) (by kernel_rfl) (fun c a w h => hQ c _ _ _ w h) (Or.inl ⟨wanted_none rfl, fun w hw => run_load rfl f3_14 (load_slS (by rw [hw.1.cell]; rfl))⟩) hS ?_
  change wpAnyH _ _ _ _ _ _ _ (a0_3.put (some 15) (.slice (some ⟨g, 0, none⟩) S.length S.length)) _
  obtain ⟨a0_4, ha4⟩ : ∃ rr : Act, rr = a0_3.put (some 15) (.slice (some ⟨g, 0, none⟩) S.length S.length) := ⟨_, rfl⟩
  have qz4 : 20 < a0_4.tmps.size := by rw [ha4, sz_put]; exact qz3
  have f4_0 : a0_4.eval (.tmp 0) = .pointer (some ⟨z, 0, none⟩) := by rw [ha4, ev_other _ _ _ _ (by decide)]; exact f3_0
  have f4_1 : a0_4.eval (.tmp 1) = .int .i64 (i : Int) := by rw [ha4, ev_other _ _ _ _ (by decide)]; exact f3_1
  have f4_4 : a0_4.eval (.tmp 4) = .pointer (some ⟨k, 0, none⟩) := by rw [ha4, ev_other _ _ _ _ (by decide)]; exact f3_4
  have f4_15 : a0_4.eval (.tmp 15) = .slice (some ⟨g, 0, none⟩) S.length S.length := by rw [ha4]; exact ev_same _ _ _ (Nat.lt_of_le_of_lt (by decide) qz3)
  rw [← ha4] at h0 ⊢
  clear ha4
  refine wpAnyH_take (i := 4) (oi := at4_4 s) (v := .pointer (some ⟨z, 0, none⟩)) (by kernel_rfl) (by kernel_rfl) (by kernel_rfl) (by kernel_rfl) (fun c a w h => hQ c _ _ _ w h) (Or.inl ⟨wanted_none rfl, fun w hw => by simp only [execOp, at4_4, f4_0]; rfl⟩) hS ?_
  change wpAnyH _ _ _ _ _ _ _ (a0_4.put (some 16) (.pointer (some ⟨z, 0, none⟩))) _
  obtain ⟨a0_5, ha5⟩ : ∃ rr : Act, rr = a0_4.put (some 16) (.pointer (some ⟨z, 0, none⟩)) := ⟨_, rfl⟩
  have qz5 : 20 < a0_5.tmps.size := by rw [ha5, sz_put]; exact qz4
  have f5_1 : a0_5.eval (.tmp 1) = .int .i64 (i : Int) := by rw [ha5, ev_other _ _ _ _ (by decide)]; exact f4_1
  have f5_4 : a0_5.eval (.tmp 4) = .pointer (some ⟨k, 0, none⟩) := by rw [ha5, ev_other _ _ _ _ (by decide)]; exact f4_4
  have f5_15 : a0_5.eval (.tmp 15) = .slice (some ⟨g, 0, none⟩) S.length S.length := by rw [ha5, ev_other _ _ _ _ (by decide)]; exact f4_15
  have f5_16 : a0_5.eval (.tmp 16) = .pointer (some ⟨z, 0, none⟩) := by rw [ha5]; exact ev_same _ _ _ (Nat.lt_of_le_of_lt (by decide) qz4)
  rw [← ha5] at h0 ⊢
  clear ha5
  refine wpAnyH_take (i := 5) (oi := at4_5 s) (v := .int .i64 (i : Int)) (by kernel_rfl) (by kernel_rfl) (by kernel_rfl) (by kernel_rfl) (fun c a w h => hQ c _ _ _ w h) (Or.inl ⟨wanted_none rfl, fun w hw => by simp only [execOp, at4_5, f5_1]; rfl⟩) hS ?_
  change wpAnyH _ _ _ _ _ _ _ (a0_5.put (some 17) (.int .i64 (i : Int))) _
  obtain ⟨a0_6, ha6⟩ : ∃ rr : Act, rr = a0_5.put (some 17) (.int .i64 (i : Int)) := ⟨_, rfl⟩
  have qz6 : 20 < a0_6.tmps.size := by rw [ha6, sz_put]; exact qz5
  have f6_4 : a0_6.eval (.tmp 4) = .pointer (some ⟨k, 0, none⟩) := by rw [ha6, ev_other _ _ _ _ (by decide)]; exact f5_4
  have f6_15 : a0_6.eval (.tmp 15) = .slice (some ⟨g, 0, none⟩) S.length S.length := by rw [ha6, ev_other _ _ _ _ (by decide)]; exact f5_15
  have f6_16 : a0_6.eval (.tmp 16) = .pointer (some ⟨z, 0, none⟩) := by rw [ha6, ev_other _ _ _ _ (by decide)]; exact f5_16
  have f6_17 : a0_6.eval (.tmp 17) = .int .i64 (i : Int) := by rw [ha6]; exact ev_same _ _ _ (Nat.lt_of_le_of_lt (by decide) qz5)
  rw [← ha6] at h0 ⊢
  clear ha6
  refine wpAnyH_ready (rs := [6]) (by kernel_rfl) (by simp) ?_
  refine AllReadyH.cons (o := at4_6 s) (by kernel_rfl) (fun KQ hKQ => ?_) AllReadyH.nil
  rw [if_pos (wanted_none rfl)]
  refine step_enterE 143 #[.pointer (some ⟨z, 0, none⟩), .int .i64 (i : Int)] (by rw [at4_enter6, f6_16, f6_17]) (fun V w' => V = .int .i64 (j : Int) ∧ M1 w') (hc1.mono (fun e w' ⟨h1, h2⟩ => ⟨_, h1, rfl, h2⟩)) ?_
  rintro _ w1 ⟨rfl, hM1⟩
  refine hKQ.out _ _ ((hk1 w1 hM1).1) (fun _ => ?_)
  clear hKQ KQ
  change wpAnyH _ _ _ _ _ _ _ (a0_6.put (some 18) (.int .i64 (j : Int))) _
  have h0 := h0 w1 hM1
  obtain ⟨a0_7, ha7⟩ : ∃ rr : Act, rr = a0_6.put (some 18) (.int .i64 (j : Int)) := ⟨_, rfl⟩
  have qz7 : 20 < a0_7.tmps.size := by rw [ha7, sz_put]; exact qz6
  have f7_4 : a0_7.eval (.tmp 4) = .pointer (some ⟨k, 0, none⟩) := by rw [ha7, ev_other _ _ _ _ (by decide)]; exact f6_4
  have f7_15 : a0_7.eval (.tmp 15) = .slice (some ⟨g, 0, none⟩) S.length S.length := by rw [ha7, ev_other _ _ _ _ (by decide)]; exact f6_15
  have f7_18 : a0_7.eval (.tmp 18) = .int .i64 (j : Int) := by rw [ha7]; exact ev_same _ _ _ (Nat.lt_of_le_of_lt (by decide) qz6)
  rw [← ha7] at h0 ⊢
  clear ha7
  refine wpAnyH_take (i := 7) (oi := at4_7 s) (v := .pointer (some ⟨g, ofs j, none⟩)) (by kernel_rfl) (by kernel_rfl) (by kernel_rfl) (by kernel_rfl) (fun c a w h => hQ c _ _ _ w h) (Or.inl ⟨wanted_none rfl, fun w hw => run_ixO rfl f7_15 f7_18 (List.getElem?_eq_some_iff.1 hj).1 w⟩) (hk1 w1 hM1).1 ?_
  change wpAnyH _ _ _ _ _ _ _ (a0_7.put (some 19) (.pointer (some ⟨g, ofs j, none⟩))) _
  obtain ⟨a0_8, ha8⟩ : ∃ rr : Act, rr = a0_7.put (some 19) (.pointer (some ⟨g, ofs j, none⟩)) := ⟨_, rfl⟩
  have qz8 : 20 < a0_8.tmps.size := by rw [ha8, sz_put]; exact qz7
  have f8_4 : a0_8.eval (.tmp 4) = .pointer (some ⟨k, 0, none⟩) := by rw [ha8, ev_other _ _ _ _ (by decide)]; exact f7_4
  have f8_19 : a0_8.eval (.tmp 19) = .pointer (some ⟨g, ofs j, none⟩) := by rw [ha8]; exact ev_same _ _ _ (Nat.lt_of_le_of_lt (by decide) qz7)
  rw [← ha8] at h0 ⊢
  clear ha8
  refine wpAnyH_take (i := 8) (oi := at4_8 s) (v := .agg (elA v)) (by kernel_rfl) (by kernel_rfl) (by kernel_rfl) (by kernel_rfl) (fun c a w h => hQ c _ _ _ w h) (Or.inl ⟨wanted_none rfl, fun w hw => run_ldO rfl f8_19 hw.2 hj⟩) (hk1 w1 hM1).1 ?_
  change wpAnyH _ _ _ _ _ _ _ (a0_8.put (some 20) (.agg (elA v))) _
  obtain ⟨a0_9, ha9⟩ : ∃ rr : Act, rr = a0_8.put (some 20) (.agg (elA v)) := ⟨_, rfl⟩
  have qz9 : 20 < a0_9.tmps.size := by rw [ha9, sz_put]; exact qz8
  have f9_4 : a0_9.eval (.tmp 4) = .pointer (some ⟨k, 0, none⟩) := by rw [ha9, ev_other _ _ _ _ (by decide)]; exact f8_4
  have f9_20 : a0_9.eval (.tmp 20) = .agg (elA v) := by rw [ha9]; exact ev_same _ _ _ (Nat.lt_of_le_of_lt (by decide) qz8)
  rw [← ha9] at h0 ⊢
  clear ha9
  refine wpAnyH_ready (rs := [9]) (by kernel_rfl) (by simp) ?_
  refine AllReadyH.cons (o := at4_9 s) (by kernel_rfl) (fun KQ hKQ => ?_) AllReadyH.nil
  rw [if_pos (wanted_none rfl)]
  refine step_skipE (w1.setCells k 0 (elC v)) (run_stB rfl f9_4 f9_20 (hk1 w1 hM1).2) ?_
  refine hKQ.out _ _ ((show Blk (w1.setCells k 0 (elC v)) z (rgL g S.length b c) zT ∧ RowEl (w1.setCells k 0 (elC v)) g S from ⟨Blk.grown (hk1 w1 hM1).1.1 ((hk1 w1 hM1).2.put v).2 (fun e => hkz (Option.some.inj e)), RowEl.grown (hk1 w1 hM1).1.2 ((hk1 w1 hM1).2.put v).2 (fun e => hkg (Option.some.inj e))⟩)) (fun _ => ?_)
  clear hKQ KQ
  change wpAnyH _ _ _ _ _ _ _ a0_9 _
  refine wpAnyH_take (i := 10) (oi := at4_10 s) (v := .bool true) (by kernel_rfl) (by kernel_rfl) (by kernel_rfl) (by kernel_rfl) (fun c a w h => hQ c _ _ _ w h) (Or.inl ⟨wanted_none rfl, fun w hw => by simp only [execOp, at4_10]; rfl⟩) (show Blk (w1.setCells k 0 (elC v)) z (rgL g S.length b c) zT ∧ RowEl (w1.setCells k 0 (elC v)) g S from ⟨Blk.grown (hk1 w1 hM1).1.1 ((hk1 w1 hM1).2.put v).2 (fun e => hkz (Option.some.inj e)), RowEl.grown (hk1 w1 hM1).1.2 ((hk1 w1 hM1).2.put v).2 (fun e => hkg (Option.some.inj e))⟩) ?_
  change wpAnyH _ _ _ _ _ _ _ (a0_9.put (some 5) (.bool true)) _
  obtain ⟨a0_11, ha11⟩ : ∃ rr : Act, rr = a0_9.put (some 5) (.bool true) := ⟨_, rfl⟩
  have qz11 : 20 < a0_11.tmps.size := by rw [ha11, sz_put]; exact qz9
  rw [← ha11] at h0 ⊢
  clear ha11
  refine wpAnyH_done (by kernel_rfl) ?_ _
  exact h0
def st3_0 (s : String) : Oper := { dst := some 11, op := Op.move (Operand.tmp 0), type := 221, pos := s, after := #[], guard := none }
def st3_1 (s : String) : Oper := { dst := some 12, op := Op.nilCheck (Operand.tmp 11), type := 0, pos := s, after := #[{ on := 0, ground := Ground.data }], guard := none }
def st3_2 (s : String) : Oper := { dst := some 13, op := Op.fieldAddr 117 (Operand.tmp 12) 0, type := 0, pos := s, after := #[{ on := 1, ground := Ground.data }], guard := none }
def st3_3 (s : String) : Oper := { dst := some 14, op := Op.load 57 (Operand.tmp 13), type := 57, pos := s, after := #[{ on := 2, ground := Ground.data }], guard := none }
def st3_4 (s : String) : Oper := { dst := some 15, op := Op.move (Operand.tmp 0), type := 221, pos := s, after := #[], guard := none }
def st3_5 (s : String) : Oper := { dst := some 16, op := Op.move (Operand.tmp 1), type := 3, pos := s, after := #[], guard := none }
def st3_6 (s : String) : Oper := { dst := some 17, op := Op.call { callee := Callee.value (Operand.func 143), args := #[Operand.tmp 15, Operand.tmp 16], argTypes := #[221, 3] }, type := 3, pos := s, after := #[{ on := 4, ground := Ground.data }, { on := 5, ground := Ground.data }], guard := none }
def st3_7 (s : String) : Oper := { dst := some 18, op := Op.load 111 (Operand.tmp 5), type := 111, pos := s, after := #[], guard := none }
def st3_8 (s : String) : Oper := { dst := some 19, op := Op.indexAddr 57 (Operand.tmp 14) (Operand.tmp 17), type := 0, pos := s, after := #[{ on := 3, ground := Ground.data }, { on := 6, ground := Ground.data }, { on := 0, ground := Ground.phase }, { on := 1, ground := Ground.phase }, { on := 2, ground := Ground.phase }, { on := 3, ground := Ground.phase }, { on := 4, ground := Ground.phase }, { on := 5, ground := Ground.phase }, { on := 6, ground := Ground.phase }, { on := 7, ground := Ground.phase }], guard := none }
def st3_9 (s : String) : Oper := { dst := none, op := Op.store 111 (Operand.tmp 19) (Operand.tmp 18), type := 0, pos := s, after := #[{ on := 8, ground := Ground.data }, { on := 7, ground := Ground.data }, { on := 6, ground := Ground.chain }, { on := 0, ground := Ground.phase }, { on := 1, ground := Ground.phase }, { on := 2, ground := Ground.phase }, { on := 3, ground := Ground.phase }, { on := 4, ground := Ground.phase }, { on := 5, ground := Ground.phase }, { on := 6, ground := Ground.phase }, { on := 7, ground := Ground.phase }], guard := none }
def st3_ops (s : String) : Array Oper := #[st3_0 s, st3_1 s, st3_2 s, st3_3 s, st3_4 s, st3_5 s, st3_6 s, st3_7 s, st3_8 s, st3_9 s]
theorem st3_enter6 (s : String) (a : Act) (w : World) : (execOp a.eval (st3_6 s)).run Tryz.prog w = .ok (.enter 143 #[a.eval (.tmp 15), a.eval (.tmp 16)]) w := by kernel_rfl
theorem st3_walk (s : String) {Q : Exit → Act → World → Prop} (hQ : ∀ c (a : Act) t v w, Q (.panic c) (a.put (some t) v) w → Q (.panic c) a w) (W : World) (z g b c i j k : Nat) (zT : TypeId) (S : List EL) (v : EL) (hj : j < S.length) (hne : z ≠ g) (hkg : k ≠ g) (M1 : World → Prop) (hS0 : Blk W.drew z (rgL g S.length b c) zT ∧ BoxEl W.drew k v) (hc1 : Calls Tryz.prog 143 #[.pointer (some ⟨z, 0, none⟩), .int .i64 (i : Int)] W.drew fun e w' => e = .returned (.int .i64 (j : Int)) ∧ M1 w') (hk1 : ∀ w1, M1 w1 → (Blk w1 z (rgL g S.length b c) zT ∧ BoxEl w1 k v) ∧ RowEl w1 g S)
    (a : Act) (hs : 19 < a.tmps.size) (e0 : a.eval (.tmp 0) = .pointer (some ⟨z, 0, none⟩)) (e1 : a.eval (.tmp 1) = .int .i64 (i : Int)) (e5 : a.eval (.tmp 5) = .pointer (some ⟨k, 0, none⟩))
    (h0 : ∀ w1, M1 w1 → Q .normal (((((((((a.put (some 11) (.pointer (some ⟨z, 0, none⟩))).put (some 12) (.pointer (some ⟨z, 0, none⟩))).put (some 13) (.pointer (some ⟨z, 0, none⟩))).put (some 14) (.slice (some ⟨g, 0, none⟩) S.length S.length)).put (some 15) (.pointer (some ⟨z, 0, none⟩))).put (some 16) (.int .i64 (i : Int))).put (some 18) (.agg (elA v))).put (some 17) (.int .i64 (j : Int))).put (some 19) (.pointer (some ⟨g, ofs j, none⟩))) (w1.setCells g (ofs j) (elC v))) :
    Code.wp Tryz.prog (.region 3 (st3_ops s) true) Q a W := by
  refine wp_region_held_drew (S := fun w => Blk w z (rgL g S.length b c) zT ∧ BoxEl w k v) (by kernel_rfl) hS0 (fun hS => ?_)
  change wpAnyH _ _ _ _ _ _ _ _ (World.drew _)
  refine wpAnyH_take (i := 0) (oi := st3_0 s) (v := .pointer (some ⟨z, 0, none⟩)) (by kernel_rfl) (by kernel_rfl) (by kernel_rfl) (by kernel_rfl) (fun c a w h => hQ c _ _ _ w h) (Or.inl ⟨wanted_none rfl, fun w hw => by simp only [execOp, st3_0, e0]; rfl⟩) hS ?_
  change wpAnyH _ _ _ _ _ _ _ (a.put (some 11) (.pointer (some ⟨z, 0, none⟩))) _
  obtain ⟨a0_1, ha1⟩ : ∃ rr : Act, rr = a.put (some 11) (.pointer (some ⟨z, 0, none⟩)) := ⟨_, rfl⟩
  have qz1 : 19 < a0_1.tmps.size := by rw [ha1, sz_put]; exact hs
  have f1_0 : a0_1.eval (.tmp 0) = .pointer (some ⟨z, 0, none⟩) := by rw [ha1, ev_other _ _ _ _ (by decide)]; exact e0
  have f1_1 : a0_1.eval (.tmp 1) = .int .i64 (i : Int) := by rw [ha1, ev_other _ _ _ _ (by decide)]; exact e1
  have f1_5 : a0_1.eval (.tmp 5) = .pointer (some ⟨k, 0, none⟩) := by rw [ha1, ev_other _ _ _ _ (by decide)]; exact e5
  have f1_11 : a0_1.eval (.tmp 11) = .pointer (some ⟨z, 0, none⟩) := by rw [ha1]; exact ev_same _ _ _ (Nat.lt_of_le_of_lt (by decide) hs)
  rw [← ha1] at h0 ⊢
  clear ha1
  refine wpAnyH_take (i := 1) (oi := st3_1 s) (v := .pointer (some ⟨z, 0, none⟩)) (by kernel_rfl) (by kernel_rfl) (by kernel_rfl) (by kernel_rfl) (fun c a w h => hQ c _ _ _ w h) (Or.inl ⟨wanted_none rfl, fun w hw => by simp only [execOp, st3_1, f1_11]; rfl⟩) hS ?_
  change wpAnyH _ _ _ _ _ _ _ (a0_1.put (some 12) (.pointer (some ⟨z, 0, none⟩))) _
  obtain ⟨a0_2, ha2⟩ : ∃ rr : Act, rr = a0_1.put (some 12) (.pointer (some ⟨z, 0, none⟩)) := ⟨_, rfl⟩
  have qz2 : 19 < a0_2.tmps.size := by rw [ha2, sz_put]; exact qz1
  have f2_0 : a0_2.eval (.tmp 0) = .pointer (some ⟨z, 0, none⟩) := by rw [ha2, ev_other _ _ _ _ (by decide)]; exact f1_0
  have f2_1 : a0_2.eval (.tmp 1) = .int .i64 (i : Int) := by rw [ha2, ev_other _ _ _ _ (by decide)]; exact f1_1
  have f2_5 : a0_2.eval (.tmp 5) = .pointer (some ⟨k, 0, none⟩) := by rw [ha2, ev_other _ _ _ _ (by decide)]; exact f1_5
  have f2_12 : a0_2.eval (.tmp 12) = .pointer (some ⟨z, 0, none⟩) := by rw [ha2]; exact ev_same _ _ _ (Nat.lt_of_le_of_lt (by decide) qz1)
  rw [← ha2] at h0 ⊢
  clear ha2
  refine wpAnyH_take (i := 2) (oi := st3_2 s) (v := .pointer (some ⟨z, 0, none⟩)) (by kernel_rfl) (by kernel_rfl) (by kernel_rfl) (by kernel_rfl) (fun c a w h => hQ c _ _ _ w h) (Or.inl ⟨wanted_none rfl, fun w hw => by simp only [execOp, st3_2, f2_12]; rfl⟩) hS ?_
  change wpAnyH _ _ _ _ _ _ _ (a0_2.put (some 13) (.pointer (some ⟨z, 0, none⟩))) _
  obtain ⟨a0_3, ha3⟩ : ∃ rr : Act, rr = a0_2.put (some 13) (.pointer (some ⟨z, 0, none⟩)) := ⟨_, rfl⟩
  have qz3 : 19 < a0_3.tmps.size := by rw [ha3, sz_put]; exact qz2
  have f3_0 : a0_3.eval (.tmp 0) = .pointer (some ⟨z, 0, none⟩) := by rw [ha3, ev_other _ _ _ _ (by decide)]; exact f2_0
  have f3_1 : a0_3.eval (.tmp 1) = .int .i64 (i : Int) := by rw [ha3, ev_other _ _ _ _ (by decide)]; exact f2_1
  have f3_5 : a0_3.eval (.tmp 5) = .pointer (some ⟨k, 0, none⟩) := by rw [ha3, ev_other _ _ _ _ (by decide)]; exact f2_5
  have f3_13 : a0_3.eval (.tmp 13) = .pointer (some ⟨z, 0, none⟩) := by rw [ha3]; exact ev_same _ _ _ (Nat.lt_of_le_of_lt (by decide) qz2)
  rw [← ha3] at h0 ⊢
  clear ha3
  refine wpAnyH_take (i := 3) (oi := st3_3 s) (v := .slice (some ⟨g, 0, none⟩) S.length S.length) (by kernel_rfl) (by kernel_rfl) (by kernel_rfl) (by kernel_rfl) (fun c a w h => hQ c _ _ _ w h) (Or.inl ⟨wanted_none rfl, fun w hw => run_load rfl f3_13 (load_slS (by rw [hw.1.cell]; rfl))⟩) hS ?_
  change wpAnyH _ _ _ _ _ _ _ (a0_3.put (some 14) (.slice (some ⟨g, 0, none⟩) S.length S.length)) _
  obtain ⟨a0_4, ha4⟩ : ∃ rr : Act, rr = a0_3.put (some 14) (.slice (some ⟨g, 0, none⟩) S.length S.length) := ⟨_, rfl⟩
  have qz4 : 19 < a0_4.tmps.size := by rw [ha4, sz_put]; exact qz3
  have f4_0 : a0_4.eval (.tmp 0) = .pointer (some ⟨z, 0, none⟩) := by rw [ha4, ev_other _ _ _ _ (by decide)]; exact f3_0
  have f4_1 : a0_4.eval (.tmp 1) = .int .i64 (i : Int) := by rw [ha4, ev_other _ _ _ _ (by decide)]; exact f3_1
  have f4_5 : a0_4.eval (.tmp 5) = .pointer (some ⟨k, 0, none⟩) := by rw [ha4, ev_other _ _ _ _ (by decide)]; exact f3_5
  have f4_14 : a0_4.eval (.tmp 14) = .slice (some ⟨g, 0, none⟩) S.length S.length := by rw [ha4]; exact ev_same _ _ _ (Nat.lt_of_le_of_lt (by decide) qz3)
  rw [← ha4] at h0 ⊢
  clear ha4
  refine wpAnyH_take (i := 4) (oi := st3_4 s) (v := .pointer (some ⟨z, 0, none⟩)) (by kernel_rfl) (by kernel_rfl) (by kernel_rfl) (by kernel_rfl) (fun c a w h => hQ c _ _ _ w h) (Or.inl ⟨wanted_none rfl, fun w hw => by simp only [execOp, st3_4, f4_0]; rfl⟩) hS ?_
  change wpAnyH _ _ _ _ _ _ _ (a0_4.put (some 15) (.pointer (some ⟨z, 0, none⟩))) _
  obtain ⟨a0_5, ha5⟩ : ∃ rr : Act, rr = a0_4.put (some 15) (.pointer (some ⟨z, 0, none⟩)) := ⟨_, rfl⟩
  have qz5 : 19 < a0_5.tmps.size := by rw [ha5, sz_put]; exact qz4
  have f5_1 : a0_5.eval (.tmp 1) = .int .i64 (i : Int) := by rw [ha5, ev_other _ _ _ _ (by decide)]; exact f4_1
  have f5_5 : a0_5.eval (.tmp 5) = .pointer (some ⟨k, 0, none⟩) := by rw [ha5, ev_other _ _ _ _ (by decide)]; exact f4_5
  have f5_14 : a0_5.eval (.tmp 14) = .slice (some ⟨g, 0, none⟩) S.length S.length := by rw [ha5, ev_other _ _ _ _ (by decide)]; exact f4_14
  have f5_15 : a0_5.eval (.tmp 15) = .pointer (some ⟨z, 0, none⟩) := by rw [ha5]; exact ev_same _ _ _ (Nat.lt_of_le_of_lt (by decide) qz4)
  rw [← ha5] at h0 ⊢
  clear ha5
  refine wpAnyH_take (i := 5) (oi := st3_5 s) (v := .int .i64 (i : Int)) (by kernel_rfl) (by kernel_rfl) (by kernel_rfl) (by kernel_rfl) (fun c a w h => hQ c _ _ _ w h) (Or.inl ⟨wanted_none rfl, fun w hw => by simp only [execOp, st3_5, f5_1]; rfl⟩) hS ?_
  change wpAnyH _ _ _ _ _ _ _ (a0_5.put (some 16) (.int .i64 (i : Int))) _
  obtain ⟨a0_6, ha6⟩ : ∃ rr : Act, rr = a0_5.put (some 16) (.int .i64 (i : Int)) := ⟨_, rfl⟩
  have qz6 : 19 < a0_6.tmps.size := by rw [ha6, sz_put]; exact qz5
  have f6_5 : a0_6.eval (.tmp 5) = .pointer (some ⟨k, 0, none⟩) := by rw [ha6, ev_other _ _ _ _ (by decide)]; exact f5_5
  have f6_14 : a0_6.eval (.tmp 14) = .slice (some ⟨g, 0, none⟩) S.length S.length := by rw [ha6, ev_other _ _ _ _ (by decide)]; exact f5_14
  have f6_15 : a0_6.eval (.tmp 15) = .pointer (some ⟨z, 0, none⟩) := by rw [ha6, ev_other _ _ _ _ (by decide)]; exact f5_15
  have f6_16 : a0_6.eval (.tmp 16) = .int .i64 (i : Int) := by rw [ha6]; exact ev_same _ _ _ (Nat.lt_of_le_of_lt (by decide) qz5)
  rw [← ha6] at h0 ⊢
  clear ha6
  refine wpAnyH_take (i := 7) (oi := st3_7 s) (v := .agg (elA v)) (by kernel_rfl) (by kernel_rfl) (by kernel_rfl) (by kernel_rfl) (fun c a w h => hQ c _ _ _ w h) (Or.inl ⟨wanted_none rfl, fun w hw => run_ldB rfl f6_5 hw.2⟩) hS ?_
  change wpAnyH _ _ _ _ _ _ _ (a0_6.put (some 18) (.agg (elA v))) _
  obtain ⟨a0_7, ha7⟩ : ∃ rr : Act, rr = a0_6.put (some 18) (.agg (elA v)) := ⟨_, rfl⟩
  have qz7 : 19 < a0_7.tmps.size := by rw [ha7, sz_put]; exact qz6
  have f7_14 : a0_7.eval (.tmp 14) = .slice (some ⟨g, 0, none⟩) S.length S.length := by rw [ha7, ev_other _ _ _ _ (by decide)]; exact f6_14
  have f7_15 : a0_7.eval (.tmp 15) = .pointer (some ⟨z, 0, none⟩) := by rw [ha7, ev_other _ _ _ _ (by decide)]; exact f6_15
  have f7_16 : a0_7.eval (.tmp 16) = .int .i64 (i : Int) := by rw [ha7, ev_other _ _ _ _ (by decide)]; exact f6_16
  have f7_18 : a0_7.eval (.tmp 18) = .agg (elA v) := by rw [ha7]; exact ev_same _ _ _ (Nat.lt_of_le_of_lt (by decide) qz6)
  rw [← ha7] at h0 ⊢
  clear ha7
  refine wpAnyH_ready (rs := [6]) (by kernel_rfl) (by simp) ?_
  refine AllReadyH.cons (o := st3_6 s) (by kernel_rfl) (fun KQ hKQ => ?_) AllReadyH.nil
  rw [if_pos (wanted_none rfl)]
  refine step_enterE 143 #[.pointer (some ⟨z, 0, none⟩), .int .i64 (i : Int)] (by rw [st3_enter6, f7_15, f7_16]) (fun V w' => V = .int .i64 (j : Int) ∧ M1 w') (hc1.mono (fun e w' ⟨h1, h2⟩ => ⟨_, h1, rfl, h2⟩)) ?_
  rintro _ w1 ⟨rfl, hM1⟩
  refine hKQ.out _ _ ((hk1 w1 hM1).1) (fun _ => ?_)
  clear hKQ KQ
  change wpAnyH _ _ _ _ _ _ _ (a0_7.put (some 17) (.int .i64 (j : Int))) _
  have h0 := h0 w1 hM1
  obtain ⟨a0_8, ha8⟩ : ∃ rr : Act, rr = a0_7.put (some 17) (.int .i64 (j : Int)) := ⟨_, rfl⟩
  have qz8 : 19 < a0_8.tmps.size := by rw [ha8, sz_put]; exact qz7
  have f8_14 : a0_8.eval (.tmp 14) = .slice (some ⟨g, 0, none⟩) S.length S.length := by rw [ha8, ev_other _ _ _ _ (by decide)]; exact f7_14
  have f8_17 : a0_8.eval (.tmp 17) = .int .i64 (j : Int) := by rw [ha8]; exact ev_same _ _ _ (Nat.lt_of_le_of_lt (by decide) qz7)
  have f8_18 : a0_8.eval (.tmp 18) = .agg (elA v) := by rw [ha8, ev_other _ _ _ _ (by decide)]; exact f7_18
  rw [← ha8] at h0 ⊢
  clear ha8
  refine wpAnyH_take (i := 8) (oi := st3_8 s) (v := .pointer (some ⟨g, ofs j, none⟩)) (by kernel_rfl) (by kernel_rfl) (by kernel_rfl) (by kernel_rfl) (fun c a w h => hQ c _ _ _ w h) (Or.inl ⟨wanted_none rfl, fun w hw => run_ixO rfl f8_14 f8_17 hj w⟩) (hk1 w1 hM1).1 ?_
  change wpAnyH _ _ _ _ _ _ _ (a0_8.put (some 19) (.pointer (some ⟨g, ofs j, none⟩))) _
  obtain ⟨a0_9, ha9⟩ : ∃ rr : Act, rr = a0_8.put (some 19) (.pointer (some ⟨g, ofs j, none⟩)) := ⟨_, rfl⟩
  have qz9 : 19 < a0_9.tmps.size := by rw [ha9, sz_put]; exact qz8
  have f9_18 : a0_9.eval (.tmp 18) = .agg (elA v) := by rw [ha9, ev_other _ _ _ _ (by decide)]; exact f8_18
  have f9_19 : a0_9.eval (.tmp 19) = .pointer (some ⟨g, ofs j, none⟩) := by rw [ha9]; exact ev_same _ _ _ (Nat.lt_of_le_of_lt (by decide) qz8)
  rw [← ha9] at h0 ⊢
  clear ha9
  refine wpAnyH_ready (rs := [9]) (by kernel_rfl) (by simp) ?_
  refine AllReadyH.cons (o := st3_9 s) (by kernel_rfl) (fun KQ hKQ => ?_) AllReadyH.nil
  rw [if_pos (wanted_none rfl)]
  refine step_skipE (w1.setCells g (ofs j) (elC v)) (run_stO rfl f9_19 f9_18 (hk1 w1 hM1).2 hj) ?_
  refine hKQ.out _ _ ((show Blk (w1.setCells g (ofs j) (elC v)) z (rgL g S.length b c) zT ∧ BoxEl (w1.setCells g (ofs j) (elC v)) k v from ⟨Blk.grown (hk1 w1 hM1).1.1 ((hk1 w1 hM1).2.put j hj v).2.2 (fun e => hne (Option.some.inj e)), Blk.grown (hk1 w1 hM1).1.2 ((hk1 w1 hM1).2.put j hj v).2.2 (fun e => hkg (Option.some.inj e))⟩)) (fun _ => ?_)
  clear hKQ KQ
  refine wpAnyH_done (by kernel_rfl) ?_ _
  exact h0
def ps6_0 (s : String) : Oper := { dst := some 37, op := Op.move (Operand.tmp 0), type := 221, pos := s, after := #[], guard := none }
def ps6_1 (s : String) : Oper := { dst := some 38, op := Op.move (Operand.tmp 0), type := 221, pos := s, after := #[], guard := none }
def ps6_2 (s : String) : Oper := { dst := some 39, op := Op.move (Operand.tmp 1), type := 4, pos := s, after := #[], guard := none }
def ps6_3 (s : String) : Oper := { dst := some 40, op := Op.call { callee := Callee.value (Operand.func 145), args := #[Operand.tmp 38, Operand.tmp 39], argTypes := #[221, 4] }, type := 3, pos := s, after := #[{ on := 1, ground := Ground.data }, { on := 2, ground := Ground.data }], guard := none }
def ps6_4 (s : String) : Oper := { dst := some 41, op := Op.load 111 (Operand.tmp 5), type := 111, pos := s, after := #[], guard := none }
def ps6_5 (s : String) : Oper := { dst := some 42, op := Op.call { callee := Callee.value (Operand.func 144), args := #[Operand.tmp 37, Operand.tmp 40, Operand.tmp 41], argTypes := #[221, 3, 111] }, type := 4, pos := s, after := #[{ on := 0, ground := Ground.data }, { on := 3, ground := Ground.data }, { on := 4, ground := Ground.data }, { on := 3, ground := Ground.chain }], guard := none }
def ps6_ops (s : String) : Array Oper := #[ps6_0 s, ps6_1 s, ps6_2 s, ps6_3 s, ps6_4 s, ps6_5 s]
theorem ps6_enter3 (s : String) (a : Act) (w : World) : (execOp a.eval (ps6_3 s)).run Tryz.prog w = .ok (.enter 145 #[a.eval (.tmp 38), a.eval (.tmp 39)]) w := by kernel_rfl
theorem ps6_enter5 (s : String) (a : Act) (w : World) : (execOp a.eval (ps6_5 s)).run Tryz.prog w = .ok (.enter 144 #[a.eval (.tmp 37), a.eval (.tmp 40), a.eval (.tmp 41)]) w := by kernel_rfl
theorem ps6_walk (s : String) {Q : Exit → Act → World → Prop} (hQ : ∀ c (a : Act) t v w, Q (.panic c) (a.put (some t) v) w → Q (.panic c) a w) (W : World) (z k : Nat) (i : Int) (bt : Bool) (v : EL) (M1 M2 : World → Prop) (hS0 : BoxEl W.drew k v) (hc1 : Calls Tryz.prog 145 #[.pointer (some ⟨z, 0, none⟩), .bool bt] W.drew fun e w' => e = .returned (.int .i64 i) ∧ M1 w') (hk1 : ∀ w1, M1 w1 → BoxEl w1 k v) (hc2 : ∀ w1, M1 w1 → Calls Tryz.prog 144 #[.pointer (some ⟨z, 0, none⟩), .int .i64 i, .agg (elA v)] w1 fun e w' => e = .returned (.bool true) ∧ M2 w') (hk2 : ∀ w2, M2 w2 → BoxEl w2 k v)
    (a : Act) (hs : 42 < a.tmps.size) (e0 : a.eval (.tmp 0) = .pointer (some ⟨z, 0, none⟩)) (e1 : a.eval (.tmp 1) = .bool bt) (e5 : a.eval (.tmp 5) = .pointer (some ⟨k, 0, none⟩))
    (h0 : ∀ w1, M1 w1 → ∀ w2, M2 w2 → Q .normal ((((((a.put (some 37) (.pointer (some ⟨z, 0, none⟩))).put (some 38) (.pointer (some ⟨z, 0, none⟩))).put (some 39) (.bool bt)).put (some 41) (.agg (elA v))).put (some 40) (.int .i64 i)).put (some 42) (.bool true)) w2) :
    Code.wp Tryz.prog (.region 6 (ps6_ops s) true) Q a W := by
  refine wp_region_held_drew (S := fun w => BoxEl w k v) (by kernel_rfl) hS0 (fun hS => ?_)
  change wpAnyH _ _ _ _ _ _ _ _ (World.drew _)
  refine wpAnyH_take (i := 0) (oi := ps6_0 s) (v := .pointer (some ⟨z, 0, none⟩)) (by kernel_rfl) (by kernel_rfl) (by kernel_rfl) (by kernel_rfl) (fun c a w h => hQ c _ _ _ w h) (Or.inl ⟨wanted_none rfl, fun w hw => by simp only [execOp, ps6_0, e0]; rfl⟩) hS ?_
  change wpAnyH _ _ _ _ _ _ _ (a.put (some 37) (.pointer (some ⟨z, 0, none⟩))) _
  obtain ⟨a0_1, ha1⟩ : ∃ rr : Act, rr = a.put (some 37) (.pointer (some ⟨z, 0, none⟩)) := ⟨_, rfl⟩
  have qz1 : 42 < a0_1.tmps.size := by rw [ha1, sz_put]; exact hs
  have f1_0 : a0_1.eval (.tmp 0) = .pointer (some ⟨z, 0, none⟩) := by rw [ha1, ev_other _ _ _ _ (by decide)]; exact e0
  have f1_1 : a0_1.eval (.tmp 1) = .bool bt := by rw [ha1, ev_other _ _ _ _ (by decide)]; exact e1
  have f1_5 : a0_1.eval (.tmp 5) = .pointer (some ⟨k, 0, none⟩) := by rw [ha1, ev_other _ _ _ _ (by decide)]; exact e5
  have f1_37 : a0_1.eval (.tmp 37) = .pointer (some ⟨z, 0, none⟩) := by rw [ha1]; exact ev_same _ _ _ (Nat.lt_of_le_of_lt (by decide) hs)
  rw [← ha1] at h0 ⊢
  clear ha1
  refine wpAnyH_take (i := 1) (oi := ps6_1 s) (v := .pointer (some ⟨z, 0, none⟩)) (by kernel_rfl) (by kernel_rfl) (by kernel_rfl) (by kernel_rfl) (fun c a w h => hQ c _ _ _ w h) (Or.inl ⟨wanted_none rfl, fun w hw => by simp only [execOp, ps6_1, f1_0]; rfl⟩) hS ?_
  change wpAnyH _ _ _ _ _ _ _ (a0_1.put (some 38) (.pointer (some ⟨z, 0, none⟩))) _
  obtain ⟨a0_2, ha2⟩ : ∃ rr : Act, rr = a0_1.put (some 38) (.pointer (some ⟨z, 0, none⟩)) := ⟨_, rfl⟩
  have qz2 : 42 < a0_2.tmps.size := by rw [ha2, sz_put]; exact qz1
  have f2_1 : a0_2.eval (.tmp 1) = .bool bt := by rw [ha2, ev_other _ _ _ _ (by decide)]; exact f1_1
  have f2_5 : a0_2.eval (.tmp 5) = .pointer (some ⟨k, 0, none⟩) := by rw [ha2, ev_other _ _ _ _ (by decide)]; exact f1_5
  have f2_37 : a0_2.eval (.tmp 37) = .pointer (some ⟨z, 0, none⟩) := by rw [ha2, ev_other _ _ _ _ (by decide)]; exact f1_37
  have f2_38 : a0_2.eval (.tmp 38) = .pointer (some ⟨z, 0, none⟩) := by rw [ha2]; exact ev_same _ _ _ (Nat.lt_of_le_of_lt (by decide) qz1)
  rw [← ha2] at h0 ⊢
  clear ha2
  refine wpAnyH_take (i := 2) (oi := ps6_2 s) (v := .bool bt) (by kernel_rfl) (by kernel_rfl) (by kernel_rfl) (by kernel_rfl) (fun c a w h => hQ c _ _ _ w h) (Or.inl ⟨wanted_none rfl, fun w hw => by simp only [execOp, ps6_2, f2_1]; rfl⟩) hS ?_
  change wpAnyH _ _ _ _ _ _ _ (a0_2.put (some 39) (.bool bt)) _
  obtain ⟨a0_3, ha3⟩ : ∃ rr : Act, rr = a0_2.put (some 39) (.bool bt) := ⟨_, rfl⟩
  have qz3 : 42 < a0_3.tmps.size := by rw [ha3, sz_put]; exact qz2
  have f3_5 : a0_3.eval (.tmp 5) = .pointer (some ⟨k, 0, none⟩) := by rw [ha3, ev_other _ _ _ _ (by decide)]; exact f2_5
  have f3_37 : a0_3.eval (.tmp 37) = .pointer (some ⟨z, 0, none⟩) := by rw [ha3, ev_other _ _ _ _ (by decide)]; exact f2_37
  have f3_38 : a0_3.eval (.tmp 38) = .pointer (some ⟨z, 0, none⟩) := by rw [ha3, ev_other _ _ _ _ (by decide)]; exact f2_38
  have f3_39 : a0_3.eval (.tmp 39) = .bool bt := by rw [ha3]; exact ev_same _ _ _ (Nat.lt_of_le_of_lt (by decide) qz2)
  rw [← ha3] at h0 ⊢
  clear ha3
  refine wpAnyH_take (i := 4) (oi := ps6_4 s) (v := .agg (elA v)) (by kernel_rfl) (by kernel_rfl) (by kernel_rfl) (by kernel_rfl) (fun c a w h => hQ c _ _ _ w h) (Or.inl ⟨wanted_none rfl, fun w hw => run_ldB rfl f3_5 hw⟩) hS ?_
  change wpAnyH _ _ _ _ _ _ _ (a0_3.put (some 41) (.agg (elA v))) _
  obtain ⟨a0_4, ha4⟩ : ∃ rr : Act, rr = a0_3.put (some 41) (.agg (elA v)) := ⟨_, rfl⟩
  have qz4 : 42 < a0_4.tmps.size := by rw [ha4, sz_put]; exact qz3
  have f4_37 : a0_4.eval (.tmp 37) = .pointer (some ⟨z, 0, none⟩) := by rw [ha4, ev_other _ _ _ _ (by decide)]; exact f3_37
  have f4_38 : a0_4.eval (.tmp 38) = .pointer (some ⟨z, 0, none⟩) := by rw [ha4, ev_other _ _ _ _ (by decide)]; exact f3_38
  have f4_39 : a0_4.eval (.tmp 39) = .bool bt := by rw [ha4, ev_other _ _ _ _ (by decide)]; exact f3_39
  have f4_41 : a0_4.eval (.tmp 41) = .agg (elA v) := by rw [ha4]; exact ev_same _ _ _ (Nat.lt_of_le_of_lt (by decide) qz3)
  rw [← ha4] at h0 ⊢
  clear ha4
  refine wpAnyH_ready (rs := [3]) (by kernel_rfl) (by simp) ?_
  refine AllReadyH.cons (o := ps6_3 s) (by kernel_rfl) (fun KQ hKQ => ?_) AllReadyH.nil
  rw [if_pos (wanted_none rfl)]
  refine step_enterE 145 #[.pointer (some ⟨z, 0, none⟩), .bool bt] (by rw [ps6_enter3, f4_38, f4_39]) (fun V w' => V = .int .i64 i ∧ M1 w') (hc1.mono (fun e w' ⟨h1, h2⟩ => ⟨_, h1, rfl, h2⟩)) ?_
  rintro _ w1 ⟨rfl, hM1⟩
  refine hKQ.out _ _ (hk1 w1 hM1) (fun _ => ?_)
  clear hKQ KQ
  change wpAnyH _ _ _ _ _ _ _ (a0_4.put (some 40) (.int .i64 i)) _
  have h0 := h0 w1 hM1
  obtain ⟨a0_5, ha5⟩ : ∃ rr : Act, rr = a0_4.put (some 40) (.int .i64 i) := ⟨_, rfl⟩
  have qz5 : 42 < a0_5.tmps.size := by rw [ha5, sz_put]; exact qz4
  have f5_37 : a0_5.eval (.tmp 37) = .pointer (some ⟨z, 0, none⟩) := by rw [ha5, ev_other _ _ _ _ (by decide)]; exact f4_37
  have f5_40 : a0_5.eval (.tmp 40) = .int .i64 i := by rw [ha5]; exact ev_same _ _ _ (Nat.lt_of_le_of_lt (by decide) qz4)
  have f5_41 : a0_5.eval (.tmp 41) = .agg (elA v) := by rw [ha5, ev_other _ _ _ _ (by decide)]; exact f4_41
  rw [← ha5] at h0 ⊢
  clear ha5
  refine wpAnyH_ready (rs := [5]) (by kernel_rfl) (by simp) ?_
  refine AllReadyH.cons (o := ps6_5 s) (by kernel_rfl) (fun KQ hKQ => ?_) AllReadyH.nil
  rw [if_pos (wanted_none rfl)]
  refine step_enterE 144 #[.pointer (some ⟨z, 0, none⟩), .int .i64 i, .agg (elA v)] (by rw [ps6_enter5, f5_37, f5_40, f5_41]) (fun V w' => V = .bool true ∧ M2 w') ((hc2 w1 hM1).mono (fun e w' ⟨h1, h2⟩ => ⟨_, h1, rfl, h2⟩)) ?_
  rintro _ w2 ⟨rfl, hM2⟩
  refine hKQ.out _ _ (hk2 w2 hM2) (fun _ => ?_)
  clear hKQ KQ
  change wpAnyH _ _ _ _ _ _ _ (a0_5.put (some 42) (.bool true)) _
  have h0 := h0 w2 hM2
  obtain ⟨a0_6, ha6⟩ : ∃ rr : Act, rr = a0_5.put (some 42) (.bool true) := ⟨_, rfl⟩
  have qz6 : 42 < a0_6.tmps.size := by rw [ha6, sz_put]; exact qz5
  rw [← ha6] at h0 ⊢
  clear ha6
  refine wpAnyH_done (by kernel_rfl) ?_ _
  exact h0
def pp5_0 (s : String) : Oper := { dst := some 20, op := Op.move (Operand.tmp 0), type := 221, pos := s, after := #[], guard := none }
def pp5_1 (s : String) : Oper := { dst := some 21, op := Op.move (Operand.tmp 0), type := 221, pos := s, after := #[], guard := none }
def pp5_2 (s : String) : Oper := { dst := some 22, op := Op.move (Operand.tmp 1), type := 4, pos := s, after := #[], guard := none }
def pp5_3 (s : String) : Oper := { dst := some 23, op := Op.call { callee := Callee.value (Operand.func 145), args := #[Operand.tmp 21, Operand.tmp 22], argTypes := #[221, 4] }, type := 3, pos := s, after := #[{ on := 1, ground := Ground.data }, { on := 2, ground := Ground.data }], guard := none }
def pp5_4 (s : String) : Oper := { dst := some 24, op := Op.load 111 (Operand.tmp 8), type := 111, pos := s, after := #[], guard := none }
def pp5_5 (s : String) : Oper := { dst := some 25, op := Op.call { callee := Callee.value (Operand.func 144), args := #[Operand.tmp 20, Operand.tmp 23, Operand.tmp 24], argTypes := #[221, 3, 111] }, type := 4, pos := s, after := #[{ on := 0, ground := Ground.data }, { on := 3, ground := Ground.data }, { on := 4, ground := Ground.data }, { on := 3, ground := Ground.chain }], guard := none }
def pp5_ops (s : String) : Array Oper := #[pp5_0 s, pp5_1 s, pp5_2 s, pp5_3 s, pp5_4 s, pp5_5 s]
theorem pp5_enter3 (s : String) (a : Act) (w : World) : (execOp a.eval (pp5_3 s)).run Tryz.prog w = .ok (.enter 145 #[a.eval (.tmp 21), a.eval (.tmp 22)]) w := by kernel_rfl
theorem pp5_enter5 (s : String) (a : Act) (w : World) : (execOp a.eval (pp5_5 s)).run Tryz.prog w = .ok (.enter 144 #[a.eval (.tmp 20), a.eval (.tmp 23), a.eval (.tmp 24)]) w := by kernel_rfl
theorem pp5_walk (s : String) {Q : Exit → Act → World → Prop} (hQ : ∀ c (a : Act) t v w, Q (.panic c) (a.put (some t) v) w → Q (.panic c) a w) (W : World) (z k : Nat) (i : Int) (bt : Bool) (v : EL) (M1 M2 : World → Prop) (hS0 : BoxEl W.drew k v) (hc1 : Calls Tryz.prog 145 #[.pointer (some ⟨z, 0, none⟩), .bool bt] W.drew fun e w' => e = .returned (.int .i64 i) ∧ M1 w') (hk1 : ∀ w1, M1 w1 → BoxEl w1 k v) (hc2 : ∀ w1, M1 w1 → Calls Tryz.prog 144 #[.pointer (some ⟨z, 0, none⟩), .int .i64 i, .agg (elA v)] w1 fun e w' => e = .returned (.bool true) ∧ M2 w') (hk2 : ∀ w2, M2 w2 → BoxEl w2 k v)
    (a : Act) (hs : 25 < a.tmps.size) (e0 : a.eval (.tmp 0) = .pointer (some ⟨z, 0, none⟩)) (e1 : a.eval (.tmp 1) = .bool bt) (e8 : a.eval (.tmp 8) = .pointer (some ⟨k, 0, none⟩))
    (h0 : ∀ w1, M1 w1 → ∀ w2, M2 w2 → Q .normal ((((((a.put (some 20) (.pointer (some ⟨z, 0, none⟩))).put (some 21) (.pointer (some ⟨z, 0, none⟩))).put (some 22) (.bool bt)).put (some 24) (.agg (elA v))).put (some 23) (.int .i64 i)).put (some 25) (.bool true)) w2) :
    Code.wp Tryz.prog (.region 5 (pp5_ops s) true) Q a W := by
  refine wp_region_held_drew (S := fun w => BoxEl w k v) (by kernel_rfl) hS0 (fun hS => ?_)
  change wpAnyH _ _ _ _ _ _ _ _ (World.drew _)
  refine wpAnyH_take (i := 0) (oi := pp5_0 s) (v := .pointer (some ⟨z, 0, none⟩)) (by kernel_rfl) (by kernel_rfl) (by kernel_rfl) (by kernel_rfl) (fun c a w h => hQ c _ _ _ w h) (Or.inl ⟨wanted_none rfl, fun w hw => by simp only [execOp, pp5_0, e0]; rfl⟩) hS ?_
  change wpAnyH _ _ _ _ _ _ _ (a.put (some 20) (.pointer (some ⟨z, 0, none⟩))) _
  obtain ⟨a0_1, ha1⟩ : ∃ rr : Act, rr = a.put (some 20) (.pointer (some ⟨z, 0, none⟩)) := ⟨_, rfl⟩
  have qz1 : 25 < a0_1.tmps.size := by rw [ha1, sz_put]; exact hs
  have f1_0 : a0_1.eval (.tmp 0) = .pointer (some ⟨z, 0, none⟩) := by rw [ha1, ev_other _ _ _ _ (by decide)]; exact e0
  have f1_1 : a0_1.eval (.tmp 1) = .bool bt := by rw [ha1, ev_other _ _ _ _ (by decide)]; exact e1
  have f1_8 : a0_1.eval (.tmp 8) = .pointer (some ⟨k, 0, none⟩) := by rw [ha1, ev_other _ _ _ _ (by decide)]; exact e8
  have f1_20 : a0_1.eval (.tmp 20) = .pointer (some ⟨z, 0, none⟩) := by rw [ha1]; exact ev_same _ _ _ (Nat.lt_of_le_of_lt (by decide) hs)
  rw [← ha1] at h0 ⊢
  clear ha1
  refine wpAnyH_take (i := 1) (oi := pp5_1 s) (v := .pointer (some ⟨z, 0, none⟩)) (by kernel_rfl) (by kernel_rfl) (by kernel_rfl) (by kernel_rfl) (fun c a w h => hQ c _ _ _ w h) (Or.inl ⟨wanted_none rfl, fun w hw => by simp only [execOp, pp5_1, f1_0]; rfl⟩) hS ?_
  change wpAnyH _ _ _ _ _ _ _ (a0_1.put (some 21) (.pointer (some ⟨z, 0, none⟩))) _
  obtain ⟨a0_2, ha2⟩ : ∃ rr : Act, rr = a0_1.put (some 21) (.pointer (some ⟨z, 0, none⟩)) := ⟨_, rfl⟩
  have qz2 : 25 < a0_2.tmps.size := by rw [ha2, sz_put]; exact qz1
  have f2_1 : a0_2.eval (.tmp 1) = .bool bt := by rw [ha2, ev_other _ _ _ _ (by decide)]; exact f1_1
  have f2_8 : a0_2.eval (.tmp 8) = .pointer (some ⟨k, 0, none⟩) := by rw [ha2, ev_other _ _ _ _ (by decide)]; exact f1_8
  have f2_20 : a0_2.eval (.tmp 20) = .pointer (some ⟨z, 0, none⟩) := by rw [ha2, ev_other _ _ _ _ (by decide)]; exact f1_20
  have f2_21 : a0_2.eval (.tmp 21) = .pointer (some ⟨z, 0, none⟩) := by rw [ha2]; exact ev_same _ _ _ (Nat.lt_of_le_of_lt (by decide) qz1)
  rw [← ha2] at h0 ⊢
  clear ha2
  refine wpAnyH_take (i := 2) (oi := pp5_2 s) (v := .bool bt) (by kernel_rfl) (by kernel_rfl) (by kernel_rfl) (by kernel_rfl) (fun c a w h => hQ c _ _ _ w h) (Or.inl ⟨wanted_none rfl, fun w hw => by simp only [execOp, pp5_2, f2_1]; rfl⟩) hS ?_
  change wpAnyH _ _ _ _ _ _ _ (a0_2.put (some 22) (.bool bt)) _
  obtain ⟨a0_3, ha3⟩ : ∃ rr : Act, rr = a0_2.put (some 22) (.bool bt) := ⟨_, rfl⟩
  have qz3 : 25 < a0_3.tmps.size := by rw [ha3, sz_put]; exact qz2
  have f3_8 : a0_3.eval (.tmp 8) = .pointer (some ⟨k, 0, none⟩) := by rw [ha3, ev_other _ _ _ _ (by decide)]; exact f2_8
  have f3_20 : a0_3.eval (.tmp 20) = .pointer (some ⟨z, 0, none⟩) := by rw [ha3, ev_other _ _ _ _ (by decide)]; exact f2_20
  have f3_21 : a0_3.eval (.tmp 21) = .pointer (some ⟨z, 0, none⟩) := by rw [ha3, ev_other _ _ _ _ (by decide)]; exact f2_21
  have f3_22 : a0_3.eval (.tmp 22) = .bool bt := by rw [ha3]; exact ev_same _ _ _ (Nat.lt_of_le_of_lt (by decide) qz2)
  rw [← ha3] at h0 ⊢
  clear ha3
  refine wpAnyH_take (i := 4) (oi := pp5_4 s) (v := .agg (elA v)) (by kernel_rfl) (by kernel_rfl) (by kernel_rfl) (by kernel_rfl) (fun c a w h => hQ c _ _ _ w h) (Or.inl ⟨wanted_none rfl, fun w hw => run_ldB rfl f3_8 hw⟩) hS ?_
  change wpAnyH _ _ _ _ _ _ _ (a0_3.put (some 24) (.agg (elA v))) _
  obtain ⟨a0_4, ha4⟩ : ∃ rr : Act, rr = a0_3.put (some 24) (.agg (elA v)) := ⟨_, rfl⟩
  have qz4 : 25 < a0_4.tmps.size := by rw [ha4, sz_put]; exact qz3
  have f4_20 : a0_4.eval (.tmp 20) = .pointer (some ⟨z, 0, none⟩) := by rw [ha4, ev_other _ _ _ _ (by decide)]; exact f3_20
  have f4_21 : a0_4.eval (.tmp 21) = .pointer (some ⟨z, 0, none⟩) := by rw [ha4, ev_other _ _ _ _ (by decide)]; exact f3_21
  have f4_22 : a0_4.eval (.tmp 22) = .bool bt := by rw [ha4, ev_other _ _ _ _ (by decide)]; exact f3_22
  have f4_24 : a0_4.eval (.tmp 24) = .agg (elA v) := by rw [ha4]; exact ev_same _ _ _ (Nat.lt_of_le_of_lt (by decide) qz3)
  rw [← ha4] at h0 ⊢
  clear ha4
  refine wpAnyH_ready (rs := [3]) (by kernel_rfl) (by simp) ?_
  refine AllReadyH.cons (o := pp5_3 s) (by kernel_rfl) (fun KQ hKQ => ?_) AllReadyH.nil
  rw [if_pos (wanted_none rfl)]
  refine step_enterE 145 #[.pointer (some ⟨z, 0, none⟩), .bool bt] (by rw [pp5_enter3, f4_21, f4_22]) (fun V w' => V = .int .i64 i ∧ M1 w') (hc1.mono (fun e w' ⟨h1, h2⟩ => ⟨_, h1, rfl, h2⟩)) ?_
  rintro _ w1 ⟨rfl, hM1⟩
  refine hKQ.out _ _ (hk1 w1 hM1) (fun _ => ?_)
  clear hKQ KQ
  change wpAnyH _ _ _ _ _ _ _ (a0_4.put (some 23) (.int .i64 i)) _
  have h0 := h0 w1 hM1
  obtain ⟨a0_5, ha5⟩ : ∃ rr : Act, rr = a0_4.put (some 23) (.int .i64 i) := ⟨_, rfl⟩
  have qz5 : 25 < a0_5.tmps.size := by rw [ha5, sz_put]; exact qz4
  have f5_20 : a0_5.eval (.tmp 20) = .pointer (some ⟨z, 0, none⟩) := by rw [ha5, ev_other _ _ _ _ (by decide)]; exact f4_20
  have f5_23 : a0_5.eval (.tmp 23) = .int .i64 i := by rw [ha5]; exact ev_same _ _ _ (Nat.lt_of_le_of_lt (by decide) qz4)
  have f5_24 : a0_5.eval (.tmp 24) = .agg (elA v) := by rw [ha5, ev_other _ _ _ _ (by decide)]; exact f4_24
  rw [← ha5] at h0 ⊢
  clear ha5
  refine wpAnyH_ready (rs := [5]) (by kernel_rfl) (by simp) ?_
  refine AllReadyH.cons (o := pp5_5 s) (by kernel_rfl) (fun KQ hKQ => ?_) AllReadyH.nil
  rw [if_pos (wanted_none rfl)]
  refine step_enterE 144 #[.pointer (some ⟨z, 0, none⟩), .int .i64 i, .agg (elA v)] (by rw [pp5_enter5, f5_20, f5_23, f5_24]) (fun V w' => V = .bool true ∧ M2 w') ((hc2 w1 hM1).mono (fun e w' ⟨h1, h2⟩ => ⟨_, h1, rfl, h2⟩)) ?_
  rintro _ w2 ⟨rfl, hM2⟩
  refine hKQ.out _ _ (hk2 w2 hM2) (fun _ => ?_)
  clear hKQ KQ
  change wpAnyH _ _ _ _ _ _ _ (a0_5.put (some 25) (.bool true)) _
  have h0 := h0 w2 hM2
  obtain ⟨a0_6, ha6⟩ : ∃ rr : Act, rr = a0_5.put (some 25) (.bool true) := ⟨_, rfl⟩
  have qz6 : 25 < a0_6.tmps.size := by rw [ha6, sz_put]; exact qz5
  rw [← ha6] at h0 ⊢
  clear ha6
  refine wpAnyH_done (by kernel_rfl) ?_ _
  exact h0
end RG
end Go.Proofs.YtjdlffmiokobnaaGreatDoor
