/- step: the region that takes a slot out. -/
import Derived.Test.YtjhbebaephmcgaaVXG
namespace Go.Proofs.Ytjhbebaephmcgaa
set_option linter.unusedVariables false
set_option linter.unusedSimpArgs false
namespace TX
set_option maxRecDepth 100000
set_option maxHeartbeats 8000000
open Go.RowKit Go.Sort

theorem fld (t : TypeId) (z o i j : Nat) (hk : ∀ w, (Instr.fieldAt t (.pointer (some ⟨z, o, none⟩)) i).run Try.prog w = .ok (.pointer (some ⟨z, o + j, none⟩)) w) {op : Oper} {ev : Operand → Value} {x : Operand} (ho : op.op = .fieldAddr t x i) (hx : ev x = .pointer (some ⟨z, o, none⟩)) (w : World) : (execOp ev op).run Try.prog w = .ok (.value (.pointer (some ⟨z, o + j, none⟩))) w := by
  simp only [execOp, ho, hx, Sem.run_bind, hk, Result.andThen_ok, Sem.run_pure]
theorem fT2 (z : Nat) (w : World) : (Instr.fieldAt TT (.pointer (some ⟨z, 0, none⟩)) 2).run Try.prog w = .ok (.pointer (some ⟨z, 4, none⟩)) w := by kernel_rfl
theorem fT3 (z : Nat) (w : World) : (Instr.fieldAt TT (.pointer (some ⟨z, 0, none⟩)) 3).run Try.prog w = .ok (.pointer (some ⟨z, 7, none⟩)) w := by kernel_rfl
theorem fA0 (z o : Nat) (w : World) : (Instr.fieldAt AT (.pointer (some ⟨z, o, none⟩)) 0).run Try.prog w = .ok (.pointer (some ⟨z, o, none⟩)) w := by kernel_rfl
theorem load_sl {w : World} {b o : Nat} {v : Value} (h : w.cell? ⟨b, o, none⟩ = some v) : (Instr.loadAt SST (.pointer (some ⟨b, o, none⟩))).run Try.prog w = .ok v w := by
  have hu := Try.underlying43
  simp [go_sem, h, hu]
theorem load_int {w : World} {b o : Nat} {v : Value} (h : w.cell? ⟨b, o, none⟩ = some v) : (Instr.loadAt 3 (.pointer (some ⟨b, o, none⟩))).run Try.prog w = .ok v w := by
  have hu := Try.underlying3
  simp [go_sem, h, hu]
theorem run_idx {op : Oper} {ev : Operand → Value} {x y : Operand} {g n c j : Nat} (ho : op.op = .indexAddr SST x y) (hx : ev x = .slice (some ⟨g, 0, none⟩) n c) (hy : ev y = .int .i64 (j : Int)) (h : (j : Int) < (n : Int)) (w : World) : (execOp ev op).run Try.prog w = .ok (.value (.pointer (some ⟨g, j * 6, none⟩))) w := by
  have hu := uS
  have hs : (sizeOf ST).run Try.prog w = .ok 6 w := by kernel_rfl
  simp only [execOp, ho, hx, hy]
  simp [go_sem, hu, hs, h]
/-- A box with a slot. -/
def SB (w : World) (b : Nat) (s : SL) : Prop := Blk w b (slA s) ST
theorem SB.made (w : World) (s : SL) : SB (w.alloc (.cells (slA s) ST)) w.heap.size s := Blk.made w _ _
theorem zero_S (W : World) : (zeroValue ST).run Try.prog W = .ok (.agg (slA .emp)) W := by kernel_rfl
theorem SB.st {w : World} {b : Nat} {s : SL} (h : SB w b s) : w.cell? ⟨b, 0, none⟩ = some (.int .u8 (s.st : Int)) := by rw [Blk.cell h]; rfl
theorem SB.key {w : World} {b : Nat} {s : SL} (h : SB w b s) : w.rangeAt b 1 (kC (kS s)) := fun j v hj => by
  have hl := (List.getElem?_eq_some_iff.1 hj).1
  rw [Blk.cell h, slA, List.getElem?_toArray, slC, Nat.add_comm, List.getElem?_cons_succ, List.getElem?_append_left hl]; exact hj
theorem SB.val {w : World} {b : Nat} {s : SL} (h : SB w b s) : w.rangeAt b 5 (eC (vS s)) := fun j v hj => by
  rw [Blk.cell h, slA, List.getElem?_toArray, slC, show 5 + j = (4 + j) + 1 by omega, List.getElem?_cons_succ, List.getElem?_append_right (by rw [kC_len]; omega), kC_len, show 4 + j - 4 = j by omega]; exact hj
theorem SB.put {w : World} {b : Nat} {u : SL} (h : SB w b u) (s : SL) : SB (w.setCells b 0 (slC s)) b s ∧ w.grownBy (w.setCells b 0 (slC s)) (some b) := by
  obtain ⟨h1, h2⟩ := setCells_row (slC s) 0 w (slA u) h (by rw [slC_len, slA_size]; decide)
  refine ⟨?_, h2⟩
  have e : (slA u).toList.take 0 ++ slC s ++ (slA u).toList.drop (0 + (slC s).length) = slC s := by
    rw [List.take_zero, List.nil_append, List.drop_of_length_le (by rw [Array.length_toList, slA_size, slC_len]; decide), List.append_nil]
  rw [e] at h1
  exact h1
theorem run_allocS {op : Oper} {ev : Operand → Value} (ho : op.op = .alloc ST) (w : World) : (execOp ev op).run Try.prog w = .ok (.value (.pointer (some ⟨w.heap.size, 0, none⟩))) (w.alloc (.cells (slA .emp) ST)) := by
  have hz := zero_S w
  simp only [execOp, ho]
  simp [go_sem, hz]
theorem run_stSB {op : Oper} {ev : Operand → Value} {x y : Operand} {b : Nat} {u s : SL} {w : World} (ho : op.op = .store ST x y) (hx : ev x = .pointer (some ⟨b, 0, none⟩)) (hy : ev y = slV s) (h : SB w b u) : (execOp ev op).run Try.prog w = .ok .skip (w.setCells b 0 (slC s)) := by
  have ht : w.there b 0 6 := there_row h 0 6 (by rw [slA_size]; decide)
  have := run_stS (w := w) (b := b) (o := 0) (s := s) ht
  simp only [execOp, ho, hx, hy, Sem.run_bind, this, Result.andThen_ok, Sem.run_pure]
def st3_0 (s : String) : Oper := { dst := some 8, op := Op.move (Operand.tmp 0), type := 23, pos := s, after := #[], guard := none }
def st3_1 (s : String) : Oper := { dst := some 9, op := Op.nilCheck (Operand.tmp 8), type := 0, pos := s, after := #[{ on := 0, ground := Ground.data }], guard := none }
def st3_2 (s : String) : Oper := { dst := some 10, op := Op.fieldAddr 48 (Operand.tmp 9) 2, type := 0, pos := s, after := #[{ on := 1, ground := Ground.data }], guard := none }
def st3_3 (s : String) : Oper := { dst := some 11, op := Op.fieldAddr 45 (Operand.tmp 10) 0, type := 0, pos := s, after := #[{ on := 2, ground := Ground.data }], guard := none }
def st3_4 (s : String) : Oper := { dst := some 12, op := Op.load 43 (Operand.tmp 11), type := 43, pos := s, after := #[{ on := 3, ground := Ground.data }], guard := none }
def st3_5 (s : String) : Oper := { dst := some 13, op := Op.move (Operand.tmp 0), type := 23, pos := s, after := #[], guard := none }
def st3_6 (s : String) : Oper := { dst := some 14, op := Op.nilCheck (Operand.tmp 13), type := 0, pos := s, after := #[{ on := 5, ground := Ground.data }], guard := none }
def st3_7 (s : String) : Oper := { dst := some 15, op := Op.fieldAddr 48 (Operand.tmp 14) 3, type := 0, pos := s, after := #[{ on := 6, ground := Ground.data }], guard := none }
def st3_8 (s : String) : Oper := { dst := some 16, op := Op.load 3 (Operand.tmp 15), type := 3, pos := s, after := #[{ on := 7, ground := Ground.data }], guard := none }
def st3_9 (s : String) : Oper := { dst := some 17, op := Op.indexAddr 43 (Operand.tmp 12) (Operand.tmp 16), type := 0, pos := s, after := #[{ on := 4, ground := Ground.data }, { on := 8, ground := Ground.data }], guard := none }
def st3_10 (s : String) : Oper := { dst := some 18, op := Op.load 58 (Operand.tmp 17), type := 58, pos := s, after := #[{ on := 9, ground := Ground.data }], guard := none }
def st3_11 (s : String) : Oper := { dst := some 2, op := Op.alloc 58, type := 0, pos := s, after := #[], guard := none }
def st3_12 (s : String) : Oper := { dst := none, op := Op.store 58 (Operand.tmp 2) (Operand.tmp 18), type := 0, pos := s, after := #[{ on := 11, ground := Ground.data }, { on := 10, ground := Ground.data }, { on := 0, ground := Ground.phase }, { on := 1, ground := Ground.phase }, { on := 2, ground := Ground.phase }, { on := 3, ground := Ground.phase }, { on := 4, ground := Ground.phase }, { on := 5, ground := Ground.phase }, { on := 6, ground := Ground.phase }, { on := 7, ground := Ground.phase }, { on := 8, ground := Ground.phase }, { on := 9, ground := Ground.phase }, { on := 10, ground := Ground.phase }, { on := 11, ground := Ground.phase }], guard := none }
def st3_ops (s : String) : Array Oper := #[st3_0 s, st3_1 s, st3_2 s, st3_3 s, st3_4 s, st3_5 s, st3_6 s, st3_7 s, st3_8 s, st3_9 s, st3_10 s, st3_11 s, st3_12 s]
theorem st3_walk (s : String) {Q : Exit → Act → World → Prop} (hQ : ∀ c (a : Act) t v w, Q (.panic c) (a.put (some t) v) w → Q (.panic c) a w) (W : World) (z ge n m : Nat) (sl : SL) (c4 : W.cell? ⟨z, 4, none⟩ = some (.slice (some ⟨ge, 0, none⟩) n n)) (c7 : W.cell? ⟨z, 7, none⟩ = some (.int .i64 (m : Int))) (hr : W.rangeAt ge (m * 6) (slC sl)) (hmi : (m : Int) < (n : Int))
    (a : Act) (hs : 18 < a.tmps.size) (e0 : a.eval (.tmp 0) = .pointer (some ⟨z, 0, none⟩))
    (h0 :  Q .normal ((((((((((((a.put (some 8) (.pointer (some ⟨z, 0, none⟩))).put (some 9) (.pointer (some ⟨z, 0, none⟩))).put (some 10) (.pointer (some ⟨z, 4, none⟩))).put (some 11) (.pointer (some ⟨z, 4, none⟩))).put (some 12) (.slice (some ⟨ge, 0, none⟩) n n)).put (some 13) (.pointer (some ⟨z, 0, none⟩))).put (some 14) (.pointer (some ⟨z, 0, none⟩))).put (some 15) (.pointer (some ⟨z, 7, none⟩))).put (some 16) (.int .i64 (m : Int))).put (some 17) (.pointer (some ⟨ge, m * 6, none⟩))).put (some 18) (slV sl)).put (some 2) (.pointer (some ⟨W.drew.heap.size, 0, none⟩))) ((W.drew.alloc (.cells (slA .emp) ST)).setCells W.drew.heap.size 0 (slC sl))) :
    Code.wp Try.prog (.region 3 (st3_ops s) true) Q a W := by
  have hBA : Below W.heap.size W (W.drew.alloc (.cells (slA .emp) ST)) := (below_dN (Below.refl _ W) 1).alloc (Nat.le_refl _) _
  have hBB : Below W.heap.size W ((W.drew.alloc (.cells (slA .emp) ST)).setCells W.drew.heap.size 0 (slC sl)) := hBA.trans (below_grownBy ((SB.made W.drew .emp).put sl).2 (Nat.le_refl _) (by simp))
  have keepS : ∀ w', Below W.heap.size W w' → (fun w' => w'.cell? ⟨z, 4, none⟩ = some (.slice (some ⟨ge, 0, none⟩) n n) ∧ w'.cell? ⟨z, 7, none⟩ = some (.int .i64 (m : Int)) ∧ w'.rangeAt ge (m * 6) (slC sl)) w' := fun w' hb => ⟨cell_below hb c4, cell_below hb c7, fun j v hj => cell_below hb (hr j v hj)⟩
  have hSA := keepS _ hBA
  have hSB := keepS _ hBB
  refine wp_region_held_drew (S := fun w' => w'.cell? ⟨z, 4, none⟩ = some (.slice (some ⟨ge, 0, none⟩) n n) ∧ w'.cell? ⟨z, 7, none⟩ = some (.int .i64 (m : Int)) ∧ w'.rangeAt ge (m * 6) (slC sl)) (by kernel_rfl) ⟨c4, c7, hr⟩ (fun hS => ?_)
  change wpAnyH _ _ _ _ _ _ _ _ (World.drew _)
  refine wpAnyH_take (i := 0) (oi := st3_0 s) (v := .pointer (some ⟨z, 0, none⟩)) (by kernel_rfl) (by kernel_rfl) (by kernel_rfl) (by kernel_rfl) (fun c a w h => hQ c _ _ _ w h) (Or.inl ⟨wanted_none rfl, fun w hw => by simp only [execOp, st3_0, e0]; rfl⟩) hS ?_
  change wpAnyH _ _ _ _ _ _ _ (a.put (some 8) (.pointer (some ⟨z, 0, none⟩))) _
  obtain ⟨a0_1, ha1⟩ : ∃ rr : Act, rr = a.put (some 8) (.pointer (some ⟨z, 0, none⟩)) := ⟨_, rfl⟩
  have qz1 : 18 < a0_1.tmps.size := by rw [ha1, sz_put]; exact hs
  have f1_0 : a0_1.eval (.tmp 0) = .pointer (some ⟨z, 0, none⟩) := by rw [ha1, ev_other _ _ _ _ (by decide)]; exact e0
  have f1_8 : a0_1.eval (.tmp 8) = .pointer (some ⟨z, 0, none⟩) := by rw [ha1]; exact ev_same _ _ _ (Nat.lt_of_le_of_lt (by decide) hs)
  rw [← ha1] at h0 ⊢
  clear ha1
  refine wpAnyH_take (i := 1) (oi := st3_1 s) (v := .pointer (some ⟨z, 0, none⟩)) (by kernel_rfl) (by kernel_rfl) (by kernel_rfl) (by kernel_rfl) (fun c a w h => hQ c _ _ _ w h) (Or.inl ⟨wanted_none rfl, fun w hw => by simp only [execOp, st3_1, f1_8]; rfl⟩) hS ?_
  change wpAnyH _ _ _ _ _ _ _ (a0_1.put (some 9) (.pointer (some ⟨z, 0, none⟩))) _
  obtain ⟨a0_2, ha2⟩ : ∃ rr : Act, rr = a0_1.put (some 9) (.pointer (some ⟨z, 0, none⟩)) := ⟨_, rfl⟩
  have qz2 : 18 < a0_2.tmps.size := by rw [ha2, sz_put]; exact qz1
  have f2_0 : a0_2.eval (.tmp 0) = .pointer (some ⟨z, 0, none⟩) := by rw [ha2, ev_other _ _ _ _ (by decide)]; exact f1_0
  have f2_9 : a0_2.eval (.tmp 9) = .pointer (some ⟨z, 0, none⟩) := by rw [ha2]; exact ev_same _ _ _ (Nat.lt_of_le_of_lt (by decide) qz1)
  rw [← ha2] at h0 ⊢
  clear ha2
  refine wpAnyH_take (i := 2) (oi := st3_2 s) (v := .pointer (some ⟨z, 4, none⟩)) (by kernel_rfl) (by kernel_rfl) (by kernel_rfl) (by kernel_rfl) (fun c a w h => hQ c _ _ _ w h) (Or.inl ⟨wanted_none rfl, fun w hw => fld TT z 0 2 4 (fT2 z) rfl f2_9 w⟩) hS ?_
  change wpAnyH _ _ _ _ _ _ _ (a0_2.put (some 10) (.pointer (some ⟨z, 4, none⟩))) _
  obtain ⟨a0_3, ha3⟩ : ∃ rr : Act, rr = a0_2.put (some 10) (.pointer (some ⟨z, 4, none⟩)) := ⟨_, rfl⟩
  have qz3 : 18 < a0_3.tmps.size := by rw [ha3, sz_put]; exact qz2
  have f3_0 : a0_3.eval (.tmp 0) = .pointer (some ⟨z, 0, none⟩) := by rw [ha3, ev_other _ _ _ _ (by decide)]; exact f2_0
  have f3_10 : a0_3.eval (.tmp 10) = .pointer (some ⟨z, 4, none⟩) := by rw [ha3]; exact ev_same _ _ _ (Nat.lt_of_le_of_lt (by decide) qz2)
  rw [← ha3] at h0 ⊢
  clear ha3
  refine wpAnyH_take (i := 3) (oi := st3_3 s) (v := .pointer (some ⟨z, 4, none⟩)) (by kernel_rfl) (by kernel_rfl) (by kernel_rfl) (by kernel_rfl) (fun c a w h => hQ c _ _ _ w h) (Or.inl ⟨wanted_none rfl, fun w hw => fld AT z 4 0 0 (fA0 z 4) rfl f3_10 w⟩) hS ?_
  change wpAnyH _ _ _ _ _ _ _ (a0_3.put (some 11) (.pointer (some ⟨z, 4, none⟩))) _
  obtain ⟨a0_4, ha4⟩ : ∃ rr : Act, rr = a0_3.put (some 11) (.pointer (some ⟨z, 4, none⟩)) := ⟨_, rfl⟩
  have qz4 : 18 < a0_4.tmps.size := by rw [ha4, sz_put]; exact qz3
  have f4_0 : a0_4.eval (.tmp 0) = .pointer (some ⟨z, 0, none⟩) := by rw [ha4, ev_other _ _ _ _ (by decide)]; exact f3_0
  have f4_11 : a0_4.eval (.tmp 11) = .pointer (some ⟨z, 4, none⟩) := by rw [ha4]; exact ev_same _ _ _ (Nat.lt_of_le_of_lt (by decide) qz3)
  rw [← ha4] at h0 ⊢
  clear ha4
  refine wpAnyH_take (i := 4) (oi := st3_4 s) (v := .slice (some ⟨ge, 0, none⟩) n n) (by kernel_rfl) (by kernel_rfl) (by kernel_rfl) (by kernel_rfl) (fun c a w h => hQ c _ _ _ w h) (Or.inl ⟨wanted_none rfl, fun w hw => run_load rfl f4_11 (load_sl hw.1)⟩) hS ?_
  change wpAnyH _ _ _ _ _ _ _ (a0_4.put (some 12) (.slice (some ⟨ge, 0, none⟩) n n)) _
  obtain ⟨a0_5, ha5⟩ : ∃ rr : Act, rr = a0_4.put (some 12) (.slice (some ⟨ge, 0, none⟩) n n) := ⟨_, rfl⟩
  have qz5 : 18 < a0_5.tmps.size := by rw [ha5, sz_put]; exact qz4
  have f5_0 : a0_5.eval (.tmp 0) = .pointer (some ⟨z, 0, none⟩) := by rw [ha5, ev_other _ _ _ _ (by decide)]; exact f4_0
  have f5_12 : a0_5.eval (.tmp 12) = .slice (some ⟨ge, 0, none⟩) n n := by rw [ha5]; exact ev_same _ _ _ (Nat.lt_of_le_of_lt (by decide) qz4)
  rw [← ha5] at h0 ⊢
  clear ha5
  refine wpAnyH_take (i := 5) (oi := st3_5 s) (v := .pointer (some ⟨z, 0, none⟩)) (by kernel_rfl) (by kernel_rfl) (by kernel_rfl) (by kernel_rfl) (fun c a w h => hQ c _ _ _ w h) (Or.inl ⟨wanted_none rfl, fun w hw => by simp only [execOp, st3_5, f5_0]; rfl⟩) hS ?_
  change wpAnyH _ _ _ _ _ _ _ (a0_5.put (some 13) (.pointer (some ⟨z, 0, none⟩))) _
  obtain ⟨a0_6, ha6⟩ : ∃ rr : Act, rr = a0_5.put (some 13) (.pointer (some ⟨z, 0, none⟩)) := ⟨_, rfl⟩
  have qz6 : 18 < a0_6.tmps.size := by rw [ha6, sz_put]; exact qz5
  have f6_12 : a0_6.eval (.tmp 12) = .slice (some ⟨ge, 0, none⟩) n n := by rw [ha6, ev_other _ _ _ _ (by decide)]; exact f5_12
  have f6_13 : a0_6.eval (.tmp 13) = .pointer (some ⟨z, 0, none⟩) := by rw [ha6]; exact ev_same _ _ _ (Nat.lt_of_le_of_lt (by decide) qz5)
  rw [← ha6] at h0 ⊢
  clear ha6
  refine wpAnyH_take (i := 6) (oi := st3_6 s) (v := .pointer (some ⟨z, 0, none⟩)) (by kernel_rfl) (by kernel_rfl) (by kernel_rfl) (by kernel_rfl) (fun c a w h => hQ c _ _ _ w h) (Or.inl ⟨wanted_none rfl, fun w hw => by simp only [execOp, st3_6, f6_13]; rfl⟩) hS ?_
  change wpAnyH _ _ _ _ _ _ _ (a0_6.put (some 14) (.pointer (some ⟨z, 0, none⟩))) _
  obtain ⟨a0_7, ha7⟩ : ∃ rr : Act, rr = a0_6.put (some 14) (.pointer (some ⟨z, 0, none⟩)) := ⟨_, rfl⟩
  have qz7 : 18 < a0_7.tmps.size := by rw [ha7, sz_put]; exact qz6
  have f7_12 : a0_7.eval (.tmp 12) = .slice (some ⟨ge, 0, none⟩) n n := by rw [ha7, ev_other _ _ _ _ (by decide)]; exact f6_12
  have f7_14 : a0_7.eval (.tmp 14) = .pointer (some ⟨z, 0, none⟩) := by rw [ha7]; exact ev_same _ _ _ (Nat.lt_of_le_of_lt (by decide) qz6)
  rw [← ha7] at h0 ⊢
  clear ha7
  refine wpAnyH_take (i := 7) (oi := st3_7 s) (v := .pointer (some ⟨z, 7, none⟩)) (by kernel_rfl) (by kernel_rfl) (by kernel_rfl) (by kernel_rfl) (fun c a w h => hQ c _ _ _ w h) (Or.inl ⟨wanted_none rfl, fun w hw => fld TT z 0 3 7 (fT3 z) rfl f7_14 w⟩) hS ?_
  change wpAnyH _ _ _ _ _ _ _ (a0_7.put (some 15) (.pointer (some ⟨z, 7, none⟩))) _
  obtain ⟨a0_8, ha8⟩ : ∃ rr : Act, rr = a0_7.put (some 15) (.pointer (some ⟨z, 7, none⟩)) := ⟨_, rfl⟩
  have qz8 : 18 < a0_8.tmps.size := by rw [ha8, sz_put]; exact qz7
  have f8_12 : a0_8.eval (.tmp 12) = .slice (some ⟨ge, 0, none⟩) n n := by rw [ha8, ev_other _ _ _ _ (by decide)]; exact f7_12
  have f8_15 : a0_8.eval (.tmp 15) = .pointer (some ⟨z, 7, none⟩) := by rw [ha8]; exact ev_same _ _ _ (Nat.lt_of_le_of_lt (by decide) qz7)
  rw [← ha8] at h0 ⊢
  clear ha8
  refine wpAnyH_take (i := 8) (oi := st3_8 s) (v := .int .i64 (m : Int)) (by kernel_rfl) (by kernel_rfl) (by kernel_rfl) (by kernel_rfl) (fun c a w h => hQ c _ _ _ w h) (Or.inl ⟨wanted_none rfl, fun w hw => run_load rfl f8_15 (load_int hw.2.1)⟩) hS ?_
  change wpAnyH _ _ _ _ _ _ _ (a0_8.put (some 16) (.int .i64 (m : Int))) _
  obtain ⟨a0_9, ha9⟩ : ∃ rr : Act, rr = a0_8.put (some 16) (.int .i64 (m : Int)) := ⟨_, rfl⟩
  have qz9 : 18 < a0_9.tmps.size := by rw [ha9, sz_put]; exact qz8
  have f9_12 : a0_9.eval (.tmp 12) = .slice (some ⟨ge, 0, none⟩) n n := by rw [ha9, ev_other _ _ _ _ (by decide)]; exact f8_12
  have f9_16 : a0_9.eval (.tmp 16) = .int .i64 (m : Int) := by rw [ha9]; exact ev_same _ _ _ (Nat.lt_of_le_of_lt (by decide) qz8)
  rw [← ha9] at h0 ⊢
  clear ha9
  refine wpAnyH_take (i := 9) (oi := st3_9 s) (v := .pointer (some ⟨ge, m * 6, none⟩)) (by kernel_rfl) (by kernel_rfl) (by kernel_rfl) (by kernel_rfl) (fun c a w h => hQ c _ _ _ w h) (Or.inl ⟨wanted_none rfl, fun w hw => run_idx rfl f9_12 f9_16 hmi w⟩) hS ?_
  change wpAnyH _ _ _ _ _ _ _ (a0_9.put (some 17) (.pointer (some ⟨ge, m * 6, none⟩))) _
  obtain ⟨a0_10, ha10⟩ : ∃ rr : Act, rr = a0_9.put (some 17) (.pointer (some ⟨ge, m * 6, none⟩)) := ⟨_, rfl⟩
  have qz10 : 18 < a0_10.tmps.size := by rw [ha10, sz_put]; exact qz9
  have f10_17 : a0_10.eval (.tmp 17) = .pointer (some ⟨ge, m * 6, none⟩) := by rw [ha10]; exact ev_same _ _ _ (Nat.lt_of_le_of_lt (by decide) qz9)
  rw [← ha10] at h0 ⊢
  clear ha10
  refine wpAnyH_take (i := 10) (oi := st3_10 s) (v := slV sl) (by kernel_rfl) (by kernel_rfl) (by kernel_rfl) (by kernel_rfl) (fun c a w h => hQ c _ _ _ w h) (Or.inl ⟨wanted_none rfl, fun w hw => run_loadO rfl f10_17 (run_ldS hw.2.2)⟩) hS ?_
  change wpAnyH _ _ _ _ _ _ _ (a0_10.put (some 18) (slV sl)) _
  obtain ⟨a0_11, ha11⟩ : ∃ rr : Act, rr = a0_10.put (some 18) (slV sl) := ⟨_, rfl⟩
  have qz11 : 18 < a0_11.tmps.size := by rw [ha11, sz_put]; exact qz10
  have f11_18 : a0_11.eval (.tmp 18) = slV sl := by rw [ha11]; exact ev_same _ _ _ (Nat.lt_of_le_of_lt (by decide) qz10)
  rw [← ha11] at h0 ⊢
  clear ha11
  refine wpAnyH_ready (rs := [11]) (by kernel_rfl) (by simp) ?_
  refine AllReadyH.cons (o := st3_11 s) (by kernel_rfl) (fun KQ hKQ => ?_) AllReadyH.nil
  rw [if_pos (wanted_none rfl)]
  refine step_runE (.pointer (some ⟨W.drew.heap.size, 0, none⟩)) ((W.drew.alloc (.cells (slA .emp) ST))) (run_allocS rfl _) ?_
  refine hKQ.out _ _ (hSA) (fun _ => ?_)
  clear hKQ KQ
  change wpAnyH _ _ _ _ _ _ _ (a0_11.put (some 2) (.pointer (some ⟨W.drew.heap.size, 0, none⟩))) _
  obtain ⟨a0_12, ha12⟩ : ∃ rr : Act, rr = a0_11.put (some 2) (.pointer (some ⟨W.drew.heap.size, 0, none⟩)) := ⟨_, rfl⟩
  have qz12 : 18 < a0_12.tmps.size := by rw [ha12, sz_put]; exact qz11
  have f12_2 : a0_12.eval (.tmp 2) = .pointer (some ⟨W.drew.heap.size, 0, none⟩) := by rw [ha12]; exact ev_same _ _ _ (Nat.lt_of_le_of_lt (by decide) qz11)
  have f12_18 : a0_12.eval (.tmp 18) = slV sl := by rw [ha12, ev_other _ _ _ _ (by decide)]; exact f11_18
  rw [← ha12] at h0 ⊢
  clear ha12
  refine wpAnyH_ready (rs := [12]) (by kernel_rfl) (by simp) ?_
  refine AllReadyH.cons (o := st3_12 s) (by kernel_rfl) (fun KQ hKQ => ?_) AllReadyH.nil
  rw [if_pos (wanted_none rfl)]
  refine step_skipE ((W.drew.alloc (.cells (slA .emp) ST)).setCells W.drew.heap.size 0 (slC sl)) (run_stSB rfl f12_2 f12_18 (SB.made W.drew .emp)) ?_
  refine hKQ.out _ _ (hSB) (fun _ => ?_)
  clear hKQ KQ
  refine wpAnyH_done (by kernel_rfl) ?_ _
  exact h0
end TX
end Go.Proofs.Ytjhbebaephmcgaa
