/- New: two regions that draw their order. -/
import Derived.Test.YtjdlffmiokobnaaGreatDoorXV
import Derived.WideMake
namespace Go.Proofs.YtjdlffmiokobnaaGreatDoor
set_option linter.unusedVariables false
set_option linter.unusedSimpArgs false
namespace MA
set_option maxRecDepth 100000
open Go.RowKit

abbrev cell_of_block := @TX.cell_of_block
abbrev run_make_wide := @TX.run_make_wide
def bareL (st : Nat) : Array Value := #[.int .u8 (st : Int), .slice none 0 0, .slice none 0 0, .int .i64 0, .int .i64 0]
theorem arField (z : Nat) (w : World) : (Instr.fieldAt 123 (.pointer (some ⟨z, 0, none⟩)) 1).run Tryz.prog w = .ok (.pointer (some ⟨z, 2, none⟩)) w := by kernel_rfl
theorem sgField (s o : Nat) (w : World) : (Instr.fieldAt 127 (.pointer (some ⟨s, o, none⟩)) 0).run Tryz.prog w = .ok (.pointer (some ⟨s, o, none⟩)) w := by kernel_rfl
theorem load_sgs {w : World} {b o : Nat} {v : Value} (h : w.cell? ⟨b, o, none⟩ = some v) : (Instr.loadAt 120 (.pointer (some ⟨b, o, none⟩))).run Tryz.prog w = .ok v w := by
  have hu := Tryz.underlying120
  simp [go_sem, h, hu]
theorem run_idxS {op : Oper} {ev : Operand → Value} {x y : Operand} {g n c j : Nat} (ho : op.op = .indexAddr 120 x y) (hx : ev x = .slice (some ⟨g, 0, none⟩) n c) (hy : ev y = .int .i64 (j : Int)) (h : (j : Int) < (n : Int)) (w : World) : (execOp ev op).run Tryz.prog w = .ok (.value (.pointer (some ⟨g, j * 5, none⟩))) w := by
  have hu := Tryz.underlying120
  have hs := Tryz.sizeOf127
  simp only [execOp, ho, hx, hy]
  simp [go_sem, hu, hs, h]
theorem run_storeSt {op : Oper} {ev : Operand → Value} {x y : Operand} {b o : Nat} {k : Int} {v : Value} {w : World} (ho : op.op = .store 124 x y) (hx : ev x = .pointer (some ⟨b, o, none⟩)) (hy : ev y = .int .u8 k) (hc : w.cell? ⟨b, o, none⟩ = some v) (hf : w.frozen? ⟨b, o, none⟩ = false) : (execOp ev op).run Tryz.prog w = .ok .skip (w.setCell ⟨b, o, none⟩ (.int .u8 k)) := by
  have hu := Tryz.underlying124
  simp only [execOp, ho, hx, hy]
  simp [go_sem, hu, hc, hf]

theorem cfField (z : Nat) (w : World) : (Instr.fieldAt 73 (.pointer (some ⟨z, 0, none⟩)) 0).run Tryz.prog w = .ok (.pointer (some ⟨z, 0, none⟩)) w := by kernel_rfl
theorem infoCfg : (Tryz.prog.info? 73).map (·.size) = some 2 := by kernel_rfl
theorem load_int {w : World} {b o : Nat} {v : Value} (h : w.cell? ⟨b, o, none⟩ = some v) : (Instr.loadAt 3 (.pointer (some ⟨b, o, none⟩))).run Tryz.prog w = .ok v w := by
  have hu := Tryz.underlying3
  simp [go_sem, h, hu]
theorem infoSegZ : (Tryz.prog.info? 127).map (fun i => (i.zero, i.size, i.bytes)) = some (some (.agg (bareL 0)), 5, 72) := by kernel_rfl
def rowObj (n : Nat) : Obj := .cells (madeCells (Value.cells (.agg (bareL 0))) (n * 5)) 127
theorem run_mkSegs {op : Oper} {ev : Operand → Value} {x y : Operand} {m : Nat} (ho : op.op = .makeSlice 120 x y) (hx : ev x = .int .i64 (m : Int)) (hy : ev y = .int .i64 (m : Int)) (hm : m ≤ 64) (w : World) : (execOp ev op).run Tryz.prog w = .ok (.value (.slice (some ⟨w.heap.size, 0, none⟩) m m)) (w.alloc (rowObj m)) := by
  have := run_make_wide w _ _ (bareL 0) 5 72 Tryz.underlying120 infoSegZ .i64 .i64 m (by omega) (by omega)
  simp only [execOp, ho, hx, hy, Sem.run_bind, this, Result.andThen_ok, Sem.run_pure]
  rfl
theorem run_mkMap {op : Oper} {ev : Operand → Value} {t : TypeId} (ho : op.op = .makeMap t none) (w : World) : (execOp ev op).run Tryz.prog w = .ok (.value (.map (some w.heap.size))) (w.alloc (.map #[] 0)) := by
  have := run_makeMap_plain (P := Tryz.prog) w t
  simp only [execOp, ho, Option.map_none, Sem.run_bind, this, Result.andThen_ok, Sem.run_pure]
def arL (n sz s mb : Nat) : Array Value := #[.int .i64 (n : Int), .int .i64 (sz : Int), .slice (some ⟨s, 0, none⟩) n n, .map (some mb)]
theorem run_buildAr {op : Oper} {ev : Operand → Value} {x y u : Operand} {n sz s mb : Nat} (ho : op.op = .build 123 #[(0, x), (1, y), (2, u)]) (hx : ev x = .agg #[.int .i64 (n : Int), .int .i64 (sz : Int)]) (hy : ev y = .slice (some ⟨s, 0, none⟩) n n) (hu : ev u = .map (some mb)) (w : World) : (execOp ev op).run Tryz.prog w = .ok (.value (.agg (arL n sz s mb))) w := by
  have hz := Tryz.zeroValue123
  simp only [execOp, ho]
  simp [hx, hy, hu, go_sem, hz, arL]
theorem run_boxAr {op : Oper} {ev : Operand → Value} {x : Operand} {n sz s mb : Nat} (ho : op.op = .box 123 x) (hx : ev x = .agg (arL n sz s mb)) (w : World) : (execOp ev op).run Tryz.prog w = .ok (.value (.pointer (some ⟨w.heap.size, 0, none⟩))) (w.alloc (.cells (arL n sz s mb) 123)) := by
  simp only [execOp, ho, hx]
  simp [go_sem, arL]
theorem run_subI {op : Oper} {ev : Operand → Value} {x : Operand} {u : TypeId} {n : Nat} (ho : op.op = .binOp .sub 3 x (.const (.int .i64 1)) u) (hx : ev x = .int .i64 (n : Int)) (hc : ev (.const (.int .i64 1)) = .int .i64 1) (h1 : 1 ≤ n) (h2 : n ≤ 64) (w : World) : (execOp ev op).run Tryz.prog w = .ok (.value (.int .i64 ((n - 1 : Nat) : Int))) w := by
  have hu := Tryz.underlying3
  have e : IntKind.i64.wrap ((n : Int) - 1) = ((n - 1 : Nat) : Int) := by simp [IntKind.wrap, IntKind.bits, IntKind.signed]; omega
  simp only [execOp, ho, hx, hc]
  simp [go_sem, hu, e]
def nw3_0 (s : String) : Oper := { dst := some 23, op := Op.load 73 (Operand.tmp 1), type := 73, pos := s, after := #[], guard := none }
def nw3_1 (s : String) : Oper := { dst := some 24, op := Op.fieldAddr 73 (Operand.tmp 1) 0, type := 0, pos := s, after := #[], guard := none }
def nw3_2 (s : String) : Oper := { dst := some 25, op := Op.load 3 (Operand.tmp 24), type := 3, pos := s, after := #[{ on := 1, ground := Ground.data }], guard := none }
def nw3_3 (s : String) : Oper := { dst := some 26, op := Op.makeSlice 120 (Operand.tmp 25) (Operand.tmp 25), type := 120, pos := s, after := #[{ on := 2, ground := Ground.data }, { on := 2, ground := Ground.data }], guard := none }
def nw3_4 (s : String) : Oper := { dst := some 27, op := Op.makeMap 121 none, type := 121, pos := s, after := #[], guard := none }
def nw3_5 (s : String) : Oper := { dst := some 28, op := Op.build 123 #[(0, Operand.tmp 23), (1, Operand.tmp 26), (2, Operand.tmp 27)], type := 123, pos := s, after := #[{ on := 0, ground := Ground.data }, { on := 3, ground := Ground.data }, { on := 4, ground := Ground.data }], guard := none }
def nw3_6 (s : String) : Oper := { dst := some 29, op := Op.box 123 (Operand.tmp 28), type := 31, pos := s, after := #[{ on := 5, ground := Ground.data }], guard := none }
def nw3_7 (s : String) : Oper := { dst := some 4, op := Op.assign (Operand.tmp 29), type := 31, pos := s, after := #[{ on := 6, ground := Ground.data }, { on := 0, ground := Ground.phase }, { on := 1, ground := Ground.phase }, { on := 2, ground := Ground.phase }, { on := 3, ground := Ground.phase }, { on := 4, ground := Ground.phase }, { on := 5, ground := Ground.phase }, { on := 6, ground := Ground.phase }], guard := none }
def nw3_ops (s : String) : Array Oper := #[nw3_0 s, nw3_1 s, nw3_2 s, nw3_3 s, nw3_4 s, nw3_5 s, nw3_6 s, nw3_7 s]
theorem nw3_walk (s : String) {Q : Exit → Act → World → Prop} (hQ : ∀ c (a : Act) t v w, Q (.panic c) (a.put (some t) v) w → Q (.panic c) a w) (W : World) (c n sz : Nat) (hn64 : n ≤ 64) (hc : Blk W c #[.int .i64 (n : Int), .int .i64 (sz : Int)] 73)
    (a : Act) (hs : 29 < a.tmps.size) (e1 : a.eval (.tmp 1) = .pointer (some ⟨c, 0, none⟩))
    (h0 :  Q .normal ((((((((a.put (some 23) (.agg #[.int .i64 (n : Int), .int .i64 (sz : Int)])).put (some 24) (.pointer (some ⟨c, 0, none⟩))).put (some 25) (.int .i64 (n : Int))).put (some 26) (.slice (some ⟨W.heap.size, 0, none⟩) n n)).put (some 27) (.map (some (W.heap.size + 1)))).put (some 28) (.agg (arL n sz (W.heap.size) (W.heap.size + 1)))).put (some 29) (.pointer (some ⟨(W.heap.size + 1 + 1), 0, none⟩))).put (some 4) (.pointer (some ⟨(W.heap.size + 1 + 1), 0, none⟩))) (((W.drew.alloc (rowObj n)).alloc (.map #[] 0)).alloc (.cells (arL n sz (W.heap.size) (W.heap.size + 1)) 123))) (h1 :  Q .normal ((((((((a.put (some 23) (.agg #[.int .i64 (n : Int), .int .i64 (sz : Int)])).put (some 24) (.pointer (some ⟨c, 0, none⟩))).put (some 25) (.int .i64 (n : Int))).put (some 27) (.map (some (W.heap.size)))).put (some 26) (.slice (some ⟨W.heap.size + 1, 0, none⟩) n n)).put (some 28) (.agg (arL n sz (W.heap.size + 1) (W.heap.size)))).put (some 29) (.pointer (some ⟨(W.heap.size + 1 + 1), 0, none⟩))).put (some 4) (.pointer (some ⟨(W.heap.size + 1 + 1), 0, none⟩))) (((W.drew.alloc (.map #[] 0)).alloc (rowObj n)).alloc (.cells (arL n sz (W.heap.size + 1) (W.heap.size)) 123))) :
    Code.wp Tryz.prog (.region 3 (nw3_ops s) true) Q a W := by
  refine wp_region_held_drew (S := fun W' => Blk W' c #[.int .i64 (n : Int), .int .i64 (sz : Int)] 73) (by kernel_rfl) hc (fun hS => ?_)
  change wpAnyH _ _ _ _ _ _ _ _ (World.drew _)
  refine wpAnyH_take (i := 0) (oi := nw3_0 s) (v := .agg #[.int .i64 (n : Int), .int .i64 (sz : Int)]) (by kernel_rfl) (by kernel_rfl) (by kernel_rfl) (by kernel_rfl) (fun c a w h => hQ c _ _ _ w h) (Or.inl ⟨wanted_none rfl, fun w hw => run_load rfl e1 (loadAt_blk hw 73 _ Tryz.underlying73 rfl 2 infoCfg rfl)⟩) hS ?_
  change wpAnyH _ _ _ _ _ _ _ (a.put (some 23) (.agg #[.int .i64 (n : Int), .int .i64 (sz : Int)])) _
  obtain ⟨a0_1, ha1⟩ : ∃ rr : Act, rr = a.put (some 23) (.agg #[.int .i64 (n : Int), .int .i64 (sz : Int)]) := ⟨_, rfl⟩
  have qz1 : 29 < a0_1.tmps.size := by rw [ha1, sz_put]; exact hs
  have f1_1 : a0_1.eval (.tmp 1) = .pointer (some ⟨c, 0, none⟩) := by rw [ha1, ev_other _ _ _ _ (by decide)]; exact e1
  have f1_23 : a0_1.eval (.tmp 23) = .agg #[.int .i64 (n : Int), .int .i64 (sz : Int)] := by rw [ha1]; exact ev_same _ _ _ (Nat.lt_of_le_of_lt (by decide) hs)
  rw [← ha1] at h0 h1 ⊢
  clear ha1
  refine wpAnyH_take (i := 1) (oi := nw3_1 s) (v := .pointer (some ⟨c, 0, none⟩)) (by kernel_rfl) (by kernel_rfl) (by kernel_rfl) (by kernel_rfl) (fun c a w h => hQ c _ _ _ w h) (Or.inl ⟨wanted_none rfl, fun w hw => by simp only [execOp, nw3_1, f1_1, Sem.run_bind, cfField, Result.andThen_ok, Sem.run_pure]⟩) hS ?_
  change wpAnyH _ _ _ _ _ _ _ (a0_1.put (some 24) (.pointer (some ⟨c, 0, none⟩))) _
  obtain ⟨a0_2, ha2⟩ : ∃ rr : Act, rr = a0_1.put (some 24) (.pointer (some ⟨c, 0, none⟩)) := ⟨_, rfl⟩
  have qz2 : 29 < a0_2.tmps.size := by rw [ha2, sz_put]; exact qz1
  have f2_23 : a0_2.eval (.tmp 23) = .agg #[.int .i64 (n : Int), .int .i64 (sz : Int)] := by rw [ha2, ev_other _ _ _ _ (by decide)]; exact f1_23
  have f2_24 : a0_2.eval (.tmp 24) = .pointer (some ⟨c, 0, none⟩) := by rw [ha2]; exact ev_same _ _ _ (Nat.lt_of_le_of_lt (by decide) qz1)
  rw [← ha2] at h0 h1 ⊢
  clear ha2
  refine wpAnyH_take (i := 2) (oi := nw3_2 s) (v := .int .i64 (n : Int)) (by kernel_rfl) (by kernel_rfl) (by kernel_rfl) (by kernel_rfl) (fun c a w h => hQ c _ _ _ w h) (Or.inl ⟨wanted_none rfl, fun w hw => run_load rfl f2_24 (load_int (hw.cell 0))⟩) hS ?_
  change wpAnyH _ _ _ _ _ _ _ (a0_2.put (some 25) (.int .i64 (n : Int))) _
  obtain ⟨a0_3, ha3⟩ : ∃ rr : Act, rr = a0_2.put (some 25) (.int .i64 (n : Int)) := ⟨_, rfl⟩
  have qz3 : 29 < a0_3.tmps.size := by rw [ha3, sz_put]; exact qz2
  have f3_23 : a0_3.eval (.tmp 23) = .agg #[.int .i64 (n : Int), .int .i64 (sz : Int)] := by rw [ha3, ev_other _ _ _ _ (by decide)]; exact f2_23
  have f3_25 : a0_3.eval (.tmp 25) = .int .i64 (n : Int) := by rw [ha3]; exact ev_same _ _ _ (Nat.lt_of_le_of_lt (by decide) qz2)
  rw [← ha3] at h0 h1 ⊢
  clear ha3
  refine wpAnyH_ready (rs := [3, 4]) (by kernel_rfl) (by simp) ?_
  refine (AllReadyH.cons (o := nw3_3 s) (by kernel_rfl) (fun KQ hKQ => ?_) (AllReadyH.cons (o := nw3_4 s) (by kernel_rfl) (fun KQ hKQ => ?_) AllReadyH.nil))
  · skip
    rw [if_pos (wanted_none rfl)]
    refine step_runE (.slice (some ⟨W.heap.size, 0, none⟩) n n) (W.drew.alloc (rowObj n)) (run_mkSegs rfl f3_25 f3_25 hn64 _) ?_
    have k1 := Blk.alloc hS (rowObj n)
    refine hKQ.out _ _ (k1) (fun _ => ?_)
    clear hKQ KQ
    change wpAnyH _ _ _ _ _ _ _ (a0_3.put (some 26) (.slice (some ⟨W.heap.size, 0, none⟩) n n)) _
    obtain ⟨a0_4, ha4⟩ : ∃ rr : Act, rr = a0_3.put (some 26) (.slice (some ⟨W.heap.size, 0, none⟩) n n) := ⟨_, rfl⟩
    have qz4 : 29 < a0_4.tmps.size := by rw [ha4, sz_put]; exact qz3
    have f4_23 : a0_4.eval (.tmp 23) = .agg #[.int .i64 (n : Int), .int .i64 (sz : Int)] := by rw [ha4, ev_other _ _ _ _ (by decide)]; exact f3_23
    have f4_26 : a0_4.eval (.tmp 26) = .slice (some ⟨W.heap.size, 0, none⟩) n n := by rw [ha4]; exact ev_same _ _ _ (Nat.lt_of_le_of_lt (by decide) qz3)
    rw [← ha4] at h0 ⊢
    clear ha4
    refine wpAnyH_ready (rs := [4]) (by kernel_rfl) (by simp) ?_
    refine AllReadyH.cons (o := nw3_4 s) (by kernel_rfl) (fun KQ hKQ => ?_) AllReadyH.nil
    rw [if_pos (wanted_none rfl)]
    refine step_runE (.map (some (W.heap.size + 1))) ((W.drew.alloc (rowObj n)).alloc (.map #[] 0)) ((run_mkMap rfl _).trans (by simp)) ?_
    have k2 := Blk.alloc k1 (.map #[] 0)
    refine hKQ.out _ _ (k2) (fun _ => ?_)
    clear hKQ KQ
    change wpAnyH _ _ _ _ _ _ _ (a0_4.put (some 27) (.map (some (W.heap.size + 1)))) _
    obtain ⟨a0_5, ha5⟩ : ∃ rr : Act, rr = a0_4.put (some 27) (.map (some (W.heap.size + 1))) := ⟨_, rfl⟩
    have qz5 : 29 < a0_5.tmps.size := by rw [ha5, sz_put]; exact qz4
    have f5_23 : a0_5.eval (.tmp 23) = .agg #[.int .i64 (n : Int), .int .i64 (sz : Int)] := by rw [ha5, ev_other _ _ _ _ (by decide)]; exact f4_23
    have f5_26 : a0_5.eval (.tmp 26) = .slice (some ⟨W.heap.size, 0, none⟩) n n := by rw [ha5, ev_other _ _ _ _ (by decide)]; exact f4_26
    have f5_27 : a0_5.eval (.tmp 27) = .map (some (W.heap.size + 1)) := by rw [ha5]; exact ev_same _ _ _ (Nat.lt_of_le_of_lt (by decide) qz4)
    rw [← ha5] at h0 ⊢
    clear ha5
    refine wpAnyH_take (i := 5) (oi := nw3_5 s) (v := .agg (arL n sz (W.heap.size) (W.heap.size + 1))) (by kernel_rfl) (by kernel_rfl) (by kernel_rfl) (by kernel_rfl) (fun c a w h => hQ c _ _ _ w h) (Or.inl ⟨wanted_none rfl, fun w hw => run_buildAr rfl f5_23 f5_26 f5_27 w⟩) k2 ?_
    change wpAnyH _ _ _ _ _ _ _ (a0_5.put (some 28) (.agg (arL n sz (W.heap.size) (W.heap.size + 1)))) _
    obtain ⟨a0_6, ha6⟩ : ∃ rr : Act, rr = a0_5.put (some 28) (.agg (arL n sz (W.heap.size) (W.heap.size + 1))) := ⟨_, rfl⟩
    have qz6 : 29 < a0_6.tmps.size := by rw [ha6, sz_put]; exact qz5
    have f6_28 : a0_6.eval (.tmp 28) = .agg (arL n sz (W.heap.size) (W.heap.size + 1)) := by rw [ha6]; exact ev_same _ _ _ (Nat.lt_of_le_of_lt (by decide) qz5)
    rw [← ha6] at h0 ⊢
    clear ha6
    refine wpAnyH_ready (rs := [6]) (by kernel_rfl) (by simp) ?_
    refine AllReadyH.cons (o := nw3_6 s) (by kernel_rfl) (fun KQ hKQ => ?_) AllReadyH.nil
    rw [if_pos (wanted_none rfl)]
    refine step_runE (.pointer (some ⟨(W.heap.size + 1 + 1), 0, none⟩)) (((W.drew.alloc (rowObj n)).alloc (.map #[] 0)).alloc (.cells (arL n sz (W.heap.size) (W.heap.size + 1)) 123)) ((run_boxAr rfl f6_28 _).trans (by simp)) ?_
    have k3 := Blk.alloc k2 (.cells (arL n sz (W.heap.size) (W.heap.size + 1)) 123)
    refine hKQ.out _ _ (k3) (fun _ => ?_)
    clear hKQ KQ
    change wpAnyH _ _ _ _ _ _ _ (a0_6.put (some 29) (.pointer (some ⟨(W.heap.size + 1 + 1), 0, none⟩))) _
    obtain ⟨a0_7, ha7⟩ : ∃ rr : Act, rr = a0_6.put (some 29) (.pointer (some ⟨(W.heap.size + 1 + 1), 0, none⟩)) := ⟨_, rfl⟩
    have qz7 : 29 < a0_7.tmps.size := by rw [ha7, sz_put]; exact qz6
    have f7_29 : a0_7.eval (.tmp 29) = .pointer (some ⟨(W.heap.size + 1 + 1), 0, none⟩) := by rw [ha7]; exact ev_same _ _ _ (Nat.lt_of_le_of_lt (by decide) qz6)
    rw [← ha7] at h0 ⊢
    clear ha7
    refine wpAnyH_take (i := 7) (oi := nw3_7 s) (v := .pointer (some ⟨(W.heap.size + 1 + 1), 0, none⟩)) (by kernel_rfl) (by kernel_rfl) (by kernel_rfl) (by kernel_rfl) (fun c a w h => hQ c _ _ _ w h) (Or.inl ⟨wanted_none rfl, fun w hw => by simp only [execOp, nw3_7, f7_29]; rfl⟩) k3 ?_
    change wpAnyH _ _ _ _ _ _ _ (a0_7.put (some 4) (.pointer (some ⟨(W.heap.size + 1 + 1), 0, none⟩))) _
    obtain ⟨a0_8, ha8⟩ : ∃ rr : Act, rr = a0_7.put (some 4) (.pointer (some ⟨(W.heap.size + 1 + 1), 0, none⟩)) := ⟨_, rfl⟩
    have qz8 : 29 < a0_8.tmps.size := by rw [ha8, sz_put]; exact qz7
    rw [← ha8] at h0 ⊢
    clear ha8
    refine wpAnyH_done (by kernel_rfl) ?_ _
    exact h0
  · skip
    rw [if_pos (wanted_none rfl)]
    refine step_runE (.map (some (W.heap.size))) (W.drew.alloc (.map #[] 0)) (run_mkMap rfl _) ?_
    have k1 := Blk.alloc hS (.map #[] 0)
    refine hKQ.out _ _ (k1) (fun _ => ?_)
    clear hKQ KQ
    change wpAnyH _ _ _ _ _ _ _ (a0_3.put (some 27) (.map (some (W.heap.size)))) _
    obtain ⟨a1_4, ha4⟩ : ∃ rr : Act, rr = a0_3.put (some 27) (.map (some (W.heap.size))) := ⟨_, rfl⟩
    have qz4 : 29 < a1_4.tmps.size := by rw [ha4, sz_put]; exact qz3
    have f4_23 : a1_4.eval (.tmp 23) = .agg #[.int .i64 (n : Int), .int .i64 (sz : Int)] := by rw [ha4, ev_other _ _ _ _ (by decide)]; exact f3_23
    have f4_25 : a1_4.eval (.tmp 25) = .int .i64 (n : Int) := by rw [ha4, ev_other _ _ _ _ (by decide)]; exact f3_25
    have f4_27 : a1_4.eval (.tmp 27) = .map (some (W.heap.size)) := by rw [ha4]; exact ev_same _ _ _ (Nat.lt_of_le_of_lt (by decide) qz3)
    rw [← ha4] at h1 ⊢
    clear ha4
    refine wpAnyH_ready (rs := [3]) (by kernel_rfl) (by simp) ?_
    refine AllReadyH.cons (o := nw3_3 s) (by kernel_rfl) (fun KQ hKQ => ?_) AllReadyH.nil
    rw [if_pos (wanted_none rfl)]
    refine step_runE (.slice (some ⟨W.heap.size + 1, 0, none⟩) n n) ((W.drew.alloc (.map #[] 0)).alloc (rowObj n)) ((run_mkSegs rfl f4_25 f4_25 hn64 _).trans (by simp)) ?_
    have k2 := Blk.alloc k1 (rowObj n)
    refine hKQ.out _ _ (k2) (fun _ => ?_)
    clear hKQ KQ
    change wpAnyH _ _ _ _ _ _ _ (a1_4.put (some 26) (.slice (some ⟨W.heap.size + 1, 0, none⟩) n n)) _
    obtain ⟨a1_5, ha5⟩ : ∃ rr : Act, rr = a1_4.put (some 26) (.slice (some ⟨W.heap.size + 1, 0, none⟩) n n) := ⟨_, rfl⟩
    have qz5 : 29 < a1_5.tmps.size := by rw [ha5, sz_put]; exact qz4
    have f5_23 : a1_5.eval (.tmp 23) = .agg #[.int .i64 (n : Int), .int .i64 (sz : Int)] := by rw [ha5, ev_other _ _ _ _ (by decide)]; exact f4_23
    have f5_26 : a1_5.eval (.tmp 26) = .slice (some ⟨W.heap.size + 1, 0, none⟩) n n := by rw [ha5]; exact ev_same _ _ _ (Nat.lt_of_le_of_lt (by decide) qz4)
    have f5_27 : a1_5.eval (.tmp 27) = .map (some (W.heap.size)) := by rw [ha5, ev_other _ _ _ _ (by decide)]; exact f4_27
    rw [← ha5] at h1 ⊢
    clear ha5
    refine wpAnyH_take (i := 5) (oi := nw3_5 s) (v := .agg (arL n sz (W.heap.size + 1) (W.heap.size))) (by kernel_rfl) (by kernel_rfl) (by kernel_rfl) (by kernel_rfl) (fun c a w h => hQ c _ _ _ w h) (Or.inl ⟨wanted_none rfl, fun w hw => run_buildAr rfl f5_23 f5_26 f5_27 w⟩) k2 ?_
    change wpAnyH _ _ _ _ _ _ _ (a1_5.put (some 28) (.agg (arL n sz (W.heap.size + 1) (W.heap.size)))) _
    obtain ⟨a1_6, ha6⟩ : ∃ rr : Act, rr = a1_5.put (some 28) (.agg (arL n sz (W.heap.size + 1) (W.heap.size))) := ⟨_, rfl⟩
    have qz6 : 29 < a1_6.tmps.size := by rw [ha6, sz_put]; exact qz5
    have f6_28 : a1_6.eval (.tmp 28) = .agg (arL n sz (W.heap.size + 1) (W.heap.size)) := by rw [ha6]; exact ev_same _ _ _ (Nat.lt_of_le_of_lt (by decide) qz5)
    rw [← ha6] at h1 ⊢
    clear ha6
    refine wpAnyH_ready (rs := [6]) (by kernel_rfl) (by simp) ?_
    refine AllReadyH.cons (o := nw3_6 s) (by kernel_rfl) (fun KQ hKQ => ?_) AllReadyH.nil
    rw [if_pos (wanted_none rfl)]
    refine step_runE (.pointer (some ⟨(W.heap.size + 1 + 1), 0, none⟩)) (((W.drew.alloc (.map #[] 0)).alloc (rowObj n)).alloc (.cells (arL n sz (W.heap.size + 1) (W.heap.size)) 123)) ((run_boxAr rfl f6_28 _).trans (by simp)) ?_
    have k3 := Blk.alloc k2 (.cells (arL n sz (W.heap.size + 1) (W.heap.size)) 123)
    refine hKQ.out _ _ (k3) (fun _ => ?_)
    clear hKQ KQ
    change wpAnyH _ _ _ _ _ _ _ (a1_6.put (some 29) (.pointer (some ⟨(W.heap.size + 1 + 1), 0, none⟩))) _
    obtain ⟨a1_7, ha7⟩ : ∃ rr : Act, rr = a1_6.put (some 29) (.pointer (some ⟨(W.heap.size + 1 + 1), 0, none⟩)) := ⟨_, rfl⟩
    have qz7 : 29 < a1_7.tmps.size := by rw [ha7, sz_put]; exact qz6
    have f7_29 : a1_7.eval (.tmp 29) = .pointer (some ⟨(W.heap.size + 1 + 1), 0, none⟩) := by rw [ha7]; exact ev_same _ _ _ (Nat.lt_of_le_of_lt (by decide) qz6)
    rw [← ha7] at h1 ⊢
    clear ha7
    refine wpAnyH_take (i := 7) (oi := nw3_7 s) (v := .pointer (some ⟨(W.heap.size + 1 + 1), 0, none⟩)) (by kernel_rfl) (by kernel_rfl) (by kernel_rfl) (by kernel_rfl) (fun c a w h => hQ c _ _ _ w h) (Or.inl ⟨wanted_none rfl, fun w hw => by simp only [execOp, nw3_7, f7_29]; rfl⟩) k3 ?_
    change wpAnyH _ _ _ _ _ _ _ (a1_7.put (some 4) (.pointer (some ⟨(W.heap.size + 1 + 1), 0, none⟩))) _
    obtain ⟨a1_8, ha8⟩ : ∃ rr : Act, rr = a1_7.put (some 4) (.pointer (some ⟨(W.heap.size + 1 + 1), 0, none⟩)) := ⟨_, rfl⟩
    have qz8 : 29 < a1_8.tmps.size := by rw [ha8, sz_put]; exact qz7
    rw [← ha8] at h1 ⊢
    clear ha8
    refine wpAnyH_done (by kernel_rfl) ?_ _
    exact h1
def nw4_0 (s : String) : Oper := { dst := some 30, op := Op.move (Operand.tmp 4), type := 31, pos := s, after := #[], guard := none }
def nw4_1 (s : String) : Oper := { dst := some 31, op := Op.nilCheck (Operand.tmp 30), type := 0, pos := s, after := #[{ on := 0, ground := Ground.data }], guard := none }
def nw4_2 (s : String) : Oper := { dst := some 32, op := Op.fieldAddr 123 (Operand.tmp 31) 1, type := 0, pos := s, after := #[{ on := 1, ground := Ground.data }], guard := none }
def nw4_3 (s : String) : Oper := { dst := some 33, op := Op.load 120 (Operand.tmp 32), type := 120, pos := s, after := #[{ on := 2, ground := Ground.data }], guard := none }
def nw4_4 (s : String) : Oper := { dst := some 34, op := Op.fieldAddr 73 (Operand.tmp 1) 0, type := 0, pos := s, after := #[], guard := none }
def nw4_5 (s : String) : Oper := { dst := some 35, op := Op.load 3 (Operand.tmp 34), type := 3, pos := s, after := #[{ on := 4, ground := Ground.data }], guard := none }
def nw4_6 (s : String) : Oper := { dst := some 36, op := Op.binOp BinOp.sub 3 (Operand.tmp 35) (Operand.const (Value.int IntKind.i64 1)) 3, type := 3, pos := s, after := #[{ on := 5, ground := Ground.data }], guard := none }
def nw4_7 (s : String) : Oper := { dst := some 37, op := Op.indexAddr 120 (Operand.tmp 33) (Operand.tmp 36), type := 0, pos := s, after := #[{ on := 3, ground := Ground.data }, { on := 6, ground := Ground.data }, { on := 0, ground := Ground.phase }, { on := 1, ground := Ground.phase }, { on := 2, ground := Ground.phase }, { on := 3, ground := Ground.phase }, { on := 4, ground := Ground.phase }, { on := 5, ground := Ground.phase }, { on := 6, ground := Ground.phase }], guard := none }
def nw4_8 (s : String) : Oper := { dst := some 38, op := Op.fieldAddr 127 (Operand.tmp 37) 0, type := 0, pos := s, after := #[{ on := 7, ground := Ground.data }, { on := 0, ground := Ground.phase }, { on := 1, ground := Ground.phase }, { on := 2, ground := Ground.phase }, { on := 3, ground := Ground.phase }, { on := 4, ground := Ground.phase }, { on := 5, ground := Ground.phase }, { on := 6, ground := Ground.phase }], guard := none }
def nw4_9 (s : String) : Oper := { dst := none, op := Op.store 124 (Operand.tmp 38) (Operand.const (Value.int IntKind.u8 1)), type := 0, pos := s, after := #[{ on := 8, ground := Ground.data }, { on := 0, ground := Ground.phase }, { on := 1, ground := Ground.phase }, { on := 2, ground := Ground.phase }, { on := 3, ground := Ground.phase }, { on := 4, ground := Ground.phase }, { on := 5, ground := Ground.phase }, { on := 6, ground := Ground.phase }], guard := none }
def nw4_ops (s : String) : Array Oper := #[nw4_0 s, nw4_1 s, nw4_2 s, nw4_3 s, nw4_4 s, nw4_5 s, nw4_6 s, nw4_7 s, nw4_8 s, nw4_9 s]
theorem nw4_walk (s : String) {Q : Exit → Act → World → Prop} (hQ : ∀ c (a : Act) t v w, Q (.panic c) (a.put (some t) v) w → Q (.panic c) a w) (W : World) (c z sb n : Nat) (v : Value) (hn1 : 1 ≤ n) (hn64 : n ≤ 64) (hS0 : W.cell? ⟨z, 2, none⟩ = some (.slice (some ⟨sb, 0, none⟩) n n) ∧ W.cell? ⟨c, 0, none⟩ = some (.int .i64 (n : Int))) (hc : W.cell? ⟨sb, (n - 1) * 5, none⟩ = some v) (hf : W.frozen? ⟨sb, (n - 1) * 5, none⟩ = false) (hzs : z ≠ sb) (hcs : c ≠ sb)
    (a : Act) (hs : 38 < a.tmps.size) (e1 : a.eval (.tmp 1) = .pointer (some ⟨c, 0, none⟩)) (e4 : a.eval (.tmp 4) = .pointer (some ⟨z, 0, none⟩))
    (h0 :  Q .normal (((((((((a.put (some 30) (.pointer (some ⟨z, 0, none⟩))).put (some 31) (.pointer (some ⟨z, 0, none⟩))).put (some 32) (.pointer (some ⟨z, 2, none⟩))).put (some 33) (.slice (some ⟨sb, 0, none⟩) n n)).put (some 34) (.pointer (some ⟨c, 0, none⟩))).put (some 35) (.int .i64 (n : Int))).put (some 36) (.int .i64 ((n - 1 : Nat) : Int))).put (some 37) (.pointer (some ⟨sb, (n - 1) * 5, none⟩))).put (some 38) (.pointer (some ⟨sb, (n - 1) * 5, none⟩))) (W.drew.setCell ⟨sb, (n - 1) * 5, none⟩ (.int .u8 1))) :
    Code.wp Tryz.prog (.region 4 (nw4_ops s) true) Q a W := by
  have hin : ((n - 1 : Nat) : Int) < (n : Int) := by omega
  have hkz : (W.drew.setCell ⟨sb, (n - 1) * 5, none⟩ (.int .u8 1)).cell? ⟨z, 2, none⟩ = some (.slice (some ⟨sb, 0, none⟩) n n) ∧ (W.drew.setCell ⟨sb, (n - 1) * 5, none⟩ (.int .u8 1)).cell? ⟨c, 0, none⟩ = some (.int .i64 (n : Int)) := ⟨(cell_of_block (heap_setCell_other W.drew _ z _ hzs)).trans hS0.1, (cell_of_block (heap_setCell_other W.drew _ c _ hcs)).trans hS0.2⟩
  refine wp_region_held_drew (S := fun W' => W'.cell? ⟨z, 2, none⟩ = some (.slice (some ⟨sb, 0, none⟩) n n) ∧ W'.cell? ⟨c, 0, none⟩ = some (.int .i64 (n : Int))) (by kernel_rfl) hS0 (fun hS => ?_)
  change wpAnyH _ _ _ _ _ _ _ _ (World.drew _)
  refine wpAnyH_take (i := 0) (oi := nw4_0 s) (v := .pointer (some ⟨z, 0, none⟩)) (by kernel_rfl) (by kernel_rfl) (by kernel_rfl) (by kernel_rfl) (fun c a w h => hQ c _ _ _ w h) (Or.inl ⟨wanted_none rfl, fun w hw => by simp only [execOp, nw4_0, e4]; rfl⟩) hS ?_
  change wpAnyH _ _ _ _ _ _ _ (a.put (some 30) (.pointer (some ⟨z, 0, none⟩))) _
  obtain ⟨a0_1, ha1⟩ : ∃ rr : Act, rr = a.put (some 30) (.pointer (some ⟨z, 0, none⟩)) := ⟨_, rfl⟩
  have qz1 : 38 < a0_1.tmps.size := by rw [ha1, sz_put]; exact hs
  have f1_1 : a0_1.eval (.tmp 1) = .pointer (some ⟨c, 0, none⟩) := by rw [ha1, ev_other _ _ _ _ (by decide)]; exact e1
  have f1_30 : a0_1.eval (.tmp 30) = .pointer (some ⟨z, 0, none⟩) := by rw [ha1]; exact ev_same _ _ _ (Nat.lt_of_le_of_lt (by decide) hs)
  rw [← ha1] at h0 ⊢
  clear ha1
  refine wpAnyH_take (i := 1) (oi := nw4_1 s) (v := .pointer (some ⟨z, 0, none⟩)) (by kernel_rfl) (by kernel_rfl) (by kernel_rfl) (by kernel_rfl) (fun c a w h => hQ c _ _ _ w h) (Or.inl ⟨wanted_none rfl, fun w hw => by simp only [execOp, nw4_1, f1_30]; rfl⟩) hS ?_
  change wpAnyH _ _ _ _ _ _ _ (a0_1.put (some 31) (.pointer (some ⟨z, 0, none⟩))) _
  obtain ⟨a0_2, ha2⟩ : ∃ rr : Act, rr = a0_1.put (some 31) (.pointer (some ⟨z, 0, none⟩)) := ⟨_, rfl⟩
  have qz2 : 38 < a0_2.tmps.size := by rw [ha2, sz_put]; exact qz1
  have f2_1 : a0_2.eval (.tmp 1) = .pointer (some ⟨c, 0, none⟩) := by rw [ha2, ev_other _ _ _ _ (by decide)]; exact f1_1
  have f2_31 : a0_2.eval (.tmp 31) = .pointer (some ⟨z, 0, none⟩) := by rw [ha2]; exact ev_same _ _ _ (Nat.lt_of_le_of_lt (by decide) qz1)
  rw [← ha2] at h0 ⊢
  clear ha2
  refine wpAnyH_take (i := 2) (oi := nw4_2 s) (v := .pointer (some ⟨z, 2, none⟩)) (by kernel_rfl) (by kernel_rfl) (by kernel_rfl) (by kernel_rfl) (fun c a w h => hQ c _ _ _ w h) (Or.inl ⟨wanted_none rfl, fun w hw => by simp only [execOp, nw4_2, f2_31, Sem.run_bind, arField, Result.andThen_ok, Sem.run_pure]⟩) hS ?_
  change wpAnyH _ _ _ _ _ _ _ (a0_2.put (some 32) (.pointer (some ⟨z, 2, none⟩))) _
  obtain ⟨a0_3, ha3⟩ : ∃ rr : Act, rr = a0_2.put (some 32) (.pointer (some ⟨z, 2, none⟩)) := ⟨_, rfl⟩
  have qz3 : 38 < a0_3.tmps.size := by rw [ha3, sz_put]; exact qz2
  have f3_1 : a0_3.eval (.tmp 1) = .pointer (some ⟨c, 0, none⟩) := by rw [ha3, ev_other _ _ _ _ (by decide)]; exact f2_1
  have f3_32 : a0_3.eval (.tmp 32) = .pointer (some ⟨z, 2, none⟩) := by rw [ha3]; exact ev_same _ _ _ (Nat.lt_of_le_of_lt (by decide) qz2)
  rw [← ha3] at h0 ⊢
  clear ha3
  refine wpAnyH_take (i := 3) (oi := nw4_3 s) (v := .slice (some ⟨sb, 0, none⟩) n n) (by kernel_rfl) (by kernel_rfl) (by kernel_rfl) (by kernel_rfl) (fun c a w h => hQ c _ _ _ w h) (Or.inl ⟨wanted_none rfl, fun w hw => run_load rfl f3_32 (load_sgs hw.1)⟩) hS ?_
  change wpAnyH _ _ _ _ _ _ _ (a0_3.put (some 33) (.slice (some ⟨sb, 0, none⟩) n n)) _
  obtain ⟨a0_4, ha4⟩ : ∃ rr : Act, rr = a0_3.put (some 33) (.slice (some ⟨sb, 0, none⟩) n n) := ⟨_, rfl⟩
  have qz4 : 38 < a0_4.tmps.size := by rw [ha4, sz_put]; exact qz3
  have f4_1 : a0_4.eval (.tmp 1) = .pointer (some ⟨c, 0, none⟩) := by rw [ha4, ev_other _ _ _ _ (by decide)]; exact f3_1
  have f4_33 : a0_4.eval (.tmp 33) = .slice (some ⟨sb, 0, none⟩) n n := by rw [ha4]; exact ev_same _ _ _ (Nat.lt_of_le_of_lt (by decide) qz3)
  rw [← ha4] at h0 ⊢
  clear ha4
  refine wpAnyH_take (i := 4) (oi := nw4_4 s) (v := .pointer (some ⟨c, 0, none⟩)) (by kernel_rfl) (by kernel_rfl) (by kernel_rfl) (by kernel_rfl) (fun c a w h => hQ c _ _ _ w h) (Or.inl ⟨wanted_none rfl, fun w hw => by simp only [execOp, nw4_4, f4_1, Sem.run_bind, cfField, Result.andThen_ok, Sem.run_pure]⟩) hS ?_
  change wpAnyH _ _ _ _ _ _ _ (a0_4.put (some 34) (.pointer (some ⟨c, 0, none⟩))) _
  obtain ⟨a0_5, ha5⟩ : ∃ rr : Act, rr = a0_4.put (some 34) (.pointer (some ⟨c, 0, none⟩)) := ⟨_, rfl⟩
  have qz5 : 38 < a0_5.tmps.size := by rw [ha5, sz_put]; exact qz4
  have f5_33 : a0_5.eval (.tmp 33) = .slice (some ⟨sb, 0, none⟩) n n := by rw [ha5, ev_other _ _ _ _ (by decide)]; exact f4_33
  have f5_34 : a0_5.eval (.tmp 34) = .pointer (some ⟨c, 0, none⟩) := by rw [ha5]; exact ev_same _ _ _ (Nat.lt_of_le_of_lt (by decide) qz4)
  rw [← ha5] at h0 ⊢
  clear ha5
  refine wpAnyH_take (i := 5) (oi := nw4_5 s) (v := .int .i64 (n : Int)) (by kernel_rfl) (by kernel_rfl) (by kernel_rfl) (by kernel_rfl) (fun c a w h => hQ c _ _ _ w h) (Or.inl ⟨wanted_none rfl, fun w hw => run_load rfl f5_34 (load_int hw.2)⟩) hS ?_
  change wpAnyH _ _ _ _ _ _ _ (a0_5.put (some 35) (.int .i64 (n : Int))) _
  obtain ⟨a0_6, ha6⟩ : ∃ rr : Act, rr = a0_5.put (some 35) (.int .i64 (n : Int)) := ⟨_, rfl⟩
  have qz6 : 38 < a0_6.tmps.size := by rw [ha6, sz_put]; exact qz5
  have f6_33 : a0_6.eval (.tmp 33) = .slice (some ⟨sb, 0, none⟩) n n := by rw [ha6, ev_other _ _ _ _ (by decide)]; exact f5_33
  have f6_35 : a0_6.eval (.tmp 35) = .int .i64 (n : Int) := by rw [ha6]; exact ev_same _ _ _ (Nat.lt_of_le_of_lt (by decide) qz5)
  rw [← ha6] at h0 ⊢
  clear ha6
  refine wpAnyH_take (i := 6) (oi := nw4_6 s) (v := .int .i64 ((n - 1 : Nat) : Int)) (by kernel_rfl) (by kernel_rfl) (by kernel_rfl) (by kernel_rfl) (fun c a w h => hQ c _ _ _ w h) (Or.inl ⟨wanted_none rfl, fun w hw => run_subI rfl f6_35 rfl hn1 hn64 w⟩) hS ?_
  change wpAnyH _ _ _ _ _ _ _ (a0_6.put (some 36) (.int .i64 ((n - 1 : Nat) : Int))) _
  obtain ⟨a0_7, ha7⟩ : ∃ rr : Act, rr = a0_6.put (some 36) (.int .i64 ((n - 1 : Nat) : Int)) := ⟨_, rfl⟩
  have qz7 : 38 < a0_7.tmps.size := by rw [ha7, sz_put]; exact qz6
  have f7_33 : a0_7.eval (.tmp 33) = .slice (some ⟨sb, 0, none⟩) n n := by rw [ha7, ev_other _ _ _ _ (by decide)]; exact f6_33
  have f7_36 : a0_7.eval (.tmp 36) = .int .i64 ((n - 1 : Nat) : Int) := by rw [ha7]; exact ev_same _ _ _ (Nat.lt_of_le_of_lt (by decide) qz6)
  rw [← ha7] at h0 ⊢
  clear ha7
  refine wpAnyH_take (i := 7) (oi := nw4_7 s) (v := .pointer (some ⟨sb, (n - 1) * 5, none⟩)) (by kernel_rfl) (by kernel_rfl) (by kernel_rfl) (by kernel_rfl) (fun c a w h => hQ c _ _ _ w h) (Or.inl ⟨wanted_none rfl, fun w hw => run_idxS rfl f7_33 f7_36 hin w⟩) hS ?_
  change wpAnyH _ _ _ _ _ _ _ (a0_7.put (some 37) (.pointer (some ⟨sb, (n - 1) * 5, none⟩))) _
  obtain ⟨a0_8, ha8⟩ : ∃ rr : Act, rr = a0_7.put (some 37) (.pointer (some ⟨sb, (n - 1) * 5, none⟩)) := ⟨_, rfl⟩
  have qz8 : 38 < a0_8.tmps.size := by rw [ha8, sz_put]; exact qz7
  have f8_37 : a0_8.eval (.tmp 37) = .pointer (some ⟨sb, (n - 1) * 5, none⟩) := by rw [ha8]; exact ev_same _ _ _ (Nat.lt_of_le_of_lt (by decide) qz7)
  rw [← ha8] at h0 ⊢
  clear ha8
  refine wpAnyH_take (i := 8) (oi := nw4_8 s) (v := .pointer (some ⟨sb, (n - 1) * 5, none⟩)) (by kernel_rfl) (by kernel_rfl) (by kernel_rfl) (by kernel_rfl) (fun c a w h => hQ c _ _ _ w h) (Or.inl ⟨wanted_none rfl, fun w hw => by simp only [execOp, nw4_8, f8_37, Sem.run_bind, sgField, Result.andThen_ok, Sem.run_pure]⟩) hS ?_
  change wpAnyH _ _ _ _ _ _ _ (a0_8.put (some 38) (.pointer (some ⟨sb, (n - 1) * 5, none⟩))) _
  obtain ⟨a0_9, ha9⟩ : ∃ rr : Act, rr = a0_8.put (some 38) (.pointer (some ⟨sb, (n - 1) * 5, none⟩)) := ⟨_, rfl⟩
  have qz9 : 38 < a0_9.tmps.size := by rw [ha9, sz_put]; exact qz8
  have f9_38 : a0_9.eval (.tmp 38) = .pointer (some ⟨sb, (n - 1) * 5, none⟩) := by rw [ha9]; exact ev_same _ _ _ (Nat.lt_of_le_of_lt (by decide) qz8)
  rw [← ha9] at h0 ⊢
  clear ha9
  refine wpAnyH_ready (rs := [9]) (by kernel_rfl) (by simp) ?_
  refine AllReadyH.cons (o := nw4_9 s) (by kernel_rfl) (fun KQ hKQ => ?_) AllReadyH.nil
  rw [if_pos (wanted_none rfl)]
  refine step_skipE ((W.drew.setCell ⟨sb, (n - 1) * 5, none⟩ (.int .u8 1))) (run_storeSt rfl f9_38 rfl hc hf) ?_
  refine hKQ.out _ _ (hkz) (fun _ => ?_)
  clear hKQ KQ
  refine wpAnyH_done (by kernel_rfl) ?_ _
  exact h0
end MA
end Go.Proofs.YtjdlffmiokobnaaGreatDoor
