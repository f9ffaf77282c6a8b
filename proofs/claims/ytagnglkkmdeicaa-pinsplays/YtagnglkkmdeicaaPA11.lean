/- SameSessions: two rows of sessions that tell the same. -/
import Derived.Test.YtagnglkkmdeicaaPA10
namespace Go.Proofs.Ytagnglkkmdeicaa
set_option linter.unusedVariables false
set_option linter.unusedSimpArgs false
open Go.RowKit Go.Shelf
set_option maxRecDepth 100000

/-- A row of sessions that can be read. -/
def RdE (W : World) (v : Value) (E : List SeV) : Prop := ∃ ao cap, v = .slice ao E.length cap ∧ ∀ i (h : i < E.length), ∃ g o, ao = some ⟨g, o, none⟩ ∧ W.rangeAt g (o + i * 3) (seV E[i]) ∧ KRow W E[i].ka E[i].xs
theorem RdE.below {W W' : World} {v : Value} {E : List SeV} (h : RdE W v E) (hb : Below W.heap.size W W') : RdE W' v E := by
  obtain ⟨ao, cap, e, hr⟩ := h
  refine ⟨ao, cap, e, fun i hi => ?_⟩
  obtain ⟨g, o, e2, h1, h2⟩ := hr i hi
  exact ⟨g, o, e2, rangeAt_belowK h1 hb, h2.below hb⟩
theorem LstS.read {W : World} {B : Nat} {v : Value} {E : List SeV} (h : LstS W B v E) : RdE W v E := by
  obtain ⟨h0, ⟨h1, h2⟩ | ⟨g, cap, cur, h1, hb, hh, hcap, hmax, hcs, ht⟩⟩ := h.own
  · exact ⟨none, 0, by rw [h1, h2], fun i hi => by omega⟩
  · refine ⟨some ⟨g, 0, none⟩, cap, h1, fun i hi => ⟨g, 0, rfl, fun c u hu => ?_, ownQ_krow (h.l32 _ (List.getElem_mem _)) (h.keys _ (List.getElem_mem _))⟩⟩
    have hB : Blk W g cur 80 := hh
    have hc : c < 3 := (List.getElem?_eq_some_iff.1 hu).1
    have h2 := rowS_get E i c hi hc
    rw [hu, ← ht, List.getElem?_take_of_lt (by omega), Array.getElem?_toList] at h2
    rw [Nat.zero_add, hB.cell]
    exact h2
theorem run_idxE {op : Oper} {ev : Operand → Value} {x y : Operand} {g o n c j : Nat} (ho : op.op = .indexAddr 61 x y) (hx : ev x = .slice (some ⟨g, o, none⟩) n c) (hy : ev y = .int .i64 (j : Int)) (h : j < n) (w : World) : (execOp ev op).run Try.prog w = .ok (.value (.pointer (some ⟨g, o + j * 3, none⟩))) w := by
  have hu := Try.underlying61
  have hs : (sizeOf 80).run Try.prog w = .ok 3 w := by kernel_rfl
  have h1 : (j : Int) < (n : Int) := by omega
  simp only [execOp, ho, hx, hy]
  simp [go_sem, hu, h1, hs]
theorem run_fldE0 {op : Oper} {ev : Operand → Value} {x : Operand} {b o : Nat} (ho : op.op = .fieldAddr 80 x 0) (hx : ev x = .pointer (some ⟨b, o, none⟩)) (w : World) : (execOp ev op).run Try.prog w = .ok (.value (.pointer (some ⟨b, o, none⟩))) w := by
  simp only [execOp, ho, hx]; kernel_rfl
theorem run_fldE1 {op : Oper} {ev : Operand → Value} {x : Operand} {b o : Nat} (ho : op.op = .fieldAddr 80 x 1) (hx : ev x = .pointer (some ⟨b, o, none⟩)) (w : World) : (execOp ev op).run Try.prog w = .ok (.value (.pointer (some ⟨b, o + 1, none⟩))) w := by
  simp only [execOp, ho, hx]; kernel_rfl
theorem run_fldE2 {op : Oper} {ev : Operand → Value} {x : Operand} {b o : Nat} (ho : op.op = .fieldAddr 80 x 2) (hx : ev x = .pointer (some ⟨b, o, none⟩)) (w : World) : (execOp ev op).run Try.prog w = .ok (.value (.pointer (some ⟨b, o + 2, none⟩))) w := by
  simp only [execOp, ho, hx]; kernel_rfl
theorem run_neqII {op : Oper} {ev : Operand → Value} {x y : Operand} {u : TypeId} {q : Int} (ho : op.op = .binOp .neq 3 x y u) (hx : ev x = .int .i64 q) (hy : ev y = .int .i64 q) (w : World) : (execOp ev op).run Try.prog w = .ok (.value (.bool false)) w := by
  have := Try.underlying3
  simp [execOp, ho, hx, hy, go_sem, this]
theorem run_neqQ {op : Oper} {ev : Operand → Value} {x y : Operand} {u : TypeId} {a : List UInt8} (ho : op.op = .binOp .neq 30 x y u) (hx : ev x = keyV a) (hy : ev y = keyV a) (ha : a.length = 32) (w : World) : (execOp ev op).run Try.prog w = .ok (.value (.bool false)) w := by
  have h1 := keyGuard .neq a x y w
  have h2 := keyNeq a ha w
  simp only [execOp, ho, hx, hy]
  simp [Sem.run_bind, h1, h2]
theorem run_pickF {op : Oper} {ev : Operand → Value} {x y : Operand} (ho : op.op = .pick x (.const (.bool true)) y) (hx : ev x = .bool false) (hy : ev y = .bool false) (w : World) : (execOp ev op).run Try.prog w = .ok (.value (.bool false)) w := by
  simp only [execOp, ho, hx, hy]; rfl
def sa_0 (s : String) : Oper := { dst := some 18, op := Op.move (Operand.tmp 0), type := 61, pos := s, after := #[], guard := none }
def sa_1 (s : String) : Oper := { dst := some 19, op := Op.move (Operand.tmp 5), type := 3, pos := s, after := #[], guard := none }
def sa_2 (s : String) : Oper := { dst := some 20, op := Op.indexAddr 61 (Operand.tmp 18) (Operand.tmp 19), type := 0, pos := s, after := #[{ on := 0, ground := Ground.data }, { on := 1, ground := Ground.data }], guard := none }
def sa_3 (s : String) : Oper := { dst := some 21, op := Op.fieldAddr 80 (Operand.tmp 20) 0, type := 0, pos := s, after := #[{ on := 2, ground := Ground.data }], guard := none }
def sa_4 (s : String) : Oper := { dst := some 22, op := Op.load 3 (Operand.tmp 21), type := 3, pos := s, after := #[{ on := 3, ground := Ground.data }], guard := none }
def sa_5 (s : String) : Oper := { dst := some 23, op := Op.move (Operand.tmp 1), type := 61, pos := s, after := #[], guard := none }
def sa_6 (s : String) : Oper := { dst := some 24, op := Op.move (Operand.tmp 5), type := 3, pos := s, after := #[], guard := none }
def sa_7 (s : String) : Oper := { dst := some 25, op := Op.indexAddr 61 (Operand.tmp 23) (Operand.tmp 24), type := 0, pos := s, after := #[{ on := 5, ground := Ground.data }, { on := 6, ground := Ground.data }], guard := none }
def sa_8 (s : String) : Oper := { dst := some 26, op := Op.fieldAddr 80 (Operand.tmp 25) 0, type := 0, pos := s, after := #[{ on := 7, ground := Ground.data }], guard := none }
def sa_9 (s : String) : Oper := { dst := some 27, op := Op.load 3 (Operand.tmp 26), type := 3, pos := s, after := #[{ on := 8, ground := Ground.data }], guard := none }
def sa_10 (s : String) : Oper := { dst := some 28, op := Op.binOp BinOp.neq 3 (Operand.tmp 22) (Operand.tmp 27) 3, type := 4, pos := s, after := #[{ on := 4, ground := Ground.data }, { on := 9, ground := Ground.data }], guard := none }
def sa_11 (s : String) : Oper := { dst := some 29, op := Op.move (Operand.tmp 28), type := 4, pos := s, after := #[{ on := 10, ground := Ground.data }], guard := none }
def sa_12 (s : String) : Oper := { dst := some 30, op := Op.move (Operand.tmp 0), type := 61, pos := s, after := #[{ on := 11, ground := Ground.guard }], guard := some (11, false) }
def sa_13 (s : String) : Oper := { dst := some 31, op := Op.move (Operand.tmp 5), type := 3, pos := s, after := #[{ on := 11, ground := Ground.guard }], guard := some (11, false) }
def sa_14 (s : String) : Oper := { dst := some 32, op := Op.indexAddr 61 (Operand.tmp 30) (Operand.tmp 31), type := 0, pos := s, after := #[{ on := 12, ground := Ground.data }, { on := 13, ground := Ground.data }, { on := 11, ground := Ground.guard }], guard := some (11, false) }
def sa_15 (s : String) : Oper := { dst := some 33, op := Op.fieldAddr 80 (Operand.tmp 32) 1, type := 0, pos := s, after := #[{ on := 14, ground := Ground.data }, { on := 11, ground := Ground.guard }], guard := some (11, false) }
def sa_16 (s : String) : Oper := { dst := some 34, op := Op.load 3 (Operand.tmp 33), type := 3, pos := s, after := #[{ on := 15, ground := Ground.data }, { on := 11, ground := Ground.guard }], guard := some (11, false) }
def sa_17 (s : String) : Oper := { dst := some 35, op := Op.move (Operand.tmp 1), type := 61, pos := s, after := #[{ on := 11, ground := Ground.guard }], guard := some (11, false) }
def sa_18 (s : String) : Oper := { dst := some 36, op := Op.move (Operand.tmp 5), type := 3, pos := s, after := #[{ on := 11, ground := Ground.guard }], guard := some (11, false) }
def sa_19 (s : String) : Oper := { dst := some 37, op := Op.indexAddr 61 (Operand.tmp 35) (Operand.tmp 36), type := 0, pos := s, after := #[{ on := 17, ground := Ground.data }, { on := 18, ground := Ground.data }, { on := 11, ground := Ground.guard }], guard := some (11, false) }
def sa_20 (s : String) : Oper := { dst := some 38, op := Op.fieldAddr 80 (Operand.tmp 37) 1, type := 0, pos := s, after := #[{ on := 19, ground := Ground.data }, { on := 11, ground := Ground.guard }], guard := some (11, false) }
def sa_21 (s : String) : Oper := { dst := some 39, op := Op.load 3 (Operand.tmp 38), type := 3, pos := s, after := #[{ on := 20, ground := Ground.data }, { on := 11, ground := Ground.guard }], guard := some (11, false) }
def sa_22 (s : String) : Oper := { dst := some 40, op := Op.binOp BinOp.neq 3 (Operand.tmp 34) (Operand.tmp 39) 3, type := 4, pos := s, after := #[{ on := 16, ground := Ground.data }, { on := 21, ground := Ground.data }, { on := 11, ground := Ground.guard }], guard := some (11, false) }
def sa_23 (s : String) : Oper := { dst := some 41, op := Op.pick (Operand.tmp 29) (Operand.const (Value.bool true)) (Operand.tmp 40), type := 4, pos := s, after := #[{ on := 11, ground := Ground.data }, { on := 22, ground := Ground.data }], guard := none }
def sa_24 (s : String) : Oper := { dst := some 42, op := Op.move (Operand.tmp 41), type := 4, pos := s, after := #[{ on := 23, ground := Ground.data }, { on := 11, ground := Ground.chain }], guard := none }
def sa_25 (s : String) : Oper := { dst := some 43, op := Op.move (Operand.tmp 0), type := 61, pos := s, after := #[{ on := 24, ground := Ground.guard }], guard := some (24, false) }
def sa_26 (s : String) : Oper := { dst := some 44, op := Op.move (Operand.tmp 5), type := 3, pos := s, after := #[{ on := 24, ground := Ground.guard }], guard := some (24, false) }
def sa_27 (s : String) : Oper := { dst := some 45, op := Op.indexAddr 61 (Operand.tmp 43) (Operand.tmp 44), type := 0, pos := s, after := #[{ on := 25, ground := Ground.data }, { on := 26, ground := Ground.data }, { on := 24, ground := Ground.guard }], guard := some (24, false) }
def sa_28 (s : String) : Oper := { dst := some 46, op := Op.fieldAddr 80 (Operand.tmp 45) 2, type := 0, pos := s, after := #[{ on := 27, ground := Ground.data }, { on := 24, ground := Ground.guard }], guard := some (24, false) }
def sa_29 (s : String) : Oper := { dst := some 47, op := Op.load 42 (Operand.tmp 46), type := 42, pos := s, after := #[{ on := 28, ground := Ground.data }, { on := 24, ground := Ground.guard }], guard := some (24, false) }
def sa_30 (s : String) : Oper := { dst := some 48, op := Op.call { callee := Callee.builtin Builtin.len, args := #[Operand.tmp 47], argTypes := #[42] }, type := 3, pos := s, after := #[{ on := 29, ground := Ground.data }, { on := 24, ground := Ground.guard }], guard := some (24, false) }
def sa_31 (s : String) : Oper := { dst := some 49, op := Op.move (Operand.tmp 1), type := 61, pos := s, after := #[{ on := 24, ground := Ground.guard }], guard := some (24, false) }
def sa_32 (s : String) : Oper := { dst := some 50, op := Op.move (Operand.tmp 5), type := 3, pos := s, after := #[{ on := 24, ground := Ground.guard }], guard := some (24, false) }
def sa_33 (s : String) : Oper := { dst := some 51, op := Op.indexAddr 61 (Operand.tmp 49) (Operand.tmp 50), type := 0, pos := s, after := #[{ on := 31, ground := Ground.data }, { on := 32, ground := Ground.data }, { on := 24, ground := Ground.guard }], guard := some (24, false) }
def sa_34 (s : String) : Oper := { dst := some 52, op := Op.fieldAddr 80 (Operand.tmp 51) 2, type := 0, pos := s, after := #[{ on := 33, ground := Ground.data }, { on := 24, ground := Ground.guard }], guard := some (24, false) }
def sa_35 (s : String) : Oper := { dst := some 53, op := Op.load 42 (Operand.tmp 52), type := 42, pos := s, after := #[{ on := 34, ground := Ground.data }, { on := 24, ground := Ground.guard }], guard := some (24, false) }
def sa_36 (s : String) : Oper := { dst := some 54, op := Op.call { callee := Callee.builtin Builtin.len, args := #[Operand.tmp 53], argTypes := #[42] }, type := 3, pos := s, after := #[{ on := 35, ground := Ground.data }, { on := 24, ground := Ground.guard }], guard := some (24, false) }
def sa_37 (s : String) : Oper := { dst := some 55, op := Op.binOp BinOp.neq 3 (Operand.tmp 48) (Operand.tmp 54) 3, type := 4, pos := s, after := #[{ on := 30, ground := Ground.data }, { on := 36, ground := Ground.data }, { on := 24, ground := Ground.guard }], guard := some (24, false) }
def sa_38 (s : String) : Oper := { dst := some 56, op := Op.pick (Operand.tmp 42) (Operand.const (Value.bool true)) (Operand.tmp 55), type := 4, pos := s, after := #[{ on := 24, ground := Ground.data }, { on := 37, ground := Ground.data }], guard := none }
def sa_ops (s : String) : Array Oper := #[sa_0 s, sa_1 s, sa_2 s, sa_3 s, sa_4 s, sa_5 s, sa_6 s, sa_7 s, sa_8 s, sa_9 s, sa_10 s, sa_11 s, sa_12 s, sa_13 s, sa_14 s, sa_15 s, sa_16 s, sa_17 s, sa_18 s, sa_19 s, sa_20 s, sa_21 s, sa_22 s, sa_23 s, sa_24 s, sa_25 s, sa_26 s, sa_27 s, sa_28 s, sa_29 s, sa_30 s, sa_31 s, sa_32 s, sa_33 s, sa_34 s, sa_35 s, sa_36 s, sa_37 s, sa_38 s]
theorem sa_walk (s : String) {Q : Exit → Act → World → Prop} (hQ : ∀ c (a : Act) t v w, Q (.panic c) (a.put (some t) v) w → Q (.panic c) a w) (W : World) (ga oa gb ob m ca cb i nm bu n ka kb : Nat) (ra rb : Option Addr) (hi : i < m) (hS0 : W.drew.cell? ⟨ga, oa + i * 3, none⟩ = some (.int .i64 (nm : Int)) ∧ W.drew.cell? ⟨ga, oa + i * 3 + 1, none⟩ = some (.int .i64 (bu : Int)) ∧ W.drew.cell? ⟨ga, oa + i * 3 + 2, none⟩ = some (.slice ra n ka) ∧ W.drew.cell? ⟨gb, ob + i * 3, none⟩ = some (.int .i64 (nm : Int)) ∧ W.drew.cell? ⟨gb, ob + i * 3 + 1, none⟩ = some (.int .i64 (bu : Int)) ∧ W.drew.cell? ⟨gb, ob + i * 3 + 2, none⟩ = some (.slice rb n kb))
    (a : Act) (hs : 56 < a.tmps.size) (e0 : a.eval (.tmp 0) = .slice (some ⟨ga, oa, none⟩) m ca) (e1 : a.eval (.tmp 1) = .slice (some ⟨gb, ob, none⟩) m cb) (e5 : a.eval (.tmp 5) = .int .i64 (i : Int))
    (h0 :  Q .normal (((((((((((((((((((((((((((((((((((((((a.put (some 18) (.slice (some ⟨ga, oa, none⟩) m ca)).put (some 19) (.int .i64 (i : Int))).put (some 20) (.pointer (some ⟨ga, oa + i * 3, none⟩))).put (some 21) (.pointer (some ⟨ga, oa + i * 3, none⟩))).put (some 22) (.int .i64 (nm : Int))).put (some 23) (.slice (some ⟨gb, ob, none⟩) m cb)).put (some 24) (.int .i64 (i : Int))).put (some 25) (.pointer (some ⟨gb, ob + i * 3, none⟩))).put (some 26) (.pointer (some ⟨gb, ob + i * 3, none⟩))).put (some 27) (.int .i64 (nm : Int))).put (some 28) (.bool false)).put (some 29) (.bool false)).put (some 30) (.slice (some ⟨ga, oa, none⟩) m ca)).put (some 31) (.int .i64 (i : Int))).put (some 32) (.pointer (some ⟨ga, oa + i * 3, none⟩))).put (some 33) (.pointer (some ⟨ga, oa + i * 3 + 1, none⟩))).put (some 34) (.int .i64 (bu : Int))).put (some 35) (.slice (some ⟨gb, ob, none⟩) m cb)).put (some 36) (.int .i64 (i : Int))).put (some 37) (.pointer (some ⟨gb, ob + i * 3, none⟩))).put (some 38) (.pointer (some ⟨gb, ob + i * 3 + 1, none⟩))).put (some 39) (.int .i64 (bu : Int))).put (some 40) (.bool false)).put (some 41) (.bool false)).put (some 42) (.bool false)).put (some 43) (.slice (some ⟨ga, oa, none⟩) m ca)).put (some 44) (.int .i64 (i : Int))).put (some 45) (.pointer (some ⟨ga, oa + i * 3, none⟩))).put (some 46) (.pointer (some ⟨ga, oa + i * 3 + 2, none⟩))).put (some 47) (.slice ra n ka)).put (some 48) (.int .i64 (n : Int))).put (some 49) (.slice (some ⟨gb, ob, none⟩) m cb)).put (some 50) (.int .i64 (i : Int))).put (some 51) (.pointer (some ⟨gb, ob + i * 3, none⟩))).put (some 52) (.pointer (some ⟨gb, ob + i * 3 + 2, none⟩))).put (some 53) (.slice rb n kb)).put (some 54) (.int .i64 (n : Int))).put (some 55) (.bool false)).put (some 56) (.bool false)) W.drew) :
    Code.wp Try.prog (.region 6 (sa_ops s) true) Q a W := by
  refine wp_region_held_drew (S := fun w => w.cell? ⟨ga, oa + i * 3, none⟩ = some (.int .i64 (nm : Int)) ∧ w.cell? ⟨ga, oa + i * 3 + 1, none⟩ = some (.int .i64 (bu : Int)) ∧ w.cell? ⟨ga, oa + i * 3 + 2, none⟩ = some (.slice ra n ka) ∧ w.cell? ⟨gb, ob + i * 3, none⟩ = some (.int .i64 (nm : Int)) ∧ w.cell? ⟨gb, ob + i * 3 + 1, none⟩ = some (.int .i64 (bu : Int)) ∧ w.cell? ⟨gb, ob + i * 3 + 2, none⟩ = some (.slice rb n kb)) (by kernel_rfl) hS0 (fun hS => ?_)
  change wpAnyH _ _ _ _ _ _ _ _ (World.drew _)
  refine wpAnyH_take (i := 0) (oi := sa_0 s) (v := .slice (some ⟨ga, oa, none⟩) m ca) (by kernel_rfl) (by kernel_rfl) (by kernel_rfl) (by kernel_rfl) (fun c a w h => hQ c _ _ _ w h) (Or.inl ⟨wanted_none rfl, fun w hw => by simp only [execOp, sa_0, e0]; rfl⟩) hS ?_
  change wpAnyH _ _ _ _ _ _ _ (a.put (some 18) (.slice (some ⟨ga, oa, none⟩) m ca)) _
  obtain ⟨a0_1, ha1⟩ : ∃ rr : Act, rr = a.put (some 18) (.slice (some ⟨ga, oa, none⟩) m ca) := ⟨_, rfl⟩
  have qz1 : 56 < a0_1.tmps.size := by rw [ha1, sz_put]; exact hs
  have f1_0 : a0_1.eval (.tmp 0) = .slice (some ⟨ga, oa, none⟩) m ca := by rw [ha1, ev_other _ _ _ _ (by decide)]; exact e0
  have f1_1 : a0_1.eval (.tmp 1) = .slice (some ⟨gb, ob, none⟩) m cb := by rw [ha1, ev_other _ _ _ _ (by decide)]; exact e1
  have f1_5 : a0_1.eval (.tmp 5) = .int .i64 (i : Int) := by rw [ha1, ev_other _ _ _ _ (by decide)]; exact e5
  have f1_18 : a0_1.eval (.tmp 18) = .slice (some ⟨ga, oa, none⟩) m ca := by rw [ha1]; exact ev_same _ _ _ (Nat.lt_of_le_of_lt (by decide) hs)
  rw [← ha1] at h0 ⊢
  clear ha1
  refine wpAnyH_take (i := 1) (oi := sa_1 s) (v := .int .i64 (i : Int)) (by kernel_rfl) (by kernel_rfl) (by kernel_rfl) (by kernel_rfl) (fun c a w h => hQ c _ _ _ w h) (Or.inl ⟨wanted_none rfl, fun w hw => by simp only [execOp, sa_1, f1_5]; rfl⟩) hS ?_
  change wpAnyH _ _ _ _ _ _ _ (a0_1.put (some 19) (.int .i64 (i : Int))) _
  obtain ⟨a0_2, ha2⟩ : ∃ rr : Act, rr = a0_1.put (some 19) (.int .i64 (i : Int)) := ⟨_, rfl⟩
  have qz2 : 56 < a0_2.tmps.size := by rw [ha2, sz_put]; exact qz1
  have f2_0 : a0_2.eval (.tmp 0) = .slice (some ⟨ga, oa, none⟩) m ca := by rw [ha2, ev_other _ _ _ _ (by decide)]; exact f1_0
  have f2_1 : a0_2.eval (.tmp 1) = .slice (some ⟨gb, ob, none⟩) m cb := by rw [ha2, ev_other _ _ _ _ (by decide)]; exact f1_1
  have f2_5 : a0_2.eval (.tmp 5) = .int .i64 (i : Int) := by rw [ha2, ev_other _ _ _ _ (by decide)]; exact f1_5
  have f2_18 : a0_2.eval (.tmp 18) = .slice (some ⟨ga, oa, none⟩) m ca := by rw [ha2, ev_other _ _ _ _ (by decide)]; exact f1_18
  have f2_19 : a0_2.eval (.tmp 19) = .int .i64 (i : Int) := by rw [ha2]; exact ev_same _ _ _ (Nat.lt_of_le_of_lt (by decide) qz1)
  rw [← ha2] at h0 ⊢
  clear ha2
  refine wpAnyH_take (i := 2) (oi := sa_2 s) (v := .pointer (some ⟨ga, oa + i * 3, none⟩)) (by kernel_rfl) (by kernel_rfl) (by kernel_rfl) (by kernel_rfl) (fun c a w h => hQ c _ _ _ w h) (Or.inl ⟨wanted_none rfl, fun w hw => run_idxE rfl f2_18 f2_19 hi w⟩) hS ?_
  change wpAnyH _ _ _ _ _ _ _ (a0_2.put (some 20) (.pointer (some ⟨ga, oa + i * 3, none⟩))) _
  obtain ⟨a0_3, ha3⟩ : ∃ rr : Act, rr = a0_2.put (some 20) (.pointer (some ⟨ga, oa + i * 3, none⟩)) := ⟨_, rfl⟩
  have qz3 : 56 < a0_3.tmps.size := by rw [ha3, sz_put]; exact qz2
  have f3_0 : a0_3.eval (.tmp 0) = .slice (some ⟨ga, oa, none⟩) m ca := by rw [ha3, ev_other _ _ _ _ (by decide)]; exact f2_0
  have f3_1 : a0_3.eval (.tmp 1) = .slice (some ⟨gb, ob, none⟩) m cb := by rw [ha3, ev_other _ _ _ _ (by decide)]; exact f2_1
  have f3_5 : a0_3.eval (.tmp 5) = .int .i64 (i : Int) := by rw [ha3, ev_other _ _ _ _ (by decide)]; exact f2_5
  have f3_20 : a0_3.eval (.tmp 20) = .pointer (some ⟨ga, oa + i * 3, none⟩) := by rw [ha3]; exact ev_same _ _ _ (Nat.lt_of_le_of_lt (by decide) qz2)
  rw [← ha3] at h0 ⊢
  clear ha3
  refine wpAnyH_take (i := 3) (oi := sa_3 s) (v := .pointer (some ⟨ga, oa + i * 3, none⟩)) (by kernel_rfl) (by kernel_rfl) (by kernel_rfl) (by kernel_rfl) (fun c a w h => hQ c _ _ _ w h) (Or.inl ⟨wanted_none rfl, fun w hw => run_fldE0 rfl f3_20 w⟩) hS ?_
  change wpAnyH _ _ _ _ _ _ _ (a0_3.put (some 21) (.pointer (some ⟨ga, oa + i * 3, none⟩))) _
  obtain ⟨a0_4, ha4⟩ : ∃ rr : Act, rr = a0_3.put (some 21) (.pointer (some ⟨ga, oa + i * 3, none⟩)) := ⟨_, rfl⟩
  have qz4 : 56 < a0_4.tmps.size := by rw [ha4, sz_put]; exact qz3
  have f4_0 : a0_4.eval (.tmp 0) = .slice (some ⟨ga, oa, none⟩) m ca := by rw [ha4, ev_other _ _ _ _ (by decide)]; exact f3_0
  have f4_1 : a0_4.eval (.tmp 1) = .slice (some ⟨gb, ob, none⟩) m cb := by rw [ha4, ev_other _ _ _ _ (by decide)]; exact f3_1
  have f4_5 : a0_4.eval (.tmp 5) = .int .i64 (i : Int) := by rw [ha4, ev_other _ _ _ _ (by decide)]; exact f3_5
  have f4_21 : a0_4.eval (.tmp 21) = .pointer (some ⟨ga, oa + i * 3, none⟩) := by rw [ha4]; exact ev_same _ _ _ (Nat.lt_of_le_of_lt (by decide) qz3)
  rw [← ha4] at h0 ⊢
  clear ha4
  refine wpAnyH_take (i := 4) (oi := sa_4 s) (v := .int .i64 (nm : Int)) (by kernel_rfl) (by kernel_rfl) (by kernel_rfl) (by kernel_rfl) (fun c a w h => hQ c _ _ _ w h) (Or.inl ⟨wanted_none rfl, fun w hw => run_load rfl f4_21 (load_intS hw.1)⟩) hS ?_
  change wpAnyH _ _ _ _ _ _ _ (a0_4.put (some 22) (.int .i64 (nm : Int))) _
  obtain ⟨a0_5, ha5⟩ : ∃ rr : Act, rr = a0_4.put (some 22) (.int .i64 (nm : Int)) := ⟨_, rfl⟩
  have qz5 : 56 < a0_5.tmps.size := by rw [ha5, sz_put]; exact qz4
  have f5_0 : a0_5.eval (.tmp 0) = .slice (some ⟨ga, oa, none⟩) m ca := by rw [ha5, ev_other _ _ _ _ (by decide)]; exact f4_0
  have f5_1 : a0_5.eval (.tmp 1) = .slice (some ⟨gb, ob, none⟩) m cb := by rw [ha5, ev_other _ _ _ _ (by decide)]; exact f4_1
  have f5_5 : a0_5.eval (.tmp 5) = .int .i64 (i : Int) := by rw [ha5, ev_other _ _ _ _ (by decide)]; exact f4_5
  have f5_22 : a0_5.eval (.tmp 22) = .int .i64 (nm : Int) := by rw [ha5]; exact ev_same _ _ _ (Nat.lt_of_le_of_lt (by decide) qz4)
  rw [← ha5] at h0 ⊢
  clear ha5
  refine wpAnyH_take (i := 5) (oi := sa_5 s) (v := .slice (some ⟨gb, ob, none⟩) m cb) (by kernel_rfl) (by kernel_rfl) (by kernel_rfl) (by kernel_rfl) (fun c a w h => hQ c _ _ _ w h) (Or.inl ⟨wanted_none rfl, fun w hw => by simp only [execOp, sa_5, f5_1]; rfl⟩) hS ?_
  change wpAnyH _ _ _ _ _ _ _ (a0_5.put (some 23) (.slice (some ⟨gb, ob, none⟩) m cb)) _
  obtain ⟨a0_6, ha6⟩ : ∃ rr : Act, rr = a0_5.put (some 23) (.slice (some ⟨gb, ob, none⟩) m cb) := ⟨_, rfl⟩
  have qz6 : 56 < a0_6.tmps.size := by rw [ha6, sz_put]; exact qz5
  have f6_0 : a0_6.eval (.tmp 0) = .slice (some ⟨ga, oa, none⟩) m ca := by rw [ha6, ev_other _ _ _ _ (by decide)]; exact f5_0
  have f6_1 : a0_6.eval (.tmp 1) = .slice (some ⟨gb, ob, none⟩) m cb := by rw [ha6, ev_other _ _ _ _ (by decide)]; exact f5_1
  have f6_5 : a0_6.eval (.tmp 5) = .int .i64 (i : Int) := by rw [ha6, ev_other _ _ _ _ (by decide)]; exact f5_5
  have f6_22 : a0_6.eval (.tmp 22) = .int .i64 (nm : Int) := by rw [ha6, ev_other _ _ _ _ (by decide)]; exact f5_22
  have f6_23 : a0_6.eval (.tmp 23) = .slice (some ⟨gb, ob, none⟩) m cb := by rw [ha6]; exact ev_same _ _ _ (Nat.lt_of_le_of_lt (by decide) qz5)
  rw [← ha6] at h0 ⊢
  clear ha6
  refine wpAnyH_take (i := 6) (oi := sa_6 s) (v := .int .i64 (i : Int)) (by kernel_rfl) (by kernel_rfl) (by kernel_rfl) (by kernel_rfl) (fun c a w h => hQ c _ _ _ w h) (Or.inl ⟨wanted_none rfl, fun w hw => by simp only [execOp, sa_6, f6_5]; rfl⟩) hS ?_
  change wpAnyH _ _ _ _ _ _ _ (a0_6.put (some 24) (.int .i64 (i : Int))) _
  obtain ⟨a0_7, ha7⟩ : ∃ rr : Act, rr = a0_6.put (some 24) (.int .i64 (i : Int)) := ⟨_, rfl⟩
  have qz7 : 56 < a0_7.tmps.size := by rw [ha7, sz_put]; exact qz6
  have f7_0 : a0_7.eval (.tmp 0) = .slice (some ⟨ga, oa, none⟩) m ca := by rw [ha7, ev_other _ _ _ _ (by decide)]; exact f6_0
  have f7_1 : a0_7.eval (.tmp 1) = .slice (some ⟨gb, ob, none⟩) m cb := by rw [ha7, ev_other _ _ _ _ (by decide)]; exact f6_1
  have f7_5 : a0_7.eval (.tmp 5) = .int .i64 (i : Int) := by rw [ha7, ev_other _ _ _ _ (by decide)]; exact f6_5
  have f7_22 : a0_7.eval (.tmp 22) = .int .i64 (nm : Int) := by rw [ha7, ev_other _ _ _ _ (by decide)]; exact f6_22
  have f7_23 : a0_7.eval (.tmp 23) = .slice (some ⟨gb, ob, none⟩) m cb := by rw [ha7, ev_other _ _ _ _ (by decide)]; exact f6_23
  have f7_24 : a0_7.eval (.tmp 24) = .int .i64 (i : Int) := by rw [ha7]; exact ev_same _ _ _ (Nat.lt_of_le_of_lt (by decide) qz6)
  rw [← ha7] at h0 ⊢
  clear ha7
  refine wpAnyH_take (i := 7) (oi := sa_7 s) (v := .pointer (some ⟨gb, ob + i * 3, none⟩)) (by kernel_rfl) (by kernel_rfl) (by kernel_rfl) (by kernel_rfl) (fun c a w h => hQ c _ _ _ w h) (Or.inl ⟨wanted_none rfl, fun w hw => run_idxE rfl f7_23 f7_24 hi w⟩) hS ?_
  change wpAnyH _ _ _ _ _ _ _ (a0_7.put (some 25) (.pointer (some ⟨gb, ob + i * 3, none⟩))) _
  obtain ⟨a0_8, ha8⟩ : ∃ rr : Act, rr = a0_7.put (some 25) (.pointer (some ⟨gb, ob + i * 3, none⟩)) := ⟨_, rfl⟩
  have qz8 : 56 < a0_8.tmps.size := by rw [ha8, sz_put]; exact qz7
  have f8_0 : a0_8.eval (.tmp 0) = .slice (some ⟨ga, oa, none⟩) m ca := by rw [ha8, ev_other _ _ _ _ (by decide)]; exact f7_0
  have f8_1 : a0_8.eval (.tmp 1) = .slice (some ⟨gb, ob, none⟩) m cb := by rw [ha8, ev_other _ _ _ _ (by decide)]; exact f7_1
  have f8_5 : a0_8.eval (.tmp 5) = .int .i64 (i : Int) := by rw [ha8, ev_other _ _ _ _ (by decide)]; exact f7_5
  have f8_22 : a0_8.eval (.tmp 22) = .int .i64 (nm : Int) := by rw [ha8, ev_other _ _ _ _ (by decide)]; exact f7_22
  have f8_25 : a0_8.eval (.tmp 25) = .pointer (some ⟨gb, ob + i * 3, none⟩) := by rw [ha8]; exact ev_same _ _ _ (Nat.lt_of_le_of_lt (by decide) qz7)
  rw [← ha8] at h0 ⊢
  clear ha8
  refine wpAnyH_take (i := 8) (oi := sa_8 s) (v := .pointer (some ⟨gb, ob + i * 3, none⟩)) (by kernel_rfl) (by kernel_rfl) (by kernel_rfl) (by kernel_rfl) (fun c a w h => hQ c _ _ _ w h) (Or.inl ⟨wanted_none rfl, fun w hw => run_fldE0 rfl f8_25 w⟩) hS ?_
  change wpAnyH _ _ _ _ _ _ _ (a0_8.put (some 26) (.pointer (some ⟨gb, ob + i * 3, none⟩))) _
  obtain ⟨a0_9, ha9⟩ : ∃ rr : Act, rr = a0_8.put (some 26) (.pointer (some ⟨gb, ob + i * 3, none⟩)) := ⟨_, rfl⟩
  have qz9 : 56 < a0_9.tmps.size := by rw [ha9, sz_put]; exact qz8
  have f9_0 : a0_9.eval (.tmp 0) = .slice (some ⟨ga, oa, none⟩) m ca := by rw [ha9, ev_other _ _ _ _ (by decide)]; exact f8_0
  have f9_1 : a0_9.eval (.tmp 1) = .slice (some ⟨gb, ob, none⟩) m cb := by rw [ha9, ev_other _ _ _ _ (by decide)]; exact f8_1
  have f9_5 : a0_9.eval (.tmp 5) = .int .i64 (i : Int) := by rw [ha9, ev_other _ _ _ _ (by decide)]; exact f8_5
  have f9_22 : a0_9.eval (.tmp 22) = .int .i64 (nm : Int) := by rw [ha9, ev_other _ _ _ _ (by decide)]; exact f8_22
  have f9_26 : a0_9.eval (.tmp 26) = .pointer (some ⟨gb, ob + i * 3, none⟩) := by rw [ha9]; exact ev_same _ _ _ (Nat.lt_of_le_of_lt (by decide) qz8)
  rw [← ha9] at h0 ⊢
  clear ha9
  refine wpAnyH_take (i := 9) (oi := sa_9 s) (v := .int .i64 (nm : Int)) (by kernel_rfl) (by kernel_rfl) (by kernel_rfl) (by kernel_rfl) (fun c a w h => hQ c _ _ _ w h) (Or.inl ⟨wanted_none rfl, fun w hw => run_load rfl f9_26 (load_intS hw.2.2.2.1)⟩) hS ?_
  change wpAnyH _ _ _ _ _ _ _ (a0_9.put (some 27) (.int .i64 (nm : Int))) _
  obtain ⟨a0_10, ha10⟩ : ∃ rr : Act, rr = a0_9.put (some 27) (.int .i64 (nm : Int)) := ⟨_, rfl⟩
  have qz10 : 56 < a0_10.tmps.size := by rw [ha10, sz_put]; exact qz9
  have f10_0 : a0_10.eval (.tmp 0) = .slice (some ⟨ga, oa, none⟩) m ca := by rw [ha10, ev_other _ _ _ _ (by decide)]; exact f9_0
  have f10_1 : a0_10.eval (.tmp 1) = .slice (some ⟨gb, ob, none⟩) m cb := by rw [ha10, ev_other _ _ _ _ (by decide)]; exact f9_1
  have f10_5 : a0_10.eval (.tmp 5) = .int .i64 (i : Int) := by rw [ha10, ev_other _ _ _ _ (by decide)]; exact f9_5
  have f10_22 : a0_10.eval (.tmp 22) = .int .i64 (nm : Int) := by rw [ha10, ev_other _ _ _ _ (by decide)]; exact f9_22
  have f10_27 : a0_10.eval (.tmp 27) = .int .i64 (nm : Int) := by rw [ha10]; exact ev_same _ _ _ (Nat.lt_of_le_of_lt (by decide) qz9)
  rw [← ha10] at h0 ⊢
  clear ha10
  refine wpAnyH_take (i := 10) (oi := sa_10 s) (v := .bool false) (by kernel_rfl) (by kernel_rfl) (by kernel_rfl) (by kernel_rfl) (fun c a w h => hQ c _ _ _ w h) (Or.inl ⟨wanted_none rfl, fun w hw => run_neqII rfl f10_22 f10_27 w⟩) hS ?_
  change wpAnyH _ _ _ _ _ _ _ (a0_10.put (some 28) (.bool false)) _
  obtain ⟨a0_11, ha11⟩ : ∃ rr : Act, rr = a0_10.put (some 28) (.bool false) := ⟨_, rfl⟩
  have qz11 : 56 < a0_11.tmps.size := by rw [ha11, sz_put]; exact qz10
  have f11_0 : a0_11.eval (.tmp 0) = .slice (some ⟨ga, oa, none⟩) m ca := by rw [ha11, ev_other _ _ _ _ (by decide)]; exact f10_0
  have f11_1 : a0_11.eval (.tmp 1) = .slice (some ⟨gb, ob, none⟩) m cb := by rw [ha11, ev_other _ _ _ _ (by decide)]; exact f10_1
  have f11_5 : a0_11.eval (.tmp 5) = .int .i64 (i : Int) := by rw [ha11, ev_other _ _ _ _ (by decide)]; exact f10_5
  have f11_28 : a0_11.eval (.tmp 28) = .bool false := by rw [ha11]; exact ev_same _ _ _ (Nat.lt_of_le_of_lt (by decide) qz10)
  rw [← ha11] at h0 ⊢
  clear ha11
  refine wpAnyH_take (i := 11) (oi := sa_11 s) (v := .bool false) (by kernel_rfl) (by kernel_rfl) (by kernel_rfl) (by kernel_rfl) (fun c a w h => hQ c _ _ _ w h) (Or.inl ⟨wanted_none rfl, fun w hw => by simp only [execOp, sa_11, f11_28]; rfl⟩) hS ?_
  change wpAnyH _ _ _ _ _ _ _ (a0_11.put (some 29) (.bool false)) _
  obtain ⟨a0_12, ha12⟩ : ∃ rr : Act, rr = a0_11.put (some 29) (.bool false) := ⟨_, rfl⟩
  have qz12 : 56 < a0_12.tmps.size := by rw [ha12, sz_put]; exact qz11
  have f12_0 : a0_12.eval (.tmp 0) = .slice (some ⟨ga, oa, none⟩) m ca := by rw [ha12, ev_other _ _ _ _ (by decide)]; exact f11_0
  have f12_1 : a0_12.eval (.tmp 1) = .slice (some ⟨gb, ob, none⟩) m cb := by rw [ha12, ev_other _ _ _ _ (by decide)]; exact f11_1
  have f12_5 : a0_12.eval (.tmp 5) = .int .i64 (i : Int) := by rw [ha12, ev_other _ _ _ _ (by decide)]; exact f11_5
  have f12_29 : a0_12.eval (.tmp 29) = .bool false := by rw [ha12]; exact ev_same _ _ _ (Nat.lt_of_le_of_lt (by decide) qz11)
  rw [← ha12] at h0 ⊢
  clear ha12
  refine wpAnyH_take (i := 12) (oi := sa_12 s) (v := .slice (some ⟨ga, oa, none⟩) m ca) (by kernel_rfl) (by kernel_rfl) (by kernel_rfl) (by kernel_rfl) (fun c a w h => hQ c _ _ _ w h) (Or.inl ⟨wanted_some rfl (by kernel_rfl) f12_29 (Nat.lt_of_le_of_lt (by decide) qz12), fun w hw => by simp only [execOp, sa_12, f12_0]; rfl⟩) hS ?_
  change wpAnyH _ _ _ _ _ _ _ (a0_12.put (some 30) (.slice (some ⟨ga, oa, none⟩) m ca)) _
  obtain ⟨a0_13, ha13⟩ : ∃ rr : Act, rr = a0_12.put (some 30) (.slice (some ⟨ga, oa, none⟩) m ca) := ⟨_, rfl⟩
  have qz13 : 56 < a0_13.tmps.size := by rw [ha13, sz_put]; exact qz12
  have f13_0 : a0_13.eval (.tmp 0) = .slice (some ⟨ga, oa, none⟩) m ca := by rw [ha13, ev_other _ _ _ _ (by decide)]; exact f12_0
  have f13_1 : a0_13.eval (.tmp 1) = .slice (some ⟨gb, ob, none⟩) m cb := by rw [ha13, ev_other _ _ _ _ (by decide)]; exact f12_1
  have f13_5 : a0_13.eval (.tmp 5) = .int .i64 (i : Int) := by rw [ha13, ev_other _ _ _ _ (by decide)]; exact f12_5
  have f13_29 : a0_13.eval (.tmp 29) = .bool false := by rw [ha13, ev_other _ _ _ _ (by decide)]; exact f12_29
  have f13_30 : a0_13.eval (.tmp 30) = .slice (some ⟨ga, oa, none⟩) m ca := by rw [ha13]; exact ev_same _ _ _ (Nat.lt_of_le_of_lt (by decide) qz12)
  rw [← ha13] at h0 ⊢
  clear ha13
  refine wpAnyH_take (i := 13) (oi := sa_13 s) (v := .int .i64 (i : Int)) (by kernel_rfl) (by kernel_rfl) (by kernel_rfl) (by kernel_rfl) (fun c a w h => hQ c _ _ _ w h) (Or.inl ⟨wanted_some rfl (by kernel_rfl) f13_29 (Nat.lt_of_le_of_lt (by decide) qz13), fun w hw => by simp only [execOp, sa_13, f13_5]; rfl⟩) hS ?_
  change wpAnyH _ _ _ _ _ _ _ (a0_13.put (some 31) (.int .i64 (i : Int))) _
  obtain ⟨a0_14, ha14⟩ : ∃ rr : Act, rr = a0_13.put (some 31) (.int .i64 (i : Int)) := ⟨_, rfl⟩
  have qz14 : 56 < a0_14.tmps.size := by rw [ha14, sz_put]; exact qz13
  have f14_0 : a0_14.eval (.tmp 0) = .slice (some ⟨ga, oa, none⟩) m ca := by rw [ha14, ev_other _ _ _ _ (by decide)]; exact f13_0
  have f14_1 : a0_14.eval (.tmp 1) = .slice (some ⟨gb, ob, none⟩) m cb := by rw [ha14, ev_other _ _ _ _ (by decide)]; exact f13_1
  have f14_5 : a0_14.eval (.tmp 5) = .int .i64 (i : Int) := by rw [ha14, ev_other _ _ _ _ (by decide)]; exact f13_5
  have f14_29 : a0_14.eval (.tmp 29) = .bool false := by rw [ha14, ev_other _ _ _ _ (by decide)]; exact f13_29
  have f14_30 : a0_14.eval (.tmp 30) = .slice (some ⟨ga, oa, none⟩) m ca := by rw [ha14, ev_other _ _ _ _ (by decide)]; exact f13_30
  have f14_31 : a0_14.eval (.tmp 31) = .int .i64 (i : Int) := by rw [ha14]; exact ev_same _ _ _ (Nat.lt_of_le_of_lt (by decide) qz13)
  rw [← ha14] at h0 ⊢
  clear ha14
  refine wpAnyH_take (i := 14) (oi := sa_14 s) (v := .pointer (some ⟨ga, oa + i * 3, none⟩)) (by kernel_rfl) (by kernel_rfl) (by kernel_rfl) (by kernel_rfl) (fun c a w h => hQ c _ _ _ w h) (Or.inl ⟨wanted_some rfl (by kernel_rfl) f14_29 (Nat.lt_of_le_of_lt (by decide) qz14), fun w hw => run_idxE rfl f14_30 f14_31 hi w⟩) hS ?_
  change wpAnyH _ _ _ _ _ _ _ (a0_14.put (some 32) (.pointer (some ⟨ga, oa + i * 3, none⟩))) _
  obtain ⟨a0_15, ha15⟩ : ∃ rr : Act, rr = a0_14.put (some 32) (.pointer (some ⟨ga, oa + i * 3, none⟩)) := ⟨_, rfl⟩
  have qz15 : 56 < a0_15.tmps.size := by rw [ha15, sz_put]; exact qz14
  have f15_0 : a0_15.eval (.tmp 0) = .slice (some ⟨ga, oa, none⟩) m ca := by rw [ha15, ev_other _ _ _ _ (by decide)]; exact f14_0
  have f15_1 : a0_15.eval (.tmp 1) = .slice (some ⟨gb, ob, none⟩) m cb := by rw [ha15, ev_other _ _ _ _ (by decide)]; exact f14_1
  have f15_5 : a0_15.eval (.tmp 5) = .int .i64 (i : Int) := by rw [ha15, ev_other _ _ _ _ (by decide)]; exact f14_5
  have f15_29 : a0_15.eval (.tmp 29) = .bool false := by rw [ha15, ev_other _ _ _ _ (by decide)]; exact f14_29
  have f15_32 : a0_15.eval (.tmp 32) = .pointer (some ⟨ga, oa + i * 3, none⟩) := by rw [ha15]; exact ev_same _ _ _ (Nat.lt_of_le_of_lt (by decide) qz14)
  rw [← ha15] at h0 ⊢
  clear ha15
  refine wpAnyH_take (i := 15) (oi := sa_15 s) (v := .pointer (some ⟨ga, oa + i * 3 + 1, none⟩)) (by kernel_rfl) (by kernel_rfl) (by kernel_rfl) (by kernel_rfl) (fun c a w h => hQ c _ _ _ w h) (Or.inl ⟨wanted_some rfl (by kernel_rfl) f15_29 (Nat.lt_of_le_of_lt (by decide) qz15), fun w hw => run_fldE1 rfl f15_32 w⟩) hS ?_
  change wpAnyH _ _ _ _ _ _ _ (a0_15.put (some 33) (.pointer (some ⟨ga, oa + i * 3 + 1, none⟩))) _
  obtain ⟨a0_16, ha16⟩ : ∃ rr : Act, rr = a0_15.put (some 33) (.pointer (some ⟨ga, oa + i * 3 + 1, none⟩)) := ⟨_, rfl⟩
  have qz16 : 56 < a0_16.tmps.size := by rw [ha16, sz_put]; exact qz15
  have f16_0 : a0_16.eval (.tmp 0) = .slice (some ⟨ga, oa, none⟩) m ca := by rw [ha16, ev_other _ _ _ _ (by decide)]; exact f15_0
  have f16_1 : a0_16.eval (.tmp 1) = .slice (some ⟨gb, ob, none⟩) m cb := by rw [ha16, ev_other _ _ _ _ (by decide)]; exact f15_1
  have f16_5 : a0_16.eval (.tmp 5) = .int .i64 (i : Int) := by rw [ha16, ev_other _ _ _ _ (by decide)]; exact f15_5
  have f16_29 : a0_16.eval (.tmp 29) = .bool false := by rw [ha16, ev_other _ _ _ _ (by decide)]; exact f15_29
  have f16_33 : a0_16.eval (.tmp 33) = .pointer (some ⟨ga, oa + i * 3 + 1, none⟩) := by rw [ha16]; exact ev_same _ _ _ (Nat.lt_of_le_of_lt (by decide) qz15)
  rw [← ha16] at h0 ⊢
  clear ha16
  refine wpAnyH_take (i := 16) (oi := sa_16 s) (v := .int .i64 (bu : Int)) (by kernel_rfl) (by kernel_rfl) (by kernel_rfl) (by kernel_rfl) (fun c a w h => hQ c _ _ _ w h) (Or.inl ⟨wanted_some rfl (by kernel_rfl) f16_29 (Nat.lt_of_le_of_lt (by decide) qz16), fun w hw => run_load rfl f16_33 (load_intS hw.2.1)⟩) hS ?_
  change wpAnyH _ _ _ _ _ _ _ (a0_16.put (some 34) (.int .i64 (bu : Int))) _
  obtain ⟨a0_17, ha17⟩ : ∃ rr : Act, rr = a0_16.put (some 34) (.int .i64 (bu : Int)) := ⟨_, rfl⟩
  have qz17 : 56 < a0_17.tmps.size := by rw [ha17, sz_put]; exact qz16
  have f17_0 : a0_17.eval (.tmp 0) = .slice (some ⟨ga, oa, none⟩) m ca := by rw [ha17, ev_other _ _ _ _ (by decide)]; exact f16_0
  have f17_1 : a0_17.eval (.tmp 1) = .slice (some ⟨gb, ob, none⟩) m cb := by rw [ha17, ev_other _ _ _ _ (by decide)]; exact f16_1
  have f17_5 : a0_17.eval (.tmp 5) = .int .i64 (i : Int) := by rw [ha17, ev_other _ _ _ _ (by decide)]; exact f16_5
  have f17_29 : a0_17.eval (.tmp 29) = .bool false := by rw [ha17, ev_other _ _ _ _ (by decide)]; exact f16_29
  have f17_34 : a0_17.eval (.tmp 34) = .int .i64 (bu : Int) := by rw [ha17]; exact ev_same _ _ _ (Nat.lt_of_le_of_lt (by decide) qz16)
  rw [← ha17] at h0 ⊢
  clear ha17
  refine wpAnyH_take (i := 17) (oi := sa_17 s) (v := .slice (some ⟨gb, ob, none⟩) m cb) (by kernel_rfl) (by kernel_rfl) (by kernel_rfl) (by kernel_rfl) (fun c a w h => hQ c _ _ _ w h) (Or.inl ⟨wanted_some rfl (by kernel_rfl) f17_29 (Nat.lt_of_le_of_lt (by decide) qz17), fun w hw => by simp only [execOp, sa_17, f17_1]; rfl⟩) hS ?_
  change wpAnyH _ _ _ _ _ _ _ (a0_17.put (some 35) (.slice (some ⟨gb, ob, none⟩) m cb)) _
  obtain ⟨a0_18, ha18⟩ : ∃ rr : Act, rr = a0_17.put (some 35) (.slice (some ⟨gb, ob, none⟩) m cb) := ⟨_, rfl⟩
  have qz18 : 56 < a0_18.tmps.size := by rw [ha18, sz_put]; exact qz17
  have f18_0 : a0_18.eval (.tmp 0) = .slice (some ⟨ga, oa, none⟩) m ca := by rw [ha18, ev_other _ _ _ _ (by decide)]; exact f17_0
  have f18_1 : a0_18.eval (.tmp 1) = .slice (some ⟨gb, ob, none⟩) m cb := by rw [ha18, ev_other _ _ _ _ (by decide)]; exact f17_1
  have f18_5 : a0_18.eval (.tmp 5) = .int .i64 (i : Int) := by rw [ha18, ev_other _ _ _ _ (by decide)]; exact f17_5
  have f18_29 : a0_18.eval (.tmp 29) = .bool false := by rw [ha18, ev_other _ _ _ _ (by decide)]; exact f17_29
  have f18_34 : a0_18.eval (.tmp 34) = .int .i64 (bu : Int) := by rw [ha18, ev_other _ _ _ _ (by decide)]; exact f17_34
  have f18_35 : a0_18.eval (.tmp 35) = .slice (some ⟨gb, ob, none⟩) m cb := by rw [ha18]; exact ev_same _ _ _ (Nat.lt_of_le_of_lt (by decide) qz17)
  rw [← ha18] at h0 ⊢
  clear ha18
  refine wpAnyH_take (i := 18) (oi := sa_18 s) (v := .int .i64 (i : Int)) (by kernel_rfl) (by kernel_rfl) (by kernel_rfl) (by kernel_rfl) (fun c a w h => hQ c _ _ _ w h) (Or.inl ⟨wanted_some rfl (by kernel_rfl) f18_29 (Nat.lt_of_le_of_lt (by decide) qz18), fun w hw => by simp only [execOp, sa_18, f18_5]; rfl⟩) hS ?_
  change wpAnyH _ _ _ _ _ _ _ (a0_18.put (some 36) (.int .i64 (i : Int))) _
  obtain ⟨a0_19, ha19⟩ : ∃ rr : Act, rr = a0_18.put (some 36) (.int .i64 (i : Int)) := ⟨_, rfl⟩
  have qz19 : 56 < a0_19.tmps.size := by rw [ha19, sz_put]; exact qz18
  have f19_0 : a0_19.eval (.tmp 0) = .slice (some ⟨ga, oa, none⟩) m ca := by rw [ha19, ev_other _ _ _ _ (by decide)]; exact f18_0
  have f19_1 : a0_19.eval (.tmp 1) = .slice (some ⟨gb, ob, none⟩) m cb := by rw [ha19, ev_other _ _ _ _ (by decide)]; exact f18_1
  have f19_5 : a0_19.eval (.tmp 5) = .int .i64 (i : Int) := by rw [ha19, ev_other _ _ _ _ (by decide)]; exact f18_5
  have f19_29 : a0_19.eval (.tmp 29) = .bool false := by rw [ha19, ev_other _ _ _ _ (by decide)]; exact f18_29
  have f19_34 : a0_19.eval (.tmp 34) = .int .i64 (bu : Int) := by rw [ha19, ev_other _ _ _ _ (by decide)]; exact f18_34
  have f19_35 : a0_19.eval (.tmp 35) = .slice (some ⟨gb, ob, none⟩) m cb := by rw [ha19, ev_other _ _ _ _ (by decide)]; exact f18_35
  have f19_36 : a0_19.eval (.tmp 36) = .int .i64 (i : Int) := by rw [ha19]; exact ev_same _ _ _ (Nat.lt_of_le_of_lt (by decide) qz18)
  rw [← ha19] at h0 ⊢
  clear ha19
  refine wpAnyH_take (i := 19) (oi := sa_19 s) (v := .pointer (some ⟨gb, ob + i * 3, none⟩)) (by kernel_rfl) (by kernel_rfl) (by kernel_rfl) (by kernel_rfl) (fun c a w h => hQ c _ _ _ w h) (Or.inl ⟨wanted_some rfl (by kernel_rfl) f19_29 (Nat.lt_of_le_of_lt (by decide) qz19), fun w hw => run_idxE rfl f19_35 f19_36 hi w⟩) hS ?_
  change wpAnyH _ _ _ _ _ _ _ (a0_19.put (some 37) (.pointer (some ⟨gb, ob + i * 3, none⟩))) _
  obtain ⟨a0_20, ha20⟩ : ∃ rr : Act, rr = a0_19.put (some 37) (.pointer (some ⟨gb, ob + i * 3, none⟩)) := ⟨_, rfl⟩
  have qz20 : 56 < a0_20.tmps.size := by rw [ha20, sz_put]; exact qz19
  have f20_0 : a0_20.eval (.tmp 0) = .slice (some ⟨ga, oa, none⟩) m ca := by rw [ha20, ev_other _ _ _ _ (by decide)]; exact f19_0
  have f20_1 : a0_20.eval (.tmp 1) = .slice (some ⟨gb, ob, none⟩) m cb := by rw [ha20, ev_other _ _ _ _ (by decide)]; exact f19_1
  have f20_5 : a0_20.eval (.tmp 5) = .int .i64 (i : Int) := by rw [ha20, ev_other _ _ _ _ (by decide)]; exact f19_5
  have f20_29 : a0_20.eval (.tmp 29) = .bool false := by rw [ha20, ev_other _ _ _ _ (by decide)]; exact f19_29
  have f20_34 : a0_20.eval (.tmp 34) = .int .i64 (bu : Int) := by rw [ha20, ev_other _ _ _ _ (by decide)]; exact f19_34
  have f20_37 : a0_20.eval (.tmp 37) = .pointer (some ⟨gb, ob + i * 3, none⟩) := by rw [ha20]; exact ev_same _ _ _ (Nat.lt_of_le_of_lt (by decide) qz19)
  rw [← ha20] at h0 ⊢
  clear ha20
  refine wpAnyH_take (i := 20) (oi := sa_20 s) (v := .pointer (some ⟨gb, ob + i * 3 + 1, none⟩)) (by kernel_rfl) (by kernel_rfl) (by kernel_rfl) (by kernel_rfl) (fun c a w h => hQ c _ _ _ w h) (Or.inl ⟨wanted_some rfl (by kernel_rfl) f20_29 (Nat.lt_of_le_of_lt (by decide) qz20), fun w hw => run_fldE1 rfl f20_37 w⟩) hS ?_
  change wpAnyH _ _ _ _ _ _ _ (a0_20.put (some 38) (.pointer (some ⟨gb, ob + i * 3 + 1, none⟩))) _
  obtain ⟨a0_21, ha21⟩ : ∃ rr : Act, rr = a0_20.put (some 38) (.pointer (some ⟨gb, ob + i * 3 + 1, none⟩)) := ⟨_, rfl⟩
  have qz21 : 56 < a0_21.tmps.size := by rw [ha21, sz_put]; exact qz20
  have f21_0 : a0_21.eval (.tmp 0) = .slice (some ⟨ga, oa, none⟩) m ca := by rw [ha21, ev_other _ _ _ _ (by decide)]; exact f20_0
  have f21_1 : a0_21.eval (.tmp 1) = .slice (some ⟨gb, ob, none⟩) m cb := by rw [ha21, ev_other _ _ _ _ (by decide)]; exact f20_1
  have f21_5 : a0_21.eval (.tmp 5) = .int .i64 (i : Int) := by rw [ha21, ev_other _ _ _ _ (by decide)]; exact f20_5
  have f21_29 : a0_21.eval (.tmp 29) = .bool false := by rw [ha21, ev_other _ _ _ _ (by decide)]; exact f20_29
  have f21_34 : a0_21.eval (.tmp 34) = .int .i64 (bu : Int) := by rw [ha21, ev_other _ _ _ _ (by decide)]; exact f20_34
  have f21_38 : a0_21.eval (.tmp 38) = .pointer (some ⟨gb, ob + i * 3 + 1, none⟩) := by rw [ha21]; exact ev_same _ _ _ (Nat.lt_of_le_of_lt (by decide) qz20)
  rw [← ha21] at h0 ⊢
  clear ha21
  refine wpAnyH_take (i := 21) (oi := sa_21 s) (v := .int .i64 (bu : Int)) (by kernel_rfl) (by kernel_rfl) (by kernel_rfl) (by kernel_rfl) (fun c a w h => hQ c _ _ _ w h) (Or.inl ⟨wanted_some rfl (by kernel_rfl) f21_29 (Nat.lt_of_le_of_lt (by decide) qz21), fun w hw => run_load rfl f21_38 (load_intS hw.2.2.2.2.1)⟩) hS ?_
  change wpAnyH _ _ _ _ _ _ _ (a0_21.put (some 39) (.int .i64 (bu : Int))) _
  obtain ⟨a0_22, ha22⟩ : ∃ rr : Act, rr = a0_21.put (some 39) (.int .i64 (bu : Int)) := ⟨_, rfl⟩
  have qz22 : 56 < a0_22.tmps.size := by rw [ha22, sz_put]; exact qz21
  have f22_0 : a0_22.eval (.tmp 0) = .slice (some ⟨ga, oa, none⟩) m ca := by rw [ha22, ev_other _ _ _ _ (by decide)]; exact f21_0
  have f22_1 : a0_22.eval (.tmp 1) = .slice (some ⟨gb, ob, none⟩) m cb := by rw [ha22, ev_other _ _ _ _ (by decide)]; exact f21_1
  have f22_5 : a0_22.eval (.tmp 5) = .int .i64 (i : Int) := by rw [ha22, ev_other _ _ _ _ (by decide)]; exact f21_5
  have f22_29 : a0_22.eval (.tmp 29) = .bool false := by rw [ha22, ev_other _ _ _ _ (by decide)]; exact f21_29
  have f22_34 : a0_22.eval (.tmp 34) = .int .i64 (bu : Int) := by rw [ha22, ev_other _ _ _ _ (by decide)]; exact f21_34
  have f22_39 : a0_22.eval (.tmp 39) = .int .i64 (bu : Int) := by rw [ha22]; exact ev_same _ _ _ (Nat.lt_of_le_of_lt (by decide) qz21)
  rw [← ha22] at h0 ⊢
  clear ha22
  refine wpAnyH_take (i := 22) (oi := sa_22 s) (v := .bool false) (by kernel_rfl) (by kernel_rfl) (by kernel_rfl) (by kernel_rfl) (fun c a w h => hQ c _ _ _ w h) (Or.inl ⟨wanted_some rfl (by kernel_rfl) f22_29 (Nat.lt_of_le_of_lt (by decide) qz22), fun w hw => run_neqII rfl f22_34 f22_39 w⟩) hS ?_
  change wpAnyH _ _ _ _ _ _ _ (a0_22.put (some 40) (.bool false)) _
  obtain ⟨a0_23, ha23⟩ : ∃ rr : Act, rr = a0_22.put (some 40) (.bool false) := ⟨_, rfl⟩
  have qz23 : 56 < a0_23.tmps.size := by rw [ha23, sz_put]; exact qz22
  have f23_0 : a0_23.eval (.tmp 0) = .slice (some ⟨ga, oa, none⟩) m ca := by rw [ha23, ev_other _ _ _ _ (by decide)]; exact f22_0
  have f23_1 : a0_23.eval (.tmp 1) = .slice (some ⟨gb, ob, none⟩) m cb := by rw [ha23, ev_other _ _ _ _ (by decide)]; exact f22_1
  have f23_5 : a0_23.eval (.tmp 5) = .int .i64 (i : Int) := by rw [ha23, ev_other _ _ _ _ (by decide)]; exact f22_5
  have f23_29 : a0_23.eval (.tmp 29) = .bool false := by rw [ha23, ev_other _ _ _ _ (by decide)]; exact f22_29
  have f23_40 : a0_23.eval (.tmp 40) = .bool false := by rw [ha23]; exact ev_same _ _ _ (Nat.lt_of_le_of_lt (by decide) qz22)
  rw [← ha23] at h0 ⊢
  clear ha23
  refine wpAnyH_take (i := 23) (oi := sa_23 s) (v := .bool false) (by kernel_rfl) (by kernel_rfl) (by kernel_rfl) (by kernel_rfl) (fun c a w h => hQ c _ _ _ w h) (Or.inl ⟨wanted_none rfl, fun w hw => run_pickF rfl f23_29 f23_40 w⟩) hS ?_
  change wpAnyH _ _ _ _ _ _ _ (a0_23.put (some 41) (.bool false)) _
  obtain ⟨a0_24, ha24⟩ : ∃ rr : Act, rr = a0_23.put (some 41) (.bool false) := ⟨_, rfl⟩
  have qz24 : 56 < a0_24.tmps.size := by rw [ha24, sz_put]; exact qz23
  have f24_0 : a0_24.eval (.tmp 0) = .slice (some ⟨ga, oa, none⟩) m ca := by rw [ha24, ev_other _ _ _ _ (by decide)]; exact f23_0
  have f24_1 : a0_24.eval (.tmp 1) = .slice (some ⟨gb, ob, none⟩) m cb := by rw [ha24, ev_other _ _ _ _ (by decide)]; exact f23_1
  have f24_5 : a0_24.eval (.tmp 5) = .int .i64 (i : Int) := by rw [ha24, ev_other _ _ _ _ (by decide)]; exact f23_5
  have f24_41 : a0_24.eval (.tmp 41) = .bool false := by rw [ha24]; exact ev_same _ _ _ (Nat.lt_of_le_of_lt (by decide) qz23)
  rw [← ha24] at h0 ⊢
  clear ha24
  refine wpAnyH_take (i := 24) (oi := sa_24 s) (v := .bool false) (by kernel_rfl) (by kernel_rfl) (by kernel_rfl) (by kernel_rfl) (fun c a w h => hQ c _ _ _ w h) (Or.inl ⟨wanted_none rfl, fun w hw => by simp only [execOp, sa_24, f24_41]; rfl⟩) hS ?_
  change wpAnyH _ _ _ _ _ _ _ (a0_24.put (some 42) (.bool false)) _
  obtain ⟨a0_25, ha25⟩ : ∃ rr : Act, rr = a0_24.put (some 42) (.bool false) := ⟨_, rfl⟩
  have qz25 : 56 < a0_25.tmps.size := by rw [ha25, sz_put]; exact qz24
  have f25_0 : a0_25.eval (.tmp 0) = .slice (some ⟨ga, oa, none⟩) m ca := by rw [ha25, ev_other _ _ _ _ (by decide)]; exact f24_0
  have f25_1 : a0_25.eval (.tmp 1) = .slice (some ⟨gb, ob, none⟩) m cb := by rw [ha25, ev_other _ _ _ _ (by decide)]; exact f24_1
  have f25_5 : a0_25.eval (.tmp 5) = .int .i64 (i : Int) := by rw [ha25, ev_other _ _ _ _ (by decide)]; exact f24_5
  have f25_42 : a0_25.eval (.tmp 42) = .bool false := by rw [ha25]; exact ev_same _ _ _ (Nat.lt_of_le_of_lt (by decide) qz24)
  rw [← ha25] at h0 ⊢
  clear ha25
  refine wpAnyH_take (i := 25) (oi := sa_25 s) (v := .slice (some ⟨ga, oa, none⟩) m ca) (by kernel_rfl) (by kernel_rfl) (by kernel_rfl) (by kernel_rfl) (fun c a w h => hQ c _ _ _ w h) (Or.inl ⟨wanted_some rfl (by kernel_rfl) f25_42 (Nat.lt_of_le_of_lt (by decide) qz25), fun w hw => by simp only [execOp, sa_25, f25_0]; rfl⟩) hS ?_
  change wpAnyH _ _ _ _ _ _ _ (a0_25.put (some 43) (.slice (some ⟨ga, oa, none⟩) m ca)) _
  obtain ⟨a0_26, ha26⟩ : ∃ rr : Act, rr = a0_25.put (some 43) (.slice (some ⟨ga, oa, none⟩) m ca) := ⟨_, rfl⟩
  have qz26 : 56 < a0_26.tmps.size := by rw [ha26, sz_put]; exact qz25
  have f26_1 : a0_26.eval (.tmp 1) = .slice (some ⟨gb, ob, none⟩) m cb := by rw [ha26, ev_other _ _ _ _ (by decide)]; exact f25_1
  have f26_5 : a0_26.eval (.tmp 5) = .int .i64 (i : Int) := by rw [ha26, ev_other _ _ _ _ (by decide)]; exact f25_5
  have f26_42 : a0_26.eval (.tmp 42) = .bool false := by rw [ha26, ev_other _ _ _ _ (by decide)]; exact f25_42
  have f26_43 : a0_26.eval (.tmp 43) = .slice (some ⟨ga, oa, none⟩) m ca := by rw [ha26]; exact ev_same _ _ _ (Nat.lt_of_le_of_lt (by decide) qz25)
  rw [← ha26] at h0 ⊢
  clear ha26
  refine wpAnyH_take (i := 26) (oi := sa_26 s) (v := .int .i64 (i : Int)) (by kernel_rfl) (by kernel_rfl) (by kernel_rfl) (by kernel_rfl) (fun c a w h => hQ c _ _ _ w h) (Or.inl ⟨wanted_some rfl (by kernel_rfl) f26_42 (Nat.lt_of_le_of_lt (by decide) qz26), fun w hw => by simp only [execOp, sa_26, f26_5]; rfl⟩) hS ?_
  change wpAnyH _ _ _ _ _ _ _ (a0_26.put (some 44) (.int .i64 (i : Int))) _
  obtain ⟨a0_27, ha27⟩ : ∃ rr : Act, rr = a0_26.put (some 44) (.int .i64 (i : Int)) := ⟨_, rfl⟩
  have qz27 : 56 < a0_27.tmps.size := by rw [ha27, sz_put]; exact qz26
  have f27_1 : a0_27.eval (.tmp 1) = .slice (some ⟨gb, ob, none⟩) m cb := by rw [ha27, ev_other _ _ _ _ (by decide)]; exact f26_1
  have f27_5 : a0_27.eval (.tmp 5) = .int .i64 (i : Int) := by rw [ha27, ev_other _ _ _ _ (by decide)]; exact f26_5
  have f27_42 : a0_27.eval (.tmp 42) = .bool false := by rw [ha27, ev_other _ _ _ _ (by decide)]; exact f26_42
  have f27_43 : a0_27.eval (.tmp 43) = .slice (some ⟨ga, oa, none⟩) m ca := by rw [ha27, ev_other _ _ _ _ (by decide)]; exact f26_43
  have f27_44 : a0_27.eval (.tmp 44) = .int .i64 (i : Int) := by rw [ha27]; exact ev_same _ _ _ (Nat.lt_of_le_of_lt (by decide) qz26)
  rw [← ha27] at h0 ⊢
  clear ha27
  refine wpAnyH_take (i := 27) (oi := sa_27 s) (v := .pointer (some ⟨ga, oa + i * 3, none⟩)) (by kernel_rfl) (by kernel_rfl) (by kernel_rfl) (by kernel_rfl) (fun c a w h => hQ c _ _ _ w h) (Or.inl ⟨wanted_some rfl (by kernel_rfl) f27_42 (Nat.lt_of_le_of_lt (by decide) qz27), fun w hw => run_idxE rfl f27_43 f27_44 hi w⟩) hS ?_
  change wpAnyH _ _ _ _ _ _ _ (a0_27.put (some 45) (.pointer (some ⟨ga, oa + i * 3, none⟩))) _
  obtain ⟨a0_28, ha28⟩ : ∃ rr : Act, rr = a0_27.put (some 45) (.pointer (some ⟨ga, oa + i * 3, none⟩)) := ⟨_, rfl⟩
  have qz28 : 56 < a0_28.tmps.size := by rw [ha28, sz_put]; exact qz27
  have f28_1 : a0_28.eval (.tmp 1) = .slice (some ⟨gb, ob, none⟩) m cb := by rw [ha28, ev_other _ _ _ _ (by decide)]; exact f27_1
  have f28_5 : a0_28.eval (.tmp 5) = .int .i64 (i : Int) := by rw [ha28, ev_other _ _ _ _ (by decide)]; exact f27_5
  have f28_42 : a0_28.eval (.tmp 42) = .bool false := by rw [ha28, ev_other _ _ _ _ (by decide)]; exact f27_42
  have f28_45 : a0_28.eval (.tmp 45) = .pointer (some ⟨ga, oa + i * 3, none⟩) := by rw [ha28]; exact ev_same _ _ _ (Nat.lt_of_le_of_lt (by decide) qz27)
  rw [← ha28] at h0 ⊢
  clear ha28
  refine wpAnyH_take (i := 28) (oi := sa_28 s) (v := .pointer (some ⟨ga, oa + i * 3 + 2, none⟩)) (by kernel_rfl) (by kernel_rfl) (by kernel_rfl) (by kernel_rfl) (fun c a w h => hQ c _ _ _ w h) (Or.inl ⟨wanted_some rfl (by kernel_rfl) f28_42 (Nat.lt_of_le_of_lt (by decide) qz28), fun w hw => run_fldE2 rfl f28_45 w⟩) hS ?_
  change wpAnyH _ _ _ _ _ _ _ (a0_28.put (some 46) (.pointer (some ⟨ga, oa + i * 3 + 2, none⟩))) _
  obtain ⟨a0_29, ha29⟩ : ∃ rr : Act, rr = a0_28.put (some 46) (.pointer (some ⟨ga, oa + i * 3 + 2, none⟩)) := ⟨_, rfl⟩
  have qz29 : 56 < a0_29.tmps.size := by rw [ha29, sz_put]; exact qz28
  have f29_1 : a0_29.eval (.tmp 1) = .slice (some ⟨gb, ob, none⟩) m cb := by rw [ha29, ev_other _ _ _ _ (by decide)]; exact f28_1
  have f29_5 : a0_29.eval (.tmp 5) = .int .i64 (i : Int) := by rw [ha29, ev_other _ _ _ _ (by decide)]; exact f28_5
  have f29_42 : a0_29.eval (.tmp 42) = .bool false := by rw [ha29, ev_other _ _ _ _ (by decide)]; exact f28_42
  have f29_46 : a0_29.eval (.tmp 46) = .pointer (some ⟨ga, oa + i * 3 + 2, none⟩) := by rw [ha29]; exact ev_same _ _ _ (Nat.lt_of_le_of_lt (by decide) qz28)
  rw [← ha29] at h0 ⊢
  clear ha29
  refine wpAnyH_take (i := 29) (oi := sa_29 s) (v := .slice ra n ka) (by kernel_rfl) (by kernel_rfl) (by kernel_rfl) (by kernel_rfl) (fun c a w h => hQ c _ _ _ w h) (Or.inl ⟨wanted_some rfl (by kernel_rfl) f29_42 (Nat.lt_of_le_of_lt (by decide) qz29), fun w hw => run_load rfl f29_46 (load_rowR hw.2.2.1)⟩) hS ?_
  change wpAnyH _ _ _ _ _ _ _ (a0_29.put (some 47) (.slice ra n ka)) _
  obtain ⟨a0_30, ha30⟩ : ∃ rr : Act, rr = a0_29.put (some 47) (.slice ra n ka) := ⟨_, rfl⟩
  have qz30 : 56 < a0_30.tmps.size := by rw [ha30, sz_put]; exact qz29
  have f30_1 : a0_30.eval (.tmp 1) = .slice (some ⟨gb, ob, none⟩) m cb := by rw [ha30, ev_other _ _ _ _ (by decide)]; exact f29_1
  have f30_5 : a0_30.eval (.tmp 5) = .int .i64 (i : Int) := by rw [ha30, ev_other _ _ _ _ (by decide)]; exact f29_5
  have f30_42 : a0_30.eval (.tmp 42) = .bool false := by rw [ha30, ev_other _ _ _ _ (by decide)]; exact f29_42
  have f30_47 : a0_30.eval (.tmp 47) = .slice ra n ka := by rw [ha30]; exact ev_same _ _ _ (Nat.lt_of_le_of_lt (by decide) qz29)
  rw [← ha30] at h0 ⊢
  clear ha30
  refine wpAnyH_take (i := 30) (oi := sa_30 s) (v := .int .i64 (n : Int)) (by kernel_rfl) (by kernel_rfl) (by kernel_rfl) (by kernel_rfl) (fun c a w h => hQ c _ _ _ w h) (Or.inl ⟨wanted_some rfl (by kernel_rfl) f30_42 (Nat.lt_of_le_of_lt (by decide) qz30), fun w hw => run_lenQ rfl f30_47 w⟩) hS ?_
  change wpAnyH _ _ _ _ _ _ _ (a0_30.put (some 48) (.int .i64 (n : Int))) _
  obtain ⟨a0_31, ha31⟩ : ∃ rr : Act, rr = a0_30.put (some 48) (.int .i64 (n : Int)) := ⟨_, rfl⟩
  have qz31 : 56 < a0_31.tmps.size := by rw [ha31, sz_put]; exact qz30
  have f31_1 : a0_31.eval (.tmp 1) = .slice (some ⟨gb, ob, none⟩) m cb := by rw [ha31, ev_other _ _ _ _ (by decide)]; exact f30_1
  have f31_5 : a0_31.eval (.tmp 5) = .int .i64 (i : Int) := by rw [ha31, ev_other _ _ _ _ (by decide)]; exact f30_5
  have f31_42 : a0_31.eval (.tmp 42) = .bool false := by rw [ha31, ev_other _ _ _ _ (by decide)]; exact f30_42
  have f31_48 : a0_31.eval (.tmp 48) = .int .i64 (n : Int) := by rw [ha31]; exact ev_same _ _ _ (Nat.lt_of_le_of_lt (by decide) qz30)
  rw [← ha31] at h0 ⊢
  clear ha31
  refine wpAnyH_take (i := 31) (oi := sa_31 s) (v := .slice (some ⟨gb, ob, none⟩) m cb) (by kernel_rfl) (by kernel_rfl) (by kernel_rfl) (by kernel_rfl) (fun c a w h => hQ c _ _ _ w h) (Or.inl ⟨wanted_some rfl (by kernel_rfl) f31_42 (Nat.lt_of_le_of_lt (by decide) qz31), fun w hw => by simp only [execOp, sa_31, f31_1]; rfl⟩) hS ?_
  change wpAnyH _ _ _ _ _ _ _ (a0_31.put (some 49) (.slice (some ⟨gb, ob, none⟩) m cb)) _
  obtain ⟨a0_32, ha32⟩ : ∃ rr : Act, rr = a0_31.put (some 49) (.slice (some ⟨gb, ob, none⟩) m cb) := ⟨_, rfl⟩
  have qz32 : 56 < a0_32.tmps.size := by rw [ha32, sz_put]; exact qz31
  have f32_5 : a0_32.eval (.tmp 5) = .int .i64 (i : Int) := by rw [ha32, ev_other _ _ _ _ (by decide)]; exact f31_5
  have f32_42 : a0_32.eval (.tmp 42) = .bool false := by rw [ha32, ev_other _ _ _ _ (by decide)]; exact f31_42
  have f32_48 : a0_32.eval (.tmp 48) = .int .i64 (n : Int) := by rw [ha32, ev_other _ _ _ _ (by decide)]; exact f31_48
  have f32_49 : a0_32.eval (.tmp 49) = .slice (some ⟨gb, ob, none⟩) m cb := by rw [ha32]; exact ev_same _ _ _ (Nat.lt_of_le_of_lt (by decide) qz31)
  rw [← ha32] at h0 ⊢
  clear ha32
  refine wpAnyH_take (i := 32) (oi := sa_32 s) (v := .int .i64 (i : Int)) (by kernel_rfl) (by kernel_rfl) (by kernel_rfl) (by kernel_rfl) (fun c a w h => hQ c _ _ _ w h) (Or.inl ⟨wanted_some rfl (by kernel_rfl) f32_42 (Nat.lt_of_le_of_lt (by decide) qz32), fun w hw => by simp only [execOp, sa_32, f32_5]; rfl⟩) hS ?_
  change wpAnyH _ _ _ _ _ _ _ (a0_32.put (some 50) (.int .i64 (i : Int))) _
  obtain ⟨a0_33, ha33⟩ : ∃ rr : Act, rr = a0_32.put (some 50) (.int .i64 (i : Int)) := ⟨_, rfl⟩
  have qz33 : 56 < a0_33.tmps.size := by rw [ha33, sz_put]; exact qz32
  have f33_42 : a0_33.eval (.tmp 42) = .bool false := by rw [ha33, ev_other _ _ _ _ (by decide)]; exact f32_42
  have f33_48 : a0_33.eval (.tmp 48) = .int .i64 (n : Int) := by rw [ha33, ev_other _ _ _ _ (by decide)]; exact f32_48
  have f33_49 : a0_33.eval (.tmp 49) = .slice (some ⟨gb, ob, none⟩) m cb := by rw [ha33, ev_other _ _ _ _ (by decide)]; exact f32_49
  have f33_50 : a0_33.eval (.tmp 50) = .int .i64 (i : Int) := by rw [ha33]; exact ev_same _ _ _ (Nat.lt_of_le_of_lt (by decide) qz32)
  rw [← ha33] at h0 ⊢
  clear ha33
  refine wpAnyH_take (i := 33) (oi := sa_33 s) (v := .pointer (some ⟨gb, ob + i * 3, none⟩)) (by kernel_rfl) (by kernel_rfl) (by kernel_rfl) (by kernel_rfl) (fun c a w h => hQ c _ _ _ w h) (Or.inl ⟨wanted_some rfl (by kernel_rfl) f33_42 (Nat.lt_of_le_of_lt (by decide) qz33), fun w hw => run_idxE rfl f33_49 f33_50 hi w⟩) hS ?_
  change wpAnyH _ _ _ _ _ _ _ (a0_33.put (some 51) (.pointer (some ⟨gb, ob + i * 3, none⟩))) _
  obtain ⟨a0_34, ha34⟩ : ∃ rr : Act, rr = a0_33.put (some 51) (.pointer (some ⟨gb, ob + i * 3, none⟩)) := ⟨_, rfl⟩
  have qz34 : 56 < a0_34.tmps.size := by rw [ha34, sz_put]; exact qz33
  have f34_42 : a0_34.eval (.tmp 42) = .bool false := by rw [ha34, ev_other _ _ _ _ (by decide)]; exact f33_42
  have f34_48 : a0_34.eval (.tmp 48) = .int .i64 (n : Int) := by rw [ha34, ev_other _ _ _ _ (by decide)]; exact f33_48
  have f34_51 : a0_34.eval (.tmp 51) = .pointer (some ⟨gb, ob + i * 3, none⟩) := by rw [ha34]; exact ev_same _ _ _ (Nat.lt_of_le_of_lt (by decide) qz33)
  rw [← ha34] at h0 ⊢
  clear ha34
  refine wpAnyH_take (i := 34) (oi := sa_34 s) (v := .pointer (some ⟨gb, ob + i * 3 + 2, none⟩)) (by kernel_rfl) (by kernel_rfl) (by kernel_rfl) (by kernel_rfl) (fun c a w h => hQ c _ _ _ w h) (Or.inl ⟨wanted_some rfl (by kernel_rfl) f34_42 (Nat.lt_of_le_of_lt (by decide) qz34), fun w hw => run_fldE2 rfl f34_51 w⟩) hS ?_
  change wpAnyH _ _ _ _ _ _ _ (a0_34.put (some 52) (.pointer (some ⟨gb, ob + i * 3 + 2, none⟩))) _
  obtain ⟨a0_35, ha35⟩ : ∃ rr : Act, rr = a0_34.put (some 52) (.pointer (some ⟨gb, ob + i * 3 + 2, none⟩)) := ⟨_, rfl⟩
  have qz35 : 56 < a0_35.tmps.size := by rw [ha35, sz_put]; exact qz34
  have f35_42 : a0_35.eval (.tmp 42) = .bool false := by rw [ha35, ev_other _ _ _ _ (by decide)]; exact f34_42
  have f35_48 : a0_35.eval (.tmp 48) = .int .i64 (n : Int) := by rw [ha35, ev_other _ _ _ _ (by decide)]; exact f34_48
  have f35_52 : a0_35.eval (.tmp 52) = .pointer (some ⟨gb, ob + i * 3 + 2, none⟩) := by rw [ha35]; exact ev_same _ _ _ (Nat.lt_of_le_of_lt (by decide) qz34)
  rw [← ha35] at h0 ⊢
  clear ha35
  refine wpAnyH_take (i := 35) (oi := sa_35 s) (v := .slice rb n kb) (by kernel_rfl) (by kernel_rfl) (by kernel_rfl) (by kernel_rfl) (fun c a w h => hQ c _ _ _ w h) (Or.inl ⟨wanted_some rfl (by kernel_rfl) f35_42 (Nat.lt_of_le_of_lt (by decide) qz35), fun w hw => run_load rfl f35_52 (load_rowR hw.2.2.2.2.2)⟩) hS ?_
  change wpAnyH _ _ _ _ _ _ _ (a0_35.put (some 53) (.slice rb n kb)) _
  obtain ⟨a0_36, ha36⟩ : ∃ rr : Act, rr = a0_35.put (some 53) (.slice rb n kb) := ⟨_, rfl⟩
  have qz36 : 56 < a0_36.tmps.size := by rw [ha36, sz_put]; exact qz35
  have f36_42 : a0_36.eval (.tmp 42) = .bool false := by rw [ha36, ev_other _ _ _ _ (by decide)]; exact f35_42
  have f36_48 : a0_36.eval (.tmp 48) = .int .i64 (n : Int) := by rw [ha36, ev_other _ _ _ _ (by decide)]; exact f35_48
  have f36_53 : a0_36.eval (.tmp 53) = .slice rb n kb := by rw [ha36]; exact ev_same _ _ _ (Nat.lt_of_le_of_lt (by decide) qz35)
  rw [← ha36] at h0 ⊢
  clear ha36
  refine wpAnyH_take (i := 36) (oi := sa_36 s) (v := .int .i64 (n : Int)) (by kernel_rfl) (by kernel_rfl) (by kernel_rfl) (by kernel_rfl) (fun c a w h => hQ c _ _ _ w h) (Or.inl ⟨wanted_some rfl (by kernel_rfl) f36_42 (Nat.lt_of_le_of_lt (by decide) qz36), fun w hw => run_lenQ rfl f36_53 w⟩) hS ?_
  change wpAnyH _ _ _ _ _ _ _ (a0_36.put (some 54) (.int .i64 (n : Int))) _
  obtain ⟨a0_37, ha37⟩ : ∃ rr : Act, rr = a0_36.put (some 54) (.int .i64 (n : Int)) := ⟨_, rfl⟩
  have qz37 : 56 < a0_37.tmps.size := by rw [ha37, sz_put]; exact qz36
  have f37_42 : a0_37.eval (.tmp 42) = .bool false := by rw [ha37, ev_other _ _ _ _ (by decide)]; exact f36_42
  have f37_48 : a0_37.eval (.tmp 48) = .int .i64 (n : Int) := by rw [ha37, ev_other _ _ _ _ (by decide)]; exact f36_48
  have f37_54 : a0_37.eval (.tmp 54) = .int .i64 (n : Int) := by rw [ha37]; exact ev_same _ _ _ (Nat.lt_of_le_of_lt (by decide) qz36)
  rw [← ha37] at h0 ⊢
  clear ha37
  refine wpAnyH_take (i := 37) (oi := sa_37 s) (v := .bool false) (by kernel_rfl) (by kernel_rfl) (by kernel_rfl) (by kernel_rfl) (fun c a w h => hQ c _ _ _ w h) (Or.inl ⟨wanted_some rfl (by kernel_rfl) f37_42 (Nat.lt_of_le_of_lt (by decide) qz37), fun w hw => run_neqII rfl f37_48 f37_54 w⟩) hS ?_
  change wpAnyH _ _ _ _ _ _ _ (a0_37.put (some 55) (.bool false)) _
  obtain ⟨a0_38, ha38⟩ : ∃ rr : Act, rr = a0_37.put (some 55) (.bool false) := ⟨_, rfl⟩
  have qz38 : 56 < a0_38.tmps.size := by rw [ha38, sz_put]; exact qz37
  have f38_42 : a0_38.eval (.tmp 42) = .bool false := by rw [ha38, ev_other _ _ _ _ (by decide)]; exact f37_42
  have f38_55 : a0_38.eval (.tmp 55) = .bool false := by rw [ha38]; exact ev_same _ _ _ (Nat.lt_of_le_of_lt (by decide) qz37)
  rw [← ha38] at h0 ⊢
  clear ha38
  refine wpAnyH_take (i := 38) (oi := sa_38 s) (v := .bool false) (by kernel_rfl) (by kernel_rfl) (by kernel_rfl) (by kernel_rfl) (fun c a w h => hQ c _ _ _ w h) (Or.inl ⟨wanted_none rfl, fun w hw => run_pickF rfl f38_42 f38_55 w⟩) hS ?_
  change wpAnyH _ _ _ _ _ _ _ (a0_38.put (some 56) (.bool false)) _
  obtain ⟨a0_39, ha39⟩ : ∃ rr : Act, rr = a0_38.put (some 56) (.bool false) := ⟨_, rfl⟩
  have qz39 : 56 < a0_39.tmps.size := by rw [ha39, sz_put]; exact qz38
  rw [← ha39] at h0 ⊢
  clear ha39
  refine wpAnyH_done (by kernel_rfl) ?_ _
  exact h0
def sb_0 (s : String) : Oper := { dst := some 67, op := Op.move (Operand.tmp 0), type := 61, pos := s, after := #[], guard := none }
def sb_1 (s : String) : Oper := { dst := some 68, op := Op.move (Operand.tmp 5), type := 3, pos := s, after := #[], guard := none }
def sb_2 (s : String) : Oper := { dst := some 69, op := Op.indexAddr 61 (Operand.tmp 67) (Operand.tmp 68), type := 0, pos := s, after := #[{ on := 0, ground := Ground.data }, { on := 1, ground := Ground.data }], guard := none }
def sb_3 (s : String) : Oper := { dst := some 70, op := Op.fieldAddr 80 (Operand.tmp 69) 2, type := 0, pos := s, after := #[{ on := 2, ground := Ground.data }], guard := none }
def sb_4 (s : String) : Oper := { dst := some 71, op := Op.load 42 (Operand.tmp 70), type := 42, pos := s, after := #[{ on := 3, ground := Ground.data }], guard := none }
def sb_5 (s : String) : Oper := { dst := some 72, op := Op.move (Operand.tmp 6), type := 3, pos := s, after := #[], guard := none }
def sb_6 (s : String) : Oper := { dst := some 73, op := Op.indexAddr 42 (Operand.tmp 71) (Operand.tmp 72), type := 0, pos := s, after := #[{ on := 4, ground := Ground.data }, { on := 5, ground := Ground.data }], guard := none }
def sb_7 (s : String) : Oper := { dst := some 74, op := Op.load 30 (Operand.tmp 73), type := 30, pos := s, after := #[{ on := 6, ground := Ground.data }], guard := none }
def sb_8 (s : String) : Oper := { dst := some 75, op := Op.move (Operand.tmp 1), type := 61, pos := s, after := #[], guard := none }
def sb_9 (s : String) : Oper := { dst := some 76, op := Op.move (Operand.tmp 5), type := 3, pos := s, after := #[], guard := none }
def sb_10 (s : String) : Oper := { dst := some 77, op := Op.indexAddr 61 (Operand.tmp 75) (Operand.tmp 76), type := 0, pos := s, after := #[{ on := 8, ground := Ground.data }, { on := 9, ground := Ground.data }], guard := none }
def sb_11 (s : String) : Oper := { dst := some 78, op := Op.fieldAddr 80 (Operand.tmp 77) 2, type := 0, pos := s, after := #[{ on := 10, ground := Ground.data }], guard := none }
def sb_12 (s : String) : Oper := { dst := some 79, op := Op.load 42 (Operand.tmp 78), type := 42, pos := s, after := #[{ on := 11, ground := Ground.data }], guard := none }
def sb_13 (s : String) : Oper := { dst := some 80, op := Op.move (Operand.tmp 6), type := 3, pos := s, after := #[], guard := none }
def sb_14 (s : String) : Oper := { dst := some 81, op := Op.indexAddr 42 (Operand.tmp 79) (Operand.tmp 80), type := 0, pos := s, after := #[{ on := 12, ground := Ground.data }, { on := 13, ground := Ground.data }], guard := none }
def sb_15 (s : String) : Oper := { dst := some 82, op := Op.load 30 (Operand.tmp 81), type := 30, pos := s, after := #[{ on := 14, ground := Ground.data }], guard := none }
def sb_16 (s : String) : Oper := { dst := some 83, op := Op.binOp BinOp.neq 30 (Operand.tmp 74) (Operand.tmp 82) 30, type := 4, pos := s, after := #[{ on := 7, ground := Ground.data }, { on := 15, ground := Ground.data }], guard := none }
def sb_ops (s : String) : Array Oper := #[sb_0 s, sb_1 s, sb_2 s, sb_3 s, sb_4 s, sb_5 s, sb_6 s, sb_7 s, sb_8 s, sb_9 s, sb_10 s, sb_11 s, sb_12 s, sb_13 s, sb_14 s, sb_15 s, sb_16 s]
theorem sb_walk (s : String) {Q : Exit → Act → World → Prop} (hQ : ∀ c (a : Act) t v w, Q (.panic c) (a.put (some t) v) w → Q (.panic c) a w) (W : World) (ga oa gb ob m ca cb i nm bu n ka pa kca kb pb kcb j : Nat) (y : List UInt8) (hyl : y.length = 32) (hi : i < m) (hj : j < n) (hS0 : W.drew.cell? ⟨ga, oa + i * 3, none⟩ = some (.int .i64 (nm : Int)) ∧ W.drew.cell? ⟨ga, oa + i * 3 + 1, none⟩ = some (.int .i64 (bu : Int)) ∧ W.drew.cell? ⟨ga, oa + i * 3 + 2, none⟩ = some (.slice (some ⟨ka, pa, none⟩) n kca) ∧ W.drew.cell? ⟨gb, ob + i * 3, none⟩ = some (.int .i64 (nm : Int)) ∧ W.drew.cell? ⟨gb, ob + i * 3 + 1, none⟩ = some (.int .i64 (bu : Int)) ∧ W.drew.cell? ⟨gb, ob + i * 3 + 2, none⟩ = some (.slice (some ⟨kb, pb, none⟩) n kcb) ∧ W.drew.rangeAt ka (pa + j * 32) (y.map u8c) ∧ W.drew.rangeAt kb (pb + j * 32) (y.map u8c))
    (a : Act) (hs : 83 < a.tmps.size) (e0 : a.eval (.tmp 0) = .slice (some ⟨ga, oa, none⟩) m ca) (e1 : a.eval (.tmp 1) = .slice (some ⟨gb, ob, none⟩) m cb) (e5 : a.eval (.tmp 5) = .int .i64 (i : Int)) (e6 : a.eval (.tmp 6) = .int .i64 (j : Int))
    (h0 :  Q .normal (((((((((((((((((a.put (some 67) (.slice (some ⟨ga, oa, none⟩) m ca)).put (some 68) (.int .i64 (i : Int))).put (some 69) (.pointer (some ⟨ga, oa + i * 3, none⟩))).put (some 70) (.pointer (some ⟨ga, oa + i * 3 + 2, none⟩))).put (some 71) (.slice (some ⟨ka, pa, none⟩) n kca)).put (some 72) (.int .i64 (j : Int))).put (some 73) (.pointer (some ⟨ka, pa + j * 32, none⟩))).put (some 74) (keyV y)).put (some 75) (.slice (some ⟨gb, ob, none⟩) m cb)).put (some 76) (.int .i64 (i : Int))).put (some 77) (.pointer (some ⟨gb, ob + i * 3, none⟩))).put (some 78) (.pointer (some ⟨gb, ob + i * 3 + 2, none⟩))).put (some 79) (.slice (some ⟨kb, pb, none⟩) n kcb)).put (some 80) (.int .i64 (j : Int))).put (some 81) (.pointer (some ⟨kb, pb + j * 32, none⟩))).put (some 82) (keyV y)).put (some 83) (.bool false)) W.drew) :
    Code.wp Try.prog (.region 11 (sb_ops s) true) Q a W := by
  refine wp_region_held_drew (S := fun w => w.cell? ⟨ga, oa + i * 3, none⟩ = some (.int .i64 (nm : Int)) ∧ w.cell? ⟨ga, oa + i * 3 + 1, none⟩ = some (.int .i64 (bu : Int)) ∧ w.cell? ⟨ga, oa + i * 3 + 2, none⟩ = some (.slice (some ⟨ka, pa, none⟩) n kca) ∧ w.cell? ⟨gb, ob + i * 3, none⟩ = some (.int .i64 (nm : Int)) ∧ w.cell? ⟨gb, ob + i * 3 + 1, none⟩ = some (.int .i64 (bu : Int)) ∧ w.cell? ⟨gb, ob + i * 3 + 2, none⟩ = some (.slice (some ⟨kb, pb, none⟩) n kcb) ∧ w.rangeAt ka (pa + j * 32) (y.map u8c) ∧ w.rangeAt kb (pb + j * 32) (y.map u8c)) (by kernel_rfl) hS0 (fun hS => ?_)
  change wpAnyH _ _ _ _ _ _ _ _ (World.drew _)
  refine wpAnyH_take (i := 0) (oi := sb_0 s) (v := .slice (some ⟨ga, oa, none⟩) m ca) (by kernel_rfl) (by kernel_rfl) (by kernel_rfl) (by kernel_rfl) (fun c a w h => hQ c _ _ _ w h) (Or.inl ⟨wanted_none rfl, fun w hw => by simp only [execOp, sb_0, e0]; rfl⟩) hS ?_
  change wpAnyH _ _ _ _ _ _ _ (a.put (some 67) (.slice (some ⟨ga, oa, none⟩) m ca)) _
  obtain ⟨a0_1, ha1⟩ : ∃ rr : Act, rr = a.put (some 67) (.slice (some ⟨ga, oa, none⟩) m ca) := ⟨_, rfl⟩
  have qz1 : 83 < a0_1.tmps.size := by rw [ha1, sz_put]; exact hs
  have f1_1 : a0_1.eval (.tmp 1) = .slice (some ⟨gb, ob, none⟩) m cb := by rw [ha1, ev_other _ _ _ _ (by decide)]; exact e1
  have f1_5 : a0_1.eval (.tmp 5) = .int .i64 (i : Int) := by rw [ha1, ev_other _ _ _ _ (by decide)]; exact e5
  have f1_6 : a0_1.eval (.tmp 6) = .int .i64 (j : Int) := by rw [ha1, ev_other _ _ _ _ (by decide)]; exact e6
  have f1_67 : a0_1.eval (.tmp 67) = .slice (some ⟨ga, oa, none⟩) m ca := by rw [ha1]; exact ev_same _ _ _ (Nat.lt_of_le_of_lt (by decide) hs)
  rw [← ha1] at h0 ⊢
  clear ha1
  refine wpAnyH_take (i := 1) (oi := sb_1 s) (v := .int .i64 (i : Int)) (by kernel_rfl) (by kernel_rfl) (by kernel_rfl) (by kernel_rfl) (fun c a w h => hQ c _ _ _ w h) (Or.inl ⟨wanted_none rfl, fun w hw => by simp only [execOp, sb_1, f1_5]; rfl⟩) hS ?_
  change wpAnyH _ _ _ _ _ _ _ (a0_1.put (some 68) (.int .i64 (i : Int))) _
  obtain ⟨a0_2, ha2⟩ : ∃ rr : Act, rr = a0_1.put (some 68) (.int .i64 (i : Int)) := ⟨_, rfl⟩
  have qz2 : 83 < a0_2.tmps.size := by rw [ha2, sz_put]; exact qz1
  have f2_1 : a0_2.eval (.tmp 1) = .slice (some ⟨gb, ob, none⟩) m cb := by rw [ha2, ev_other _ _ _ _ (by decide)]; exact f1_1
  have f2_5 : a0_2.eval (.tmp 5) = .int .i64 (i : Int) := by rw [ha2, ev_other _ _ _ _ (by decide)]; exact f1_5
  have f2_6 : a0_2.eval (.tmp 6) = .int .i64 (j : Int) := by rw [ha2, ev_other _ _ _ _ (by decide)]; exact f1_6
  have f2_67 : a0_2.eval (.tmp 67) = .slice (some ⟨ga, oa, none⟩) m ca := by rw [ha2, ev_other _ _ _ _ (by decide)]; exact f1_67
  have f2_68 : a0_2.eval (.tmp 68) = .int .i64 (i : Int) := by rw [ha2]; exact ev_same _ _ _ (Nat.lt_of_le_of_lt (by decide) qz1)
  rw [← ha2] at h0 ⊢
  clear ha2
  refine wpAnyH_take (i := 2) (oi := sb_2 s) (v := .pointer (some ⟨ga, oa + i * 3, none⟩)) (by kernel_rfl) (by kernel_rfl) (by kernel_rfl) (by kernel_rfl) (fun c a w h => hQ c _ _ _ w h) (Or.inl ⟨wanted_none rfl, fun w hw => run_idxE rfl f2_67 f2_68 hi w⟩) hS ?_
  change wpAnyH _ _ _ _ _ _ _ (a0_2.put (some 69) (.pointer (some ⟨ga, oa + i * 3, none⟩))) _
  obtain ⟨a0_3, ha3⟩ : ∃ rr : Act, rr = a0_2.put (some 69) (.pointer (some ⟨ga, oa + i * 3, none⟩)) := ⟨_, rfl⟩
  have qz3 : 83 < a0_3.tmps.size := by rw [ha3, sz_put]; exact qz2
  have f3_1 : a0_3.eval (.tmp 1) = .slice (some ⟨gb, ob, none⟩) m cb := by rw [ha3, ev_other _ _ _ _ (by decide)]; exact f2_1
  have f3_5 : a0_3.eval (.tmp 5) = .int .i64 (i : Int) := by rw [ha3, ev_other _ _ _ _ (by decide)]; exact f2_5
  have f3_6 : a0_3.eval (.tmp 6) = .int .i64 (j : Int) := by rw [ha3, ev_other _ _ _ _ (by decide)]; exact f2_6
  have f3_69 : a0_3.eval (.tmp 69) = .pointer (some ⟨ga, oa + i * 3, none⟩) := by rw [ha3]; exact ev_same _ _ _ (Nat.lt_of_le_of_lt (by decide) qz2)
  rw [← ha3] at h0 ⊢
  clear ha3
  refine wpAnyH_take (i := 3) (oi := sb_3 s) (v := .pointer (some ⟨ga, oa + i * 3 + 2, none⟩)) (by kernel_rfl) (by kernel_rfl) (by kernel_rfl) (by kernel_rfl) (fun c a w h => hQ c _ _ _ w h) (Or.inl ⟨wanted_none rfl, fun w hw => run_fldE2 rfl f3_69 w⟩) hS ?_
  change wpAnyH _ _ _ _ _ _ _ (a0_3.put (some 70) (.pointer (some ⟨ga, oa + i * 3 + 2, none⟩))) _
  obtain ⟨a0_4, ha4⟩ : ∃ rr : Act, rr = a0_3.put (some 70) (.pointer (some ⟨ga, oa + i * 3 + 2, none⟩)) := ⟨_, rfl⟩
  have qz4 : 83 < a0_4.tmps.size := by rw [ha4, sz_put]; exact qz3
  have f4_1 : a0_4.eval (.tmp 1) = .slice (some ⟨gb, ob, none⟩) m cb := by rw [ha4, ev_other _ _ _ _ (by decide)]; exact f3_1
  have f4_5 : a0_4.eval (.tmp 5) = .int .i64 (i : Int) := by rw [ha4, ev_other _ _ _ _ (by decide)]; exact f3_5
  have f4_6 : a0_4.eval (.tmp 6) = .int .i64 (j : Int) := by rw [ha4, ev_other _ _ _ _ (by decide)]; exact f3_6
  have f4_70 : a0_4.eval (.tmp 70) = .pointer (some ⟨ga, oa + i * 3 + 2, none⟩) := by rw [ha4]; exact ev_same _ _ _ (Nat.lt_of_le_of_lt (by decide) qz3)
  rw [← ha4] at h0 ⊢
  clear ha4
  refine wpAnyH_take (i := 4) (oi := sb_4 s) (v := .slice (some ⟨ka, pa, none⟩) n kca) (by kernel_rfl) (by kernel_rfl) (by kernel_rfl) (by kernel_rfl) (fun c a w h => hQ c _ _ _ w h) (Or.inl ⟨wanted_none rfl, fun w hw => run_load rfl f4_70 (load_rowR hw.2.2.1)⟩) hS ?_
  change wpAnyH _ _ _ _ _ _ _ (a0_4.put (some 71) (.slice (some ⟨ka, pa, none⟩) n kca)) _
  obtain ⟨a0_5, ha5⟩ : ∃ rr : Act, rr = a0_4.put (some 71) (.slice (some ⟨ka, pa, none⟩) n kca) := ⟨_, rfl⟩
  have qz5 : 83 < a0_5.tmps.size := by rw [ha5, sz_put]; exact qz4
  have f5_1 : a0_5.eval (.tmp 1) = .slice (some ⟨gb, ob, none⟩) m cb := by rw [ha5, ev_other _ _ _ _ (by decide)]; exact f4_1
  have f5_5 : a0_5.eval (.tmp 5) = .int .i64 (i : Int) := by rw [ha5, ev_other _ _ _ _ (by decide)]; exact f4_5
  have f5_6 : a0_5.eval (.tmp 6) = .int .i64 (j : Int) := by rw [ha5, ev_other _ _ _ _ (by decide)]; exact f4_6
  have f5_71 : a0_5.eval (.tmp 71) = .slice (some ⟨ka, pa, none⟩) n kca := by rw [ha5]; exact ev_same _ _ _ (Nat.lt_of_le_of_lt (by decide) qz4)
  rw [← ha5] at h0 ⊢
  clear ha5
  refine wpAnyH_take (i := 5) (oi := sb_5 s) (v := .int .i64 (j : Int)) (by kernel_rfl) (by kernel_rfl) (by kernel_rfl) (by kernel_rfl) (fun c a w h => hQ c _ _ _ w h) (Or.inl ⟨wanted_none rfl, fun w hw => by simp only [execOp, sb_5, f5_6]; rfl⟩) hS ?_
  change wpAnyH _ _ _ _ _ _ _ (a0_5.put (some 72) (.int .i64 (j : Int))) _
  obtain ⟨a0_6, ha6⟩ : ∃ rr : Act, rr = a0_5.put (some 72) (.int .i64 (j : Int)) := ⟨_, rfl⟩
  have qz6 : 83 < a0_6.tmps.size := by rw [ha6, sz_put]; exact qz5
  have f6_1 : a0_6.eval (.tmp 1) = .slice (some ⟨gb, ob, none⟩) m cb := by rw [ha6, ev_other _ _ _ _ (by decide)]; exact f5_1
  have f6_5 : a0_6.eval (.tmp 5) = .int .i64 (i : Int) := by rw [ha6, ev_other _ _ _ _ (by decide)]; exact f5_5
  have f6_6 : a0_6.eval (.tmp 6) = .int .i64 (j : Int) := by rw [ha6, ev_other _ _ _ _ (by decide)]; exact f5_6
  have f6_71 : a0_6.eval (.tmp 71) = .slice (some ⟨ka, pa, none⟩) n kca := by rw [ha6, ev_other _ _ _ _ (by decide)]; exact f5_71
  have f6_72 : a0_6.eval (.tmp 72) = .int .i64 (j : Int) := by rw [ha6]; exact ev_same _ _ _ (Nat.lt_of_le_of_lt (by decide) qz5)
  rw [← ha6] at h0 ⊢
  clear ha6
  refine wpAnyH_take (i := 6) (oi := sb_6 s) (v := .pointer (some ⟨ka, pa + j * 32, none⟩)) (by kernel_rfl) (by kernel_rfl) (by kernel_rfl) (by kernel_rfl) (fun c a w h => hQ c _ _ _ w h) (Or.inl ⟨wanted_none rfl, fun w hw => run_idxK2 rfl f6_71 f6_72 hj w⟩) hS ?_
  change wpAnyH _ _ _ _ _ _ _ (a0_6.put (some 73) (.pointer (some ⟨ka, pa + j * 32, none⟩))) _
  obtain ⟨a0_7, ha7⟩ : ∃ rr : Act, rr = a0_6.put (some 73) (.pointer (some ⟨ka, pa + j * 32, none⟩)) := ⟨_, rfl⟩
  have qz7 : 83 < a0_7.tmps.size := by rw [ha7, sz_put]; exact qz6
  have f7_1 : a0_7.eval (.tmp 1) = .slice (some ⟨gb, ob, none⟩) m cb := by rw [ha7, ev_other _ _ _ _ (by decide)]; exact f6_1
  have f7_5 : a0_7.eval (.tmp 5) = .int .i64 (i : Int) := by rw [ha7, ev_other _ _ _ _ (by decide)]; exact f6_5
  have f7_6 : a0_7.eval (.tmp 6) = .int .i64 (j : Int) := by rw [ha7, ev_other _ _ _ _ (by decide)]; exact f6_6
  have f7_73 : a0_7.eval (.tmp 73) = .pointer (some ⟨ka, pa + j * 32, none⟩) := by rw [ha7]; exact ev_same _ _ _ (Nat.lt_of_le_of_lt (by decide) qz6)
  rw [← ha7] at h0 ⊢
  clear ha7
  refine wpAnyH_take (i := 7) (oi := sb_7 s) (v := keyV y) (by kernel_rfl) (by kernel_rfl) (by kernel_rfl) (by kernel_rfl) (fun c a w h => hQ c _ _ _ w h) (Or.inl ⟨wanted_none rfl, fun w hw => run_load rfl f7_73 (loadAt_key hyl hw.2.2.2.2.2.2.1)⟩) hS ?_
  change wpAnyH _ _ _ _ _ _ _ (a0_7.put (some 74) (keyV y)) _
  obtain ⟨a0_8, ha8⟩ : ∃ rr : Act, rr = a0_7.put (some 74) (keyV y) := ⟨_, rfl⟩
  have qz8 : 83 < a0_8.tmps.size := by rw [ha8, sz_put]; exact qz7
  have f8_1 : a0_8.eval (.tmp 1) = .slice (some ⟨gb, ob, none⟩) m cb := by rw [ha8, ev_other _ _ _ _ (by decide)]; exact f7_1
  have f8_5 : a0_8.eval (.tmp 5) = .int .i64 (i : Int) := by rw [ha8, ev_other _ _ _ _ (by decide)]; exact f7_5
  have f8_6 : a0_8.eval (.tmp 6) = .int .i64 (j : Int) := by rw [ha8, ev_other _ _ _ _ (by decide)]; exact f7_6
  have f8_74 : a0_8.eval (.tmp 74) = keyV y := by rw [ha8]; exact ev_same _ _ _ (Nat.lt_of_le_of_lt (by decide) qz7)
  rw [← ha8] at h0 ⊢
  clear ha8
  refine wpAnyH_take (i := 8) (oi := sb_8 s) (v := .slice (some ⟨gb, ob, none⟩) m cb) (by kernel_rfl) (by kernel_rfl) (by kernel_rfl) (by kernel_rfl) (fun c a w h => hQ c _ _ _ w h) (Or.inl ⟨wanted_none rfl, fun w hw => by simp only [execOp, sb_8, f8_1]; rfl⟩) hS ?_
  change wpAnyH _ _ _ _ _ _ _ (a0_8.put (some 75) (.slice (some ⟨gb, ob, none⟩) m cb)) _
  obtain ⟨a0_9, ha9⟩ : ∃ rr : Act, rr = a0_8.put (some 75) (.slice (some ⟨gb, ob, none⟩) m cb) := ⟨_, rfl⟩
  have qz9 : 83 < a0_9.tmps.size := by rw [ha9, sz_put]; exact qz8
  have f9_5 : a0_9.eval (.tmp 5) = .int .i64 (i : Int) := by rw [ha9, ev_other _ _ _ _ (by decide)]; exact f8_5
  have f9_6 : a0_9.eval (.tmp 6) = .int .i64 (j : Int) := by rw [ha9, ev_other _ _ _ _ (by decide)]; exact f8_6
  have f9_74 : a0_9.eval (.tmp 74) = keyV y := by rw [ha9, ev_other _ _ _ _ (by decide)]; exact f8_74
  have f9_75 : a0_9.eval (.tmp 75) = .slice (some ⟨gb, ob, none⟩) m cb := by rw [ha9]; exact ev_same _ _ _ (Nat.lt_of_le_of_lt (by decide) qz8)
  rw [← ha9] at h0 ⊢
  clear ha9
  refine wpAnyH_take (i := 9) (oi := sb_9 s) (v := .int .i64 (i : Int)) (by kernel_rfl) (by kernel_rfl) (by kernel_rfl) (by kernel_rfl) (fun c a w h => hQ c _ _ _ w h) (Or.inl ⟨wanted_none rfl, fun w hw => by simp only [execOp, sb_9, f9_5]; rfl⟩) hS ?_
  change wpAnyH _ _ _ _ _ _ _ (a0_9.put (some 76) (.int .i64 (i : Int))) _
  obtain ⟨a0_10, ha10⟩ : ∃ rr : Act, rr = a0_9.put (some 76) (.int .i64 (i : Int)) := ⟨_, rfl⟩
  have qz10 : 83 < a0_10.tmps.size := by rw [ha10, sz_put]; exact qz9
  have f10_6 : a0_10.eval (.tmp 6) = .int .i64 (j : Int) := by rw [ha10, ev_other _ _ _ _ (by decide)]; exact f9_6
  have f10_74 : a0_10.eval (.tmp 74) = keyV y := by rw [ha10, ev_other _ _ _ _ (by decide)]; exact f9_74
  have f10_75 : a0_10.eval (.tmp 75) = .slice (some ⟨gb, ob, none⟩) m cb := by rw [ha10, ev_other _ _ _ _ (by decide)]; exact f9_75
  have f10_76 : a0_10.eval (.tmp 76) = .int .i64 (i : Int) := by rw [ha10]; exact ev_same _ _ _ (Nat.lt_of_le_of_lt (by decide) qz9)
  rw [← ha10] at h0 ⊢
  clear ha10
  refine wpAnyH_take (i := 10) (oi := sb_10 s) (v := .pointer (some ⟨gb, ob + i * 3, none⟩)) (by kernel_rfl) (by kernel_rfl) (by kernel_rfl) (by kernel_rfl) (fun c a w h => hQ c _ _ _ w h) (Or.inl ⟨wanted_none rfl, fun w hw => run_idxE rfl f10_75 f10_76 hi w⟩) hS ?_
  change wpAnyH _ _ _ _ _ _ _ (a0_10.put (some 77) (.pointer (some ⟨gb, ob + i * 3, none⟩))) _
  obtain ⟨a0_11, ha11⟩ : ∃ rr : Act, rr = a0_10.put (some 77) (.pointer (some ⟨gb, ob + i * 3, none⟩)) := ⟨_, rfl⟩
  have qz11 : 83 < a0_11.tmps.size := by rw [ha11, sz_put]; exact qz10
  have f11_6 : a0_11.eval (.tmp 6) = .int .i64 (j : Int) := by rw [ha11, ev_other _ _ _ _ (by decide)]; exact f10_6
  have f11_74 : a0_11.eval (.tmp 74) = keyV y := by rw [ha11, ev_other _ _ _ _ (by decide)]; exact f10_74
  have f11_77 : a0_11.eval (.tmp 77) = .pointer (some ⟨gb, ob + i * 3, none⟩) := by rw [ha11]; exact ev_same _ _ _ (Nat.lt_of_le_of_lt (by decide) qz10)
  rw [← ha11] at h0 ⊢
  clear ha11
  refine wpAnyH_take (i := 11) (oi := sb_11 s) (v := .pointer (some ⟨gb, ob + i * 3 + 2, none⟩)) (by kernel_rfl) (by kernel_rfl) (by kernel_rfl) (by kernel_rfl) (fun c a w h => hQ c _ _ _ w h) (Or.inl ⟨wanted_none rfl, fun w hw => run_fldE2 rfl f11_77 w⟩) hS ?_
  change wpAnyH _ _ _ _ _ _ _ (a0_11.put (some 78) (.pointer (some ⟨gb, ob + i * 3 + 2, none⟩))) _
  obtain ⟨a0_12, ha12⟩ : ∃ rr : Act, rr = a0_11.put (some 78) (.pointer (some ⟨gb, ob + i * 3 + 2, none⟩)) := ⟨_, rfl⟩
  have qz12 : 83 < a0_12.tmps.size := by rw [ha12, sz_put]; exact qz11
  have f12_6 : a0_12.eval (.tmp 6) = .int .i64 (j : Int) := by rw [ha12, ev_other _ _ _ _ (by decide)]; exact f11_6
  have f12_74 : a0_12.eval (.tmp 74) = keyV y := by rw [ha12, ev_other _ _ _ _ (by decide)]; exact f11_74
  have f12_78 : a0_12.eval (.tmp 78) = .pointer (some ⟨gb, ob + i * 3 + 2, none⟩) := by rw [ha12]; exact ev_same _ _ _ (Nat.lt_of_le_of_lt (by decide) qz11)
  rw [← ha12] at h0 ⊢
  clear ha12
  refine wpAnyH_take (i := 12) (oi := sb_12 s) (v := .slice (some ⟨kb, pb, none⟩) n kcb) (by kernel_rfl) (by kernel_rfl) (by kernel_rfl) (by kernel_rfl) (fun c a w h => hQ c _ _ _ w h) (Or.inl ⟨wanted_none rfl, fun w hw => run_load rfl f12_78 (load_rowR hw.2.2.2.2.2.1)⟩) hS ?_
  change wpAnyH _ _ _ _ _ _ _ (a0_12.put (some 79) (.slice (some ⟨kb, pb, none⟩) n kcb)) _
  obtain ⟨a0_13, ha13⟩ : ∃ rr : Act, rr = a0_12.put (some 79) (.slice (some ⟨kb, pb, none⟩) n kcb) := ⟨_, rfl⟩
  have qz13 : 83 < a0_13.tmps.size := by rw [ha13, sz_put]; exact qz12
  have f13_6 : a0_13.eval (.tmp 6) = .int .i64 (j : Int) := by rw [ha13, ev_other _ _ _ _ (by decide)]; exact f12_6
  have f13_74 : a0_13.eval (.tmp 74) = keyV y := by rw [ha13, ev_other _ _ _ _ (by decide)]; exact f12_74
  have f13_79 : a0_13.eval (.tmp 79) = .slice (some ⟨kb, pb, none⟩) n kcb := by rw [ha13]; exact ev_same _ _ _ (Nat.lt_of_le_of_lt (by decide) qz12)
  rw [← ha13] at h0 ⊢
  clear ha13
  refine wpAnyH_take (i := 13) (oi := sb_13 s) (v := .int .i64 (j : Int)) (by kernel_rfl) (by kernel_rfl) (by kernel_rfl) (by kernel_rfl) (fun c a w h => hQ c _ _ _ w h) (Or.inl ⟨wanted_none rfl, fun w hw => by simp only [execOp, sb_13, f13_6]; rfl⟩) hS ?_
  change wpAnyH _ _ _ _ _ _ _ (a0_13.put (some 80) (.int .i64 (j : Int))) _
  obtain ⟨a0_14, ha14⟩ : ∃ rr : Act, rr = a0_13.put (some 80) (.int .i64 (j : Int)) := ⟨_, rfl⟩
  have qz14 : 83 < a0_14.tmps.size := by rw [ha14, sz_put]; exact qz13
  have f14_74 : a0_14.eval (.tmp 74) = keyV y := by rw [ha14, ev_other _ _ _ _ (by decide)]; exact f13_74
  have f14_79 : a0_14.eval (.tmp 79) = .slice (some ⟨kb, pb, none⟩) n kcb := by rw [ha14, ev_other _ _ _ _ (by decide)]; exact f13_79
  have f14_80 : a0_14.eval (.tmp 80) = .int .i64 (j : Int) := by rw [ha14]; exact ev_same _ _ _ (Nat.lt_of_le_of_lt (by decide) qz13)
  rw [← ha14] at h0 ⊢
  clear ha14
  refine wpAnyH_take (i := 14) (oi := sb_14 s) (v := .pointer (some ⟨kb, pb + j * 32, none⟩)) (by kernel_rfl) (by kernel_rfl) (by kernel_rfl) (by kernel_rfl) (fun c a w h => hQ c _ _ _ w h) (Or.inl ⟨wanted_none rfl, fun w hw => run_idxK2 rfl f14_79 f14_80 hj w⟩) hS ?_
  change wpAnyH _ _ _ _ _ _ _ (a0_14.put (some 81) (.pointer (some ⟨kb, pb + j * 32, none⟩))) _
  obtain ⟨a0_15, ha15⟩ : ∃ rr : Act, rr = a0_14.put (some 81) (.pointer (some ⟨kb, pb + j * 32, none⟩)) := ⟨_, rfl⟩
  have qz15 : 83 < a0_15.tmps.size := by rw [ha15, sz_put]; exact qz14
  have f15_74 : a0_15.eval (.tmp 74) = keyV y := by rw [ha15, ev_other _ _ _ _ (by decide)]; exact f14_74
  have f15_81 : a0_15.eval (.tmp 81) = .pointer (some ⟨kb, pb + j * 32, none⟩) := by rw [ha15]; exact ev_same _ _ _ (Nat.lt_of_le_of_lt (by decide) qz14)
  rw [← ha15] at h0 ⊢
  clear ha15
  refine wpAnyH_take (i := 15) (oi := sb_15 s) (v := keyV y) (by kernel_rfl) (by kernel_rfl) (by kernel_rfl) (by kernel_rfl) (fun c a w h => hQ c _ _ _ w h) (Or.inl ⟨wanted_none rfl, fun w hw => run_load rfl f15_81 (loadAt_key hyl hw.2.2.2.2.2.2.2)⟩) hS ?_
  change wpAnyH _ _ _ _ _ _ _ (a0_15.put (some 82) (keyV y)) _
  obtain ⟨a0_16, ha16⟩ : ∃ rr : Act, rr = a0_15.put (some 82) (keyV y) := ⟨_, rfl⟩
  have qz16 : 83 < a0_16.tmps.size := by rw [ha16, sz_put]; exact qz15
  have f16_74 : a0_16.eval (.tmp 74) = keyV y := by rw [ha16, ev_other _ _ _ _ (by decide)]; exact f15_74
  have f16_82 : a0_16.eval (.tmp 82) = keyV y := by rw [ha16]; exact ev_same _ _ _ (Nat.lt_of_le_of_lt (by decide) qz15)
  rw [← ha16] at h0 ⊢
  clear ha16
  refine wpAnyH_take (i := 16) (oi := sb_16 s) (v := .bool false) (by kernel_rfl) (by kernel_rfl) (by kernel_rfl) (by kernel_rfl) (fun c a w h => hQ c _ _ _ w h) (Or.inl ⟨wanted_none rfl, fun w hw => run_neqQ rfl f16_74 f16_82 hyl w⟩) hS ?_
  change wpAnyH _ _ _ _ _ _ _ (a0_16.put (some 83) (.bool false)) _
  obtain ⟨a0_17, ha17⟩ : ∃ rr : Act, rr = a0_16.put (some 83) (.bool false) := ⟨_, rfl⟩
  have qz17 : 83 < a0_17.tmps.size := by rw [ha17, sz_put]; exact qz16
  rw [← ha17] at h0 ⊢
  clear ha17
  refine wpAnyH_done (by kernel_rfl) ?_ _
  exact h0
theorem cell0 {W : World} {g o : Nat} {e : SeV} (h : W.rangeAt g o (seV e)) : W.cell? ⟨g, o, none⟩ = some (.int .i64 (e.num : Int)) ∧ W.cell? ⟨g, o + 1, none⟩ = some (.int .i64 (e.busy : Int)) ∧ W.cell? ⟨g, o + 2, none⟩ = some (.slice e.ka e.xs.length e.kc) := ⟨h 0 _ rfl, h 1 _ rfl, h 2 _ rfl⟩
theorem KRow.at2 {W : World} {ao : Option Addr} {L : List (List UInt8)} (h : KRow W ao L) {j : Nat} (hj : j < L.length) : ∃ g o, ao = some ⟨g, o, none⟩ ∧ W.rangeAt g (o + j * 32) (L[j].map u8c) := h.at' j hj
set_option maxHeartbeats 4000000 in
theorem same_any (w : World) (va vb : Value) (Ea Eb : List SeV) (ha : RdE w va Ea) (hb : RdE w vb Eb) (h : Ea.map projS = Eb.map projS) (hl : ∀ e ∈ Ea, e.xs.length ≤ 4398046511104) (hl2 : Ea.length ≤ 1000) : Calls Try.prog 43 #[va, vb] w fun e w' => e = .returned (.bool true) ∧ Below w.heap.size w w' := by
  have hlen : Eb.length = Ea.length := by have := congrArg List.length h; simpa using this.symm
  have HA := hide ha
  have HB := hide hb
  obtain ⟨aa, ca, rfl, _⟩ := ha
  obtain ⟨ab, cb, rfl, _⟩ := hb
  have HE : Hid (∀ i (h1 : i < Ea.length) (h2 : i < Eb.length), Ea[i].num = Eb[i].num ∧ Ea[i].busy = Eb[i].busy ∧ Ea[i].xs = Eb[i].xs) := hide (fun i h1 h2 => by
    have e1 : (Ea.map projS)[i]'(by simpa using h1) = (Eb.map projS)[i]'(by simpa using h2) := by simp only [h]
    rw [List.getElem_map, List.getElem_map] at e1
    obtain ⟨q1, q2⟩ := Prod.mk.inj e1
    obtain ⟨q2, q3⟩ := Prod.mk.inj q2
    exact ⟨q1, q2, q3⟩)
  have HL := hide hl
  obtain ⟨m, hm⟩ : ∃ m, m = Ea.length := ⟨_, rfl⟩
  rw [hlen, ← hm] at HB ⊢
  rw [← hm] at HA
  have HMA := hide hm
  have HMB : Hid (m = Eb.length) := hide (by rw [hlen]; exact hm)
  have hm1 : m ≤ 1000 := by rw [hm]; exact hl2
  clear hm hlen h hl hl2
  go_enter Try.func43, Try.ntmps43
  go_wp2
  go_loopw [5] (fun t wr => ∃ i : Nat, t = .int .i64 i ∧ i ≤ m ∧ Below w.heap.size w wr) (fun t _ => m - (intOf t).toNat)
  case atStart => exact ⟨0, rfl, by omega, Below.refl _ _⟩
  case round =>
    obtain ⟨i, rfl, hi, hB⟩ := hrel
    by_cases hlt : i < m
    · have hii : (i : Int) < (m : Int) := by omega
      have h1 : i < Ea.length := by rw [← HMA.out]; exact hlt
      have h2 : i < Eb.length := by rw [← HMB.out]; exact hlt
      obtain ⟨e1, e2, e3⟩ := HE.out i h1 h2
      have HX : Hid (∀ W, Below w.heap.size w W → ∃ ga oa gb ob, aa = some ⟨ga, oa, none⟩ ∧ ab = some ⟨gb, ob, none⟩ ∧ W.rangeAt ga (oa + i * 3) (seV Ea[i]) ∧ W.rangeAt gb (ob + i * 3) (seV Eb[i]) ∧ KRow W Ea[i].ka Ea[i].xs ∧ KRow W Eb[i].ka Eb[i].xs) := hide (fun W hW => by
        obtain ⟨a', c', q1, q2⟩ := HA.out.below hW
        obtain ⟨b', d', q3, q4⟩ := HB.out.below hW
        obtain ⟨rfl, _, rfl⟩ := (Value.slice.injEq ..).mp q1
        obtain ⟨rfl, _, rfl⟩ := (Value.slice.injEq ..).mp q3
        obtain ⟨ga, oa, r1, r2, r3⟩ := q2 i h1
        obtain ⟨gb, ob, r4, r5, r6⟩ := q4 i h2
        exact ⟨ga, oa, gb, ob, r1, r4, r2, r5, r3, r6⟩)
      obtain ⟨ea, hea⟩ : ∃ ea, ea = Ea[i] := ⟨_, rfl⟩
      obtain ⟨eb, heb⟩ : ∃ eb, eb = Eb[i] := ⟨_, rfl⟩
      rw [← hea, ← heb] at HX e1 e2 e3
      have hle : ea.xs.length ≤ 4398046511104 := by rw [hea]; exact HL.out _ (List.getElem_mem _)
      obtain ⟨ga, oa, gb, ob, rfl, rfl, -⟩ := HX.out wr hB
      have HX2 : Hid (∀ W, Below w.heap.size w W → W.rangeAt ga (oa + i * 3) (seV ea) ∧ W.rangeAt gb (ob + i * 3) (seV eb) ∧ KRow W ea.ka ea.xs ∧ KRow W eb.ka ea.xs) := hide (fun W hW => by
        obtain ⟨ga', oa', gb', ob', q1, q2, q3, q4, q5, q6⟩ := HX.out W hW
        cases q1
        cases q2
        rw [← e3] at q6
        exact ⟨q3, q4, q5, q6⟩)
      have HC : Hid (∀ W, Below w.heap.size w W → W.cell? ⟨ga, oa + i * 3, none⟩ = some (.int .i64 (ea.num : Int)) ∧ W.cell? ⟨ga, oa + i * 3 + 1, none⟩ = some (.int .i64 (ea.busy : Int)) ∧ W.cell? ⟨ga, oa + i * 3 + 2, none⟩ = some (.slice ea.ka ea.xs.length ea.kc) ∧ W.cell? ⟨gb, ob + i * 3, none⟩ = some (.int .i64 (ea.num : Int)) ∧ W.cell? ⟨gb, ob + i * 3 + 1, none⟩ = some (.int .i64 (ea.busy : Int)) ∧ W.cell? ⟨gb, ob + i * 3 + 2, none⟩ = some (.slice eb.ka ea.xs.length eb.kc)) := hide (fun W hW => by
        obtain ⟨q1, q2, _, _⟩ := HX2.out W hW
        obtain ⟨r1, r2, r3⟩ := cell0 q1
        obtain ⟨r4, r5, r6⟩ := cell0 q2
        rw [← e1] at r4
        rw [← e2] at r5
        rw [← e3] at r6
        exact ⟨r1, r2, r3, r4, r5, r6⟩)
      obtain ⟨n, hn⟩ : ∃ n, n = ea.xs.length := ⟨_, rfl⟩
      rw [← hn] at HC hle
      have HN := hide hn
      have HBw := hide hB
      have HBd := hide (hB.trans ((below_d wr).mono hB.size))
      clear HX hea heb e1 e2 e3 hB hn h1 h2
      go_upto_region 6 with fail
      refine sa_walk _ (fun _ _ _ _ _ h => h) wr ga oa gb ob m ca cb i ea.num ea.busy n ea.kc eb.kc ea.ka eb.ka hlt (HC.out _ HBd.out) _ (Nat.lt_of_sub_pos (by exact Nat.succ_pos _)) rfl rfl rfl ?_
      simp only [Act.put, List.setIfInBounds_toArray, List.set_cons_zero, List.set_cons_succ]
      obtain ⟨wd, hwd⟩ : ∃ wd, wd = wr.drew := ⟨_, rfl⟩
      rw [← hwd] at HBd ⊢
      clear hwd HBw
      go_wp2
      go_loopw [6] (fun t wr => ∃ j : Nat, t = .int .i64 j ∧ j ≤ n ∧ Below w.heap.size w wr) (fun t _ => n - (intOf t).toNat)
      case atStart => exact ⟨0, rfl, by omega, HBd.out⟩
      case round =>
        clear HBd
        obtain ⟨j, rfl, hj, hB⟩ := hrel
        have hcl := (HC.out wr hB).2.2.1
        by_cases hjn : j < n
        · have hji : (j : Int) < (n : Int) := by omega
          have hjx : j < ea.xs.length := by rw [← HN.out]; exact hjn
          obtain ⟨y, hy⟩ : ∃ y, y = ea.xs[j] := ⟨_, rfl⟩
          have hBd := hB.trans ((below_d wr).mono hB.size)
          obtain ⟨_, _, ha3, hb3⟩ := HX2.out _ hBd
          obtain ⟨ka, pa, hka, hra⟩ := ha3.at2 hjx
          obtain ⟨kb, pb, hkb, hrb⟩ := hb3.at2 hjx
          have hyl : y.length = 32 := by rw [hy]; exact ha3.len _ (List.getElem_mem _)
          have hcs := HC.out _ hBd
          rw [hka, hkb] at hcs
          rw [hka] at hcl
          rw [← hy] at hra hrb
          have HS := hide (⟨hcs.1, hcs.2.1, hcs.2.2.1, hcs.2.2.2.1, hcs.2.2.2.2.1, hcs.2.2.2.2.2, hra, hrb⟩ : wr.drew.cell? ⟨ga, oa + i * 3, none⟩ = some (.int .i64 (ea.num : Int)) ∧ wr.drew.cell? ⟨ga, oa + i * 3 + 1, none⟩ = some (.int .i64 (ea.busy : Int)) ∧ wr.drew.cell? ⟨ga, oa + i * 3 + 2, none⟩ = some (.slice (some ⟨ka, pa, none⟩) n ea.kc) ∧ wr.drew.cell? ⟨gb, ob + i * 3, none⟩ = some (.int .i64 (ea.num : Int)) ∧ wr.drew.cell? ⟨gb, ob + i * 3 + 1, none⟩ = some (.int .i64 (ea.busy : Int)) ∧ wr.drew.cell? ⟨gb, ob + i * 3 + 2, none⟩ = some (.slice (some ⟨kb, pb, none⟩) n eb.kc) ∧ wr.drew.rangeAt ka (pa + j * 32) (y.map u8c) ∧ wr.drew.rangeAt kb (pb + j * 32) (y.map u8c))
          have HY := hide hyl
          have HBd := hide hBd
          clear hcs hra hrb ha3 hb3 hyl hy hBd hB
          go_upto_region 11 with fail
          refine sb_walk _ (fun _ _ _ _ _ h => h) wr ga oa gb ob m ca cb i ea.num ea.busy n ka pa ea.kc kb pb eb.kc j y HY.out hlt hjn HS.out _ (Nat.lt_of_sub_pos (by exact Nat.succ_pos _)) rfl rfl rfl rfl ?_
          simp only [Act.put, List.setIfInBounds_toArray, List.set_cons_zero, List.set_cons_succ]
          obtain ⟨we, hwe⟩ : ∃ we, we = wr.drew := ⟨_, rfl⟩
          rw [← hwe] at HBd ⊢
          clear hwe HS hcl
          go_wp2
          exact ⟨⟨j + 1, by go_num, by omega, HBd.out⟩, by simp [intOf]; omega⟩
        · have hji : ¬ (j : Int) < (n : Int) := by omega
          have HBw := hide hB
          clear hB
          go_wp2
          go_roundw
          case rel => exact ⟨i + 1, by go_num, by omega, HBw.out⟩
          case measure => simp [intOf]; omega
    · have hii : ¬ (i : Int) < (m : Int) := by omega
      have HBw := hide hB
      clear hB
      go_wp2
      go_ret
      exact ⟨rfl, HBw.out⟩
end Go.Proofs.Ytagnglkkmdeicaa
