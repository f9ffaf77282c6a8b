/- Has: the look-up, which draws its order. -/
import Derived.Test.YtnloglecfbhpcaaKB1
namespace Go.Proofs.Ytnloglecfbhpcaa
set_option linter.unusedVariables false
set_option linter.unusedSimpArgs false
open Go.RowKit
open Go.Maps (Keyed)

/-- What the look-up leans on. -/
structure HasS (z b zk : Nat) (k : List UInt8) (hv : Bool) (W : World) : Prop where
  c : W.cell? ⟨z, 0, none⟩ = some (.map (some b))
  kk : KeyAt W zk k
  l : (Instr.lookup 53 (.map (some b)) (keyV k) true).run Try.prog W = .ok (.tuple #[.agg #[], .bool hv]) W
theorem undMap : Try.prog.underlying 53 = some (.map 38 71) := by kernel_rfl
theorem loadAt_map {w : World} {z o : Nat} {m : Option Nat} (hc : w.cell? ⟨z, o, none⟩ = some (.map m)) : (Instr.loadAt 53 (.pointer (some ⟨z, o, none⟩))).run Try.prog w = .ok (.map m) w := by
  have := undMap
  simp [Instr.loadAt, Instr.sureAddr, go_sem, hc, this]
theorem run_allocU {op : Oper} {ev : Operand → Value} (ho : op.op = .alloc 71) (w : World) : (execOp ev op).run Try.prog w = .ok (.value (.pointer (some ⟨w.heap.size, 0, none⟩))) (w.alloc (.cells #[] 71)) := by
  simp only [execOp, ho]
  kernel_rfl
theorem run_storeU {op : Oper} {ev : Operand → Value} {x y : Operand} {b : Nat} {w : World} (ho : op.op = .store 71 x y) (hx : ev x = .pointer (some ⟨b, 0, none⟩)) (hy : ev y = .agg #[]) : (execOp ev op).run Try.prog w = .ok .skip w := by
  simp only [execOp, ho, hx, hy]
  kernel_rfl
theorem run_lookK {op : Oper} {ev : Operand → Value} {x y : Operand} {m k v : Value} {w : World} (ho : op.op = .lookup 53 x y true) (hx : ev x = m) (hy : ev y = k) (hl : (Instr.lookup 53 m k true).run Try.prog w = .ok v w) : (execOp ev op).run Try.prog w = .ok (.value v) w := by
  simp only [execOp, ho, hx, hy, Sem.run_bind, hl, Result.andThen_ok, Sem.run_pure]
def hs_0 (s : String) : Oper := { dst := some 10, op := Op.move (Operand.tmp 0), type := 25, pos := s, after := #[], guard := none }
def hs_1 (s : String) : Oper := { dst := some 11, op := Op.nilCheck (Operand.tmp 10), type := 0, pos := s, after := #[{ on := 0, ground := Ground.data }], guard := none }
def hs_2 (s : String) : Oper := { dst := some 12, op := Op.fieldAddr 55 (Operand.tmp 11) 0, type := 0, pos := s, after := #[{ on := 1, ground := Ground.data }], guard := none }
def hs_3 (s : String) : Oper := { dst := some 13, op := Op.load 53 (Operand.tmp 12), type := 53, pos := s, after := #[{ on := 2, ground := Ground.data }], guard := none }
def hs_4 (s : String) : Oper := { dst := some 14, op := Op.load 38 (Operand.tmp 3), type := 38, pos := s, after := #[], guard := none }
def hs_5 (s : String) : Oper := { dst := some 15, op := Op.lookup 53 (Operand.tmp 13) (Operand.tmp 14) true, type := 72, pos := s, after := #[{ on := 3, ground := Ground.data }, { on := 4, ground := Ground.data }], guard := none }
def hs_6 (s : String) : Oper := { dst := some 9, op := Op.move (Operand.tmp 15), type := 72, pos := s, after := #[{ on := 5, ground := Ground.data }], guard := none }
def hs_7 (s : String) : Oper := { dst := some 16, op := Op.extract (Operand.tmp 9) 0, type := 71, pos := s, after := #[{ on := 6, ground := Ground.data }], guard := none }
def hs_8 (s : String) : Oper := { dst := some 17, op := Op.extract (Operand.tmp 9) 1, type := 4, pos := s, after := #[{ on := 6, ground := Ground.data }, { on := 10, ground := Ground.gcOnly Departure.lateStores }], guard := none }
def hs_9 (s : String) : Oper := { dst := some 5, op := Op.alloc 71, type := 0, pos := s, after := #[], guard := none }
def hs_10 (s : String) : Oper := { dst := none, op := Op.store 71 (Operand.tmp 5) (Operand.tmp 16), type := 0, pos := s, after := #[{ on := 9, ground := Ground.data }, { on := 7, ground := Ground.data }, { on := 0, ground := Ground.phase }, { on := 1, ground := Ground.phase }, { on := 2, ground := Ground.phase }, { on := 3, ground := Ground.phase }, { on := 4, ground := Ground.phase }, { on := 5, ground := Ground.phase }, { on := 6, ground := Ground.phase }, { on := 7, ground := Ground.phase }, { on := 8, ground := Ground.textOnly Departure.lateStores }, { on := 9, ground := Ground.phase }], guard := none }
def hs_11 (s : String) : Oper := { dst := some 6, op := Op.assign (Operand.tmp 17), type := 4, pos := s, after := #[{ on := 8, ground := Ground.data }, { on := 10, ground := Ground.chain }, { on := 0, ground := Ground.phase }, { on := 1, ground := Ground.phase }, { on := 2, ground := Ground.phase }, { on := 3, ground := Ground.phase }, { on := 4, ground := Ground.phase }, { on := 5, ground := Ground.phase }, { on := 6, ground := Ground.phase }, { on := 7, ground := Ground.phase }, { on := 8, ground := Ground.phase }, { on := 9, ground := Ground.phase }, { on := 10, ground := Ground.phase }], guard := none }
def hs_ops (s : String) : Array Oper := #[hs_0 s, hs_1 s, hs_2 s, hs_3 s, hs_4 s, hs_5 s, hs_6 s, hs_7 s, hs_8 s, hs_9 s, hs_10 s, hs_11 s]
set_option maxRecDepth 20000 in
theorem hs_walk (s : String) {Q : Exit → Act → World → Prop} (hQ : ∀ c (a : Act) t v w, Q (.panic c) (a.put (some t) v) w → Q (.panic c) a w) (W : World) (z b zk : Nat) (k : List UInt8) (hv : Bool) (g0 : HasS z b zk k hv W.drew) (g1 : HasS z b zk k hv (W.drew.alloc (.cells #[] 71)))
    (a : Act) (hs : 17 < a.tmps.size) (e0 : a.eval (.tmp 0) = .pointer (some ⟨z, 0, none⟩)) (e3 : a.eval (.tmp 3) = .pointer (some ⟨zk, 0, none⟩))
    (h0 :  Q .normal (((((((((((a.put (some 10) (.pointer (some ⟨z, 0, none⟩))).put (some 11) (.pointer (some ⟨z, 0, none⟩))).put (some 12) (.pointer (some ⟨z, 0, none⟩))).put (some 13) (.map (some b))).put (some 14) (keyV k)).put (some 15) (.tuple #[.agg #[], .bool hv])).put (some 9) (.tuple #[.agg #[], .bool hv])).put (some 16) (.agg #[])).put (some 17) (.bool hv)).put (some 5) (.pointer (some ⟨W.heap.size, 0, none⟩))).put (some 6) (.bool hv)) (W.drew.alloc (.cells #[] 71))) :
    Code.wp Try.prog (.region 3 (hs_ops s) true) Q a W := by
  refine wp_region_held_drew (S := HasS z b zk k hv) (by kernel_rfl) g0 (fun hS => ?_)
  change wpAnyH _ _ _ _ _ _ _ _ (World.drew _)
  refine wpAnyH_take (i := 0) (oi := hs_0 s) (v := .pointer (some ⟨z, 0, none⟩)) (by kernel_rfl) (by kernel_rfl) (by kernel_rfl) (by kernel_rfl) (fun c a w h => hQ c _ _ _ w h) (Or.inl ⟨wanted_none rfl, fun w hw => by simp only [execOp, hs_0, e0]; rfl⟩) hS ?_
  change wpAnyH _ _ _ _ _ _ _ (a.put (some 10) (.pointer (some ⟨z, 0, none⟩))) _
  obtain ⟨a0_1, ha1⟩ : ∃ rr : Act, rr = a.put (some 10) (.pointer (some ⟨z, 0, none⟩)) := ⟨_, rfl⟩
  have qz1 : 17 < a0_1.tmps.size := by rw [ha1, sz_put]; exact hs
  have f1_3 : a0_1.eval (.tmp 3) = .pointer (some ⟨zk, 0, none⟩) := by rw [ha1, ev_other _ _ _ _ (by decide)]; exact e3
  have f1_10 : a0_1.eval (.tmp 10) = .pointer (some ⟨z, 0, none⟩) := by rw [ha1]; exact ev_same _ _ _ (Nat.lt_of_le_of_lt (by decide) hs)
  rw [← ha1] at h0 ⊢
  clear ha1
  refine wpAnyH_take (i := 1) (oi := hs_1 s) (v := .pointer (some ⟨z, 0, none⟩)) (by kernel_rfl) (by kernel_rfl) (by kernel_rfl) (by kernel_rfl) (fun c a w h => hQ c _ _ _ w h) (Or.inl ⟨wanted_none rfl, fun w hw => by simp only [execOp, hs_1, f1_10]; rfl⟩) hS ?_
  change wpAnyH _ _ _ _ _ _ _ (a0_1.put (some 11) (.pointer (some ⟨z, 0, none⟩))) _
  obtain ⟨a0_2, ha2⟩ : ∃ rr : Act, rr = a0_1.put (some 11) (.pointer (some ⟨z, 0, none⟩)) := ⟨_, rfl⟩
  have qz2 : 17 < a0_2.tmps.size := by rw [ha2, sz_put]; exact qz1
  have f2_3 : a0_2.eval (.tmp 3) = .pointer (some ⟨zk, 0, none⟩) := by rw [ha2, ev_other _ _ _ _ (by decide)]; exact f1_3
  have f2_11 : a0_2.eval (.tmp 11) = .pointer (some ⟨z, 0, none⟩) := by rw [ha2]; exact ev_same _ _ _ (Nat.lt_of_le_of_lt (by decide) qz1)
  rw [← ha2] at h0 ⊢
  clear ha2
  refine wpAnyH_take (i := 2) (oi := hs_2 s) (v := .pointer (some ⟨z, 0, none⟩)) (by kernel_rfl) (by kernel_rfl) (by kernel_rfl) (by kernel_rfl) (fun c a w h => hQ c _ _ _ w h) (Or.inl ⟨wanted_none rfl, fun w hw => by simp only [execOp, hs_2, f2_11]; rfl⟩) hS ?_
  change wpAnyH _ _ _ _ _ _ _ (a0_2.put (some 12) (.pointer (some ⟨z, 0, none⟩))) _
  obtain ⟨a0_3, ha3⟩ : ∃ rr : Act, rr = a0_2.put (some 12) (.pointer (some ⟨z, 0, none⟩)) := ⟨_, rfl⟩
  have qz3 : 17 < a0_3.tmps.size := by rw [ha3, sz_put]; exact qz2
  have f3_3 : a0_3.eval (.tmp 3) = .pointer (some ⟨zk, 0, none⟩) := by rw [ha3, ev_other _ _ _ _ (by decide)]; exact f2_3
  have f3_12 : a0_3.eval (.tmp 12) = .pointer (some ⟨z, 0, none⟩) := by rw [ha3]; exact ev_same _ _ _ (Nat.lt_of_le_of_lt (by decide) qz2)
  rw [← ha3] at h0 ⊢
  clear ha3
  refine wpAnyH_take (i := 3) (oi := hs_3 s) (v := .map (some b)) (by kernel_rfl) (by kernel_rfl) (by kernel_rfl) (by kernel_rfl) (fun c a w h => hQ c _ _ _ w h) (Or.inl ⟨wanted_none rfl, fun w hw => run_load rfl f3_12 (loadAt_map hw.c)⟩) hS ?_
  change wpAnyH _ _ _ _ _ _ _ (a0_3.put (some 13) (.map (some b))) _
  obtain ⟨a0_4, ha4⟩ : ∃ rr : Act, rr = a0_3.put (some 13) (.map (some b)) := ⟨_, rfl⟩
  have qz4 : 17 < a0_4.tmps.size := by rw [ha4, sz_put]; exact qz3
  have f4_3 : a0_4.eval (.tmp 3) = .pointer (some ⟨zk, 0, none⟩) := by rw [ha4, ev_other _ _ _ _ (by decide)]; exact f3_3
  have f4_13 : a0_4.eval (.tmp 13) = .map (some b) := by rw [ha4]; exact ev_same _ _ _ (Nat.lt_of_le_of_lt (by decide) qz3)
  rw [← ha4] at h0 ⊢
  clear ha4
  refine wpAnyH_take (i := 4) (oi := hs_4 s) (v := keyV k) (by kernel_rfl) (by kernel_rfl) (by kernel_rfl) (by kernel_rfl) (fun c a w h => hQ c _ _ _ w h) (Or.inl ⟨wanted_none rfl, fun w hw => run_load rfl f4_3 hw.kk.load⟩) hS ?_
  change wpAnyH _ _ _ _ _ _ _ (a0_4.put (some 14) (keyV k)) _
  obtain ⟨a0_5, ha5⟩ : ∃ rr : Act, rr = a0_4.put (some 14) (keyV k) := ⟨_, rfl⟩
  have qz5 : 17 < a0_5.tmps.size := by rw [ha5, sz_put]; exact qz4
  have f5_13 : a0_5.eval (.tmp 13) = .map (some b) := by rw [ha5, ev_other _ _ _ _ (by decide)]; exact f4_13
  have f5_14 : a0_5.eval (.tmp 14) = keyV k := by rw [ha5]; exact ev_same _ _ _ (Nat.lt_of_le_of_lt (by decide) qz4)
  rw [← ha5] at h0 ⊢
  clear ha5
  refine wpAnyH_take (i := 5) (oi := hs_5 s) (v := .tuple #[.agg #[], .bool hv]) (by kernel_rfl) (by kernel_rfl) (by kernel_rfl) (by kernel_rfl) (fun c a w h => hQ c _ _ _ w h) (Or.inl ⟨wanted_none rfl, fun w hw => run_lookK rfl f5_13 f5_14 hw.l⟩) hS ?_
  change wpAnyH _ _ _ _ _ _ _ (a0_5.put (some 15) (.tuple #[.agg #[], .bool hv])) _
  obtain ⟨a0_6, ha6⟩ : ∃ rr : Act, rr = a0_5.put (some 15) (.tuple #[.agg #[], .bool hv]) := ⟨_, rfl⟩
  have qz6 : 17 < a0_6.tmps.size := by rw [ha6, sz_put]; exact qz5
  have f6_15 : a0_6.eval (.tmp 15) = .tuple #[.agg #[], .bool hv] := by rw [ha6]; exact ev_same _ _ _ (Nat.lt_of_le_of_lt (by decide) qz5)
  rw [← ha6] at h0 ⊢
  clear ha6
  refine wpAnyH_take (i := 6) (oi := hs_6 s) (v := .tuple #[.agg #[], .bool hv]) (by kernel_rfl) (by kernel_rfl) (by kernel_rfl) (by kernel_rfl) (fun c a w h => hQ c _ _ _ w h) (Or.inl ⟨wanted_none rfl, fun w hw => by simp only [execOp, hs_6, f6_15]; rfl⟩) hS ?_
  change wpAnyH _ _ _ _ _ _ _ (a0_6.put (some 9) (.tuple #[.agg #[], .bool hv])) _
  obtain ⟨a0_7, ha7⟩ : ∃ rr : Act, rr = a0_6.put (some 9) (.tuple #[.agg #[], .bool hv]) := ⟨_, rfl⟩
  have qz7 : 17 < a0_7.tmps.size := by rw [ha7, sz_put]; exact qz6
  have f7_9 : a0_7.eval (.tmp 9) = .tuple #[.agg #[], .bool hv] := by rw [ha7]; exact ev_same _ _ _ (Nat.lt_of_le_of_lt (by decide) qz6)
  rw [← ha7] at h0 ⊢
  clear ha7
  refine wpAnyH_take (i := 7) (oi := hs_7 s) (v := .agg #[]) (by kernel_rfl) (by kernel_rfl) (by kernel_rfl) (by kernel_rfl) (fun c a w h => hQ c _ _ _ w h) (Or.inl ⟨wanted_none rfl, fun w hw => by simp only [execOp, hs_7, f7_9]; rfl⟩) hS ?_
  change wpAnyH _ _ _ _ _ _ _ (a0_7.put (some 16) (.agg #[])) _
  obtain ⟨a0_8, ha8⟩ : ∃ rr : Act, rr = a0_7.put (some 16) (.agg #[]) := ⟨_, rfl⟩
  have qz8 : 17 < a0_8.tmps.size := by rw [ha8, sz_put]; exact qz7
  have f8_9 : a0_8.eval (.tmp 9) = .tuple #[.agg #[], .bool hv] := by rw [ha8, ev_other _ _ _ _ (by decide)]; exact f7_9
  have f8_16 : a0_8.eval (.tmp 16) = .agg #[] := by rw [ha8]; exact ev_same _ _ _ (Nat.lt_of_le_of_lt (by decide) qz7)
  rw [← ha8] at h0 ⊢
  clear ha8
  refine wpAnyH_take (i := 8) (oi := hs_8 s) (v := .bool hv) (by kernel_rfl) (by kernel_rfl) (by kernel_rfl) (by kernel_rfl) (fun c a w h => hQ c _ _ _ w h) (Or.inl ⟨wanted_none rfl, fun w hw => by simp only [execOp, hs_8, f8_9]; rfl⟩) hS ?_
  change wpAnyH _ _ _ _ _ _ _ (a0_8.put (some 17) (.bool hv)) _
  obtain ⟨a0_9, ha9⟩ : ∃ rr : Act, rr = a0_8.put (some 17) (.bool hv) := ⟨_, rfl⟩
  have qz9 : 17 < a0_9.tmps.size := by rw [ha9, sz_put]; exact qz8
  have f9_16 : a0_9.eval (.tmp 16) = .agg #[] := by rw [ha9, ev_other _ _ _ _ (by decide)]; exact f8_16
  have f9_17 : a0_9.eval (.tmp 17) = .bool hv := by rw [ha9]; exact ev_same _ _ _ (Nat.lt_of_le_of_lt (by decide) qz8)
  rw [← ha9] at h0 ⊢
  clear ha9
  refine wpAnyH_ready (rs := [9]) (by kernel_rfl) (by simp) ?_
  refine AllReadyH.cons (o := hs_9 s) (by kernel_rfl) (fun KQ hKQ => ?_) AllReadyH.nil
  rw [if_pos (wanted_none rfl)]
  refine step_runE (.pointer (some ⟨W.heap.size, 0, none⟩)) (W.drew.alloc (.cells #[] 71)) (run_allocU rfl W.drew) ?_
  refine hKQ.out _ _ (g1) (fun _ => ?_)
  clear hKQ KQ
  change wpAnyH _ _ _ _ _ _ _ (a0_9.put (some 5) (.pointer (some ⟨W.heap.size, 0, none⟩))) _
  obtain ⟨a0_10, ha10⟩ : ∃ rr : Act, rr = a0_9.put (some 5) (.pointer (some ⟨W.heap.size, 0, none⟩)) := ⟨_, rfl⟩
  have qz10 : 17 < a0_10.tmps.size := by rw [ha10, sz_put]; exact qz9
  have f10_5 : a0_10.eval (.tmp 5) = .pointer (some ⟨W.heap.size, 0, none⟩) := by rw [ha10]; exact ev_same _ _ _ (Nat.lt_of_le_of_lt (by decide) qz9)
  have f10_16 : a0_10.eval (.tmp 16) = .agg #[] := by rw [ha10, ev_other _ _ _ _ (by decide)]; exact f9_16
  have f10_17 : a0_10.eval (.tmp 17) = .bool hv := by rw [ha10, ev_other _ _ _ _ (by decide)]; exact f9_17
  rw [← ha10] at h0 ⊢
  clear ha10
  refine wpAnyH_ready (rs := [10]) (by kernel_rfl) (by simp) ?_
  refine AllReadyH.cons (o := hs_10 s) (by kernel_rfl) (fun KQ hKQ => ?_) AllReadyH.nil
  rw [if_pos (wanted_none rfl)]
  refine step_skipE (W.drew.alloc (.cells #[] 71)) (run_storeU rfl f10_5 f10_16) ?_
  refine hKQ.out _ _ (g1) (fun _ => ?_)
  clear hKQ KQ
  change wpAnyH _ _ _ _ _ _ _ a0_10 _
  refine wpAnyH_take (i := 11) (oi := hs_11 s) (v := .bool hv) (by kernel_rfl) (by kernel_rfl) (by kernel_rfl) (by kernel_rfl) (fun c a w h => hQ c _ _ _ w h) (Or.inl ⟨wanted_none rfl, fun w hw => by simp only [execOp, hs_11, f10_17]; rfl⟩) g1 ?_
  change wpAnyH _ _ _ _ _ _ _ (a0_10.put (some 6) (.bool hv)) _
  obtain ⟨a0_12, ha12⟩ : ∃ rr : Act, rr = a0_10.put (some 6) (.bool hv) := ⟨_, rfl⟩
  have qz12 : 17 < a0_12.tmps.size := by rw [ha12, sz_put]; exact qz10
  rw [← ha12] at h0 ⊢
  clear ha12
  refine wpAnyH_done (by kernel_rfl) ?_ _
  exact h0
end Go.Proofs.Ytnloglecfbhpcaa
