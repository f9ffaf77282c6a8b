/- ObjectSame, walked. -/
import Derived.Test.YtjcfndiceinkjaaOB10
namespace Go.Proofs.Ytjcfndiceinkjaa
set_option linter.unusedVariables false
set_option linter.unusedSimpArgs false
open Go.RowKit

theorem run_eqlB {op : Oper} {ev : Operand → Value} {x y : Operand} {u : TypeId} {r : Bool} (ho : op.op = .binOp .eql 4 x y u) (hx : ev x = .bool r) (hy : ev y = .bool r) (w : World) : (execOp ev op).run Try.prog w = .ok (.value (.bool true)) w := by
  have := Try.underlying4
  simp [execOp, ho, hx, hy, go_sem, this]
def os_0 (s : String) : Oper := { dst := some 5, op := Op.load 30 (Operand.tmp 2), type := 30, pos := s, after := #[], guard := none }
def os_1 (s : String) : Oper := { dst := some 6, op := Op.call { callee := Callee.value (Operand.func 5), args := #[Operand.tmp 5], argTypes := #[30] }, type := 30, pos := s, after := #[{ on := 0, ground := Ground.data }], guard := none }
def os_2 (s : String) : Oper := { dst := some 7, op := Op.load 30 (Operand.tmp 3), type := 30, pos := s, after := #[], guard := none }
def os_3 (s : String) : Oper := { dst := some 8, op := Op.call { callee := Callee.value (Operand.func 5), args := #[Operand.tmp 7], argTypes := #[30] }, type := 30, pos := s, after := #[{ on := 2, ground := Ground.data }, { on := 1, ground := Ground.chain }], guard := none }
def os_4 (s : String) : Oper := { dst := some 9, op := Op.call { callee := Callee.value (Operand.func 11), args := #[Operand.tmp 6, Operand.tmp 8], argTypes := #[30, 30] }, type := 4, pos := s, after := #[{ on := 1, ground := Ground.data }, { on := 3, ground := Ground.data }, { on := 3, ground := Ground.chain }], guard := none }
def os_5 (s : String) : Oper := { dst := some 10, op := Op.load 30 (Operand.tmp 2), type := 30, pos := s, after := #[], guard := none }
def os_6 (s : String) : Oper := { dst := some 11, op := Op.load 30 (Operand.tmp 3), type := 30, pos := s, after := #[], guard := none }
def os_7 (s : String) : Oper := { dst := some 12, op := Op.call { callee := Callee.value (Operand.func 9), args := #[Operand.tmp 10, Operand.tmp 11], argTypes := #[30, 30] }, type := 4, pos := s, after := #[{ on := 5, ground := Ground.data }, { on := 6, ground := Ground.data }, { on := 4, ground := Ground.chain }], guard := none }
def os_8 (s : String) : Oper := { dst := some 13, op := Op.binOp BinOp.eql 4 (Operand.tmp 9) (Operand.tmp 12) 4, type := 4, pos := s, after := #[{ on := 4, ground := Ground.data }, { on := 7, ground := Ground.data }], guard := none }
def os_9 (s : String) : Oper := { dst := some 14, op := Op.move (Operand.tmp 13), type := 4, pos := s, after := #[{ on := 8, ground := Ground.data }, { on := 7, ground := Ground.chain }], guard := none }
def os_10 (s : String) : Oper := { dst := some 15, op := Op.load 30 (Operand.tmp 2), type := 30, pos := s, after := #[{ on := 9, ground := Ground.guard }], guard := some (9, true) }
def os_11 (s : String) : Oper := { dst := some 16, op := Op.load 30 (Operand.tmp 2), type := 30, pos := s, after := #[{ on := 9, ground := Ground.guard }], guard := some (9, true) }
def os_12 (s : String) : Oper := { dst := some 17, op := Op.call { callee := Callee.value (Operand.func 5), args := #[Operand.tmp 16], argTypes := #[30] }, type := 30, pos := s, after := #[{ on := 11, ground := Ground.data }, { on := 9, ground := Ground.chain }, { on := 9, ground := Ground.guard }], guard := some (9, true) }
def os_13 (s : String) : Oper := { dst := some 18, op := Op.call { callee := Callee.value (Operand.func 11), args := #[Operand.tmp 15, Operand.tmp 17], argTypes := #[30, 30] }, type := 4, pos := s, after := #[{ on := 10, ground := Ground.data }, { on := 12, ground := Ground.data }, { on := 12, ground := Ground.chain }, { on := 9, ground := Ground.guard }], guard := some (9, true) }
def os_14 (s : String) : Oper := { dst := some 19, op := Op.pick (Operand.tmp 14) (Operand.tmp 18) (Operand.const (Value.bool false)), type := 4, pos := s, after := #[{ on := 9, ground := Ground.data }, { on := 13, ground := Ground.data }], guard := none }
def os_15 (s : String) : Oper := { dst := some 20, op := Op.move (Operand.tmp 19), type := 4, pos := s, after := #[{ on := 14, ground := Ground.data }, { on := 13, ground := Ground.chain }], guard := none }
def os_16 (s : String) : Oper := { dst := some 21, op := Op.load 30 (Operand.tmp 3), type := 30, pos := s, after := #[{ on := 15, ground := Ground.guard }], guard := some (15, true) }
def os_17 (s : String) : Oper := { dst := some 22, op := Op.load 30 (Operand.tmp 3), type := 30, pos := s, after := #[{ on := 15, ground := Ground.guard }], guard := some (15, true) }
def os_18 (s : String) : Oper := { dst := some 23, op := Op.call { callee := Callee.value (Operand.func 5), args := #[Operand.tmp 22], argTypes := #[30] }, type := 30, pos := s, after := #[{ on := 17, ground := Ground.data }, { on := 15, ground := Ground.chain }, { on := 15, ground := Ground.guard }], guard := some (15, true) }
def os_19 (s : String) : Oper := { dst := some 24, op := Op.call { callee := Callee.value (Operand.func 11), args := #[Operand.tmp 21, Operand.tmp 23], argTypes := #[30, 30] }, type := 4, pos := s, after := #[{ on := 16, ground := Ground.data }, { on := 18, ground := Ground.data }, { on := 18, ground := Ground.chain }, { on := 15, ground := Ground.guard }], guard := some (15, true) }
def os_20 (s : String) : Oper := { dst := some 25, op := Op.pick (Operand.tmp 20) (Operand.tmp 24) (Operand.const (Value.bool false)), type := 4, pos := s, after := #[{ on := 15, ground := Ground.data }, { on := 19, ground := Ground.data }], guard := none }
def os_21 (s : String) : Oper := { dst := some 4, op := Op.assign (Operand.tmp 25), type := 4, pos := s, after := #[{ on := 20, ground := Ground.data }, { on := 19, ground := Ground.chain }, { on := 0, ground := Ground.phase }, { on := 1, ground := Ground.phase }, { on := 2, ground := Ground.phase }, { on := 3, ground := Ground.phase }, { on := 4, ground := Ground.phase }, { on := 5, ground := Ground.phase }, { on := 6, ground := Ground.phase }, { on := 7, ground := Ground.phase }, { on := 8, ground := Ground.phase }, { on := 9, ground := Ground.phase }, { on := 10, ground := Ground.phase }, { on := 11, ground := Ground.phase }, { on := 12, ground := Ground.phase }, { on := 13, ground := Ground.phase }, { on := 14, ground := Ground.phase }, { on := 15, ground := Ground.phase }, { on := 16, ground := Ground.phase }, { on := 17, ground := Ground.phase }, { on := 18, ground := Ground.phase }, { on := 19, ground := Ground.phase }, { on := 20, ground := Ground.phase }], guard := none }
def os_ops (s : String) : Array Oper := #[os_0 s, os_1 s, os_2 s, os_3 s, os_4 s, os_5 s, os_6 s, os_7 s, os_8 s, os_9 s, os_10 s, os_11 s, os_12 s, os_13 s, os_14 s, os_15 s, os_16 s, os_17 s, os_18 s, os_19 s, os_20 s, os_21 s]
theorem os_enter1 (s : String) (a : Act) (w : World) : (execOp a.eval (os_1 s)).run Try.prog w = .ok (.enter 5 #[a.eval (.tmp 5)]) w := by kernel_rfl
theorem os_enter3 (s : String) (a : Act) (w : World) : (execOp a.eval (os_3 s)).run Try.prog w = .ok (.enter 5 #[a.eval (.tmp 7)]) w := by kernel_rfl
theorem os_enter4 (s : String) (a : Act) (w : World) : (execOp a.eval (os_4 s)).run Try.prog w = .ok (.enter 11 #[a.eval (.tmp 6), a.eval (.tmp 8)]) w := by kernel_rfl
theorem os_enter7 (s : String) (a : Act) (w : World) : (execOp a.eval (os_7 s)).run Try.prog w = .ok (.enter 9 #[a.eval (.tmp 10), a.eval (.tmp 11)]) w := by kernel_rfl
theorem os_enter12 (s : String) (a : Act) (w : World) : (execOp a.eval (os_12 s)).run Try.prog w = .ok (.enter 5 #[a.eval (.tmp 16)]) w := by kernel_rfl
theorem os_enter13 (s : String) (a : Act) (w : World) : (execOp a.eval (os_13 s)).run Try.prog w = .ok (.enter 11 #[a.eval (.tmp 15), a.eval (.tmp 17)]) w := by kernel_rfl
theorem os_enter18 (s : String) (a : Act) (w : World) : (execOp a.eval (os_18 s)).run Try.prog w = .ok (.enter 5 #[a.eval (.tmp 22)]) w := by kernel_rfl
theorem os_enter19 (s : String) (a : Act) (w : World) : (execOp a.eval (os_19 s)).run Try.prog w = .ok (.enter 11 #[a.eval (.tmp 21), a.eval (.tmp 23)]) w := by kernel_rfl
set_option maxRecDepth 20000 in
set_option maxHeartbeats 2000000 in
theorem os_walk (s : String) {Q : Exit → Act → World → Prop} (hQ : ∀ c (a : Act) t v w, Q (.panic c) (a.put (some t) v) w → Q (.panic c) a w) (W : World) (z1 z2 : Nat) (x y : ObjR) (vx vy : ObjV) (hT : Two W z1 z2 x y vx vy) (sx : ObjSz x) (sy : ObjSz y)
    (a : Act) (hs : 25 < a.tmps.size) (e2 : a.eval (.tmp 2) = .pointer (some ⟨z1, 0, none⟩)) (e3 : a.eval (.tmp 3) = .pointer (some ⟨z2, 0, none⟩))
    (h0 : ∀ v1 v2 v3 v4 : Value, ∀ w9 : World, Below W.heap.size W w9 → Q .normal ((((((((((((((((((((((a.put (some 5) (.agg (objL x vx).toArray)).put (some 7) (.agg (objL y vy).toArray)).put (some 10) (.agg (objL x vx).toArray)).put (some 11) (.agg (objL y vy).toArray)).put (some 6) (v1)).put (some 8) (v2)).put (some 9) (.bool (sameO x y))).put (some 12) (.bool (sameO x y))).put (some 13) (.bool true)).put (some 14) (.bool true)).put (some 15) (.agg (objL x vx).toArray)).put (some 16) (.agg (objL x vx).toArray)).put (some 17) (v3)).put (some 18) (.bool true)).put (some 19) (.bool true)).put (some 20) (.bool true)).put (some 21) (.agg (objL y vy).toArray)).put (some 22) (.agg (objL y vy).toArray)).put (some 23) (v4)).put (some 24) (.bool true)).put (some 25) (.bool true)).put (some 4) (.bool true)) w9) :
    Code.wp Try.prog (.region 1 (os_ops s) true) Q a W := by
  refine wp_region_held_drew (S := fun W' => Two W' z1 z2 x y vx vy) (by kernel_rfl) (hT.below (below_d W)) (fun hS => ?_)
  change wpAnyH _ _ _ _ _ _ _ _ (World.drew _)
  refine wpAnyH_take (i := 0) (oi := os_0 s) (v := .agg (objL x vx).toArray) (by kernel_rfl) (by kernel_rfl) (by kernel_rfl) (by kernel_rfl) (fun c a w h => hQ c _ _ _ w h) (Or.inl ⟨wanted_none rfl, fun w hw => run_load rfl e2 (loadAt_obj hw.A (objL_size x vx hw.RA.ok.t))⟩) hS ?_
  change wpAnyH _ _ _ _ _ _ _ (a.put (some 5) (.agg (objL x vx).toArray)) _
  obtain ⟨a0_1, ha1⟩ : ∃ rr : Act, rr = a.put (some 5) (.agg (objL x vx).toArray) := ⟨_, rfl⟩
  have qz1 : 25 < a0_1.tmps.size := by rw [ha1, sz_put]; exact hs
  have f1_2 : a0_1.eval (.tmp 2) = .pointer (some ⟨z1, 0, none⟩) := by rw [ha1, ev_other _ _ _ _ (by decide)]; exact e2
  have f1_3 : a0_1.eval (.tmp 3) = .pointer (some ⟨z2, 0, none⟩) := by rw [ha1, ev_other _ _ _ _ (by decide)]; exact e3
  have f1_5 : a0_1.eval (.tmp 5) = .agg (objL x vx).toArray := by rw [ha1]; exact ev_same _ _ _ (Nat.lt_of_le_of_lt (by decide) hs)
  rw [← ha1] at h0 ⊢
  clear ha1
  refine wpAnyH_take (i := 2) (oi := os_2 s) (v := .agg (objL y vy).toArray) (by kernel_rfl) (by kernel_rfl) (by kernel_rfl) (by kernel_rfl) (fun c a w h => hQ c _ _ _ w h) (Or.inl ⟨wanted_none rfl, fun w hw => run_load rfl f1_3 (loadAt_obj hw.B (objL_size y vy hw.RB.ok.t))⟩) hS ?_
  change wpAnyH _ _ _ _ _ _ _ (a0_1.put (some 7) (.agg (objL y vy).toArray)) _
  obtain ⟨a0_2, ha2⟩ : ∃ rr : Act, rr = a0_1.put (some 7) (.agg (objL y vy).toArray) := ⟨_, rfl⟩
  have qz2 : 25 < a0_2.tmps.size := by rw [ha2, sz_put]; exact qz1
  have f2_2 : a0_2.eval (.tmp 2) = .pointer (some ⟨z1, 0, none⟩) := by rw [ha2, ev_other _ _ _ _ (by decide)]; exact f1_2
  have f2_3 : a0_2.eval (.tmp 3) = .pointer (some ⟨z2, 0, none⟩) := by rw [ha2, ev_other _ _ _ _ (by decide)]; exact f1_3
  have f2_5 : a0_2.eval (.tmp 5) = .agg (objL x vx).toArray := by rw [ha2, ev_other _ _ _ _ (by decide)]; exact f1_5
  have f2_7 : a0_2.eval (.tmp 7) = .agg (objL y vy).toArray := by rw [ha2]; exact ev_same _ _ _ (Nat.lt_of_le_of_lt (by decide) qz1)
  rw [← ha2] at h0 ⊢
  clear ha2
  refine wpAnyH_take (i := 5) (oi := os_5 s) (v := .agg (objL x vx).toArray) (by kernel_rfl) (by kernel_rfl) (by kernel_rfl) (by kernel_rfl) (fun c a w h => hQ c _ _ _ w h) (Or.inl ⟨wanted_none rfl, fun w hw => run_load rfl f2_2 (loadAt_obj hw.A (objL_size x vx hw.RA.ok.t))⟩) hS ?_
  change wpAnyH _ _ _ _ _ _ _ (a0_2.put (some 10) (.agg (objL x vx).toArray)) _
  obtain ⟨a0_3, ha3⟩ : ∃ rr : Act, rr = a0_2.put (some 10) (.agg (objL x vx).toArray) := ⟨_, rfl⟩
  have qz3 : 25 < a0_3.tmps.size := by rw [ha3, sz_put]; exact qz2
  have f3_2 : a0_3.eval (.tmp 2) = .pointer (some ⟨z1, 0, none⟩) := by rw [ha3, ev_other _ _ _ _ (by decide)]; exact f2_2
  have f3_3 : a0_3.eval (.tmp 3) = .pointer (some ⟨z2, 0, none⟩) := by rw [ha3, ev_other _ _ _ _ (by decide)]; exact f2_3
  have f3_5 : a0_3.eval (.tmp 5) = .agg (objL x vx).toArray := by rw [ha3, ev_other _ _ _ _ (by decide)]; exact f2_5
  have f3_7 : a0_3.eval (.tmp 7) = .agg (objL y vy).toArray := by rw [ha3, ev_other _ _ _ _ (by decide)]; exact f2_7
  have f3_10 : a0_3.eval (.tmp 10) = .agg (objL x vx).toArray := by rw [ha3]; exact ev_same _ _ _ (Nat.lt_of_le_of_lt (by decide) qz2)
  rw [← ha3] at h0 ⊢
  clear ha3
  refine wpAnyH_take (i := 6) (oi := os_6 s) (v := .agg (objL y vy).toArray) (by kernel_rfl) (by kernel_rfl) (by kernel_rfl) (by kernel_rfl) (fun c a w h => hQ c _ _ _ w h) (Or.inl ⟨wanted_none rfl, fun w hw => run_load rfl f3_3 (loadAt_obj hw.B (objL_size y vy hw.RB.ok.t))⟩) hS ?_
  change wpAnyH _ _ _ _ _ _ _ (a0_3.put (some 11) (.agg (objL y vy).toArray)) _
  obtain ⟨a0_4, ha4⟩ : ∃ rr : Act, rr = a0_3.put (some 11) (.agg (objL y vy).toArray) := ⟨_, rfl⟩
  have qz4 : 25 < a0_4.tmps.size := by rw [ha4, sz_put]; exact qz3
  have f4_2 : a0_4.eval (.tmp 2) = .pointer (some ⟨z1, 0, none⟩) := by rw [ha4, ev_other _ _ _ _ (by decide)]; exact f3_2
  have f4_3 : a0_4.eval (.tmp 3) = .pointer (some ⟨z2, 0, none⟩) := by rw [ha4, ev_other _ _ _ _ (by decide)]; exact f3_3
  have f4_5 : a0_4.eval (.tmp 5) = .agg (objL x vx).toArray := by rw [ha4, ev_other _ _ _ _ (by decide)]; exact f3_5
  have f4_7 : a0_4.eval (.tmp 7) = .agg (objL y vy).toArray := by rw [ha4, ev_other _ _ _ _ (by decide)]; exact f3_7
  have f4_10 : a0_4.eval (.tmp 10) = .agg (objL x vx).toArray := by rw [ha4, ev_other _ _ _ _ (by decide)]; exact f3_10
  have f4_11 : a0_4.eval (.tmp 11) = .agg (objL y vy).toArray := by rw [ha4]; exact ev_same _ _ _ (Nat.lt_of_le_of_lt (by decide) qz3)
  rw [← ha4] at h0 ⊢
  clear ha4
  refine wpAnyH_ready (rs := [1]) (by kernel_rfl) (by simp) ?_
  refine AllReadyH.cons (o := os_1 s) (by kernel_rfl) (fun KQ hKQ => ?_) AllReadyH.nil
  rw [if_pos (wanted_none rfl)]
  refine step_enterE 5 #[.agg (objL x vx).toArray] (by rw [os_enter1, f4_5]) (fun V w' => ∃ v' : ObjV, V = .agg (objL x v').toArray ∧ Fresh (W.drew).heap.size w' x v' ∧ Below (W.drew).heap.size (W.drew) w') ((copied_any (W.drew) x vx hS.RA sx).mono (fun e w' h => by obtain ⟨v', h1, h2, h3⟩ := h; exact ⟨_, h1, v', rfl, h2, h3⟩)) ?_
  rintro v1 w1 ⟨u1, ev1, hF1, hb1⟩
  have hT1 := hS.below hb1
  have hW1 := (below_d W).trans hb1
  refine hKQ.out _ _ (hT1) (fun _ => ?_)
  clear hKQ KQ
  change wpAnyH _ _ _ _ _ _ _ (a0_4.put (some 6) (v1)) _
  have h0 := h0 v1
  obtain ⟨a0_5, ha5⟩ : ∃ rr : Act, rr = a0_4.put (some 6) (v1) := ⟨_, rfl⟩
  have qz5 : 25 < a0_5.tmps.size := by rw [ha5, sz_put]; exact qz4
  have f5_2 : a0_5.eval (.tmp 2) = .pointer (some ⟨z1, 0, none⟩) := by rw [ha5, ev_other _ _ _ _ (by decide)]; exact f4_2
  have f5_3 : a0_5.eval (.tmp 3) = .pointer (some ⟨z2, 0, none⟩) := by rw [ha5, ev_other _ _ _ _ (by decide)]; exact f4_3
  have f5_6 : a0_5.eval (.tmp 6) = v1 := by rw [ha5]; exact ev_same _ _ _ (Nat.lt_of_le_of_lt (by decide) qz4)
  have f5_7 : a0_5.eval (.tmp 7) = .agg (objL y vy).toArray := by rw [ha5, ev_other _ _ _ _ (by decide)]; exact f4_7
  have f5_10 : a0_5.eval (.tmp 10) = .agg (objL x vx).toArray := by rw [ha5, ev_other _ _ _ _ (by decide)]; exact f4_10
  have f5_11 : a0_5.eval (.tmp 11) = .agg (objL y vy).toArray := by rw [ha5, ev_other _ _ _ _ (by decide)]; exact f4_11
  rw [← ha5] at h0 ⊢
  clear ha5
  refine wpAnyH_ready (rs := [3]) (by kernel_rfl) (by simp) ?_
  refine AllReadyH.cons (o := os_3 s) (by kernel_rfl) (fun KQ hKQ => ?_) AllReadyH.nil
  rw [if_pos (wanted_none rfl)]
  refine step_enterE 5 #[.agg (objL y vy).toArray] (by rw [os_enter3, f5_7]) (fun V w' => ∃ v' : ObjV, V = .agg (objL y v').toArray ∧ Fresh (w1).heap.size w' y v' ∧ Below (w1).heap.size (w1) w') ((copied_any (w1) y vy hT1.RB sy).mono (fun e w' h => by obtain ⟨v', h1, h2, h3⟩ := h; exact ⟨_, h1, v', rfl, h2, h3⟩)) ?_
  rintro v2 w2 ⟨u2, ev2, hF2, hb2⟩
  have hT2 := hT1.below hb2
  have hW2 := hW1.trans (hb2.mono hW1.size)
  have rF1 := (hF1.below hb2).rd hT1.RA.ok sx.d
  have rF2 := hF2.rd hT1.RB.ok sy.d
  refine hKQ.out _ _ (hT2) (fun _ => ?_)
  clear hKQ KQ
  change wpAnyH _ _ _ _ _ _ _ (a0_5.put (some 8) (v2)) _
  have h0 := h0 v2
  obtain ⟨a0_6, ha6⟩ : ∃ rr : Act, rr = a0_5.put (some 8) (v2) := ⟨_, rfl⟩
  have qz6 : 25 < a0_6.tmps.size := by rw [ha6, sz_put]; exact qz5
  have f6_2 : a0_6.eval (.tmp 2) = .pointer (some ⟨z1, 0, none⟩) := by rw [ha6, ev_other _ _ _ _ (by decide)]; exact f5_2
  have f6_3 : a0_6.eval (.tmp 3) = .pointer (some ⟨z2, 0, none⟩) := by rw [ha6, ev_other _ _ _ _ (by decide)]; exact f5_3
  have f6_6 : a0_6.eval (.tmp 6) = v1 := by rw [ha6, ev_other _ _ _ _ (by decide)]; exact f5_6
  have f6_8 : a0_6.eval (.tmp 8) = v2 := by rw [ha6]; exact ev_same _ _ _ (Nat.lt_of_le_of_lt (by decide) qz5)
  have f6_10 : a0_6.eval (.tmp 10) = .agg (objL x vx).toArray := by rw [ha6, ev_other _ _ _ _ (by decide)]; exact f5_10
  have f6_11 : a0_6.eval (.tmp 11) = .agg (objL y vy).toArray := by rw [ha6, ev_other _ _ _ _ (by decide)]; exact f5_11
  rw [← ha6] at h0 ⊢
  clear ha6
  refine wpAnyH_ready (rs := [4]) (by kernel_rfl) (by simp) ?_
  refine AllReadyH.cons (o := os_4 s) (by kernel_rfl) (fun KQ hKQ => ?_) AllReadyH.nil
  rw [if_pos (wanted_none rfl)]
  refine step_enterE 11 #[v1, v2] (by rw [os_enter4, f6_6, f6_8]) (fun V w' => V = .bool (sameO x y) ∧ Below (w2).heap.size (w2) w') (by rw [ev1, ev2]; exact (same_any w2 x y u1 u2 rF1 rF2).mono (fun e w' h => ⟨_, h.1, rfl, h.2⟩)) ?_
  rintro _ w3 ⟨rfl, hb3⟩
  have hT3 := hT2.below hb3
  have hW3 := hW2.trans (hb3.mono hW2.size)
  refine hKQ.out _ _ (hT3) (fun _ => ?_)
  clear hKQ KQ
  change wpAnyH _ _ _ _ _ _ _ (a0_6.put (some 9) (.bool (sameO x y))) _
  obtain ⟨a0_7, ha7⟩ : ∃ rr : Act, rr = a0_6.put (some 9) (.bool (sameO x y)) := ⟨_, rfl⟩
  have qz7 : 25 < a0_7.tmps.size := by rw [ha7, sz_put]; exact qz6
  have f7_2 : a0_7.eval (.tmp 2) = .pointer (some ⟨z1, 0, none⟩) := by rw [ha7, ev_other _ _ _ _ (by decide)]; exact f6_2
  have f7_3 : a0_7.eval (.tmp 3) = .pointer (some ⟨z2, 0, none⟩) := by rw [ha7, ev_other _ _ _ _ (by decide)]; exact f6_3
  have f7_9 : a0_7.eval (.tmp 9) = .bool (sameO x y) := by rw [ha7]; exact ev_same _ _ _ (Nat.lt_of_le_of_lt (by decide) qz6)
  have f7_10 : a0_7.eval (.tmp 10) = .agg (objL x vx).toArray := by rw [ha7, ev_other _ _ _ _ (by decide)]; exact f6_10
  have f7_11 : a0_7.eval (.tmp 11) = .agg (objL y vy).toArray := by rw [ha7, ev_other _ _ _ _ (by decide)]; exact f6_11
  rw [← ha7] at h0 ⊢
  clear ha7
  refine wpAnyH_ready (rs := [7]) (by kernel_rfl) (by simp) ?_
  refine AllReadyH.cons (o := os_7 s) (by kernel_rfl) (fun KQ hKQ => ?_) AllReadyH.nil
  rw [if_pos (wanted_none rfl)]
  refine step_enterE 9 #[.agg (objL x vx).toArray, .agg (objL y vy).toArray] (by rw [os_enter7, f7_10, f7_11]) (fun V w' => V = .bool (sameO x y) ∧ Below (w3).heap.size (w3) w') ((rsame_any w3 x y vx vy hT3.RA hT3.RB).mono (fun e w' h => ⟨_, h.1, rfl, h.2⟩)) ?_
  rintro _ w4 ⟨rfl, hb4⟩
  have hT4 := hT3.below hb4
  have hW4 := hW3.trans (hb4.mono hW3.size)
  refine hKQ.out _ _ (hT4) (fun _ => ?_)
  clear hKQ KQ
  change wpAnyH _ _ _ _ _ _ _ (a0_7.put (some 12) (.bool (sameO x y))) _
  obtain ⟨a0_8, ha8⟩ : ∃ rr : Act, rr = a0_7.put (some 12) (.bool (sameO x y)) := ⟨_, rfl⟩
  have qz8 : 25 < a0_8.tmps.size := by rw [ha8, sz_put]; exact qz7
  have f8_2 : a0_8.eval (.tmp 2) = .pointer (some ⟨z1, 0, none⟩) := by rw [ha8, ev_other _ _ _ _ (by decide)]; exact f7_2
  have f8_3 : a0_8.eval (.tmp 3) = .pointer (some ⟨z2, 0, none⟩) := by rw [ha8, ev_other _ _ _ _ (by decide)]; exact f7_3
  have f8_9 : a0_8.eval (.tmp 9) = .bool (sameO x y) := by rw [ha8, ev_other _ _ _ _ (by decide)]; exact f7_9
  have f8_12 : a0_8.eval (.tmp 12) = .bool (sameO x y) := by rw [ha8]; exact ev_same _ _ _ (Nat.lt_of_le_of_lt (by decide) qz7)
  rw [← ha8] at h0 ⊢
  clear ha8
  refine wpAnyH_take (i := 8) (oi := os_8 s) (v := .bool true) (by kernel_rfl) (by kernel_rfl) (by kernel_rfl) (by kernel_rfl) (fun c a w h => hQ c _ _ _ w h) (Or.inl ⟨wanted_none rfl, fun w hw => run_eqlB rfl f8_9 f8_12 w⟩) hT4 ?_
  change wpAnyH _ _ _ _ _ _ _ (a0_8.put (some 13) (.bool true)) _
  obtain ⟨a0_9, ha9⟩ : ∃ rr : Act, rr = a0_8.put (some 13) (.bool true) := ⟨_, rfl⟩
  have qz9 : 25 < a0_9.tmps.size := by rw [ha9, sz_put]; exact qz8
  have f9_2 : a0_9.eval (.tmp 2) = .pointer (some ⟨z1, 0, none⟩) := by rw [ha9, ev_other _ _ _ _ (by decide)]; exact f8_2
  have f9_3 : a0_9.eval (.tmp 3) = .pointer (some ⟨z2, 0, none⟩) := by rw [ha9, ev_other _ _ _ _ (by decide)]; exact f8_3
  have f9_13 : a0_9.eval (.tmp 13) = .bool true := by rw [ha9]; exact ev_same _ _ _ (Nat.lt_of_le_of_lt (by decide) qz8)
  rw [← ha9] at h0 ⊢
  clear ha9
  refine wpAnyH_take (i := 9) (oi := os_9 s) (v := .bool true) (by kernel_rfl) (by kernel_rfl) (by kernel_rfl) (by kernel_rfl) (fun c a w h => hQ c _ _ _ w h) (Or.inl ⟨wanted_none rfl, fun w hw => by simp only [execOp, os_9, f9_13]; rfl⟩) hT4 ?_
  change wpAnyH _ _ _ _ _ _ _ (a0_9.put (some 14) (.bool true)) _
  obtain ⟨a0_10, ha10⟩ : ∃ rr : Act, rr = a0_9.put (some 14) (.bool true) := ⟨_, rfl⟩
  have qz10 : 25 < a0_10.tmps.size := by rw [ha10, sz_put]; exact qz9
  have f10_2 : a0_10.eval (.tmp 2) = .pointer (some ⟨z1, 0, none⟩) := by rw [ha10, ev_other _ _ _ _ (by decide)]; exact f9_2
  have f10_3 : a0_10.eval (.tmp 3) = .pointer (some ⟨z2, 0, none⟩) := by rw [ha10, ev_other _ _ _ _ (by decide)]; exact f9_3
  have f10_14 : a0_10.eval (.tmp 14) = .bool true := by rw [ha10]; exact ev_same _ _ _ (Nat.lt_of_le_of_lt (by decide) qz9)
  rw [← ha10] at h0 ⊢
  clear ha10
  refine wpAnyH_take (i := 10) (oi := os_10 s) (v := .agg (objL x vx).toArray) (by kernel_rfl) (by kernel_rfl) (by kernel_rfl) (by kernel_rfl) (fun c a w h => hQ c _ _ _ w h) (Or.inl ⟨wanted_some rfl (by kernel_rfl) f10_14 (Nat.lt_of_le_of_lt (by decide) qz10), fun w hw => run_load rfl f10_2 (loadAt_obj hw.A (objL_size x vx hw.RA.ok.t))⟩) hT4 ?_
  change wpAnyH _ _ _ _ _ _ _ (a0_10.put (some 15) (.agg (objL x vx).toArray)) _
  obtain ⟨a0_11, ha11⟩ : ∃ rr : Act, rr = a0_10.put (some 15) (.agg (objL x vx).toArray) := ⟨_, rfl⟩
  have qz11 : 25 < a0_11.tmps.size := by rw [ha11, sz_put]; exact qz10
  have f11_2 : a0_11.eval (.tmp 2) = .pointer (some ⟨z1, 0, none⟩) := by rw [ha11, ev_other _ _ _ _ (by decide)]; exact f10_2
  have f11_3 : a0_11.eval (.tmp 3) = .pointer (some ⟨z2, 0, none⟩) := by rw [ha11, ev_other _ _ _ _ (by decide)]; exact f10_3
  have f11_14 : a0_11.eval (.tmp 14) = .bool true := by rw [ha11, ev_other _ _ _ _ (by decide)]; exact f10_14
  have f11_15 : a0_11.eval (.tmp 15) = .agg (objL x vx).toArray := by rw [ha11]; exact ev_same _ _ _ (Nat.lt_of_le_of_lt (by decide) qz10)
  rw [← ha11] at h0 ⊢
  clear ha11
  refine wpAnyH_take (i := 11) (oi := os_11 s) (v := .agg (objL x vx).toArray) (by kernel_rfl) (by kernel_rfl) (by kernel_rfl) (by kernel_rfl) (fun c a w h => hQ c _ _ _ w h) (Or.inl ⟨wanted_some rfl (by kernel_rfl) f11_14 (Nat.lt_of_le_of_lt (by decide) qz11), fun w hw => run_load rfl f11_2 (loadAt_obj hw.A (objL_size x vx hw.RA.ok.t))⟩) hT4 ?_
  change wpAnyH _ _ _ _ _ _ _ (a0_11.put (some 16) (.agg (objL x vx).toArray)) _
  obtain ⟨a0_12, ha12⟩ : ∃ rr : Act, rr = a0_11.put (some 16) (.agg (objL x vx).toArray) := ⟨_, rfl⟩
  have qz12 : 25 < a0_12.tmps.size := by rw [ha12, sz_put]; exact qz11
  have f12_3 : a0_12.eval (.tmp 3) = .pointer (some ⟨z2, 0, none⟩) := by rw [ha12, ev_other _ _ _ _ (by decide)]; exact f11_3
  have f12_14 : a0_12.eval (.tmp 14) = .bool true := by rw [ha12, ev_other _ _ _ _ (by decide)]; exact f11_14
  have f12_15 : a0_12.eval (.tmp 15) = .agg (objL x vx).toArray := by rw [ha12, ev_other _ _ _ _ (by decide)]; exact f11_15
  have f12_16 : a0_12.eval (.tmp 16) = .agg (objL x vx).toArray := by rw [ha12]; exact ev_same _ _ _ (Nat.lt_of_le_of_lt (by decide) qz11)
  rw [← ha12] at h0 ⊢
  clear ha12
  refine wpAnyH_ready (rs := [12]) (by kernel_rfl) (by simp) ?_
  refine AllReadyH.cons (o := os_12 s) (by kernel_rfl) (fun KQ hKQ => ?_) AllReadyH.nil
  rw [if_pos (wanted_some rfl (by kernel_rfl) f12_14 (Nat.lt_of_le_of_lt (by decide) qz12))]
  refine step_enterE 5 #[.agg (objL x vx).toArray] (by rw [os_enter12, f12_16]) (fun V w' => ∃ v' : ObjV, V = .agg (objL x v').toArray ∧ Fresh (w4).heap.size w' x v' ∧ Below (w4).heap.size (w4) w') ((copied_any (w4) x vx hT4.RA sx).mono (fun e w' h => by obtain ⟨v', h1, h2, h3⟩ := h; exact ⟨_, h1, v', rfl, h2, h3⟩)) ?_
  rintro v3 w5 ⟨u3, ev3, hF3, hb5⟩
  have hT5 := hT4.below hb5
  have hW5 := hW4.trans (hb5.mono hW4.size)
  have rF3 := hF3.rd hT4.RA.ok sx.d
  refine hKQ.out _ _ (hT5) (fun _ => ?_)
  clear hKQ KQ
  change wpAnyH _ _ _ _ _ _ _ (a0_12.put (some 17) (v3)) _
  have h0 := h0 v3
  obtain ⟨a0_13, ha13⟩ : ∃ rr : Act, rr = a0_12.put (some 17) (v3) := ⟨_, rfl⟩
  have qz13 : 25 < a0_13.tmps.size := by rw [ha13, sz_put]; exact qz12
  have f13_3 : a0_13.eval (.tmp 3) = .pointer (some ⟨z2, 0, none⟩) := by rw [ha13, ev_other _ _ _ _ (by decide)]; exact f12_3
  have f13_14 : a0_13.eval (.tmp 14) = .bool true := by rw [ha13, ev_other _ _ _ _ (by decide)]; exact f12_14
  have f13_15 : a0_13.eval (.tmp 15) = .agg (objL x vx).toArray := by rw [ha13, ev_other _ _ _ _ (by decide)]; exact f12_15
  have f13_17 : a0_13.eval (.tmp 17) = v3 := by rw [ha13]; exact ev_same _ _ _ (Nat.lt_of_le_of_lt (by decide) qz12)
  rw [← ha13] at h0 ⊢
  clear ha13
  refine wpAnyH_ready (rs := [13]) (by kernel_rfl) (by simp) ?_
  refine AllReadyH.cons (o := os_13 s) (by kernel_rfl) (fun KQ hKQ => ?_) AllReadyH.nil
  rw [if_pos (wanted_some rfl (by kernel_rfl) f13_14 (Nat.lt_of_le_of_lt (by decide) qz13))]
  refine step_enterE 11 #[.agg (objL x vx).toArray, v3] (by rw [os_enter13, f13_15, f13_17]) (fun V w' => V = .bool true ∧ Below (w5).heap.size (w5) w') (by rw [ev3]; exact (same_any w5 x x vx u3 hT5.RA rF3).mono (fun e w' h => ⟨_, h.1, by rw [sameO_self], h.2⟩)) ?_
  rintro _ w6 ⟨rfl, hb6⟩
  have hT6 := hT5.below hb6
  have hW6 := hW5.trans (hb6.mono hW5.size)
  refine hKQ.out _ _ (hT6) (fun _ => ?_)
  clear hKQ KQ
  change wpAnyH _ _ _ _ _ _ _ (a0_13.put (some 18) (.bool true)) _
  obtain ⟨a0_14, ha14⟩ : ∃ rr : Act, rr = a0_13.put (some 18) (.bool true) := ⟨_, rfl⟩
  have qz14 : 25 < a0_14.tmps.size := by rw [ha14, sz_put]; exact qz13
  have f14_3 : a0_14.eval (.tmp 3) = .pointer (some ⟨z2, 0, none⟩) := by rw [ha14, ev_other _ _ _ _ (by decide)]; exact f13_3
  have f14_14 : a0_14.eval (.tmp 14) = .bool true := by rw [ha14, ev_other _ _ _ _ (by decide)]; exact f13_14
  have f14_18 : a0_14.eval (.tmp 18) = .bool true := by rw [ha14]; exact ev_same _ _ _ (Nat.lt_of_le_of_lt (by decide) qz13)
  rw [← ha14] at h0 ⊢
  clear ha14
  refine wpAnyH_take (i := 14) (oi := os_14 s) (v := .bool true) (by kernel_rfl) (by kernel_rfl) (by kernel_rfl) (by kernel_rfl) (fun c a w h => hQ c _ _ _ w h) (Or.inl ⟨wanted_none rfl, fun w hw => by simp only [execOp, os_14, f14_14, f14_18]; rfl⟩) hT6 ?_
  change wpAnyH _ _ _ _ _ _ _ (a0_14.put (some 19) (.bool true)) _
  obtain ⟨a0_15, ha15⟩ : ∃ rr : Act, rr = a0_14.put (some 19) (.bool true) := ⟨_, rfl⟩
  have qz15 : 25 < a0_15.tmps.size := by rw [ha15, sz_put]; exact qz14
  have f15_3 : a0_15.eval (.tmp 3) = .pointer (some ⟨z2, 0, none⟩) := by rw [ha15, ev_other _ _ _ _ (by decide)]; exact f14_3
  have f15_19 : a0_15.eval (.tmp 19) = .bool true := by rw [ha15]; exact ev_same _ _ _ (Nat.lt_of_le_of_lt (by decide) qz14)
  rw [← ha15] at h0 ⊢
  clear ha15
  refine wpAnyH_take (i := 15) (oi := os_15 s) (v := .bool true) (by kernel_rfl) (by kernel_rfl) (by kernel_rfl) (by kernel_rfl) (fun c a w h => hQ c _ _ _ w h) (Or.inl ⟨wanted_none rfl, fun w hw => by simp only [execOp, os_15, f15_19]; rfl⟩) hT6 ?_
  change wpAnyH _ _ _ _ _ _ _ (a0_15.put (some 20) (.bool true)) _
  obtain ⟨a0_16, ha16⟩ : ∃ rr : Act, rr = a0_15.put (some 20) (.bool true) := ⟨_, rfl⟩
  have qz16 : 25 < a0_16.tmps.size := by rw [ha16, sz_put]; exact qz15
  have f16_3 : a0_16.eval (.tmp 3) = .pointer (some ⟨z2, 0, none⟩) := by rw [ha16, ev_other _ _ _ _ (by decide)]; exact f15_3
  have f16_20 : a0_16.eval (.tmp 20) = .bool true := by rw [ha16]; exact ev_same _ _ _ (Nat.lt_of_le_of_lt (by decide) qz15)
  rw [← ha16] at h0 ⊢
  clear ha16
  refine wpAnyH_take (i := 16) (oi := os_16 s) (v := .agg (objL y vy).toArray) (by kernel_rfl) (by kernel_rfl) (by kernel_rfl) (by kernel_rfl) (fun c a w h => hQ c _ _ _ w h) (Or.inl ⟨wanted_some rfl (by kernel_rfl) f16_20 (Nat.lt_of_le_of_lt (by decide) qz16), fun w hw => run_load rfl f16_3 (loadAt_obj hw.B (objL_size y vy hw.RB.ok.t))⟩) hT6 ?_
  change wpAnyH _ _ _ _ _ _ _ (a0_16.put (some 21) (.agg (objL y vy).toArray)) _
  obtain ⟨a0_17, ha17⟩ : ∃ rr : Act, rr = a0_16.put (some 21) (.agg (objL y vy).toArray) := ⟨_, rfl⟩
  have qz17 : 25 < a0_17.tmps.size := by rw [ha17, sz_put]; exact qz16
  have f17_3 : a0_17.eval (.tmp 3) = .pointer (some ⟨z2, 0, none⟩) := by rw [ha17, ev_other _ _ _ _ (by decide)]; exact f16_3
  have f17_20 : a0_17.eval (.tmp 20) = .bool true := by rw [ha17, ev_other _ _ _ _ (by decide)]; exact f16_20
  have f17_21 : a0_17.eval (.tmp 21) = .agg (objL y vy).toArray := by rw [ha17]; exact ev_same _ _ _ (Nat.lt_of_le_of_lt (by decide) qz16)
  rw [← ha17] at h0 ⊢
  clear ha17
  refine wpAnyH_take (i := 17) (oi := os_17 s) (v := .agg (objL y vy).toArray) (by kernel_rfl) (by kernel_rfl) (by kernel_rfl) (by kernel_rfl) (fun c a w h => hQ c _ _ _ w h) (Or.inl ⟨wanted_some rfl (by kernel_rfl) f17_20 (Nat.lt_of_le_of_lt (by decide) qz17), fun w hw => run_load rfl f17_3 (loadAt_obj hw.B (objL_size y vy hw.RB.ok.t))⟩) hT6 ?_
  change wpAnyH _ _ _ _ _ _ _ (a0_17.put (some 22) (.agg (objL y vy).toArray)) _
  obtain ⟨a0_18, ha18⟩ : ∃ rr : Act, rr = a0_17.put (some 22) (.agg (objL y vy).toArray) := ⟨_, rfl⟩
  have qz18 : 25 < a0_18.tmps.size := by rw [ha18, sz_put]; exact qz17
  have f18_20 : a0_18.eval (.tmp 20) = .bool true := by rw [ha18, ev_other _ _ _ _ (by decide)]; exact f17_20
  have f18_21 : a0_18.eval (.tmp 21) = .agg (objL y vy).toArray := by rw [ha18, ev_other _ _ _ _ (by decide)]; exact f17_21
  have f18_22 : a0_18.eval (.tmp 22) = .agg (objL y vy).toArray := by rw [ha18]; exact ev_same _ _ _ (Nat.lt_of_le_of_lt (by decide) qz17)
  rw [← ha18] at h0 ⊢
  clear ha18
  refine wpAnyH_ready (rs := [18]) (by kernel_rfl) (by simp) ?_
  refine AllReadyH.cons (o := os_18 s) (by kernel_rfl) (fun KQ hKQ => ?_) AllReadyH.nil
  rw [if_pos (wanted_some rfl (by kernel_rfl) f18_20 (Nat.lt_of_le_of_lt (by decide) qz18))]
  refine step_enterE 5 #[.agg (objL y vy).toArray] (by rw [os_enter18, f18_22]) (fun V w' => ∃ v' : ObjV, V = .agg (objL y v').toArray ∧ Fresh (w6).heap.size w' y v' ∧ Below (w6).heap.size (w6) w') ((copied_any (w6) y vy hT6.RB sy).mono (fun e w' h => by obtain ⟨v', h1, h2, h3⟩ := h; exact ⟨_, h1, v', rfl, h2, h3⟩)) ?_
  rintro v4 w7 ⟨u4, ev4, hF4, hb7⟩
  have hT7 := hT6.below hb7
  have hW7 := hW6.trans (hb7.mono hW6.size)
  have rF4 := hF4.rd hT6.RB.ok sy.d
  refine hKQ.out _ _ (hT7) (fun _ => ?_)
  clear hKQ KQ
  change wpAnyH _ _ _ _ _ _ _ (a0_18.put (some 23) (v4)) _
  have h0 := h0 v4
  obtain ⟨a0_19, ha19⟩ : ∃ rr : Act, rr = a0_18.put (some 23) (v4) := ⟨_, rfl⟩
  have qz19 : 25 < a0_19.tmps.size := by rw [ha19, sz_put]; exact qz18
  have f19_20 : a0_19.eval (.tmp 20) = .bool true := by rw [ha19, ev_other _ _ _ _ (by decide)]; exact f18_20
  have f19_21 : a0_19.eval (.tmp 21) = .agg (objL y vy).toArray := by rw [ha19, ev_other _ _ _ _ (by decide)]; exact f18_21
  have f19_23 : a0_19.eval (.tmp 23) = v4 := by rw [ha19]; exact ev_same _ _ _ (Nat.lt_of_le_of_lt (by decide) qz18)
  rw [← ha19] at h0 ⊢
  clear ha19
  refine wpAnyH_ready (rs := [19]) (by kernel_rfl) (by simp) ?_
  refine AllReadyH.cons (o := os_19 s) (by kernel_rfl) (fun KQ hKQ => ?_) AllReadyH.nil
  rw [if_pos (wanted_some rfl (by kernel_rfl) f19_20 (Nat.lt_of_le_of_lt (by decide) qz19))]
  refine step_enterE 11 #[.agg (objL y vy).toArray, v4] (by rw [os_enter19, f19_21, f19_23]) (fun V w' => V = .bool true ∧ Below (w7).heap.size (w7) w') (by rw [ev4]; exact (same_any w7 y y vy u4 hT7.RB rF4).mono (fun e w' h => ⟨_, h.1, by rw [sameO_self], h.2⟩)) ?_
  rintro _ w8 ⟨rfl, hb8⟩
  have hT8 := hT7.below hb8
  have hW8 := hW7.trans (hb8.mono hW7.size)
  refine hKQ.out _ _ (hT8) (fun _ => ?_)
  clear hKQ KQ
  change wpAnyH _ _ _ _ _ _ _ (a0_19.put (some 24) (.bool true)) _
  have h0 := h0 w8 hW8
  obtain ⟨a0_20, ha20⟩ : ∃ rr : Act, rr = a0_19.put (some 24) (.bool true) := ⟨_, rfl⟩
  have qz20 : 25 < a0_20.tmps.size := by rw [ha20, sz_put]; exact qz19
  have f20_20 : a0_20.eval (.tmp 20) = .bool true := by rw [ha20, ev_other _ _ _ _ (by decide)]; exact f19_20
  have f20_24 : a0_20.eval (.tmp 24) = .bool true := by rw [ha20]; exact ev_same _ _ _ (Nat.lt_of_le_of_lt (by decide) qz19)
  rw [← ha20] at h0 ⊢
  clear ha20
  refine wpAnyH_take (i := 20) (oi := os_20 s) (v := .bool true) (by kernel_rfl) (by kernel_rfl) (by kernel_rfl) (by kernel_rfl) (fun c a w h => hQ c _ _ _ w h) (Or.inl ⟨wanted_none rfl, fun w hw => by simp only [execOp, os_20, f20_20, f20_24]; rfl⟩) hT8 ?_
  change wpAnyH _ _ _ _ _ _ _ (a0_20.put (some 25) (.bool true)) _
  obtain ⟨a0_21, ha21⟩ : ∃ rr : Act, rr = a0_20.put (some 25) (.bool true) := ⟨_, rfl⟩
  have qz21 : 25 < a0_21.tmps.size := by rw [ha21, sz_put]; exact qz20
  have f21_25 : a0_21.eval (.tmp 25) = .bool true := by rw [ha21]; exact ev_same _ _ _ (Nat.lt_of_le_of_lt (by decide) qz20)
  rw [← ha21] at h0 ⊢
  clear ha21
  refine wpAnyH_take (i := 21) (oi := os_21 s) (v := .bool true) (by kernel_rfl) (by kernel_rfl) (by kernel_rfl) (by kernel_rfl) (fun c a w h => hQ c _ _ _ w h) (Or.inl ⟨wanted_none rfl, fun w hw => by simp only [execOp, os_21, f21_25]; rfl⟩) hT8 ?_
  change wpAnyH _ _ _ _ _ _ _ (a0_21.put (some 4) (.bool true)) _
  obtain ⟨a0_22, ha22⟩ : ∃ rr : Act, rr = a0_21.put (some 4) (.bool true) := ⟨_, rfl⟩
  have qz22 : 25 < a0_22.tmps.size := by rw [ha22, sz_put]; exact qz21
  rw [← ha22] at h0 ⊢
  clear ha22
  refine wpAnyH_done (by kernel_rfl) ?_ _
  exact h0
set_option maxRecDepth 20000 in
set_option maxHeartbeats 1000000 in
theorem same_law (w : World) (x y : ObjR) (vx vy : ObjV) (hx : ObjRd w x vx) (hy : ObjRd w y vy) (sx : ObjSz x) (sy : ObjSz y) : Calls Try.prog 4 #[.agg (objL x vx).toArray, .agg (objL y vy).toArray] w (BoolC w true) := by
  obtain ⟨hT0, hW0⟩ := two_made w x y vx vy hx hy
  have HT := hide hT0
  have HW := hide hW0
  have SX := hide sx
  have SY := hide sy
  clear hT0 hW0 hx hy sx sy
  go_enter Try.func4, Try.ntmps4
  go_wp2
  refine os_walk _ (fun _ _ _ _ _ h => h) _ w.heap.size (w.heap.size + 1) x y vx vy HT.out SX.out SY.out _ (Nat.lt_of_sub_pos (by exact Nat.succ_pos _)) rfl rfl ?_
  intro v1 v2 v3 v4 w9 hb9
  have HB9 := hide (HW.out.trans (hb9.mono HW.out.size))
  clear hb9 HT HW
  simp only [Act.put, List.setIfInBounds_toArray, List.set_cons_zero, List.set_cons_succ]
  go_wp2
  go_ret
  exact ⟨rfl, HB9.out⟩
end Go.Proofs.Ytjcfndiceinkjaa
