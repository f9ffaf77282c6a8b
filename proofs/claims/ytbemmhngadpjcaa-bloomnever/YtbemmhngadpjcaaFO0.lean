/- BloomOpens: the last statement, whose region draws its order. -/
import Derived.Test.YtbemmhngadpjcaaFI8
import Derived.Test.YtbemmhngadpjcaaWR1
namespace Go.Proofs.Ytbemmhngadpjcaa
set_option linter.unusedVariables false
set_option linter.unusedSimpArgs false
open Go.RowKit

theorem run_conv {op : Oper} {ev : Operand → Value} {t u : TypeId} {x : Operand} {v r : Value} {w : World} (ho : op.op = .convert t u x) (hx : ev x = v) (hc : (convert t u v).run Try.prog w = .ok r w) : (execOp ev op).run Try.prog w = .ok (.value r) w := by
  simp only [execOp, ho, hx, Sem.run_bind, hc, Result.andThen_ok, Sem.run_pure]
theorem run_eqSame {op : Oper} {ev : Operand → Value} {x y : Operand} {u : TypeId} {s : ByteArray} (ho : op.op = .binOp .eql 9 x y u) (hx : ev x = .string s) (hy : ev y = .string s) (w : World) : (execOp ev op).run Try.prog w = .ok (.value (.bool true)) w := by
  simp only [execOp, ho, hx, hy]
  simp [go_sem]
theorem neqNilP (z : Nat) (w : World) : (binOp .neq 27 (.pointer (some ⟨z, 0, none⟩)) (.pointer none)).run Try.prog w = .ok (.bool true) w := by kernel_rfl
theorem run_neqNil {op : Oper} {ev : Operand → Value} {x : Operand} {u : TypeId} {z : Nat} (ho : op.op = .binOp .neq 27 x (.const (.pointer none)) u) (hx : ev x = .pointer (some ⟨z, 0, none⟩)) (hc : ev (.const (.pointer none)) = .pointer none) (w : World) : (execOp ev op).run Try.prog w = .ok (.value (.bool true)) w := by
  have h := neqNilP z w
  simp only [execOp, ho, hx, hc]
  simp [go_sem, h]
theorem run_eqZ {op : Oper} {ev : Operand → Value} {x : Operand} {t u : TypeId} (ho : op.op = .binOp .eql t x (.const (.int .i64 0)) u) (hx : ev x = .int .i64 0) (hc : ev (.const (.int .i64 0)) = .int .i64 0) (w : World) : (execOp ev op).run Try.prog w = .ok (.value (.bool true)) w := by
  simp only [execOp, ho, hx, hc]
  simp [go_sem]
def fo_0 (s : String) : Oper := { dst := some 45, op := Op.move (Operand.tmp 4), type := 27, pos := s, after := #[], guard := none }
def fo_1 (s : String) : Oper := { dst := some 46, op := Op.binOp BinOp.neq 27 (Operand.tmp 45) (Operand.const (Value.pointer none)) 27, type := 4, pos := s, after := #[{ on := 0, ground := Ground.data }], guard := none }
def fo_2 (s : String) : Oper := { dst := some 47, op := Op.move (Operand.tmp 46), type := 4, pos := s, after := #[{ on := 1, ground := Ground.data }], guard := none }
def fo_3 (s : String) : Oper := { dst := some 48, op := Op.move (Operand.tmp 5), type := 45, pos := s, after := #[{ on := 2, ground := Ground.guard }], guard := some (2, true) }
def fo_4 (s : String) : Oper := { dst := some 49, op := Op.binOp BinOp.eql 45 (Operand.tmp 48) (Operand.const (Value.int IntKind.i64 0)) 45, type := 4, pos := s, after := #[{ on := 3, ground := Ground.data }, { on := 2, ground := Ground.guard }], guard := some (2, true) }
def fo_5 (s : String) : Oper := { dst := some 50, op := Op.pick (Operand.tmp 47) (Operand.tmp 49) (Operand.const (Value.bool false)), type := 4, pos := s, after := #[{ on := 2, ground := Ground.data }, { on := 4, ground := Ground.data }], guard := none }
def fo_6 (s : String) : Oper := { dst := some 51, op := Op.move (Operand.tmp 50), type := 4, pos := s, after := #[{ on := 5, ground := Ground.data }, { on := 2, ground := Ground.chain }], guard := none }
def fo_7 (s : String) : Oper := { dst := some 52, op := Op.move (Operand.tmp 4), type := 27, pos := s, after := #[{ on := 6, ground := Ground.guard }], guard := some (6, true) }
def fo_8 (s : String) : Oper := { dst := some 53, op := Op.call { callee := Callee.value (Operand.func 19), args := #[Operand.tmp 52], argTypes := #[27] }, type := 49, pos := s, after := #[{ on := 7, ground := Ground.data }, { on := 6, ground := Ground.chain }, { on := 6, ground := Ground.guard }], guard := some (6, true) }
def fo_9 (s : String) : Oper := { dst := some 54, op := Op.convert 49 9 (Operand.tmp 53), type := 9, pos := s, after := #[{ on := 8, ground := Ground.data }, { on := 6, ground := Ground.guard }], guard := some (6, true) }
def fo_10 (s : String) : Oper := { dst := some 55, op := Op.move (Operand.tmp 0), type := 49, pos := s, after := #[{ on := 6, ground := Ground.guard }], guard := some (6, true) }
def fo_11 (s : String) : Oper := { dst := some 56, op := Op.convert 49 9 (Operand.tmp 55), type := 9, pos := s, after := #[{ on := 10, ground := Ground.data }, { on := 6, ground := Ground.guard }], guard := some (6, true) }
def fo_12 (s : String) : Oper := { dst := some 57, op := Op.binOp BinOp.eql 9 (Operand.tmp 54) (Operand.tmp 56) 9, type := 4, pos := s, after := #[{ on := 9, ground := Ground.data }, { on := 11, ground := Ground.data }, { on := 6, ground := Ground.guard }], guard := some (6, true) }
def fo_13 (s : String) : Oper := { dst := some 58, op := Op.pick (Operand.tmp 51) (Operand.tmp 57) (Operand.const (Value.bool false)), type := 4, pos := s, after := #[{ on := 6, ground := Ground.data }, { on := 12, ground := Ground.data }], guard := none }
def fo_14 (s : String) : Oper := { dst := some 2, op := Op.assign (Operand.tmp 58), type := 4, pos := s, after := #[{ on := 13, ground := Ground.data }, { on := 8, ground := Ground.chain }, { on := 0, ground := Ground.phase }, { on := 1, ground := Ground.phase }, { on := 2, ground := Ground.phase }, { on := 3, ground := Ground.phase }, { on := 4, ground := Ground.phase }, { on := 5, ground := Ground.phase }, { on := 6, ground := Ground.phase }, { on := 7, ground := Ground.phase }, { on := 8, ground := Ground.phase }, { on := 9, ground := Ground.phase }, { on := 10, ground := Ground.phase }, { on := 11, ground := Ground.phase }, { on := 12, ground := Ground.phase }, { on := 13, ground := Ground.phase }], guard := none }
def fo_ops (s : String) : Array Oper := #[fo_0 s, fo_1 s, fo_2 s, fo_3 s, fo_4 s, fo_5 s, fo_6 s, fo_7 s, fo_8 s, fo_9 s, fo_10 s, fo_11 s, fo_12 s, fo_13 s, fo_14 s]
theorem fo_enter8 (s : String) (a : Act) (w : World) : (execOp a.eval (fo_8 s)).run Try.prog w = .ok (.enter 19 #[a.eval (.tmp 52)]) w := by kernel_rfl
theorem fo_walk (s : String) {Q : Exit → Act → World → Prop} (hQ : ∀ c (a : Act) t v w, Q (.panic c) (a.put (some t) v) w → Q (.panic c) a w) (W : World) (z : Nat) (xs : List UInt8) (vb : Value) (hc : Calls Try.prog 19 #[.pointer (some ⟨z, 0, none⟩)] W.drew (BytesC W.drew xs)) (hb : RdA W vb xs)
    (a : Act) (hs : 58 < a.tmps.size) (e0 : a.eval (.tmp 0) = vb) (e4 : a.eval (.tmp 4) = .pointer (some ⟨z, 0, none⟩)) (e5 : a.eval (.tmp 5) = .int .i64 0)
    (h0 : ∀ v w1, Below W.heap.size W w1 → Q .normal (((((((((((((((a.put (some 45) (.pointer (some ⟨z, 0, none⟩))).put (some 46) (.bool true)).put (some 47) (.bool true)).put (some 48) (.int .i64 0)).put (some 49) (.bool true)).put (some 50) (.bool true)).put (some 51) (.bool true)).put (some 52) (.pointer (some ⟨z, 0, none⟩))).put (some 55) (vb)).put (some 56) (.string ⟨xs.toArray⟩)).put (some 53) (v)).put (some 54) (.string ⟨xs.toArray⟩)).put (some 57) (.bool true)).put (some 58) (.bool true)).put (some 2) (.bool true)) w1) :
    Code.wp Try.prog (.region 13 (fo_ops s) true) Q a W := by
  refine wp_region_held_drew (S := fun W' => (convert 49 9 vb).run Try.prog W' = .ok (.string ⟨xs.toArray⟩) W') (by kernel_rfl) (conv_rdA _ _ _ hb) (fun hS => ?_)
  change wpAnyH _ _ _ _ _ _ _ _ (World.drew _)
  refine wpAnyH_take (i := 0) (oi := fo_0 s) (v := .pointer (some ⟨z, 0, none⟩)) (by kernel_rfl) (by kernel_rfl) (by kernel_rfl) (by kernel_rfl) (fun c a w h => hQ c _ _ _ w h) (Or.inl ⟨wanted_none rfl, fun w hw => by simp only [execOp, fo_0, e4]; rfl⟩) hS ?_
  change wpAnyH _ _ _ _ _ _ _ (a.put (some 45) (.pointer (some ⟨z, 0, none⟩))) _
  obtain ⟨a0_1, ha1⟩ : ∃ rr : Act, rr = a.put (some 45) (.pointer (some ⟨z, 0, none⟩)) := ⟨_, rfl⟩
  have qz1 : 58 < a0_1.tmps.size := by rw [ha1, sz_put]; exact hs
  have f1_0 : a0_1.eval (.tmp 0) = vb := by rw [ha1, ev_other _ _ _ _ (by decide)]; exact e0
  have f1_4 : a0_1.eval (.tmp 4) = .pointer (some ⟨z, 0, none⟩) := by rw [ha1, ev_other _ _ _ _ (by decide)]; exact e4
  have f1_5 : a0_1.eval (.tmp 5) = .int .i64 0 := by rw [ha1, ev_other _ _ _ _ (by decide)]; exact e5
  have f1_45 : a0_1.eval (.tmp 45) = .pointer (some ⟨z, 0, none⟩) := by rw [ha1]; exact ev_same _ _ _ (Nat.lt_of_le_of_lt (by decide) hs)
  rw [← ha1] at h0 ⊢
  clear ha1
  refine wpAnyH_take (i := 1) (oi := fo_1 s) (v := .bool true) (by kernel_rfl) (by kernel_rfl) (by kernel_rfl) (by kernel_rfl) (fun c a w h => hQ c _ _ _ w h) (Or.inl ⟨wanted_none rfl, fun w hw => run_neqNil rfl f1_45 rfl w⟩) hS ?_
  change wpAnyH _ _ _ _ _ _ _ (a0_1.put (some 46) (.bool true)) _
  obtain ⟨a0_2, ha2⟩ : ∃ rr : Act, rr = a0_1.put (some 46) (.bool true) := ⟨_, rfl⟩
  have qz2 : 58 < a0_2.tmps.size := by rw [ha2, sz_put]; exact qz1
  have f2_0 : a0_2.eval (.tmp 0) = vb := by rw [ha2, ev_other _ _ _ _ (by decide)]; exact f1_0
  have f2_4 : a0_2.eval (.tmp 4) = .pointer (some ⟨z, 0, none⟩) := by rw [ha2, ev_other _ _ _ _ (by decide)]; exact f1_4
  have f2_5 : a0_2.eval (.tmp 5) = .int .i64 0 := by rw [ha2, ev_other _ _ _ _ (by decide)]; exact f1_5
  have f2_46 : a0_2.eval (.tmp 46) = .bool true := by rw [ha2]; exact ev_same _ _ _ (Nat.lt_of_le_of_lt (by decide) qz1)
  rw [← ha2] at h0 ⊢
  clear ha2
  refine wpAnyH_take (i := 2) (oi := fo_2 s) (v := .bool true) (by kernel_rfl) (by kernel_rfl) (by kernel_rfl) (by kernel_rfl) (fun c a w h => hQ c _ _ _ w h) (Or.inl ⟨wanted_none rfl, fun w hw => by simp only [execOp, fo_2, f2_46]; rfl⟩) hS ?_
  change wpAnyH _ _ _ _ _ _ _ (a0_2.put (some 47) (.bool true)) _
  obtain ⟨a0_3, ha3⟩ : ∃ rr : Act, rr = a0_2.put (some 47) (.bool true) := ⟨_, rfl⟩
  have qz3 : 58 < a0_3.tmps.size := by rw [ha3, sz_put]; exact qz2
  have f3_0 : a0_3.eval (.tmp 0) = vb := by rw [ha3, ev_other _ _ _ _ (by decide)]; exact f2_0
  have f3_4 : a0_3.eval (.tmp 4) = .pointer (some ⟨z, 0, none⟩) := by rw [ha3, ev_other _ _ _ _ (by decide)]; exact f2_4
  have f3_5 : a0_3.eval (.tmp 5) = .int .i64 0 := by rw [ha3, ev_other _ _ _ _ (by decide)]; exact f2_5
  have f3_47 : a0_3.eval (.tmp 47) = .bool true := by rw [ha3]; exact ev_same _ _ _ (Nat.lt_of_le_of_lt (by decide) qz2)
  rw [← ha3] at h0 ⊢
  clear ha3
  refine wpAnyH_take (i := 3) (oi := fo_3 s) (v := .int .i64 0) (by kernel_rfl) (by kernel_rfl) (by kernel_rfl) (by kernel_rfl) (fun c a w h => hQ c _ _ _ w h) (Or.inl ⟨wanted_some rfl (by kernel_rfl) f3_47 (Nat.lt_of_le_of_lt (by decide) qz3), fun w hw => by simp only [execOp, fo_3, f3_5]; rfl⟩) hS ?_
  change wpAnyH _ _ _ _ _ _ _ (a0_3.put (some 48) (.int .i64 0)) _
  obtain ⟨a0_4, ha4⟩ : ∃ rr : Act, rr = a0_3.put (some 48) (.int .i64 0) := ⟨_, rfl⟩
  have qz4 : 58 < a0_4.tmps.size := by rw [ha4, sz_put]; exact qz3
  have f4_0 : a0_4.eval (.tmp 0) = vb := by rw [ha4, ev_other _ _ _ _ (by decide)]; exact f3_0
  have f4_4 : a0_4.eval (.tmp 4) = .pointer (some ⟨z, 0, none⟩) := by rw [ha4, ev_other _ _ _ _ (by decide)]; exact f3_4
  have f4_47 : a0_4.eval (.tmp 47) = .bool true := by rw [ha4, ev_other _ _ _ _ (by decide)]; exact f3_47
  have f4_48 : a0_4.eval (.tmp 48) = .int .i64 0 := by rw [ha4]; exact ev_same _ _ _ (Nat.lt_of_le_of_lt (by decide) qz3)
  rw [← ha4] at h0 ⊢
  clear ha4
  refine wpAnyH_take (i := 4) (oi := fo_4 s) (v := .bool true) (by kernel_rfl) (by kernel_rfl) (by kernel_rfl) (by kernel_rfl) (fun c a w h => hQ c _ _ _ w h) (Or.inl ⟨wanted_some rfl (by kernel_rfl) f4_47 (Nat.lt_of_le_of_lt (by decide) qz4), fun w hw => run_eqZ rfl f4_48 rfl w⟩) hS ?_
  change wpAnyH _ _ _ _ _ _ _ (a0_4.put (some 49) (.bool true)) _
  obtain ⟨a0_5, ha5⟩ : ∃ rr : Act, rr = a0_4.put (some 49) (.bool true) := ⟨_, rfl⟩
  have qz5 : 58 < a0_5.tmps.size := by rw [ha5, sz_put]; exact qz4
  have f5_0 : a0_5.eval (.tmp 0) = vb := by rw [ha5, ev_other _ _ _ _ (by decide)]; exact f4_0
  have f5_4 : a0_5.eval (.tmp 4) = .pointer (some ⟨z, 0, none⟩) := by rw [ha5, ev_other _ _ _ _ (by decide)]; exact f4_4
  have f5_47 : a0_5.eval (.tmp 47) = .bool true := by rw [ha5, ev_other _ _ _ _ (by decide)]; exact f4_47
  have f5_49 : a0_5.eval (.tmp 49) = .bool true := by rw [ha5]; exact ev_same _ _ _ (Nat.lt_of_le_of_lt (by decide) qz4)
  rw [← ha5] at h0 ⊢
  clear ha5
  refine wpAnyH_take (i := 5) (oi := fo_5 s) (v := .bool true) (by kernel_rfl) (by kernel_rfl) (by kernel_rfl) (by kernel_rfl) (fun c a w h => hQ c _ _ _ w h) (Or.inl ⟨wanted_none rfl, fun w hw => by simp only [execOp, fo_5, f5_47, f5_49]; rfl⟩) hS ?_
  change wpAnyH _ _ _ _ _ _ _ (a0_5.put (some 50) (.bool true)) _
  obtain ⟨a0_6, ha6⟩ : ∃ rr : Act, rr = a0_5.put (some 50) (.bool true) := ⟨_, rfl⟩
  have qz6 : 58 < a0_6.tmps.size := by rw [ha6, sz_put]; exact qz5
  have f6_0 : a0_6.eval (.tmp 0) = vb := by rw [ha6, ev_other _ _ _ _ (by decide)]; exact f5_0
  have f6_4 : a0_6.eval (.tmp 4) = .pointer (some ⟨z, 0, none⟩) := by rw [ha6, ev_other _ _ _ _ (by decide)]; exact f5_4
  have f6_50 : a0_6.eval (.tmp 50) = .bool true := by rw [ha6]; exact ev_same _ _ _ (Nat.lt_of_le_of_lt (by decide) qz5)
  rw [← ha6] at h0 ⊢
  clear ha6
  refine wpAnyH_take (i := 6) (oi := fo_6 s) (v := .bool true) (by kernel_rfl) (by kernel_rfl) (by kernel_rfl) (by kernel_rfl) (fun c a w h => hQ c _ _ _ w h) (Or.inl ⟨wanted_none rfl, fun w hw => by simp only [execOp, fo_6, f6_50]; rfl⟩) hS ?_
  change wpAnyH _ _ _ _ _ _ _ (a0_6.put (some 51) (.bool true)) _
  obtain ⟨a0_7, ha7⟩ : ∃ rr : Act, rr = a0_6.put (some 51) (.bool true) := ⟨_, rfl⟩
  have qz7 : 58 < a0_7.tmps.size := by rw [ha7, sz_put]; exact qz6
  have f7_0 : a0_7.eval (.tmp 0) = vb := by rw [ha7, ev_other _ _ _ _ (by decide)]; exact f6_0
  have f7_4 : a0_7.eval (.tmp 4) = .pointer (some ⟨z, 0, none⟩) := by rw [ha7, ev_other _ _ _ _ (by decide)]; exact f6_4
  have f7_51 : a0_7.eval (.tmp 51) = .bool true := by rw [ha7]; exact ev_same _ _ _ (Nat.lt_of_le_of_lt (by decide) qz6)
  rw [← ha7] at h0 ⊢
  clear ha7
  refine wpAnyH_take (i := 7) (oi := fo_7 s) (v := .pointer (some ⟨z, 0, none⟩)) (by kernel_rfl) (by kernel_rfl) (by kernel_rfl) (by kernel_rfl) (fun c a w h => hQ c _ _ _ w h) (Or.inl ⟨wanted_some rfl (by kernel_rfl) f7_51 (Nat.lt_of_le_of_lt (by decide) qz7), fun w hw => by simp only [execOp, fo_7, f7_4]; rfl⟩) hS ?_
  change wpAnyH _ _ _ _ _ _ _ (a0_7.put (some 52) (.pointer (some ⟨z, 0, none⟩))) _
  obtain ⟨a0_8, ha8⟩ : ∃ rr : Act, rr = a0_7.put (some 52) (.pointer (some ⟨z, 0, none⟩)) := ⟨_, rfl⟩
  have qz8 : 58 < a0_8.tmps.size := by rw [ha8, sz_put]; exact qz7
  have f8_0 : a0_8.eval (.tmp 0) = vb := by rw [ha8, ev_other _ _ _ _ (by decide)]; exact f7_0
  have f8_51 : a0_8.eval (.tmp 51) = .bool true := by rw [ha8, ev_other _ _ _ _ (by decide)]; exact f7_51
  have f8_52 : a0_8.eval (.tmp 52) = .pointer (some ⟨z, 0, none⟩) := by rw [ha8]; exact ev_same _ _ _ (Nat.lt_of_le_of_lt (by decide) qz7)
  rw [← ha8] at h0 ⊢
  clear ha8
  refine wpAnyH_take (i := 10) (oi := fo_10 s) (v := vb) (by kernel_rfl) (by kernel_rfl) (by kernel_rfl) (by kernel_rfl) (fun c a w h => hQ c _ _ _ w h) (Or.inl ⟨wanted_some rfl (by kernel_rfl) f8_51 (Nat.lt_of_le_of_lt (by decide) qz8), fun w hw => by simp only [execOp, fo_10, f8_0]; rfl⟩) hS ?_
  change wpAnyH _ _ _ _ _ _ _ (a0_8.put (some 55) (vb)) _
  obtain ⟨a0_9, ha9⟩ : ∃ rr : Act, rr = a0_8.put (some 55) (vb) := ⟨_, rfl⟩
  have qz9 : 58 < a0_9.tmps.size := by rw [ha9, sz_put]; exact qz8
  have f9_51 : a0_9.eval (.tmp 51) = .bool true := by rw [ha9, ev_other _ _ _ _ (by decide)]; exact f8_51
  have f9_52 : a0_9.eval (.tmp 52) = .pointer (some ⟨z, 0, none⟩) := by rw [ha9, ev_other _ _ _ _ (by decide)]; exact f8_52
  have f9_55 : a0_9.eval (.tmp 55) = vb := by rw [ha9]; exact ev_same _ _ _ (Nat.lt_of_le_of_lt (by decide) qz8)
  rw [← ha9] at h0 ⊢
  clear ha9
  refine wpAnyH_take (i := 11) (oi := fo_11 s) (v := .string ⟨xs.toArray⟩) (by kernel_rfl) (by kernel_rfl) (by kernel_rfl) (by kernel_rfl) (fun c a w h => hQ c _ _ _ w h) (Or.inl ⟨wanted_some rfl (by kernel_rfl) f9_51 (Nat.lt_of_le_of_lt (by decide) qz9), fun w hw => run_conv rfl f9_55 hw⟩) hS ?_
  change wpAnyH _ _ _ _ _ _ _ (a0_9.put (some 56) (.string ⟨xs.toArray⟩)) _
  obtain ⟨a0_10, ha10⟩ : ∃ rr : Act, rr = a0_9.put (some 56) (.string ⟨xs.toArray⟩) := ⟨_, rfl⟩
  have qz10 : 58 < a0_10.tmps.size := by rw [ha10, sz_put]; exact qz9
  have f10_51 : a0_10.eval (.tmp 51) = .bool true := by rw [ha10, ev_other _ _ _ _ (by decide)]; exact f9_51
  have f10_52 : a0_10.eval (.tmp 52) = .pointer (some ⟨z, 0, none⟩) := by rw [ha10, ev_other _ _ _ _ (by decide)]; exact f9_52
  have f10_56 : a0_10.eval (.tmp 56) = .string ⟨xs.toArray⟩ := by rw [ha10]; exact ev_same _ _ _ (Nat.lt_of_le_of_lt (by decide) qz9)
  rw [← ha10] at h0 ⊢
  clear ha10
  refine wpAnyH_ready (rs := [8]) (by kernel_rfl) (by simp) ?_
  refine AllReadyH.cons (o := fo_8 s) (by kernel_rfl) (fun KQ hKQ => ?_) AllReadyH.nil
  rw [if_pos (wanted_some rfl (by kernel_rfl) f10_51 (Nat.lt_of_le_of_lt (by decide) qz10))]
  refine step_enterE 19 #[.pointer (some ⟨z, 0, none⟩)] (by rw [fo_enter8, f10_52]) (fun V w' => w'.ownsRow W.heap.size 5 1 V xs.length (xs.map u8c) ∧ Below W.heap.size W w') (hc.mono (fun e w' h => by obtain ⟨V, h1, h2, h3⟩ := h; exact ⟨V, h1, h2, ⟨h3.os, h3.tape, h3.output, h3.size, h3.block⟩⟩)) ?_
  rintro v w1 ⟨hown, hb1⟩
  have hv := conv_rd w1 v xs (Rd_owned hown)
  have hvb := conv_rdA w1 vb xs (RdA.below hb hb1)
  refine hKQ.out _ _ (hvb) (fun _ => ?_)
  clear hKQ KQ
  change wpAnyH _ _ _ _ _ _ _ (a0_10.put (some 53) (v)) _
  refine wpAnyH_mono (S' := fun W' => (convert 49 9 v).run Try.prog W' = .ok (.string ⟨xs.toArray⟩) W' ∧ (convert 49 9 vb).run Try.prog W' = .ok (.string ⟨xs.toArray⟩) W') (fun w h => h.2) _ _ _ _ ?_
  have hS11 : (fun W' => (convert 49 9 v).run Try.prog W' = .ok (.string ⟨xs.toArray⟩) W' ∧ (convert 49 9 vb).run Try.prog W' = .ok (.string ⟨xs.toArray⟩) W') _ := ⟨hv, hvb⟩
  have h0 := h0 v w1 hb1
  obtain ⟨a0_11, ha11⟩ : ∃ rr : Act, rr = a0_10.put (some 53) (v) := ⟨_, rfl⟩
  have qz11 : 58 < a0_11.tmps.size := by rw [ha11, sz_put]; exact qz10
  have f11_51 : a0_11.eval (.tmp 51) = .bool true := by rw [ha11, ev_other _ _ _ _ (by decide)]; exact f10_51
  have f11_53 : a0_11.eval (.tmp 53) = v := by rw [ha11]; exact ev_same _ _ _ (Nat.lt_of_le_of_lt (by decide) qz10)
  have f11_56 : a0_11.eval (.tmp 56) = .string ⟨xs.toArray⟩ := by rw [ha11, ev_other _ _ _ _ (by decide)]; exact f10_56
  rw [← ha11] at h0 ⊢
  clear ha11
  refine wpAnyH_take (i := 9) (oi := fo_9 s) (v := .string ⟨xs.toArray⟩) (by kernel_rfl) (by kernel_rfl) (by kernel_rfl) (by kernel_rfl) (fun c a w h => hQ c _ _ _ w h) (Or.inl ⟨wanted_some rfl (by kernel_rfl) f11_51 (Nat.lt_of_le_of_lt (by decide) qz11), fun w hw => run_conv rfl f11_53 hw.1⟩) hS11 ?_
  change wpAnyH _ _ _ _ _ _ _ (a0_11.put (some 54) (.string ⟨xs.toArray⟩)) _
  obtain ⟨a0_12, ha12⟩ : ∃ rr : Act, rr = a0_11.put (some 54) (.string ⟨xs.toArray⟩) := ⟨_, rfl⟩
  have qz12 : 58 < a0_12.tmps.size := by rw [ha12, sz_put]; exact qz11
  have f12_51 : a0_12.eval (.tmp 51) = .bool true := by rw [ha12, ev_other _ _ _ _ (by decide)]; exact f11_51
  have f12_54 : a0_12.eval (.tmp 54) = .string ⟨xs.toArray⟩ := by rw [ha12]; exact ev_same _ _ _ (Nat.lt_of_le_of_lt (by decide) qz11)
  have f12_56 : a0_12.eval (.tmp 56) = .string ⟨xs.toArray⟩ := by rw [ha12, ev_other _ _ _ _ (by decide)]; exact f11_56
  rw [← ha12] at h0 ⊢
  clear ha12
  refine wpAnyH_take (i := 12) (oi := fo_12 s) (v := .bool true) (by kernel_rfl) (by kernel_rfl) (by kernel_rfl) (by kernel_rfl) (fun c a w h => hQ c _ _ _ w h) (Or.inl ⟨wanted_some rfl (by kernel_rfl) f12_51 (Nat.lt_of_le_of_lt (by decide) qz12), fun w hw => run_eqSame rfl f12_54 f12_56 w⟩) hS11 ?_
  change wpAnyH _ _ _ _ _ _ _ (a0_12.put (some 57) (.bool true)) _
  obtain ⟨a0_13, ha13⟩ : ∃ rr : Act, rr = a0_12.put (some 57) (.bool true) := ⟨_, rfl⟩
  have qz13 : 58 < a0_13.tmps.size := by rw [ha13, sz_put]; exact qz12
  have f13_51 : a0_13.eval (.tmp 51) = .bool true := by rw [ha13, ev_other _ _ _ _ (by decide)]; exact f12_51
  have f13_57 : a0_13.eval (.tmp 57) = .bool true := by rw [ha13]; exact ev_same _ _ _ (Nat.lt_of_le_of_lt (by decide) qz12)
  rw [← ha13] at h0 ⊢
  clear ha13
  refine wpAnyH_take (i := 13) (oi := fo_13 s) (v := .bool true) (by kernel_rfl) (by kernel_rfl) (by kernel_rfl) (by kernel_rfl) (fun c a w h => hQ c _ _ _ w h) (Or.inl ⟨wanted_none rfl, fun w hw => by simp only [execOp, fo_13, f13_51, f13_57]; rfl⟩) hS11 ?_
  change wpAnyH _ _ _ _ _ _ _ (a0_13.put (some 58) (.bool true)) _
  obtain ⟨a0_14, ha14⟩ : ∃ rr : Act, rr = a0_13.put (some 58) (.bool true) := ⟨_, rfl⟩
  have qz14 : 58 < a0_14.tmps.size := by rw [ha14, sz_put]; exact qz13
  have f14_58 : a0_14.eval (.tmp 58) = .bool true := by rw [ha14]; exact ev_same _ _ _ (Nat.lt_of_le_of_lt (by decide) qz13)
  rw [← ha14] at h0 ⊢
  clear ha14
  refine wpAnyH_take (i := 14) (oi := fo_14 s) (v := .bool true) (by kernel_rfl) (by kernel_rfl) (by kernel_rfl) (by kernel_rfl) (fun c a w h => hQ c _ _ _ w h) (Or.inl ⟨wanted_none rfl, fun w hw => by simp only [execOp, fo_14, f14_58]; rfl⟩) hS11 ?_
  change wpAnyH _ _ _ _ _ _ _ (a0_14.put (some 2) (.bool true)) _
  obtain ⟨a0_15, ha15⟩ : ∃ rr : Act, rr = a0_14.put (some 2) (.bool true) := ⟨_, rfl⟩
  have qz15 : 58 < a0_15.tmps.size := by rw [ha15, sz_put]; exact qz14
  rw [← ha15] at h0 ⊢
  clear ha15
  refine wpAnyH_done (by kernel_rfl) ?_ _
  exact h0
end Go.Proofs.Ytbemmhngadpjcaa
