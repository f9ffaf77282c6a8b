/- WireApart: the last statement, which draws its order. -/
import Derived.Test.YtinjcefekbpabaaV0
namespace Go.Proofs.Ytinjcefekbpabaa
set_option linter.unusedVariables false
set_option linter.unusedSimpArgs false
open Go.RowKit

def CVS (va v1 v2 vc : Value) (ya y1 y2 : List UInt8) (W : World) : Prop :=
  (convert 28 9 va).run Try.prog W = .ok (.string ⟨ya.toArray⟩) W ∧ (convert 28 9 v1).run Try.prog W = .ok (.string ⟨y1.toArray⟩) W ∧ (convert 28 9 v2).run Try.prog W = .ok (.string ⟨y2.toArray⟩) W ∧ (convert 28 9 vc).run Try.prog W = .ok (.string ⟨(ya ++ y2).toArray⟩) W
theorem str_add (xs ys : List UInt8) : (⟨xs.toArray⟩ : ByteArray) ++ (⟨ys.toArray⟩ : ByteArray) = ⟨(xs ++ ys).toArray⟩ := by
  apply ByteArray.ext
  rw [ByteArray.data_append]
  simp
theorem run_addS {op : Oper} {ev : Operand → Value} {x y : Operand} {u : TypeId} {xs ys : List UInt8} (ho : op.op = .binOp .add 9 x y u) (hx : ev x = .string ⟨xs.toArray⟩) (hy : ev y = .string ⟨ys.toArray⟩) (hl : (xs ++ ys).length ≤ 281474976710656) (w : World) : (execOp ev op).run Try.prog w = .ok (.value (.string ⟨(xs ++ ys).toArray⟩)) w := by
  simp only [execOp, ho, hx, hy]
  rw [List.length_append] at hl
  simp [go_sem, str_add]
  omega

def v30_0 (s : String) : Oper := { dst := some 122, op := Op.call { callee := Callee.value (Operand.func 9), args := #[Operand.tmp 7], argTypes := #[27] }, type := 28, pos := s, after := #[], guard := none }
def v30_1 (s : String) : Oper := { dst := some 123, op := Op.convert 28 9 (Operand.tmp 122), type := 9, pos := s, after := #[{ on := 0, ground := Ground.data }], guard := none }
def v30_2 (s : String) : Oper := { dst := some 124, op := Op.move (Operand.tmp 8), type := 28, pos := s, after := #[], guard := none }
def v30_3 (s : String) : Oper := { dst := some 125, op := Op.convert 28 9 (Operand.tmp 124), type := 9, pos := s, after := #[{ on := 2, ground := Ground.data }], guard := none }
def v30_4 (s : String) : Oper := { dst := some 126, op := Op.move (Operand.tmp 9), type := 28, pos := s, after := #[], guard := none }
def v30_5 (s : String) : Oper := { dst := some 127, op := Op.convert 28 9 (Operand.tmp 126), type := 9, pos := s, after := #[{ on := 4, ground := Ground.data }], guard := none }
def v30_6 (s : String) : Oper := { dst := some 128, op := Op.binOp BinOp.add 9 (Operand.tmp 125) (Operand.tmp 127) 9, type := 9, pos := s, after := #[{ on := 3, ground := Ground.data }, { on := 5, ground := Ground.data }], guard := none }
def v30_7 (s : String) : Oper := { dst := some 129, op := Op.binOp BinOp.eql 9 (Operand.tmp 123) (Operand.tmp 128) 9, type := 4, pos := s, after := #[{ on := 1, ground := Ground.data }, { on := 6, ground := Ground.data }], guard := none }
def v30_8 (s : String) : Oper := { dst := some 130, op := Op.move (Operand.tmp 129), type := 4, pos := s, after := #[{ on := 7, ground := Ground.data }, { on := 0, ground := Ground.chain }], guard := none }
def v30_9 (s : String) : Oper := { dst := some 131, op := Op.call { callee := Callee.value (Operand.func 9), args := #[Operand.tmp 12], argTypes := #[27] }, type := 28, pos := s, after := #[{ on := 8, ground := Ground.chain }, { on := 8, ground := Ground.guard }], guard := some (8, true) }
def v30_10 (s : String) : Oper := { dst := some 132, op := Op.convert 28 9 (Operand.tmp 131), type := 9, pos := s, after := #[{ on := 9, ground := Ground.data }, { on := 8, ground := Ground.guard }], guard := some (8, true) }
def v30_11 (s : String) : Oper := { dst := some 133, op := Op.move (Operand.tmp 8), type := 28, pos := s, after := #[{ on := 8, ground := Ground.guard }], guard := some (8, true) }
def v30_12 (s : String) : Oper := { dst := some 134, op := Op.convert 28 9 (Operand.tmp 133), type := 9, pos := s, after := #[{ on := 11, ground := Ground.data }, { on := 8, ground := Ground.guard }], guard := some (8, true) }
def v30_13 (s : String) : Oper := { dst := some 135, op := Op.move (Operand.tmp 10), type := 28, pos := s, after := #[{ on := 8, ground := Ground.guard }], guard := some (8, true) }
def v30_14 (s : String) : Oper := { dst := some 136, op := Op.convert 28 9 (Operand.tmp 135), type := 9, pos := s, after := #[{ on := 13, ground := Ground.data }, { on := 8, ground := Ground.guard }], guard := some (8, true) }
def v30_15 (s : String) : Oper := { dst := some 137, op := Op.binOp BinOp.add 9 (Operand.tmp 134) (Operand.tmp 136) 9, type := 9, pos := s, after := #[{ on := 12, ground := Ground.data }, { on := 14, ground := Ground.data }, { on := 8, ground := Ground.guard }], guard := some (8, true) }
def v30_16 (s : String) : Oper := { dst := some 138, op := Op.binOp BinOp.eql 9 (Operand.tmp 132) (Operand.tmp 137) 9, type := 4, pos := s, after := #[{ on := 10, ground := Ground.data }, { on := 15, ground := Ground.data }, { on := 8, ground := Ground.guard }], guard := some (8, true) }
def v30_17 (s : String) : Oper := { dst := some 139, op := Op.pick (Operand.tmp 130) (Operand.tmp 138) (Operand.const (Value.bool false)), type := 4, pos := s, after := #[{ on := 8, ground := Ground.data }, { on := 16, ground := Ground.data }], guard := none }
def v30_18 (s : String) : Oper := { dst := some 140, op := Op.move (Operand.tmp 139), type := 4, pos := s, after := #[{ on := 17, ground := Ground.data }, { on := 9, ground := Ground.chain }], guard := none }
def v30_19 (s : String) : Oper := { dst := some 141, op := Op.move (Operand.tmp 15), type := 28, pos := s, after := #[{ on := 18, ground := Ground.guard }], guard := some (18, true) }
def v30_20 (s : String) : Oper := { dst := some 142, op := Op.convert 28 9 (Operand.tmp 141), type := 9, pos := s, after := #[{ on := 19, ground := Ground.data }, { on := 18, ground := Ground.guard }], guard := some (18, true) }
def v30_21 (s : String) : Oper := { dst := some 143, op := Op.move (Operand.tmp 8), type := 28, pos := s, after := #[{ on := 18, ground := Ground.guard }], guard := some (18, true) }
def v30_22 (s : String) : Oper := { dst := some 144, op := Op.convert 28 9 (Operand.tmp 143), type := 9, pos := s, after := #[{ on := 21, ground := Ground.data }, { on := 18, ground := Ground.guard }], guard := some (18, true) }
def v30_23 (s : String) : Oper := { dst := some 145, op := Op.move (Operand.tmp 10), type := 28, pos := s, after := #[{ on := 18, ground := Ground.guard }], guard := some (18, true) }
def v30_24 (s : String) : Oper := { dst := some 146, op := Op.convert 28 9 (Operand.tmp 145), type := 9, pos := s, after := #[{ on := 23, ground := Ground.data }, { on := 18, ground := Ground.guard }], guard := some (18, true) }
def v30_25 (s : String) : Oper := { dst := some 147, op := Op.binOp BinOp.add 9 (Operand.tmp 144) (Operand.tmp 146) 9, type := 9, pos := s, after := #[{ on := 22, ground := Ground.data }, { on := 24, ground := Ground.data }, { on := 18, ground := Ground.guard }], guard := some (18, true) }
def v30_26 (s : String) : Oper := { dst := some 148, op := Op.binOp BinOp.eql 9 (Operand.tmp 142) (Operand.tmp 147) 9, type := 4, pos := s, after := #[{ on := 20, ground := Ground.data }, { on := 25, ground := Ground.data }, { on := 18, ground := Ground.guard }], guard := some (18, true) }
def v30_27 (s : String) : Oper := { dst := some 149, op := Op.pick (Operand.tmp 140) (Operand.tmp 148) (Operand.const (Value.bool false)), type := 4, pos := s, after := #[{ on := 18, ground := Ground.data }, { on := 26, ground := Ground.data }], guard := none }
def v30_28 (s : String) : Oper := { dst := some 6, op := Op.assign (Operand.tmp 149), type := 4, pos := s, after := #[{ on := 27, ground := Ground.data }, { on := 18, ground := Ground.chain }, { on := 0, ground := Ground.phase }, { on := 1, ground := Ground.phase }, { on := 2, ground := Ground.phase }, { on := 3, ground := Ground.phase }, { on := 4, ground := Ground.phase }, { on := 5, ground := Ground.phase }, { on := 6, ground := Ground.phase }, { on := 7, ground := Ground.phase }, { on := 8, ground := Ground.phase }, { on := 9, ground := Ground.phase }, { on := 10, ground := Ground.phase }, { on := 11, ground := Ground.phase }, { on := 12, ground := Ground.phase }, { on := 13, ground := Ground.phase }, { on := 14, ground := Ground.phase }, { on := 15, ground := Ground.phase }, { on := 16, ground := Ground.phase }, { on := 17, ground := Ground.phase }, { on := 18, ground := Ground.phase }, { on := 19, ground := Ground.phase }, { on := 20, ground := Ground.phase }, { on := 21, ground := Ground.phase }, { on := 22, ground := Ground.phase }, { on := 23, ground := Ground.phase }, { on := 24, ground := Ground.phase }, { on := 25, ground := Ground.phase }, { on := 26, ground := Ground.phase }, { on := 27, ground := Ground.phase }], guard := none }
def v30_ops (s : String) : Array Oper := #[v30_0 s, v30_1 s, v30_2 s, v30_3 s, v30_4 s, v30_5 s, v30_6 s, v30_7 s, v30_8 s, v30_9 s, v30_10 s, v30_11 s, v30_12 s, v30_13 s, v30_14 s, v30_15 s, v30_16 s, v30_17 s, v30_18 s, v30_19 s, v30_20 s, v30_21 s, v30_22 s, v30_23 s, v30_24 s, v30_25 s, v30_26 s, v30_27 s, v30_28 s]
theorem v30_enter0 (s : String) (a : Act) (w : World) : (execOp a.eval (v30_0 s)).run Try.prog w = .ok (.enter 9 #[a.eval (.tmp 7)]) w := by kernel_rfl
theorem v30_enter9 (s : String) (a : Act) (w : World) : (execOp a.eval (v30_9 s)).run Try.prog w = .ok (.enter 9 #[a.eval (.tmp 12)]) w := by kernel_rfl
theorem v30_walk (s : String) {Q : Exit → Act → World → Prop} (hQ : ∀ c (a : Act) t v w, Q (.panic c) (a.put (some t) v) w → Q (.panic c) a w) (W : World) (X : Nat → Prop) (z z2 : Nat) (ya y1 y2 : List UInt8) (va v1 v2 vc : Value) (hE1 : EncSt W X z (ya ++ y1)) (hE2 : EncSt W X z2 (ya ++ y2)) (hl1 : (ya ++ y1).length ≤ 281474976710656) (hl2 : (ya ++ y2).length ≤ 281474976710656) (hra : RdA W va ya) (hr1 : RdA W v1 y1) (hr2 : RdA W v2 y2) (hrc : RdA W vc (ya ++ y2))
    (a : Act) (hs : 149 < a.tmps.size) (e7 : a.eval (.tmp 7) = .pointer (some ⟨z, 0, none⟩)) (e8 : a.eval (.tmp 8) = va) (e9 : a.eval (.tmp 9) = v1) (e10 : a.eval (.tmp 10) = v2) (e12 : a.eval (.tmp 12) = .pointer (some ⟨z2, 0, none⟩)) (e15 : a.eval (.tmp 15) = vc)
    (h : ∀ vb v9 w2, Below W.heap.size W w2 → Q .normal (((((((((((((((((((((((((((((a.put (some 124) (va)).put (some 125) (.string ⟨ya.toArray⟩)).put (some 126) (v1)).put (some 127) (.string ⟨y1.toArray⟩)).put (some 128) (.string ⟨(ya ++ y1).toArray⟩)).put (some 122) (vb)).put (some 123) (.string ⟨(ya ++ y1).toArray⟩)).put (some 129) (.bool true)).put (some 130) (.bool true)).put (some 133) (va)).put (some 134) (.string ⟨ya.toArray⟩)).put (some 135) (v2)).put (some 136) (.string ⟨y2.toArray⟩)).put (some 137) (.string ⟨(ya ++ y2).toArray⟩)).put (some 131) (v9)).put (some 132) (.string ⟨(ya ++ y2).toArray⟩)).put (some 138) (.bool true)).put (some 139) (.bool true)).put (some 140) (.bool true)).put (some 141) (vc)).put (some 142) (.string ⟨(ya ++ y2).toArray⟩)).put (some 143) (va)).put (some 144) (.string ⟨ya.toArray⟩)).put (some 145) (v2)).put (some 146) (.string ⟨y2.toArray⟩)).put (some 147) (.string ⟨(ya ++ y2).toArray⟩)).put (some 148) (.bool true)).put (some 149) (.bool true)).put (some 6) (.bool true)) w2) :
    Code.wp Try.prog (.region 30 (v30_ops s) true) Q a W := by
  refine wp_region_held_drew (S := CVS va v1 v2 vc ya y1 y2) (by kernel_rfl) ⟨conv_rdA _ _ _ hra, conv_rdA _ _ _ hr1, conv_rdA _ _ _ hr2, conv_rdA _ _ _ hrc⟩ (fun hS => ?_)
  change wpAnyH _ _ _ _ _ _ _ _ (World.drew _)
  refine wpAnyH_take (i := 2) (oi := v30_2 s) (v := va) (by kernel_rfl) (by kernel_rfl) (by kernel_rfl) (by kernel_rfl) (fun c a w h => hQ c _ _ _ w h) (Or.inl ⟨wanted_none rfl, fun w hw => by simp only [execOp, v30_2, e8]; rfl⟩) hS ?_
  change wpAnyH _ _ _ _ _ _ _ (a.put (some 124) (va)) _
  obtain ⟨a1, ha1⟩ : ∃ rr : Act, rr = a.put (some 124) (va) := ⟨_, rfl⟩
  have qz1 : 149 < a1.tmps.size := by rw [ha1, sz_put]; exact hs
  have f1_7 : a1.eval (.tmp 7) = .pointer (some ⟨z, 0, none⟩) := by rw [ha1, ev_other _ _ _ _ (by decide)]; exact e7
  have f1_8 : a1.eval (.tmp 8) = va := by rw [ha1, ev_other _ _ _ _ (by decide)]; exact e8
  have f1_9 : a1.eval (.tmp 9) = v1 := by rw [ha1, ev_other _ _ _ _ (by decide)]; exact e9
  have f1_10 : a1.eval (.tmp 10) = v2 := by rw [ha1, ev_other _ _ _ _ (by decide)]; exact e10
  have f1_12 : a1.eval (.tmp 12) = .pointer (some ⟨z2, 0, none⟩) := by rw [ha1, ev_other _ _ _ _ (by decide)]; exact e12
  have f1_15 : a1.eval (.tmp 15) = vc := by rw [ha1, ev_other _ _ _ _ (by decide)]; exact e15
  have f1_124 : a1.eval (.tmp 124) = va := by rw [ha1]; exact ev_same _ _ _ (Nat.lt_of_le_of_lt (by decide) hs)
  rw [← ha1] at h ⊢
  clear ha1
  refine wpAnyH_take (i := 3) (oi := v30_3 s) (v := .string ⟨ya.toArray⟩) (by kernel_rfl) (by kernel_rfl) (by kernel_rfl) (by kernel_rfl) (fun c a w h => hQ c _ _ _ w h) (Or.inl ⟨wanted_none rfl, fun w hw => run_conv rfl f1_124 hw.1⟩) hS ?_
  change wpAnyH _ _ _ _ _ _ _ (a1.put (some 125) (.string ⟨ya.toArray⟩)) _
  obtain ⟨a2, ha2⟩ : ∃ rr : Act, rr = a1.put (some 125) (.string ⟨ya.toArray⟩) := ⟨_, rfl⟩
  have qz2 : 149 < a2.tmps.size := by rw [ha2, sz_put]; exact qz1
  have f2_7 : a2.eval (.tmp 7) = .pointer (some ⟨z, 0, none⟩) := by rw [ha2, ev_other _ _ _ _ (by decide)]; exact f1_7
  have f2_8 : a2.eval (.tmp 8) = va := by rw [ha2, ev_other _ _ _ _ (by decide)]; exact f1_8
  have f2_9 : a2.eval (.tmp 9) = v1 := by rw [ha2, ev_other _ _ _ _ (by decide)]; exact f1_9
  have f2_10 : a2.eval (.tmp 10) = v2 := by rw [ha2, ev_other _ _ _ _ (by decide)]; exact f1_10
  have f2_12 : a2.eval (.tmp 12) = .pointer (some ⟨z2, 0, none⟩) := by rw [ha2, ev_other _ _ _ _ (by decide)]; exact f1_12
  have f2_15 : a2.eval (.tmp 15) = vc := by rw [ha2, ev_other _ _ _ _ (by decide)]; exact f1_15
  have f2_125 : a2.eval (.tmp 125) = .string ⟨ya.toArray⟩ := by rw [ha2]; exact ev_same _ _ _ (Nat.lt_of_le_of_lt (by decide) qz1)
  rw [← ha2] at h ⊢
  clear ha2
  refine wpAnyH_take (i := 4) (oi := v30_4 s) (v := v1) (by kernel_rfl) (by kernel_rfl) (by kernel_rfl) (by kernel_rfl) (fun c a w h => hQ c _ _ _ w h) (Or.inl ⟨wanted_none rfl, fun w hw => by simp only [execOp, v30_4, f2_9]; rfl⟩) hS ?_
  change wpAnyH _ _ _ _ _ _ _ (a2.put (some 126) (v1)) _
  obtain ⟨a3, ha3⟩ : ∃ rr : Act, rr = a2.put (some 126) (v1) := ⟨_, rfl⟩
  have qz3 : 149 < a3.tmps.size := by rw [ha3, sz_put]; exact qz2
  have f3_7 : a3.eval (.tmp 7) = .pointer (some ⟨z, 0, none⟩) := by rw [ha3, ev_other _ _ _ _ (by decide)]; exact f2_7
  have f3_8 : a3.eval (.tmp 8) = va := by rw [ha3, ev_other _ _ _ _ (by decide)]; exact f2_8
  have f3_10 : a3.eval (.tmp 10) = v2 := by rw [ha3, ev_other _ _ _ _ (by decide)]; exact f2_10
  have f3_12 : a3.eval (.tmp 12) = .pointer (some ⟨z2, 0, none⟩) := by rw [ha3, ev_other _ _ _ _ (by decide)]; exact f2_12
  have f3_15 : a3.eval (.tmp 15) = vc := by rw [ha3, ev_other _ _ _ _ (by decide)]; exact f2_15
  have f3_125 : a3.eval (.tmp 125) = .string ⟨ya.toArray⟩ := by rw [ha3, ev_other _ _ _ _ (by decide)]; exact f2_125
  have f3_126 : a3.eval (.tmp 126) = v1 := by rw [ha3]; exact ev_same _ _ _ (Nat.lt_of_le_of_lt (by decide) qz2)
  rw [← ha3] at h ⊢
  clear ha3
  refine wpAnyH_take (i := 5) (oi := v30_5 s) (v := .string ⟨y1.toArray⟩) (by kernel_rfl) (by kernel_rfl) (by kernel_rfl) (by kernel_rfl) (fun c a w h => hQ c _ _ _ w h) (Or.inl ⟨wanted_none rfl, fun w hw => run_conv rfl f3_126 hw.2.1⟩) hS ?_
  change wpAnyH _ _ _ _ _ _ _ (a3.put (some 127) (.string ⟨y1.toArray⟩)) _
  obtain ⟨a4, ha4⟩ : ∃ rr : Act, rr = a3.put (some 127) (.string ⟨y1.toArray⟩) := ⟨_, rfl⟩
  have qz4 : 149 < a4.tmps.size := by rw [ha4, sz_put]; exact qz3
  have f4_7 : a4.eval (.tmp 7) = .pointer (some ⟨z, 0, none⟩) := by rw [ha4, ev_other _ _ _ _ (by decide)]; exact f3_7
  have f4_8 : a4.eval (.tmp 8) = va := by rw [ha4, ev_other _ _ _ _ (by decide)]; exact f3_8
  have f4_10 : a4.eval (.tmp 10) = v2 := by rw [ha4, ev_other _ _ _ _ (by decide)]; exact f3_10
  have f4_12 : a4.eval (.tmp 12) = .pointer (some ⟨z2, 0, none⟩) := by rw [ha4, ev_other _ _ _ _ (by decide)]; exact f3_12
  have f4_15 : a4.eval (.tmp 15) = vc := by rw [ha4, ev_other _ _ _ _ (by decide)]; exact f3_15
  have f4_125 : a4.eval (.tmp 125) = .string ⟨ya.toArray⟩ := by rw [ha4, ev_other _ _ _ _ (by decide)]; exact f3_125
  have f4_127 : a4.eval (.tmp 127) = .string ⟨y1.toArray⟩ := by rw [ha4]; exact ev_same _ _ _ (Nat.lt_of_le_of_lt (by decide) qz3)
  rw [← ha4] at h ⊢
  clear ha4
  refine wpAnyH_take (i := 6) (oi := v30_6 s) (v := .string ⟨(ya ++ y1).toArray⟩) (by kernel_rfl) (by kernel_rfl) (by kernel_rfl) (by kernel_rfl) (fun c a w h => hQ c _ _ _ w h) (Or.inl ⟨wanted_none rfl, fun w hw => run_addS rfl f4_125 f4_127 hl1 w⟩) hS ?_
  change wpAnyH _ _ _ _ _ _ _ (a4.put (some 128) (.string ⟨(ya ++ y1).toArray⟩)) _
  obtain ⟨a5, ha5⟩ : ∃ rr : Act, rr = a4.put (some 128) (.string ⟨(ya ++ y1).toArray⟩) := ⟨_, rfl⟩
  have qz5 : 149 < a5.tmps.size := by rw [ha5, sz_put]; exact qz4
  have f5_7 : a5.eval (.tmp 7) = .pointer (some ⟨z, 0, none⟩) := by rw [ha5, ev_other _ _ _ _ (by decide)]; exact f4_7
  have f5_8 : a5.eval (.tmp 8) = va := by rw [ha5, ev_other _ _ _ _ (by decide)]; exact f4_8
  have f5_10 : a5.eval (.tmp 10) = v2 := by rw [ha5, ev_other _ _ _ _ (by decide)]; exact f4_10
  have f5_12 : a5.eval (.tmp 12) = .pointer (some ⟨z2, 0, none⟩) := by rw [ha5, ev_other _ _ _ _ (by decide)]; exact f4_12
  have f5_15 : a5.eval (.tmp 15) = vc := by rw [ha5, ev_other _ _ _ _ (by decide)]; exact f4_15
  have f5_128 : a5.eval (.tmp 128) = .string ⟨(ya ++ y1).toArray⟩ := by rw [ha5]; exact ev_same _ _ _ (Nat.lt_of_le_of_lt (by decide) qz4)
  rw [← ha5] at h ⊢
  clear ha5
  refine wpAnyH_ready (rs := [0]) (by kernel_rfl) (by simp) ?_
  refine AllReadyH.cons (o := v30_0 s) (by kernel_rfl) (fun KQ hKQ => ?_) AllReadyH.nil
  rw [if_pos (wanted_none rfl)]
  refine step_enterE 9 #[.pointer (some ⟨z, 0, none⟩)] (by rw [v30_enter0, f5_7]) (fun V w' => w'.ownsRow W.heap.size 5 1 V (ya ++ y1).length ((ya ++ y1).map u8c) ∧ Below W.heap.size W w') ((ebytes_enc W.drew X z (ya ++ y1) hE1.drew hl1).mono (fun e w' h => by obtain ⟨V, h1, h2, h3⟩ := h; exact ⟨V, h1, h2, ⟨h3.os, h3.tape, h3.output, h3.size, h3.block⟩⟩)) ?_
  rintro vb w1 ⟨hown, hb1⟩
  have hv := conv_rd w1 vb _ (Rd_owned hown)
  have hSS : CVS va v1 v2 vc ya y1 y2 w1 := ⟨conv_rdA w1 _ _ (hra.below hb1), conv_rdA w1 _ _ (hr1.below hb1), conv_rdA w1 _ _ (hr2.below hb1), conv_rdA w1 _ _ (hrc.below hb1)⟩
  refine hKQ.out _ _ (hSS) (fun _ => ?_)
  clear hKQ KQ
  change wpAnyH _ _ _ _ _ _ _ (a5.put (some 122) (vb)) _
  refine wpAnyH_mono (S' := fun W' => CVS va v1 v2 vc ya y1 y2 W' ∧ (convert 28 9 vb).run Try.prog W' = .ok (.string ⟨(ya ++ y1).toArray⟩) W') (fun w h => h.1) _ _ _ _ ?_
  have hS5 : (fun W' => CVS va v1 v2 vc ya y1 y2 W' ∧ (convert 28 9 vb).run Try.prog W' = .ok (.string ⟨(ya ++ y1).toArray⟩) W') _ := ⟨hSS, hv⟩
  have h := h vb
  obtain ⟨a6, ha6⟩ : ∃ rr : Act, rr = a5.put (some 122) (vb) := ⟨_, rfl⟩
  have qz6 : 149 < a6.tmps.size := by rw [ha6, sz_put]; exact qz5
  have f6_8 : a6.eval (.tmp 8) = va := by rw [ha6, ev_other _ _ _ _ (by decide)]; exact f5_8
  have f6_10 : a6.eval (.tmp 10) = v2 := by rw [ha6, ev_other _ _ _ _ (by decide)]; exact f5_10
  have f6_12 : a6.eval (.tmp 12) = .pointer (some ⟨z2, 0, none⟩) := by rw [ha6, ev_other _ _ _ _ (by decide)]; exact f5_12
  have f6_15 : a6.eval (.tmp 15) = vc := by rw [ha6, ev_other _ _ _ _ (by decide)]; exact f5_15
  have f6_122 : a6.eval (.tmp 122) = vb := by rw [ha6]; exact ev_same _ _ _ (Nat.lt_of_le_of_lt (by decide) qz5)
  have f6_128 : a6.eval (.tmp 128) = .string ⟨(ya ++ y1).toArray⟩ := by rw [ha6, ev_other _ _ _ _ (by decide)]; exact f5_128
  rw [← ha6] at h ⊢
  clear ha6
  refine wpAnyH_take (i := 1) (oi := v30_1 s) (v := .string ⟨(ya ++ y1).toArray⟩) (by kernel_rfl) (by kernel_rfl) (by kernel_rfl) (by kernel_rfl) (fun c a w h => hQ c _ _ _ w h) (Or.inl ⟨wanted_none rfl, fun w hw => run_conv rfl f6_122 hw.2⟩) hS5 ?_
  change wpAnyH _ _ _ _ _ _ _ (a6.put (some 123) (.string ⟨(ya ++ y1).toArray⟩)) _
  obtain ⟨a7, ha7⟩ : ∃ rr : Act, rr = a6.put (some 123) (.string ⟨(ya ++ y1).toArray⟩) := ⟨_, rfl⟩
  have qz7 : 149 < a7.tmps.size := by rw [ha7, sz_put]; exact qz6
  have f7_8 : a7.eval (.tmp 8) = va := by rw [ha7, ev_other _ _ _ _ (by decide)]; exact f6_8
  have f7_10 : a7.eval (.tmp 10) = v2 := by rw [ha7, ev_other _ _ _ _ (by decide)]; exact f6_10
  have f7_12 : a7.eval (.tmp 12) = .pointer (some ⟨z2, 0, none⟩) := by rw [ha7, ev_other _ _ _ _ (by decide)]; exact f6_12
  have f7_15 : a7.eval (.tmp 15) = vc := by rw [ha7, ev_other _ _ _ _ (by decide)]; exact f6_15
  have f7_123 : a7.eval (.tmp 123) = .string ⟨(ya ++ y1).toArray⟩ := by rw [ha7]; exact ev_same _ _ _ (Nat.lt_of_le_of_lt (by decide) qz6)
  have f7_128 : a7.eval (.tmp 128) = .string ⟨(ya ++ y1).toArray⟩ := by rw [ha7, ev_other _ _ _ _ (by decide)]; exact f6_128
  rw [← ha7] at h ⊢
  clear ha7
  refine wpAnyH_take (i := 7) (oi := v30_7 s) (v := .bool true) (by kernel_rfl) (by kernel_rfl) (by kernel_rfl) (by kernel_rfl) (fun c a w h => hQ c _ _ _ w h) (Or.inl ⟨wanted_none rfl, fun w hw => run_eqSame rfl f7_123 f7_128 w⟩) hS5 ?_
  change wpAnyH _ _ _ _ _ _ _ (a7.put (some 129) (.bool true)) _
  obtain ⟨a8, ha8⟩ : ∃ rr : Act, rr = a7.put (some 129) (.bool true) := ⟨_, rfl⟩
  have qz8 : 149 < a8.tmps.size := by rw [ha8, sz_put]; exact qz7
  have f8_8 : a8.eval (.tmp 8) = va := by rw [ha8, ev_other _ _ _ _ (by decide)]; exact f7_8
  have f8_10 : a8.eval (.tmp 10) = v2 := by rw [ha8, ev_other _ _ _ _ (by decide)]; exact f7_10
  have f8_12 : a8.eval (.tmp 12) = .pointer (some ⟨z2, 0, none⟩) := by rw [ha8, ev_other _ _ _ _ (by decide)]; exact f7_12
  have f8_15 : a8.eval (.tmp 15) = vc := by rw [ha8, ev_other _ _ _ _ (by decide)]; exact f7_15
  have f8_129 : a8.eval (.tmp 129) = .bool true := by rw [ha8]; exact ev_same _ _ _ (Nat.lt_of_le_of_lt (by decide) qz7)
  rw [← ha8] at h ⊢
  clear ha8
  refine wpAnyH_take (i := 8) (oi := v30_8 s) (v := .bool true) (by kernel_rfl) (by kernel_rfl) (by kernel_rfl) (by kernel_rfl) (fun c a w h => hQ c _ _ _ w h) (Or.inl ⟨wanted_none rfl, fun w hw => by simp only [execOp, v30_8, f8_129]; rfl⟩) hS5 ?_
  change wpAnyH _ _ _ _ _ _ _ (a8.put (some 130) (.bool true)) _
  obtain ⟨a9, ha9⟩ : ∃ rr : Act, rr = a8.put (some 130) (.bool true) := ⟨_, rfl⟩
  have qz9 : 149 < a9.tmps.size := by rw [ha9, sz_put]; exact qz8
  have f9_8 : a9.eval (.tmp 8) = va := by rw [ha9, ev_other _ _ _ _ (by decide)]; exact f8_8
  have f9_10 : a9.eval (.tmp 10) = v2 := by rw [ha9, ev_other _ _ _ _ (by decide)]; exact f8_10
  have f9_12 : a9.eval (.tmp 12) = .pointer (some ⟨z2, 0, none⟩) := by rw [ha9, ev_other _ _ _ _ (by decide)]; exact f8_12
  have f9_15 : a9.eval (.tmp 15) = vc := by rw [ha9, ev_other _ _ _ _ (by decide)]; exact f8_15
  have f9_130 : a9.eval (.tmp 130) = .bool true := by rw [ha9]; exact ev_same _ _ _ (Nat.lt_of_le_of_lt (by decide) qz8)
  rw [← ha9] at h ⊢
  clear ha9
  refine wpAnyH_take (i := 11) (oi := v30_11 s) (v := va) (by kernel_rfl) (by kernel_rfl) (by kernel_rfl) (by kernel_rfl) (fun c a w h => hQ c _ _ _ w h) (Or.inl ⟨wanted_some rfl (by kernel_rfl) f9_130 (Nat.lt_of_le_of_lt (by decide) qz9), fun w hw => by simp only [execOp, v30_11, f9_8]; rfl⟩) hS5 ?_
  change wpAnyH _ _ _ _ _ _ _ (a9.put (some 133) (va)) _
  obtain ⟨a10, ha10⟩ : ∃ rr : Act, rr = a9.put (some 133) (va) := ⟨_, rfl⟩
  have qz10 : 149 < a10.tmps.size := by rw [ha10, sz_put]; exact qz9
  have f10_8 : a10.eval (.tmp 8) = va := by rw [ha10, ev_other _ _ _ _ (by decide)]; exact f9_8
  have f10_10 : a10.eval (.tmp 10) = v2 := by rw [ha10, ev_other _ _ _ _ (by decide)]; exact f9_10
  have f10_12 : a10.eval (.tmp 12) = .pointer (some ⟨z2, 0, none⟩) := by rw [ha10, ev_other _ _ _ _ (by decide)]; exact f9_12
  have f10_15 : a10.eval (.tmp 15) = vc := by rw [ha10, ev_other _ _ _ _ (by decide)]; exact f9_15
  have f10_130 : a10.eval (.tmp 130) = .bool true := by rw [ha10, ev_other _ _ _ _ (by decide)]; exact f9_130
  have f10_133 : a10.eval (.tmp 133) = va := by rw [ha10]; exact ev_same _ _ _ (Nat.lt_of_le_of_lt (by decide) qz9)
  rw [← ha10] at h ⊢
  clear ha10
  refine wpAnyH_take (i := 12) (oi := v30_12 s) (v := .string ⟨ya.toArray⟩) (by kernel_rfl) (by kernel_rfl) (by kernel_rfl) (by kernel_rfl) (fun c a w h => hQ c _ _ _ w h) (Or.inl ⟨wanted_some rfl (by kernel_rfl) f10_130 (Nat.lt_of_le_of_lt (by decide) qz10), fun w hw => run_conv rfl f10_133 hw.1.1⟩) hS5 ?_
  change wpAnyH _ _ _ _ _ _ _ (a10.put (some 134) (.string ⟨ya.toArray⟩)) _
  obtain ⟨a11, ha11⟩ : ∃ rr : Act, rr = a10.put (some 134) (.string ⟨ya.toArray⟩) := ⟨_, rfl⟩
  have qz11 : 149 < a11.tmps.size := by rw [ha11, sz_put]; exact qz10
  have f11_8 : a11.eval (.tmp 8) = va := by rw [ha11, ev_other _ _ _ _ (by decide)]; exact f10_8
  have f11_10 : a11.eval (.tmp 10) = v2 := by rw [ha11, ev_other _ _ _ _ (by decide)]; exact f10_10
  have f11_12 : a11.eval (.tmp 12) = .pointer (some ⟨z2, 0, none⟩) := by rw [ha11, ev_other _ _ _ _ (by decide)]; exact f10_12
  have f11_15 : a11.eval (.tmp 15) = vc := by rw [ha11, ev_other _ _ _ _ (by decide)]; exact f10_15
  have f11_130 : a11.eval (.tmp 130) = .bool true := by rw [ha11, ev_other _ _ _ _ (by decide)]; exact f10_130
  have f11_134 : a11.eval (.tmp 134) = .string ⟨ya.toArray⟩ := by rw [ha11]; exact ev_same _ _ _ (Nat.lt_of_le_of_lt (by decide) qz10)
  rw [← ha11] at h ⊢
  clear ha11
  refine wpAnyH_take (i := 13) (oi := v30_13 s) (v := v2) (by kernel_rfl) (by kernel_rfl) (by kernel_rfl) (by kernel_rfl) (fun c a w h => hQ c _ _ _ w h) (Or.inl ⟨wanted_some rfl (by kernel_rfl) f11_130 (Nat.lt_of_le_of_lt (by decide) qz11), fun w hw => by simp only [execOp, v30_13, f11_10]; rfl⟩) hS5 ?_
  change wpAnyH _ _ _ _ _ _ _ (a11.put (some 135) (v2)) _
  obtain ⟨a12, ha12⟩ : ∃ rr : Act, rr = a11.put (some 135) (v2) := ⟨_, rfl⟩
  have qz12 : 149 < a12.tmps.size := by rw [ha12, sz_put]; exact qz11
  have f12_8 : a12.eval (.tmp 8) = va := by rw [ha12, ev_other _ _ _ _ (by decide)]; exact f11_8
  have f12_10 : a12.eval (.tmp 10) = v2 := by rw [ha12, ev_other _ _ _ _ (by decide)]; exact f11_10
  have f12_12 : a12.eval (.tmp 12) = .pointer (some ⟨z2, 0, none⟩) := by rw [ha12, ev_other _ _ _ _ (by decide)]; exact f11_12
  have f12_15 : a12.eval (.tmp 15) = vc := by rw [ha12, ev_other _ _ _ _ (by decide)]; exact f11_15
  have f12_130 : a12.eval (.tmp 130) = .bool true := by rw [ha12, ev_other _ _ _ _ (by decide)]; exact f11_130
  have f12_134 : a12.eval (.tmp 134) = .string ⟨ya.toArray⟩ := by rw [ha12, ev_other _ _ _ _ (by decide)]; exact f11_134
  have f12_135 : a12.eval (.tmp 135) = v2 := by rw [ha12]; exact ev_same _ _ _ (Nat.lt_of_le_of_lt (by decide) qz11)
  rw [← ha12] at h ⊢
  clear ha12
  refine wpAnyH_take (i := 14) (oi := v30_14 s) (v := .string ⟨y2.toArray⟩) (by kernel_rfl) (by kernel_rfl) (by kernel_rfl) (by kernel_rfl) (fun c a w h => hQ c _ _ _ w h) (Or.inl ⟨wanted_some rfl (by kernel_rfl) f12_130 (Nat.lt_of_le_of_lt (by decide) qz12), fun w hw => run_conv rfl f12_135 hw.1.2.2.1⟩) hS5 ?_
  change wpAnyH _ _ _ _ _ _ _ (a12.put (some 136) (.string ⟨y2.toArray⟩)) _
  obtain ⟨a13, ha13⟩ : ∃ rr : Act, rr = a12.put (some 136) (.string ⟨y2.toArray⟩) := ⟨_, rfl⟩
  have qz13 : 149 < a13.tmps.size := by rw [ha13, sz_put]; exact qz12
  have f13_8 : a13.eval (.tmp 8) = va := by rw [ha13, ev_other _ _ _ _ (by decide)]; exact f12_8
  have f13_10 : a13.eval (.tmp 10) = v2 := by rw [ha13, ev_other _ _ _ _ (by decide)]; exact f12_10
  have f13_12 : a13.eval (.tmp 12) = .pointer (some ⟨z2, 0, none⟩) := by rw [ha13, ev_other _ _ _ _ (by decide)]; exact f12_12
  have f13_15 : a13.eval (.tmp 15) = vc := by rw [ha13, ev_other _ _ _ _ (by decide)]; exact f12_15
  have f13_130 : a13.eval (.tmp 130) = .bool true := by rw [ha13, ev_other _ _ _ _ (by decide)]; exact f12_130
  have f13_134 : a13.eval (.tmp 134) = .string ⟨ya.toArray⟩ := by rw [ha13, ev_other _ _ _ _ (by decide)]; exact f12_134
  have f13_136 : a13.eval (.tmp 136) = .string ⟨y2.toArray⟩ := by rw [ha13]; exact ev_same _ _ _ (Nat.lt_of_le_of_lt (by decide) qz12)
  rw [← ha13] at h ⊢
  clear ha13
  refine wpAnyH_take (i := 15) (oi := v30_15 s) (v := .string ⟨(ya ++ y2).toArray⟩) (by kernel_rfl) (by kernel_rfl) (by kernel_rfl) (by kernel_rfl) (fun c a w h => hQ c _ _ _ w h) (Or.inl ⟨wanted_some rfl (by kernel_rfl) f13_130 (Nat.lt_of_le_of_lt (by decide) qz13), fun w hw => run_addS rfl f13_134 f13_136 hl2 w⟩) hS5 ?_
  change wpAnyH _ _ _ _ _ _ _ (a13.put (some 137) (.string ⟨(ya ++ y2).toArray⟩)) _
  obtain ⟨a14, ha14⟩ : ∃ rr : Act, rr = a13.put (some 137) (.string ⟨(ya ++ y2).toArray⟩) := ⟨_, rfl⟩
  have qz14 : 149 < a14.tmps.size := by rw [ha14, sz_put]; exact qz13
  have f14_8 : a14.eval (.tmp 8) = va := by rw [ha14, ev_other _ _ _ _ (by decide)]; exact f13_8
  have f14_10 : a14.eval (.tmp 10) = v2 := by rw [ha14, ev_other _ _ _ _ (by decide)]; exact f13_10
  have f14_12 : a14.eval (.tmp 12) = .pointer (some ⟨z2, 0, none⟩) := by rw [ha14, ev_other _ _ _ _ (by decide)]; exact f13_12
  have f14_15 : a14.eval (.tmp 15) = vc := by rw [ha14, ev_other _ _ _ _ (by decide)]; exact f13_15
  have f14_130 : a14.eval (.tmp 130) = .bool true := by rw [ha14, ev_other _ _ _ _ (by decide)]; exact f13_130
  have f14_137 : a14.eval (.tmp 137) = .string ⟨(ya ++ y2).toArray⟩ := by rw [ha14]; exact ev_same _ _ _ (Nat.lt_of_le_of_lt (by decide) qz13)
  rw [← ha14] at h ⊢
  clear ha14
  refine wpAnyH_ready (rs := [9]) (by kernel_rfl) (by simp) ?_
  refine AllReadyH.cons (o := v30_9 s) (by kernel_rfl) (fun KQ hKQ => ?_) AllReadyH.nil
  rw [if_pos (wanted_some rfl (by kernel_rfl) f14_130 (Nat.lt_of_le_of_lt (by decide) qz14))]
  refine step_enterE 9 #[.pointer (some ⟨z2, 0, none⟩)] (by rw [v30_enter9, f14_12]) (fun V w' => w'.ownsRow w1.heap.size 5 1 V (ya ++ y2).length ((ya ++ y2).map u8c) ∧ Below w1.heap.size w1 w') ((ebytes_enc w1 X z2 (ya ++ y2) (hE2.below hb1) hl2).mono (fun e w' h => h)) ?_
  rintro v9 w2 ⟨hown9, hb92⟩
  have hb2 : Below W.heap.size W w2 := hb1.trans (hb92.mono hb1.size)
  have hv9 := conv_rd w2 v9 _ (Rd_owned hown9)
  have hSS2 : CVS va v1 v2 vc ya y1 y2 w2 := ⟨conv_rdA w2 _ _ (hra.below hb2), conv_rdA w2 _ _ (hr1.below hb2), conv_rdA w2 _ _ (hr2.below hb2), conv_rdA w2 _ _ (hrc.below hb2)⟩
  have hvb2 := conv_rd w2 vb _ ((Rd_owned hown).below hb92)
  refine hKQ.out _ _ (⟨hSS2, hvb2⟩) (fun _ => ?_)
  clear hKQ KQ
  change wpAnyH _ _ _ _ _ _ _ (a14.put (some 131) (v9)) _
  refine wpAnyH_mono (S' := fun W' => (CVS va v1 v2 vc ya y1 y2 W' ∧ (convert 28 9 vb).run Try.prog W' = .ok (.string ⟨(ya ++ y1).toArray⟩) W') ∧ (convert 28 9 v9).run Try.prog W' = .ok (.string ⟨(ya ++ y2).toArray⟩) W') (fun w h => h.1) _ _ _ _ ?_
  have hS14 : (fun W' => (CVS va v1 v2 vc ya y1 y2 W' ∧ (convert 28 9 vb).run Try.prog W' = .ok (.string ⟨(ya ++ y1).toArray⟩) W') ∧ (convert 28 9 v9).run Try.prog W' = .ok (.string ⟨(ya ++ y2).toArray⟩) W') _ := ⟨⟨hSS2, hvb2⟩, hv9⟩
  have h := h v9 w2 hb2
  obtain ⟨a15, ha15⟩ : ∃ rr : Act, rr = a14.put (some 131) (v9) := ⟨_, rfl⟩
  have qz15 : 149 < a15.tmps.size := by rw [ha15, sz_put]; exact qz14
  have f15_8 : a15.eval (.tmp 8) = va := by rw [ha15, ev_other _ _ _ _ (by decide)]; exact f14_8
  have f15_10 : a15.eval (.tmp 10) = v2 := by rw [ha15, ev_other _ _ _ _ (by decide)]; exact f14_10
  have f15_15 : a15.eval (.tmp 15) = vc := by rw [ha15, ev_other _ _ _ _ (by decide)]; exact f14_15
  have f15_130 : a15.eval (.tmp 130) = .bool true := by rw [ha15, ev_other _ _ _ _ (by decide)]; exact f14_130
  have f15_131 : a15.eval (.tmp 131) = v9 := by rw [ha15]; exact ev_same _ _ _ (Nat.lt_of_le_of_lt (by decide) qz14)
  have f15_137 : a15.eval (.tmp 137) = .string ⟨(ya ++ y2).toArray⟩ := by rw [ha15, ev_other _ _ _ _ (by decide)]; exact f14_137
  rw [← ha15] at h ⊢
  clear ha15
  refine wpAnyH_take (i := 10) (oi := v30_10 s) (v := .string ⟨(ya ++ y2).toArray⟩) (by kernel_rfl) (by kernel_rfl) (by kernel_rfl) (by kernel_rfl) (fun c a w h => hQ c _ _ _ w h) (Or.inl ⟨wanted_some rfl (by kernel_rfl) f15_130 (Nat.lt_of_le_of_lt (by decide) qz15), fun w hw => run_conv rfl f15_131 hw.2⟩) hS14 ?_
  change wpAnyH _ _ _ _ _ _ _ (a15.put (some 132) (.string ⟨(ya ++ y2).toArray⟩)) _
  obtain ⟨a16, ha16⟩ : ∃ rr : Act, rr = a15.put (some 132) (.string ⟨(ya ++ y2).toArray⟩) := ⟨_, rfl⟩
  have qz16 : 149 < a16.tmps.size := by rw [ha16, sz_put]; exact qz15
  have f16_8 : a16.eval (.tmp 8) = va := by rw [ha16, ev_other _ _ _ _ (by decide)]; exact f15_8
  have f16_10 : a16.eval (.tmp 10) = v2 := by rw [ha16, ev_other _ _ _ _ (by decide)]; exact f15_10
  have f16_15 : a16.eval (.tmp 15) = vc := by rw [ha16, ev_other _ _ _ _ (by decide)]; exact f15_15
  have f16_130 : a16.eval (.tmp 130) = .bool true := by rw [ha16, ev_other _ _ _ _ (by decide)]; exact f15_130
  have f16_132 : a16.eval (.tmp 132) = .string ⟨(ya ++ y2).toArray⟩ := by rw [ha16]; exact ev_same _ _ _ (Nat.lt_of_le_of_lt (by decide) qz15)
  have f16_137 : a16.eval (.tmp 137) = .string ⟨(ya ++ y2).toArray⟩ := by rw [ha16, ev_other _ _ _ _ (by decide)]; exact f15_137
  rw [← ha16] at h ⊢
  clear ha16
  refine wpAnyH_take (i := 16) (oi := v30_16 s) (v := .bool true) (by kernel_rfl) (by kernel_rfl) (by kernel_rfl) (by kernel_rfl) (fun c a w h => hQ c _ _ _ w h) (Or.inl ⟨wanted_some rfl (by kernel_rfl) f16_130 (Nat.lt_of_le_of_lt (by decide) qz16), fun w hw => run_eqSame rfl f16_132 f16_137 w⟩) hS14 ?_
  change wpAnyH _ _ _ _ _ _ _ (a16.put (some 138) (.bool true)) _
  obtain ⟨a17, ha17⟩ : ∃ rr : Act, rr = a16.put (some 138) (.bool true) := ⟨_, rfl⟩
  have qz17 : 149 < a17.tmps.size := by rw [ha17, sz_put]; exact qz16
  have f17_8 : a17.eval (.tmp 8) = va := by rw [ha17, ev_other _ _ _ _ (by decide)]; exact f16_8
  have f17_10 : a17.eval (.tmp 10) = v2 := by rw [ha17, ev_other _ _ _ _ (by decide)]; exact f16_10
  have f17_15 : a17.eval (.tmp 15) = vc := by rw [ha17, ev_other _ _ _ _ (by decide)]; exact f16_15
  have f17_130 : a17.eval (.tmp 130) = .bool true := by rw [ha17, ev_other _ _ _ _ (by decide)]; exact f16_130
  have f17_138 : a17.eval (.tmp 138) = .bool true := by rw [ha17]; exact ev_same _ _ _ (Nat.lt_of_le_of_lt (by decide) qz16)
  rw [← ha17] at h ⊢
  clear ha17
  refine wpAnyH_take (i := 17) (oi := v30_17 s) (v := .bool true) (by kernel_rfl) (by kernel_rfl) (by kernel_rfl) (by kernel_rfl) (fun c a w h => hQ c _ _ _ w h) (Or.inl ⟨wanted_none rfl, fun w hw => by simp only [execOp, v30_17, f17_130, f17_138]; rfl⟩) hS14 ?_
  change wpAnyH _ _ _ _ _ _ _ (a17.put (some 139) (.bool true)) _
  obtain ⟨a18, ha18⟩ : ∃ rr : Act, rr = a17.put (some 139) (.bool true) := ⟨_, rfl⟩
  have qz18 : 149 < a18.tmps.size := by rw [ha18, sz_put]; exact qz17
  have f18_8 : a18.eval (.tmp 8) = va := by rw [ha18, ev_other _ _ _ _ (by decide)]; exact f17_8
  have f18_10 : a18.eval (.tmp 10) = v2 := by rw [ha18, ev_other _ _ _ _ (by decide)]; exact f17_10
  have f18_15 : a18.eval (.tmp 15) = vc := by rw [ha18, ev_other _ _ _ _ (by decide)]; exact f17_15
  have f18_139 : a18.eval (.tmp 139) = .bool true := by rw [ha18]; exact ev_same _ _ _ (Nat.lt_of_le_of_lt (by decide) qz17)
  rw [← ha18] at h ⊢
  clear ha18
  refine wpAnyH_take (i := 18) (oi := v30_18 s) (v := .bool true) (by kernel_rfl) (by kernel_rfl) (by kernel_rfl) (by kernel_rfl) (fun c a w h => hQ c _ _ _ w h) (Or.inl ⟨wanted_none rfl, fun w hw => by simp only [execOp, v30_18, f18_139]; rfl⟩) hS14 ?_
  change wpAnyH _ _ _ _ _ _ _ (a18.put (some 140) (.bool true)) _
  obtain ⟨a19, ha19⟩ : ∃ rr : Act, rr = a18.put (some 140) (.bool true) := ⟨_, rfl⟩
  have qz19 : 149 < a19.tmps.size := by rw [ha19, sz_put]; exact qz18
  have f19_8 : a19.eval (.tmp 8) = va := by rw [ha19, ev_other _ _ _ _ (by decide)]; exact f18_8
  have f19_10 : a19.eval (.tmp 10) = v2 := by rw [ha19, ev_other _ _ _ _ (by decide)]; exact f18_10
  have f19_15 : a19.eval (.tmp 15) = vc := by rw [ha19, ev_other _ _ _ _ (by decide)]; exact f18_15
  have f19_140 : a19.eval (.tmp 140) = .bool true := by rw [ha19]; exact ev_same _ _ _ (Nat.lt_of_le_of_lt (by decide) qz18)
  rw [← ha19] at h ⊢
  clear ha19
  refine wpAnyH_take (i := 19) (oi := v30_19 s) (v := vc) (by kernel_rfl) (by kernel_rfl) (by kernel_rfl) (by kernel_rfl) (fun c a w h => hQ c _ _ _ w h) (Or.inl ⟨wanted_some rfl (by kernel_rfl) f19_140 (Nat.lt_of_le_of_lt (by decide) qz19), fun w hw => by simp only [execOp, v30_19, f19_15]; rfl⟩) hS14 ?_
  change wpAnyH _ _ _ _ _ _ _ (a19.put (some 141) (vc)) _
  obtain ⟨a20, ha20⟩ : ∃ rr : Act, rr = a19.put (some 141) (vc) := ⟨_, rfl⟩
  have qz20 : 149 < a20.tmps.size := by rw [ha20, sz_put]; exact qz19
  have f20_8 : a20.eval (.tmp 8) = va := by rw [ha20, ev_other _ _ _ _ (by decide)]; exact f19_8
  have f20_10 : a20.eval (.tmp 10) = v2 := by rw [ha20, ev_other _ _ _ _ (by decide)]; exact f19_10
  have f20_140 : a20.eval (.tmp 140) = .bool true := by rw [ha20, ev_other _ _ _ _ (by decide)]; exact f19_140
  have f20_141 : a20.eval (.tmp 141) = vc := by rw [ha20]; exact ev_same _ _ _ (Nat.lt_of_le_of_lt (by decide) qz19)
  rw [← ha20] at h ⊢
  clear ha20
  refine wpAnyH_take (i := 20) (oi := v30_20 s) (v := .string ⟨(ya ++ y2).toArray⟩) (by kernel_rfl) (by kernel_rfl) (by kernel_rfl) (by kernel_rfl) (fun c a w h => hQ c _ _ _ w h) (Or.inl ⟨wanted_some rfl (by kernel_rfl) f20_140 (Nat.lt_of_le_of_lt (by decide) qz20), fun w hw => run_conv rfl f20_141 hw.1.1.2.2.2⟩) hS14 ?_
  change wpAnyH _ _ _ _ _ _ _ (a20.put (some 142) (.string ⟨(ya ++ y2).toArray⟩)) _
  obtain ⟨a21, ha21⟩ : ∃ rr : Act, rr = a20.put (some 142) (.string ⟨(ya ++ y2).toArray⟩) := ⟨_, rfl⟩
  have qz21 : 149 < a21.tmps.size := by rw [ha21, sz_put]; exact qz20
  have f21_8 : a21.eval (.tmp 8) = va := by rw [ha21, ev_other _ _ _ _ (by decide)]; exact f20_8
  have f21_10 : a21.eval (.tmp 10) = v2 := by rw [ha21, ev_other _ _ _ _ (by decide)]; exact f20_10
  have f21_140 : a21.eval (.tmp 140) = .bool true := by rw [ha21, ev_other _ _ _ _ (by decide)]; exact f20_140
  have f21_142 : a21.eval (.tmp 142) = .string ⟨(ya ++ y2).toArray⟩ := by rw [ha21]; exact ev_same _ _ _ (Nat.lt_of_le_of_lt (by decide) qz20)
  rw [← ha21] at h ⊢
  clear ha21
  refine wpAnyH_take (i := 21) (oi := v30_21 s) (v := va) (by kernel_rfl) (by kernel_rfl) (by kernel_rfl) (by kernel_rfl) (fun c a w h => hQ c _ _ _ w h) (Or.inl ⟨wanted_some rfl (by kernel_rfl) f21_140 (Nat.lt_of_le_of_lt (by decide) qz21), fun w hw => by simp only [execOp, v30_21, f21_8]; rfl⟩) hS14 ?_
  change wpAnyH _ _ _ _ _ _ _ (a21.put (some 143) (va)) _
  obtain ⟨a22, ha22⟩ : ∃ rr : Act, rr = a21.put (some 143) (va) := ⟨_, rfl⟩
  have qz22 : 149 < a22.tmps.size := by rw [ha22, sz_put]; exact qz21
  have f22_10 : a22.eval (.tmp 10) = v2 := by rw [ha22, ev_other _ _ _ _ (by decide)]; exact f21_10
  have f22_140 : a22.eval (.tmp 140) = .bool true := by rw [ha22, ev_other _ _ _ _ (by decide)]; exact f21_140
  have f22_142 : a22.eval (.tmp 142) = .string ⟨(ya ++ y2).toArray⟩ := by rw [ha22, ev_other _ _ _ _ (by decide)]; exact f21_142
  have f22_143 : a22.eval (.tmp 143) = va := by rw [ha22]; exact ev_same _ _ _ (Nat.lt_of_le_of_lt (by decide) qz21)
  rw [← ha22] at h ⊢
  clear ha22
  refine wpAnyH_take (i := 22) (oi := v30_22 s) (v := .string ⟨ya.toArray⟩) (by kernel_rfl) (by kernel_rfl) (by kernel_rfl) (by kernel_rfl) (fun c a w h => hQ c _ _ _ w h) (Or.inl ⟨wanted_some rfl (by kernel_rfl) f22_140 (Nat.lt_of_le_of_lt (by decide) qz22), fun w hw => run_conv rfl f22_143 hw.1.1.1⟩) hS14 ?_
  change wpAnyH _ _ _ _ _ _ _ (a22.put (some 144) (.string ⟨ya.toArray⟩)) _
  obtain ⟨a23, ha23⟩ : ∃ rr : Act, rr = a22.put (some 144) (.string ⟨ya.toArray⟩) := ⟨_, rfl⟩
  have qz23 : 149 < a23.tmps.size := by rw [ha23, sz_put]; exact qz22
  have f23_10 : a23.eval (.tmp 10) = v2 := by rw [ha23, ev_other _ _ _ _ (by decide)]; exact f22_10
  have f23_140 : a23.eval (.tmp 140) = .bool true := by rw [ha23, ev_other _ _ _ _ (by decide)]; exact f22_140
  have f23_142 : a23.eval (.tmp 142) = .string ⟨(ya ++ y2).toArray⟩ := by rw [ha23, ev_other _ _ _ _ (by decide)]; exact f22_142
  have f23_144 : a23.eval (.tmp 144) = .string ⟨ya.toArray⟩ := by rw [ha23]; exact ev_same _ _ _ (Nat.lt_of_le_of_lt (by decide) qz22)
  rw [← ha23] at h ⊢
  clear ha23
  refine wpAnyH_take (i := 23) (oi := v30_23 s) (v := v2) (by kernel_rfl) (by kernel_rfl) (by kernel_rfl) (by kernel_rfl) (fun c a w h => hQ c _ _ _ w h) (Or.inl ⟨wanted_some rfl (by kernel_rfl) f23_140 (Nat.lt_of_le_of_lt (by decide) qz23), fun w hw => by simp only [execOp, v30_23, f23_10]; rfl⟩) hS14 ?_
  change wpAnyH _ _ _ _ _ _ _ (a23.put (some 145) (v2)) _
  obtain ⟨a24, ha24⟩ : ∃ rr : Act, rr = a23.put (some 145) (v2) := ⟨_, rfl⟩
  have qz24 : 149 < a24.tmps.size := by rw [ha24, sz_put]; exact qz23
  have f24_140 : a24.eval (.tmp 140) = .bool true := by rw [ha24, ev_other _ _ _ _ (by decide)]; exact f23_140
  have f24_142 : a24.eval (.tmp 142) = .string ⟨(ya ++ y2).toArray⟩ := by rw [ha24, ev_other _ _ _ _ (by decide)]; exact f23_142
  have f24_144 : a24.eval (.tmp 144) = .string ⟨ya.toArray⟩ := by rw [ha24, ev_other _ _ _ _ (by decide)]; exact f23_144
  have f24_145 : a24.eval (.tmp 145) = v2 := by rw [ha24]; exact ev_same _ _ _ (Nat.lt_of_le_of_lt (by decide) qz23)
  rw [← ha24] at h ⊢
  clear ha24
  refine wpAnyH_take (i := 24) (oi := v30_24 s) (v := .string ⟨y2.toArray⟩) (by kernel_rfl) (by kernel_rfl) (by kernel_rfl) (by kernel_rfl) (fun c a w h => hQ c _ _ _ w h) (Or.inl ⟨wanted_some rfl (by kernel_rfl) f24_140 (Nat.lt_of_le_of_lt (by decide) qz24), fun w hw => run_conv rfl f24_145 hw.1.1.2.2.1⟩) hS14 ?_
  change wpAnyH _ _ _ _ _ _ _ (a24.put (some 146) (.string ⟨y2.toArray⟩)) _
  obtain ⟨a25, ha25⟩ : ∃ rr : Act, rr = a24.put (some 146) (.string ⟨y2.toArray⟩) := ⟨_, rfl⟩
  have qz25 : 149 < a25.tmps.size := by rw [ha25, sz_put]; exact qz24
  have f25_140 : a25.eval (.tmp 140) = .bool true := by rw [ha25, ev_other _ _ _ _ (by decide)]; exact f24_140
  have f25_142 : a25.eval (.tmp 142) = .string ⟨(ya ++ y2).toArray⟩ := by rw [ha25, ev_other _ _ _ _ (by decide)]; exact f24_142
  have f25_144 : a25.eval (.tmp 144) = .string ⟨ya.toArray⟩ := by rw [ha25, ev_other _ _ _ _ (by decide)]; exact f24_144
  have f25_146 : a25.eval (.tmp 146) = .string ⟨y2.toArray⟩ := by rw [ha25]; exact ev_same _ _ _ (Nat.lt_of_le_of_lt (by decide) qz24)
  rw [← ha25] at h ⊢
  clear ha25
  refine wpAnyH_take (i := 25) (oi := v30_25 s) (v := .string ⟨(ya ++ y2).toArray⟩) (by kernel_rfl) (by kernel_rfl) (by kernel_rfl) (by kernel_rfl) (fun c a w h => hQ c _ _ _ w h) (Or.inl ⟨wanted_some rfl (by kernel_rfl) f25_140 (Nat.lt_of_le_of_lt (by decide) qz25), fun w hw => run_addS rfl f25_144 f25_146 hl2 w⟩) hS14 ?_
  change wpAnyH _ _ _ _ _ _ _ (a25.put (some 147) (.string ⟨(ya ++ y2).toArray⟩)) _
  obtain ⟨a26, ha26⟩ : ∃ rr : Act, rr = a25.put (some 147) (.string ⟨(ya ++ y2).toArray⟩) := ⟨_, rfl⟩
  have qz26 : 149 < a26.tmps.size := by rw [ha26, sz_put]; exact qz25
  have f26_140 : a26.eval (.tmp 140) = .bool true := by rw [ha26, ev_other _ _ _ _ (by decide)]; exact f25_140
  have f26_142 : a26.eval (.tmp 142) = .string ⟨(ya ++ y2).toArray⟩ := by rw [ha26, ev_other _ _ _ _ (by decide)]; exact f25_142
  have f26_147 : a26.eval (.tmp 147) = .string ⟨(ya ++ y2).toArray⟩ := by rw [ha26]; exact ev_same _ _ _ (Nat.lt_of_le_of_lt (by decide) qz25)
  rw [← ha26] at h ⊢
  clear ha26
  refine wpAnyH_take (i := 26) (oi := v30_26 s) (v := .bool true) (by kernel_rfl) (by kernel_rfl) (by kernel_rfl) (by kernel_rfl) (fun c a w h => hQ c _ _ _ w h) (Or.inl ⟨wanted_some rfl (by kernel_rfl) f26_140 (Nat.lt_of_le_of_lt (by decide) qz26), fun w hw => run_eqSame rfl f26_142 f26_147 w⟩) hS14 ?_
  change wpAnyH _ _ _ _ _ _ _ (a26.put (some 148) (.bool true)) _
  obtain ⟨a27, ha27⟩ : ∃ rr : Act, rr = a26.put (some 148) (.bool true) := ⟨_, rfl⟩
  have qz27 : 149 < a27.tmps.size := by rw [ha27, sz_put]; exact qz26
  have f27_140 : a27.eval (.tmp 140) = .bool true := by rw [ha27, ev_other _ _ _ _ (by decide)]; exact f26_140
  have f27_148 : a27.eval (.tmp 148) = .bool true := by rw [ha27]; exact ev_same _ _ _ (Nat.lt_of_le_of_lt (by decide) qz26)
  rw [← ha27] at h ⊢
  clear ha27
  refine wpAnyH_take (i := 27) (oi := v30_27 s) (v := .bool true) (by kernel_rfl) (by kernel_rfl) (by kernel_rfl) (by kernel_rfl) (fun c a w h => hQ c _ _ _ w h) (Or.inl ⟨wanted_none rfl, fun w hw => by simp only [execOp, v30_27, f27_140, f27_148]; rfl⟩) hS14 ?_
  change wpAnyH _ _ _ _ _ _ _ (a27.put (some 149) (.bool true)) _
  obtain ⟨a28, ha28⟩ : ∃ rr : Act, rr = a27.put (some 149) (.bool true) := ⟨_, rfl⟩
  have qz28 : 149 < a28.tmps.size := by rw [ha28, sz_put]; exact qz27
  have f28_149 : a28.eval (.tmp 149) = .bool true := by rw [ha28]; exact ev_same _ _ _ (Nat.lt_of_le_of_lt (by decide) qz27)
  rw [← ha28] at h ⊢
  clear ha28
  refine wpAnyH_take (i := 28) (oi := v30_28 s) (v := .bool true) (by kernel_rfl) (by kernel_rfl) (by kernel_rfl) (by kernel_rfl) (fun c a w h => hQ c _ _ _ w h) (Or.inl ⟨wanted_none rfl, fun w hw => by simp only [execOp, v30_28, f28_149]; rfl⟩) hS14 ?_
  change wpAnyH _ _ _ _ _ _ _ (a28.put (some 6) (.bool true)) _
  obtain ⟨a29, ha29⟩ : ∃ rr : Act, rr = a28.put (some 6) (.bool true) := ⟨_, rfl⟩
  have qz29 : 149 < a29.tmps.size := by rw [ha29, sz_put]; exact qz28
  rw [← ha29] at h ⊢
  clear ha29
  refine wpAnyH_done (by kernel_rfl) ?_ _
  exact h
end Go.Proofs.Ytinjcefekbpabaa
