/- The document's Has, Next and Pin: their drawn regions. -/
import Derived.Test.YtagnglkkmdeicaaPA4
import Derived.Test.YtagnglkkmdeicaaPN8r
namespace Go.Proofs.Ytagnglkkmdeicaa
set_option linter.unusedVariables false
set_option linter.unusedSimpArgs false
open Go.RowKit
set_option maxRecDepth 100000

theorem run_idxR {op : Oper} {ev : Operand → Value} {x y : Operand} {b i : Nat} (ho : op.op = .indexAddr 56 x y) (hx : ev x = .pointer (some ⟨b, 32, none⟩)) (hy : ev y = .int .i64 (i : Int)) (hi : i < 16) (w : World) : (execOp ev op).run Try.prog w = .ok (.value (.pointer (some ⟨b, 32 + i, none⟩))) w := by
  have hu := Try.underlying56
  have h1 : (i : Int) < 16 := by omega
  have hs : (sizeOf 42).run Try.prog w = .ok 1 w := by kernel_rfl
  simp only [execOp, ho, hx, hy]
  simp [go_sem, hu, h1, hs]
theorem load_rowR {w : World} {b o : Nat} {v : Value} (h : w.cell? ⟨b, o, none⟩ = some v) : (Instr.loadAt 42 (.pointer (some ⟨b, o, none⟩))).run Try.prog w = .ok v w := by
  have hu := Try.underlying42
  simp [go_sem, h, hu]
theorem run_idxK2 {op : Oper} {ev : Operand → Value} {x y : Operand} {g o n c j : Nat} (ho : op.op = .indexAddr 42 x y) (hx : ev x = .slice (some ⟨g, o, none⟩) n c) (hy : ev y = .int .i64 (j : Int)) (h : j < n) (w : World) : (execOp ev op).run Try.prog w = .ok (.value (.pointer (some ⟨g, o + j * 32, none⟩))) w := by
  have hu := Try.underlying42
  have hs : (sizeOf 30).run Try.prog w = .ok 32 w := by kernel_rfl
  have h1 : (j : Int) < (n : Int) := by omega
  simp only [execOp, ho, hx, hy]
  simp [go_sem, hu, h1, hs]
def rh_0 (s : String) : Oper := { dst := some 23, op := Op.move (Operand.tmp 0), type := 25, pos := s, after := #[], guard := none }
def rh_1 (s : String) : Oper := { dst := some 24, op := Op.move (Operand.tmp 1), type := 3, pos := s, after := #[], guard := none }
def rh_2 (s : String) : Oper := { dst := some 25, op := Op.nilCheck (Operand.tmp 23), type := 0, pos := s, after := #[{ on := 0, ground := Ground.data }], guard := none }
def rh_3 (s : String) : Oper := { dst := some 26, op := Op.fieldAddr 58 (Operand.tmp 25) 2, type := 0, pos := s, after := #[{ on := 2, ground := Ground.data }], guard := none }
def rh_4 (s : String) : Oper := { dst := some 27, op := Op.indexAddr 56 (Operand.tmp 26) (Operand.tmp 24), type := 0, pos := s, after := #[{ on := 3, ground := Ground.data }, { on := 1, ground := Ground.data }], guard := none }
def rh_5 (s : String) : Oper := { dst := some 28, op := Op.load 42 (Operand.tmp 27), type := 42, pos := s, after := #[{ on := 4, ground := Ground.data }], guard := none }
def rh_6 (s : String) : Oper := { dst := some 29, op := Op.move (Operand.tmp 7), type := 3, pos := s, after := #[], guard := none }
def rh_7 (s : String) : Oper := { dst := some 30, op := Op.indexAddr 42 (Operand.tmp 28) (Operand.tmp 29), type := 0, pos := s, after := #[{ on := 5, ground := Ground.data }, { on := 6, ground := Ground.data }], guard := none }
def rh_8 (s : String) : Oper := { dst := some 31, op := Op.load 30 (Operand.tmp 30), type := 30, pos := s, after := #[{ on := 7, ground := Ground.data }], guard := none }
def rh_9 (s : String) : Oper := { dst := some 32, op := Op.load 30 (Operand.tmp 5), type := 30, pos := s, after := #[], guard := none }
def rh_10 (s : String) : Oper := { dst := some 33, op := Op.binOp BinOp.eql 30 (Operand.tmp 31) (Operand.tmp 32) 30, type := 4, pos := s, after := #[{ on := 8, ground := Ground.data }, { on := 9, ground := Ground.data }], guard := none }
def rh_ops (s : String) : Array Oper := #[rh_0 s, rh_1 s, rh_2 s, rh_3 s, rh_4 s, rh_5 s, rh_6 s, rh_7 s, rh_8 s, rh_9 s, rh_10 s]
theorem rh_walk (s : String) {Q : Exit → Act → World → Prop} (hQ : ∀ c (a : Act) t v w, Q (.panic c) (a.put (some t) v) w → Q (.panic c) a w) (W : World) (zr k g o n c i zx : Nat) (x y : List UInt8) (hxl : x.length = 32) (hyl : y.length = 32) (hk16 : k < 16) (hi : i < n) (hS0 : W.drew.cell? ⟨zr, 32 + k, none⟩ = some (.slice (some ⟨g, o, none⟩) n c) ∧ W.drew.rangeAt g (o + i * 32) (y.map u8c) ∧ KeyAt W.drew zx x)
    (a : Act) (hs : 33 < a.tmps.size) (e0 : a.eval (.tmp 0) = .pointer (some ⟨zr, 0, none⟩)) (e1 : a.eval (.tmp 1) = .int .i64 (k : Int)) (e5 : a.eval (.tmp 5) = .pointer (some ⟨zx, 0, none⟩)) (e7 : a.eval (.tmp 7) = .int .i64 (i : Int))
    (h0 :  Q .normal (((((((((((a.put (some 23) (.pointer (some ⟨zr, 0, none⟩))).put (some 24) (.int .i64 (k : Int))).put (some 25) (.pointer (some ⟨zr, 0, none⟩))).put (some 26) (.pointer (some ⟨zr, 32, none⟩))).put (some 27) (.pointer (some ⟨zr, 32 + k, none⟩))).put (some 28) (.slice (some ⟨g, o, none⟩) n c)).put (some 29) (.int .i64 (i : Int))).put (some 30) (.pointer (some ⟨g, o + i * 32, none⟩))).put (some 31) (keyV y)).put (some 32) (keyV x)).put (some 33) (.bool (y == x))) W.drew) :
    Code.wp Try.prog (.region 6 (rh_ops s) true) Q a W := by
  refine wp_region_held_drew (S := fun w => w.cell? ⟨zr, 32 + k, none⟩ = some (.slice (some ⟨g, o, none⟩) n c) ∧ w.rangeAt g (o + i * 32) (y.map u8c) ∧ KeyAt w zx x) (by kernel_rfl) hS0 (fun hS => ?_)
  change wpAnyH _ _ _ _ _ _ _ _ (World.drew _)
  refine wpAnyH_take (i := 0) (oi := rh_0 s) (v := .pointer (some ⟨zr, 0, none⟩)) (by kernel_rfl) (by kernel_rfl) (by kernel_rfl) (by kernel_rfl) (fun c a w h => hQ c _ _ _ w h) (Or.inl ⟨wanted_none rfl, fun w hw => by simp only [execOp, rh_0, e0]; rfl⟩) hS ?_
  change wpAnyH _ _ _ _ _ _ _ (a.put (some 23) (.pointer (some ⟨zr, 0, none⟩))) _
  obtain ⟨a0_1, ha1⟩ : ∃ rr : Act, rr = a.put (some 23) (.pointer (some ⟨zr, 0, none⟩)) := ⟨_, rfl⟩
  have qz1 : 33 < a0_1.tmps.size := by rw [ha1, sz_put]; exact hs
  have f1_1 : a0_1.eval (.tmp 1) = .int .i64 (k : Int) := by rw [ha1, ev_other _ _ _ _ (by decide)]; exact e1
  have f1_5 : a0_1.eval (.tmp 5) = .pointer (some ⟨zx, 0, none⟩) := by rw [ha1, ev_other _ _ _ _ (by decide)]; exact e5
  have f1_7 : a0_1.eval (.tmp 7) = .int .i64 (i : Int) := by rw [ha1, ev_other _ _ _ _ (by decide)]; exact e7
  have f1_23 : a0_1.eval (.tmp 23) = .pointer (some ⟨zr, 0, none⟩) := by rw [ha1]; exact ev_same _ _ _ (Nat.lt_of_le_of_lt (by decide) hs)
  rw [← ha1] at h0 ⊢
  clear ha1
  refine wpAnyH_take (i := 1) (oi := rh_1 s) (v := .int .i64 (k : Int)) (by kernel_rfl) (by kernel_rfl) (by kernel_rfl) (by kernel_rfl) (fun c a w h => hQ c _ _ _ w h) (Or.inl ⟨wanted_none rfl, fun w hw => by simp only [execOp, rh_1, f1_1]; rfl⟩) hS ?_
  change wpAnyH _ _ _ _ _ _ _ (a0_1.put (some 24) (.int .i64 (k : Int))) _
  obtain ⟨a0_2, ha2⟩ : ∃ rr : Act, rr = a0_1.put (some 24) (.int .i64 (k : Int)) := ⟨_, rfl⟩
  have qz2 : 33 < a0_2.tmps.size := by rw [ha2, sz_put]; exact qz1
  have f2_5 : a0_2.eval (.tmp 5) = .pointer (some ⟨zx, 0, none⟩) := by rw [ha2, ev_other _ _ _ _ (by decide)]; exact f1_5
  have f2_7 : a0_2.eval (.tmp 7) = .int .i64 (i : Int) := by rw [ha2, ev_other _ _ _ _ (by decide)]; exact f1_7
  have f2_23 : a0_2.eval (.tmp 23) = .pointer (some ⟨zr, 0, none⟩) := by rw [ha2, ev_other _ _ _ _ (by decide)]; exact f1_23
  have f2_24 : a0_2.eval (.tmp 24) = .int .i64 (k : Int) := by rw [ha2]; exact ev_same _ _ _ (Nat.lt_of_le_of_lt (by decide) qz1)
  rw [← ha2] at h0 ⊢
  clear ha2
  refine wpAnyH_take (i := 2) (oi := rh_2 s) (v := .pointer (some ⟨zr, 0, none⟩)) (by kernel_rfl) (by kernel_rfl) (by kernel_rfl) (by kernel_rfl) (fun c a w h => hQ c _ _ _ w h) (Or.inl ⟨wanted_none rfl, fun w hw => by simp only [execOp, rh_2, f2_23]; rfl⟩) hS ?_
  change wpAnyH _ _ _ _ _ _ _ (a0_2.put (some 25) (.pointer (some ⟨zr, 0, none⟩))) _
  obtain ⟨a0_3, ha3⟩ : ∃ rr : Act, rr = a0_2.put (some 25) (.pointer (some ⟨zr, 0, none⟩)) := ⟨_, rfl⟩
  have qz3 : 33 < a0_3.tmps.size := by rw [ha3, sz_put]; exact qz2
  have f3_5 : a0_3.eval (.tmp 5) = .pointer (some ⟨zx, 0, none⟩) := by rw [ha3, ev_other _ _ _ _ (by decide)]; exact f2_5
  have f3_7 : a0_3.eval (.tmp 7) = .int .i64 (i : Int) := by rw [ha3, ev_other _ _ _ _ (by decide)]; exact f2_7
  have f3_24 : a0_3.eval (.tmp 24) = .int .i64 (k : Int) := by rw [ha3, ev_other _ _ _ _ (by decide)]; exact f2_24
  have f3_25 : a0_3.eval (.tmp 25) = .pointer (some ⟨zr, 0, none⟩) := by rw [ha3]; exact ev_same _ _ _ (Nat.lt_of_le_of_lt (by decide) qz2)
  rw [← ha3] at h0 ⊢
  clear ha3
  refine wpAnyH_take (i := 3) (oi := rh_3 s) (v := .pointer (some ⟨zr, 32, none⟩)) (by kernel_rfl) (by kernel_rfl) (by kernel_rfl) (by kernel_rfl) (fun c a w h => hQ c _ _ _ w h) (Or.inl ⟨wanted_none rfl, fun w hw => by simp only [execOp, rh_3, f3_25]; rfl⟩) hS ?_
  change wpAnyH _ _ _ _ _ _ _ (a0_3.put (some 26) (.pointer (some ⟨zr, 32, none⟩))) _
  obtain ⟨a0_4, ha4⟩ : ∃ rr : Act, rr = a0_3.put (some 26) (.pointer (some ⟨zr, 32, none⟩)) := ⟨_, rfl⟩
  have qz4 : 33 < a0_4.tmps.size := by rw [ha4, sz_put]; exact qz3
  have f4_5 : a0_4.eval (.tmp 5) = .pointer (some ⟨zx, 0, none⟩) := by rw [ha4, ev_other _ _ _ _ (by decide)]; exact f3_5
  have f4_7 : a0_4.eval (.tmp 7) = .int .i64 (i : Int) := by rw [ha4, ev_other _ _ _ _ (by decide)]; exact f3_7
  have f4_24 : a0_4.eval (.tmp 24) = .int .i64 (k : Int) := by rw [ha4, ev_other _ _ _ _ (by decide)]; exact f3_24
  have f4_26 : a0_4.eval (.tmp 26) = .pointer (some ⟨zr, 32, none⟩) := by rw [ha4]; exact ev_same _ _ _ (Nat.lt_of_le_of_lt (by decide) qz3)
  rw [← ha4] at h0 ⊢
  clear ha4
  refine wpAnyH_take (i := 4) (oi := rh_4 s) (v := .pointer (some ⟨zr, 32 + k, none⟩)) (by kernel_rfl) (by kernel_rfl) (by kernel_rfl) (by kernel_rfl) (fun c a w h => hQ c _ _ _ w h) (Or.inl ⟨wanted_none rfl, fun w hw => run_idxR rfl f4_26 f4_24 hk16 w⟩) hS ?_
  change wpAnyH _ _ _ _ _ _ _ (a0_4.put (some 27) (.pointer (some ⟨zr, 32 + k, none⟩))) _
  obtain ⟨a0_5, ha5⟩ : ∃ rr : Act, rr = a0_4.put (some 27) (.pointer (some ⟨zr, 32 + k, none⟩)) := ⟨_, rfl⟩
  have qz5 : 33 < a0_5.tmps.size := by rw [ha5, sz_put]; exact qz4
  have f5_5 : a0_5.eval (.tmp 5) = .pointer (some ⟨zx, 0, none⟩) := by rw [ha5, ev_other _ _ _ _ (by decide)]; exact f4_5
  have f5_7 : a0_5.eval (.tmp 7) = .int .i64 (i : Int) := by rw [ha5, ev_other _ _ _ _ (by decide)]; exact f4_7
  have f5_27 : a0_5.eval (.tmp 27) = .pointer (some ⟨zr, 32 + k, none⟩) := by rw [ha5]; exact ev_same _ _ _ (Nat.lt_of_le_of_lt (by decide) qz4)
  rw [← ha5] at h0 ⊢
  clear ha5
  refine wpAnyH_take (i := 5) (oi := rh_5 s) (v := .slice (some ⟨g, o, none⟩) n c) (by kernel_rfl) (by kernel_rfl) (by kernel_rfl) (by kernel_rfl) (fun c a w h => hQ c _ _ _ w h) (Or.inl ⟨wanted_none rfl, fun w hw => run_load rfl f5_27 (load_rowR hw.1)⟩) hS ?_
  change wpAnyH _ _ _ _ _ _ _ (a0_5.put (some 28) (.slice (some ⟨g, o, none⟩) n c)) _
  obtain ⟨a0_6, ha6⟩ : ∃ rr : Act, rr = a0_5.put (some 28) (.slice (some ⟨g, o, none⟩) n c) := ⟨_, rfl⟩
  have qz6 : 33 < a0_6.tmps.size := by rw [ha6, sz_put]; exact qz5
  have f6_5 : a0_6.eval (.tmp 5) = .pointer (some ⟨zx, 0, none⟩) := by rw [ha6, ev_other _ _ _ _ (by decide)]; exact f5_5
  have f6_7 : a0_6.eval (.tmp 7) = .int .i64 (i : Int) := by rw [ha6, ev_other _ _ _ _ (by decide)]; exact f5_7
  have f6_28 : a0_6.eval (.tmp 28) = .slice (some ⟨g, o, none⟩) n c := by rw [ha6]; exact ev_same _ _ _ (Nat.lt_of_le_of_lt (by decide) qz5)
  rw [← ha6] at h0 ⊢
  clear ha6
  refine wpAnyH_take (i := 6) (oi := rh_6 s) (v := .int .i64 (i : Int)) (by kernel_rfl) (by kernel_rfl) (by kernel_rfl) (by kernel_rfl) (fun c a w h => hQ c _ _ _ w h) (Or.inl ⟨wanted_none rfl, fun w hw => by simp only [execOp, rh_6, f6_7]; rfl⟩) hS ?_
  change wpAnyH _ _ _ _ _ _ _ (a0_6.put (some 29) (.int .i64 (i : Int))) _
  obtain ⟨a0_7, ha7⟩ : ∃ rr : Act, rr = a0_6.put (some 29) (.int .i64 (i : Int)) := ⟨_, rfl⟩
  have qz7 : 33 < a0_7.tmps.size := by rw [ha7, sz_put]; exact qz6
  have f7_5 : a0_7.eval (.tmp 5) = .pointer (some ⟨zx, 0, none⟩) := by rw [ha7, ev_other _ _ _ _ (by decide)]; exact f6_5
  have f7_28 : a0_7.eval (.tmp 28) = .slice (some ⟨g, o, none⟩) n c := by rw [ha7, ev_other _ _ _ _ (by decide)]; exact f6_28
  have f7_29 : a0_7.eval (.tmp 29) = .int .i64 (i : Int) := by rw [ha7]; exact ev_same _ _ _ (Nat.lt_of_le_of_lt (by decide) qz6)
  rw [← ha7] at h0 ⊢
  clear ha7
  refine wpAnyH_take (i := 7) (oi := rh_7 s) (v := .pointer (some ⟨g, o + i * 32, none⟩)) (by kernel_rfl) (by kernel_rfl) (by kernel_rfl) (by kernel_rfl) (fun c a w h => hQ c _ _ _ w h) (Or.inl ⟨wanted_none rfl, fun w hw => run_idxK2 rfl f7_28 f7_29 hi w⟩) hS ?_
  change wpAnyH _ _ _ _ _ _ _ (a0_7.put (some 30) (.pointer (some ⟨g, o + i * 32, none⟩))) _
  obtain ⟨a0_8, ha8⟩ : ∃ rr : Act, rr = a0_7.put (some 30) (.pointer (some ⟨g, o + i * 32, none⟩)) := ⟨_, rfl⟩
  have qz8 : 33 < a0_8.tmps.size := by rw [ha8, sz_put]; exact qz7
  have f8_5 : a0_8.eval (.tmp 5) = .pointer (some ⟨zx, 0, none⟩) := by rw [ha8, ev_other _ _ _ _ (by decide)]; exact f7_5
  have f8_30 : a0_8.eval (.tmp 30) = .pointer (some ⟨g, o + i * 32, none⟩) := by rw [ha8]; exact ev_same _ _ _ (Nat.lt_of_le_of_lt (by decide) qz7)
  rw [← ha8] at h0 ⊢
  clear ha8
  refine wpAnyH_take (i := 8) (oi := rh_8 s) (v := keyV y) (by kernel_rfl) (by kernel_rfl) (by kernel_rfl) (by kernel_rfl) (fun c a w h => hQ c _ _ _ w h) (Or.inl ⟨wanted_none rfl, fun w hw => run_load rfl f8_30 (loadAt_key hyl hw.2.1)⟩) hS ?_
  change wpAnyH _ _ _ _ _ _ _ (a0_8.put (some 31) (keyV y)) _
  obtain ⟨a0_9, ha9⟩ : ∃ rr : Act, rr = a0_8.put (some 31) (keyV y) := ⟨_, rfl⟩
  have qz9 : 33 < a0_9.tmps.size := by rw [ha9, sz_put]; exact qz8
  have f9_5 : a0_9.eval (.tmp 5) = .pointer (some ⟨zx, 0, none⟩) := by rw [ha9, ev_other _ _ _ _ (by decide)]; exact f8_5
  have f9_31 : a0_9.eval (.tmp 31) = keyV y := by rw [ha9]; exact ev_same _ _ _ (Nat.lt_of_le_of_lt (by decide) qz8)
  rw [← ha9] at h0 ⊢
  clear ha9
  refine wpAnyH_take (i := 9) (oi := rh_9 s) (v := keyV x) (by kernel_rfl) (by kernel_rfl) (by kernel_rfl) (by kernel_rfl) (fun c a w h => hQ c _ _ _ w h) (Or.inl ⟨wanted_none rfl, fun w hw => run_load rfl f9_5 hw.2.2.load⟩) hS ?_
  change wpAnyH _ _ _ _ _ _ _ (a0_9.put (some 32) (keyV x)) _
  obtain ⟨a0_10, ha10⟩ : ∃ rr : Act, rr = a0_9.put (some 32) (keyV x) := ⟨_, rfl⟩
  have qz10 : 33 < a0_10.tmps.size := by rw [ha10, sz_put]; exact qz9
  have f10_31 : a0_10.eval (.tmp 31) = keyV y := by rw [ha10, ev_other _ _ _ _ (by decide)]; exact f9_31
  have f10_32 : a0_10.eval (.tmp 32) = keyV x := by rw [ha10]; exact ev_same _ _ _ (Nat.lt_of_le_of_lt (by decide) qz9)
  rw [← ha10] at h0 ⊢
  clear ha10
  refine wpAnyH_take (i := 10) (oi := rh_10 s) (v := .bool (y == x)) (by kernel_rfl) (by kernel_rfl) (by kernel_rfl) (by kernel_rfl) (fun c a w h => hQ c _ _ _ w h) (Or.inl ⟨wanted_none rfl, fun w hw => run_eqlQ rfl f10_31 f10_32 hyl hxl w⟩) hS ?_
  change wpAnyH _ _ _ _ _ _ _ (a0_10.put (some 33) (.bool (y == x))) _
  obtain ⟨a0_11, ha11⟩ : ∃ rr : Act, rr = a0_10.put (some 33) (.bool (y == x)) := ⟨_, rfl⟩
  have qz11 : 33 < a0_11.tmps.size := by rw [ha11, sz_put]; exact qz10
  rw [← ha11] at h0 ⊢
  clear ha11
  refine wpAnyH_done (by kernel_rfl) ?_ _
  exact h0
def rn_0 (s : String) : Oper := { dst := some 25, op := Op.move (Operand.tmp 3), type := 4, pos := s, after := #[], guard := none }
def rn_1 (s : String) : Oper := { dst := some 26, op := Op.move (Operand.tmp 25), type := 4, pos := s, after := #[{ on := 0, ground := Ground.data }], guard := none }
def rn_2 (s : String) : Oper := { dst := some 27, op := Op.load 30 (Operand.tmp 6), type := 30, pos := s, after := #[{ on := 1, ground := Ground.guard }], guard := some (1, false) }
def rn_3 (s : String) : Oper := { dst := some 28, op := Op.move (Operand.tmp 0), type := 25, pos := s, after := #[{ on := 1, ground := Ground.guard }], guard := some (1, false) }
def rn_4 (s : String) : Oper := { dst := some 29, op := Op.move (Operand.tmp 1), type := 3, pos := s, after := #[{ on := 1, ground := Ground.guard }], guard := some (1, false) }
def rn_5 (s : String) : Oper := { dst := some 30, op := Op.nilCheck (Operand.tmp 28), type := 0, pos := s, after := #[{ on := 3, ground := Ground.data }, { on := 1, ground := Ground.guard }], guard := some (1, false) }
def rn_6 (s : String) : Oper := { dst := some 31, op := Op.fieldAddr 58 (Operand.tmp 30) 2, type := 0, pos := s, after := #[{ on := 5, ground := Ground.data }, { on := 1, ground := Ground.guard }], guard := some (1, false) }
def rn_7 (s : String) : Oper := { dst := some 32, op := Op.indexAddr 56 (Operand.tmp 31) (Operand.tmp 29), type := 0, pos := s, after := #[{ on := 6, ground := Ground.data }, { on := 4, ground := Ground.data }, { on := 1, ground := Ground.guard }], guard := some (1, false) }
def rn_8 (s : String) : Oper := { dst := some 33, op := Op.load 42 (Operand.tmp 32), type := 42, pos := s, after := #[{ on := 7, ground := Ground.data }, { on := 1, ground := Ground.guard }], guard := some (1, false) }
def rn_9 (s : String) : Oper := { dst := some 34, op := Op.move (Operand.tmp 10), type := 3, pos := s, after := #[{ on := 1, ground := Ground.guard }], guard := some (1, false) }
def rn_10 (s : String) : Oper := { dst := some 35, op := Op.indexAddr 42 (Operand.tmp 33) (Operand.tmp 34), type := 0, pos := s, after := #[{ on := 8, ground := Ground.data }, { on := 9, ground := Ground.data }, { on := 1, ground := Ground.guard }], guard := some (1, false) }
def rn_11 (s : String) : Oper := { dst := some 36, op := Op.load 30 (Operand.tmp 35), type := 30, pos := s, after := #[{ on := 10, ground := Ground.data }, { on := 1, ground := Ground.guard }], guard := some (1, false) }
def rn_12 (s : String) : Oper := { dst := some 37, op := Op.call { callee := Callee.value (Operand.func 12), args := #[Operand.tmp 27, Operand.tmp 36], argTypes := #[30, 30] }, type := 4, pos := s, after := #[{ on := 2, ground := Ground.data }, { on := 11, ground := Ground.data }, { on := 1, ground := Ground.chain }, { on := 1, ground := Ground.guard }], guard := some (1, false) }
def rn_13 (s : String) : Oper := { dst := some 38, op := Op.pick (Operand.tmp 26) (Operand.const (Value.bool true)) (Operand.tmp 37), type := 4, pos := s, after := #[{ on := 1, ground := Ground.data }, { on := 12, ground := Ground.data }], guard := none }
def rn_ops (s : String) : Array Oper := #[rn_0 s, rn_1 s, rn_2 s, rn_3 s, rn_4 s, rn_5 s, rn_6 s, rn_7 s, rn_8 s, rn_9 s, rn_10 s, rn_11 s, rn_12 s, rn_13 s]
theorem rn_enter12 (s : String) (a : Act) (w : World) : (execOp a.eval (rn_12 s)).run Try.prog w = .ok (.enter 12 #[a.eval (.tmp 27), a.eval (.tmp 36)]) w := by kernel_rfl
theorem rn_walk (s : String) {Q : Exit → Act → World → Prop} (hQ : ∀ c (a : Act) t v w, Q (.panic c) (a.put (some t) v) w → Q (.panic c) a w) (W : World)
    (a : Act) (hs : 38 < a.tmps.size) (e3 : a.eval (.tmp 3) = .bool true)
    (h0 :  Q .normal ((((((((((((((a.put (some 25) (.bool true)).put (some 26) (.bool true)).put (some 27) (undef)).put (some 28) (undef)).put (some 29) (undef)).put (some 30) (undef)).put (some 31) (undef)).put (some 32) (undef)).put (some 33) (undef)).put (some 34) (undef)).put (some 35) (undef)).put (some 36) (undef)).put (some 37) (undef)).put (some 38) (.bool true)) W.drew) :
    Code.wp Try.prog (.region 5 (rn_ops s) true) Q a W := by
  refine wp_region_held_drew (S := fun _ => True) (by kernel_rfl) trivial (fun hS => ?_)
  change wpAnyH _ _ _ _ _ _ _ _ (World.drew _)
  refine wpAnyH_take (i := 0) (oi := rn_0 s) (v := .bool true) (by kernel_rfl) (by kernel_rfl) (by kernel_rfl) (by kernel_rfl) (fun c a w h => hQ c _ _ _ w h) (Or.inl ⟨wanted_none rfl, fun w hw => by simp only [execOp, rn_0, e3]; rfl⟩) hS ?_
  change wpAnyH _ _ _ _ _ _ _ (a.put (some 25) (.bool true)) _
  obtain ⟨a0_1, ha1⟩ : ∃ rr : Act, rr = a.put (some 25) (.bool true) := ⟨_, rfl⟩
  have qz1 : 38 < a0_1.tmps.size := by rw [ha1, sz_put]; exact hs
  have f1_25 : a0_1.eval (.tmp 25) = .bool true := by rw [ha1]; exact ev_same _ _ _ (Nat.lt_of_le_of_lt (by decide) hs)
  rw [← ha1] at h0 ⊢
  clear ha1
  refine wpAnyH_take (i := 1) (oi := rn_1 s) (v := .bool true) (by kernel_rfl) (by kernel_rfl) (by kernel_rfl) (by kernel_rfl) (fun c a w h => hQ c _ _ _ w h) (Or.inl ⟨wanted_none rfl, fun w hw => by simp only [execOp, rn_1, f1_25]; rfl⟩) hS ?_
  change wpAnyH _ _ _ _ _ _ _ (a0_1.put (some 26) (.bool true)) _
  obtain ⟨a0_2, ha2⟩ : ∃ rr : Act, rr = a0_1.put (some 26) (.bool true) := ⟨_, rfl⟩
  have qz2 : 38 < a0_2.tmps.size := by rw [ha2, sz_put]; exact qz1
  have f2_26 : a0_2.eval (.tmp 26) = .bool true := by rw [ha2]; exact ev_same _ _ _ (Nat.lt_of_le_of_lt (by decide) qz1)
  rw [← ha2] at h0 ⊢
  clear ha2
  refine wpAnyH_take (i := 2) (oi := rn_2 s) (v := undef) (by kernel_rfl) (by kernel_rfl) (by kernel_rfl) (by kernel_rfl) (fun c a w h => hQ c _ _ _ w h) (Or.inr ⟨wanted_no rfl (by kernel_rfl) f2_26 (Nat.lt_of_le_of_lt (by decide) qz2), rfl⟩) hS ?_
  change wpAnyH _ _ _ _ _ _ _ (a0_2.put (some 27) (undef)) _
  obtain ⟨a0_3, ha3⟩ : ∃ rr : Act, rr = a0_2.put (some 27) (undef) := ⟨_, rfl⟩
  have qz3 : 38 < a0_3.tmps.size := by rw [ha3, sz_put]; exact qz2
  have f3_26 : a0_3.eval (.tmp 26) = .bool true := by rw [ha3, ev_other _ _ _ _ (by decide)]; exact f2_26
  rw [← ha3] at h0 ⊢
  clear ha3
  refine wpAnyH_take (i := 3) (oi := rn_3 s) (v := undef) (by kernel_rfl) (by kernel_rfl) (by kernel_rfl) (by kernel_rfl) (fun c a w h => hQ c _ _ _ w h) (Or.inr ⟨wanted_no rfl (by kernel_rfl) f3_26 (Nat.lt_of_le_of_lt (by decide) qz3), rfl⟩) hS ?_
  change wpAnyH _ _ _ _ _ _ _ (a0_3.put (some 28) (undef)) _
  obtain ⟨a0_4, ha4⟩ : ∃ rr : Act, rr = a0_3.put (some 28) (undef) := ⟨_, rfl⟩
  have qz4 : 38 < a0_4.tmps.size := by rw [ha4, sz_put]; exact qz3
  have f4_26 : a0_4.eval (.tmp 26) = .bool true := by rw [ha4, ev_other _ _ _ _ (by decide)]; exact f3_26
  rw [← ha4] at h0 ⊢
  clear ha4
  refine wpAnyH_take (i := 4) (oi := rn_4 s) (v := undef) (by kernel_rfl) (by kernel_rfl) (by kernel_rfl) (by kernel_rfl) (fun c a w h => hQ c _ _ _ w h) (Or.inr ⟨wanted_no rfl (by kernel_rfl) f4_26 (Nat.lt_of_le_of_lt (by decide) qz4), rfl⟩) hS ?_
  change wpAnyH _ _ _ _ _ _ _ (a0_4.put (some 29) (undef)) _
  obtain ⟨a0_5, ha5⟩ : ∃ rr : Act, rr = a0_4.put (some 29) (undef) := ⟨_, rfl⟩
  have qz5 : 38 < a0_5.tmps.size := by rw [ha5, sz_put]; exact qz4
  have f5_26 : a0_5.eval (.tmp 26) = .bool true := by rw [ha5, ev_other _ _ _ _ (by decide)]; exact f4_26
  rw [← ha5] at h0 ⊢
  clear ha5
  refine wpAnyH_take (i := 5) (oi := rn_5 s) (v := undef) (by kernel_rfl) (by kernel_rfl) (by kernel_rfl) (by kernel_rfl) (fun c a w h => hQ c _ _ _ w h) (Or.inr ⟨wanted_no rfl (by kernel_rfl) f5_26 (Nat.lt_of_le_of_lt (by decide) qz5), rfl⟩) hS ?_
  change wpAnyH _ _ _ _ _ _ _ (a0_5.put (some 30) (undef)) _
  obtain ⟨a0_6, ha6⟩ : ∃ rr : Act, rr = a0_5.put (some 30) (undef) := ⟨_, rfl⟩
  have qz6 : 38 < a0_6.tmps.size := by rw [ha6, sz_put]; exact qz5
  have f6_26 : a0_6.eval (.tmp 26) = .bool true := by rw [ha6, ev_other _ _ _ _ (by decide)]; exact f5_26
  rw [← ha6] at h0 ⊢
  clear ha6
  refine wpAnyH_take (i := 6) (oi := rn_6 s) (v := undef) (by kernel_rfl) (by kernel_rfl) (by kernel_rfl) (by kernel_rfl) (fun c a w h => hQ c _ _ _ w h) (Or.inr ⟨wanted_no rfl (by kernel_rfl) f6_26 (Nat.lt_of_le_of_lt (by decide) qz6), rfl⟩) hS ?_
  change wpAnyH _ _ _ _ _ _ _ (a0_6.put (some 31) (undef)) _
  obtain ⟨a0_7, ha7⟩ : ∃ rr : Act, rr = a0_6.put (some 31) (undef) := ⟨_, rfl⟩
  have qz7 : 38 < a0_7.tmps.size := by rw [ha7, sz_put]; exact qz6
  have f7_26 : a0_7.eval (.tmp 26) = .bool true := by rw [ha7, ev_other _ _ _ _ (by decide)]; exact f6_26
  rw [← ha7] at h0 ⊢
  clear ha7
  refine wpAnyH_take (i := 7) (oi := rn_7 s) (v := undef) (by kernel_rfl) (by kernel_rfl) (by kernel_rfl) (by kernel_rfl) (fun c a w h => hQ c _ _ _ w h) (Or.inr ⟨wanted_no rfl (by kernel_rfl) f7_26 (Nat.lt_of_le_of_lt (by decide) qz7), rfl⟩) hS ?_
  change wpAnyH _ _ _ _ _ _ _ (a0_7.put (some 32) (undef)) _
  obtain ⟨a0_8, ha8⟩ : ∃ rr : Act, rr = a0_7.put (some 32) (undef) := ⟨_, rfl⟩
  have qz8 : 38 < a0_8.tmps.size := by rw [ha8, sz_put]; exact qz7
  have f8_26 : a0_8.eval (.tmp 26) = .bool true := by rw [ha8, ev_other _ _ _ _ (by decide)]; exact f7_26
  rw [← ha8] at h0 ⊢
  clear ha8
  refine wpAnyH_take (i := 8) (oi := rn_8 s) (v := undef) (by kernel_rfl) (by kernel_rfl) (by kernel_rfl) (by kernel_rfl) (fun c a w h => hQ c _ _ _ w h) (Or.inr ⟨wanted_no rfl (by kernel_rfl) f8_26 (Nat.lt_of_le_of_lt (by decide) qz8), rfl⟩) hS ?_
  change wpAnyH _ _ _ _ _ _ _ (a0_8.put (some 33) (undef)) _
  obtain ⟨a0_9, ha9⟩ : ∃ rr : Act, rr = a0_8.put (some 33) (undef) := ⟨_, rfl⟩
  have qz9 : 38 < a0_9.tmps.size := by rw [ha9, sz_put]; exact qz8
  have f9_26 : a0_9.eval (.tmp 26) = .bool true := by rw [ha9, ev_other _ _ _ _ (by decide)]; exact f8_26
  rw [← ha9] at h0 ⊢
  clear ha9
  refine wpAnyH_take (i := 9) (oi := rn_9 s) (v := undef) (by kernel_rfl) (by kernel_rfl) (by kernel_rfl) (by kernel_rfl) (fun c a w h => hQ c _ _ _ w h) (Or.inr ⟨wanted_no rfl (by kernel_rfl) f9_26 (Nat.lt_of_le_of_lt (by decide) qz9), rfl⟩) hS ?_
  change wpAnyH _ _ _ _ _ _ _ (a0_9.put (some 34) (undef)) _
  obtain ⟨a0_10, ha10⟩ : ∃ rr : Act, rr = a0_9.put (some 34) (undef) := ⟨_, rfl⟩
  have qz10 : 38 < a0_10.tmps.size := by rw [ha10, sz_put]; exact qz9
  have f10_26 : a0_10.eval (.tmp 26) = .bool true := by rw [ha10, ev_other _ _ _ _ (by decide)]; exact f9_26
  rw [← ha10] at h0 ⊢
  clear ha10
  refine wpAnyH_take (i := 10) (oi := rn_10 s) (v := undef) (by kernel_rfl) (by kernel_rfl) (by kernel_rfl) (by kernel_rfl) (fun c a w h => hQ c _ _ _ w h) (Or.inr ⟨wanted_no rfl (by kernel_rfl) f10_26 (Nat.lt_of_le_of_lt (by decide) qz10), rfl⟩) hS ?_
  change wpAnyH _ _ _ _ _ _ _ (a0_10.put (some 35) (undef)) _
  obtain ⟨a0_11, ha11⟩ : ∃ rr : Act, rr = a0_10.put (some 35) (undef) := ⟨_, rfl⟩
  have qz11 : 38 < a0_11.tmps.size := by rw [ha11, sz_put]; exact qz10
  have f11_26 : a0_11.eval (.tmp 26) = .bool true := by rw [ha11, ev_other _ _ _ _ (by decide)]; exact f10_26
  rw [← ha11] at h0 ⊢
  clear ha11
  refine wpAnyH_take (i := 11) (oi := rn_11 s) (v := undef) (by kernel_rfl) (by kernel_rfl) (by kernel_rfl) (by kernel_rfl) (fun c a w h => hQ c _ _ _ w h) (Or.inr ⟨wanted_no rfl (by kernel_rfl) f11_26 (Nat.lt_of_le_of_lt (by decide) qz11), rfl⟩) hS ?_
  change wpAnyH _ _ _ _ _ _ _ (a0_11.put (some 36) (undef)) _
  obtain ⟨a0_12, ha12⟩ : ∃ rr : Act, rr = a0_11.put (some 36) (undef) := ⟨_, rfl⟩
  have qz12 : 38 < a0_12.tmps.size := by rw [ha12, sz_put]; exact qz11
  have f12_26 : a0_12.eval (.tmp 26) = .bool true := by rw [ha12, ev_other _ _ _ _ (by decide)]; exact f11_26
  rw [← ha12] at h0 ⊢
  clear ha12
  refine wpAnyH_take (i := 12) (oi := rn_12 s) (v := undef) (by kernel_rfl) (by kernel_rfl) (by kernel_rfl) (by kernel_rfl) (fun c a w h => hQ c _ _ _ w h) (Or.inr ⟨wanted_no rfl (by kernel_rfl) f12_26 (Nat.lt_of_le_of_lt (by decide) qz12), rfl⟩) hS ?_
  change wpAnyH _ _ _ _ _ _ _ (a0_12.put (some 37) (undef)) _
  obtain ⟨a0_13, ha13⟩ : ∃ rr : Act, rr = a0_12.put (some 37) (undef) := ⟨_, rfl⟩
  have qz13 : 38 < a0_13.tmps.size := by rw [ha13, sz_put]; exact qz12
  have f13_26 : a0_13.eval (.tmp 26) = .bool true := by rw [ha13, ev_other _ _ _ _ (by decide)]; exact f12_26
  have f13_37 : a0_13.eval (.tmp 37) = undef := by rw [ha13]; exact ev_same _ _ _ (Nat.lt_of_le_of_lt (by decide) qz12)
  rw [← ha13] at h0 ⊢
  clear ha13
  refine wpAnyH_take (i := 13) (oi := rn_13 s) (v := .bool true) (by kernel_rfl) (by kernel_rfl) (by kernel_rfl) (by kernel_rfl) (fun c a w h => hQ c _ _ _ w h) (Or.inl ⟨wanted_none rfl, fun w hw => by simp only [execOp, rn_13, f13_26]; rfl⟩) hS ?_
  change wpAnyH _ _ _ _ _ _ _ (a0_13.put (some 38) (.bool true)) _
  obtain ⟨a0_14, ha14⟩ : ∃ rr : Act, rr = a0_13.put (some 38) (.bool true) := ⟨_, rfl⟩
  have qz14 : 38 < a0_14.tmps.size := by rw [ha14, sz_put]; exact qz13
  rw [← ha14] at h0 ⊢
  clear ha14
  refine wpAnyH_done (by kernel_rfl) ?_ _
  exact h0
def rm_0 (s : String) : Oper := { dst := some 25, op := Op.move (Operand.tmp 3), type := 4, pos := s, after := #[], guard := none }
def rm_1 (s : String) : Oper := { dst := some 26, op := Op.move (Operand.tmp 25), type := 4, pos := s, after := #[{ on := 0, ground := Ground.data }], guard := none }
def rm_2 (s : String) : Oper := { dst := some 27, op := Op.load 30 (Operand.tmp 6), type := 30, pos := s, after := #[{ on := 1, ground := Ground.guard }], guard := some (1, false) }
def rm_3 (s : String) : Oper := { dst := some 28, op := Op.move (Operand.tmp 0), type := 25, pos := s, after := #[{ on := 1, ground := Ground.guard }], guard := some (1, false) }
def rm_4 (s : String) : Oper := { dst := some 29, op := Op.move (Operand.tmp 1), type := 3, pos := s, after := #[{ on := 1, ground := Ground.guard }], guard := some (1, false) }
def rm_5 (s : String) : Oper := { dst := some 30, op := Op.nilCheck (Operand.tmp 28), type := 0, pos := s, after := #[{ on := 3, ground := Ground.data }, { on := 1, ground := Ground.guard }], guard := some (1, false) }
def rm_6 (s : String) : Oper := { dst := some 31, op := Op.fieldAddr 58 (Operand.tmp 30) 2, type := 0, pos := s, after := #[{ on := 5, ground := Ground.data }, { on := 1, ground := Ground.guard }], guard := some (1, false) }
def rm_7 (s : String) : Oper := { dst := some 32, op := Op.indexAddr 56 (Operand.tmp 31) (Operand.tmp 29), type := 0, pos := s, after := #[{ on := 6, ground := Ground.data }, { on := 4, ground := Ground.data }, { on := 1, ground := Ground.guard }], guard := some (1, false) }
def rm_8 (s : String) : Oper := { dst := some 33, op := Op.load 42 (Operand.tmp 32), type := 42, pos := s, after := #[{ on := 7, ground := Ground.data }, { on := 1, ground := Ground.guard }], guard := some (1, false) }
def rm_9 (s : String) : Oper := { dst := some 34, op := Op.move (Operand.tmp 10), type := 3, pos := s, after := #[{ on := 1, ground := Ground.guard }], guard := some (1, false) }
def rm_10 (s : String) : Oper := { dst := some 35, op := Op.indexAddr 42 (Operand.tmp 33) (Operand.tmp 34), type := 0, pos := s, after := #[{ on := 8, ground := Ground.data }, { on := 9, ground := Ground.data }, { on := 1, ground := Ground.guard }], guard := some (1, false) }
def rm_11 (s : String) : Oper := { dst := some 36, op := Op.load 30 (Operand.tmp 35), type := 30, pos := s, after := #[{ on := 10, ground := Ground.data }, { on := 1, ground := Ground.guard }], guard := some (1, false) }
def rm_12 (s : String) : Oper := { dst := some 37, op := Op.call { callee := Callee.value (Operand.func 12), args := #[Operand.tmp 27, Operand.tmp 36], argTypes := #[30, 30] }, type := 4, pos := s, after := #[{ on := 2, ground := Ground.data }, { on := 11, ground := Ground.data }, { on := 1, ground := Ground.chain }, { on := 1, ground := Ground.guard }], guard := some (1, false) }
def rm_13 (s : String) : Oper := { dst := some 38, op := Op.pick (Operand.tmp 26) (Operand.const (Value.bool true)) (Operand.tmp 37), type := 4, pos := s, after := #[{ on := 1, ground := Ground.data }, { on := 12, ground := Ground.data }], guard := none }
def rm_ops (s : String) : Array Oper := #[rm_0 s, rm_1 s, rm_2 s, rm_3 s, rm_4 s, rm_5 s, rm_6 s, rm_7 s, rm_8 s, rm_9 s, rm_10 s, rm_11 s, rm_12 s, rm_13 s]
theorem rm_enter12 (s : String) (a : Act) (w : World) : (execOp a.eval (rm_12 s)).run Try.prog w = .ok (.enter 12 #[a.eval (.tmp 27), a.eval (.tmp 36)]) w := by kernel_rfl
theorem rm_walk (s : String) {Q : Exit → Act → World → Prop} (hQ : ∀ c (a : Act) t v w, Q (.panic c) (a.put (some t) v) w → Q (.panic c) a w) (W : World) (zr k g o n c i zx : Nat) (x y : List UInt8) (hxl : x.length = 32) (hyl : y.length = 32) (hk16 : k < 16) (hi : i < n) (hk : ∀ w', Below W.heap.size W w' → w'.cell? ⟨zr, 32 + k, none⟩ = some (.slice (some ⟨g, o, none⟩) n c) ∧ w'.rangeAt g (o + i * 32) (y.map u8c) ∧ KeyAt w' zx x) (r : Bool) (hc1 : Calls Try.prog 12 #[keyV x, keyV y] W.drew fun e w' => e = .returned (.bool r) ∧ Below W.drew.heap.size W.drew w')
    (a : Act) (hs : 38 < a.tmps.size) (e0 : a.eval (.tmp 0) = .pointer (some ⟨zr, 0, none⟩)) (e1 : a.eval (.tmp 1) = .int .i64 (k : Int)) (e3 : a.eval (.tmp 3) = .bool false) (e6 : a.eval (.tmp 6) = .pointer (some ⟨zx, 0, none⟩)) (e10 : a.eval (.tmp 10) = .int .i64 (i : Int))
    (h0 : ∀ w1, Below W.heap.size W w1 → Q .normal ((((((((((((((a.put (some 25) (.bool false)).put (some 26) (.bool false)).put (some 27) (keyV x)).put (some 28) (.pointer (some ⟨zr, 0, none⟩))).put (some 29) (.int .i64 (k : Int))).put (some 30) (.pointer (some ⟨zr, 0, none⟩))).put (some 31) (.pointer (some ⟨zr, 32, none⟩))).put (some 32) (.pointer (some ⟨zr, 32 + k, none⟩))).put (some 33) (.slice (some ⟨g, o, none⟩) n c)).put (some 34) (.int .i64 (i : Int))).put (some 35) (.pointer (some ⟨g, o + i * 32, none⟩))).put (some 36) (keyV y)).put (some 37) (.bool r)).put (some 38) (.bool r)) w1) :
    Code.wp Try.prog (.region 5 (rm_ops s) true) Q a W := by
  refine wp_region_held_drew (S := fun w => w.cell? ⟨zr, 32 + k, none⟩ = some (.slice (some ⟨g, o, none⟩) n c) ∧ w.rangeAt g (o + i * 32) (y.map u8c) ∧ KeyAt w zx x) (by kernel_rfl) (hk _ (below_d W)) (fun hS => ?_)
  change wpAnyH _ _ _ _ _ _ _ _ (World.drew _)
  refine wpAnyH_take (i := 0) (oi := rm_0 s) (v := .bool false) (by kernel_rfl) (by kernel_rfl) (by kernel_rfl) (by kernel_rfl) (fun c a w h => hQ c _ _ _ w h) (Or.inl ⟨wanted_none rfl, fun w hw => by simp only [execOp, rm_0, e3]; rfl⟩) hS ?_
  change wpAnyH _ _ _ _ _ _ _ (a.put (some 25) (.bool false)) _
  obtain ⟨a0_1, ha1⟩ : ∃ rr : Act, rr = a.put (some 25) (.bool false) := ⟨_, rfl⟩
  have qz1 : 38 < a0_1.tmps.size := by rw [ha1, sz_put]; exact hs
  have f1_0 : a0_1.eval (.tmp 0) = .pointer (some ⟨zr, 0, none⟩) := by rw [ha1, ev_other _ _ _ _ (by decide)]; exact e0
  have f1_1 : a0_1.eval (.tmp 1) = .int .i64 (k : Int) := by rw [ha1, ev_other _ _ _ _ (by decide)]; exact e1
  have f1_6 : a0_1.eval (.tmp 6) = .pointer (some ⟨zx, 0, none⟩) := by rw [ha1, ev_other _ _ _ _ (by decide)]; exact e6
  have f1_10 : a0_1.eval (.tmp 10) = .int .i64 (i : Int) := by rw [ha1, ev_other _ _ _ _ (by decide)]; exact e10
  have f1_25 : a0_1.eval (.tmp 25) = .bool false := by rw [ha1]; exact ev_same _ _ _ (Nat.lt_of_le_of_lt (by decide) hs)
  rw [← ha1] at h0 ⊢
  clear ha1
  refine wpAnyH_take (i := 1) (oi := rm_1 s) (v := .bool false) (by kernel_rfl) (by kernel_rfl) (by kernel_rfl) (by kernel_rfl) (fun c a w h => hQ c _ _ _ w h) (Or.inl ⟨wanted_none rfl, fun w hw => by simp only [execOp, rm_1, f1_25]; rfl⟩) hS ?_
  change wpAnyH _ _ _ _ _ _ _ (a0_1.put (some 26) (.bool false)) _
  obtain ⟨a0_2, ha2⟩ : ∃ rr : Act, rr = a0_1.put (some 26) (.bool false) := ⟨_, rfl⟩
  have qz2 : 38 < a0_2.tmps.size := by rw [ha2, sz_put]; exact qz1
  have f2_0 : a0_2.eval (.tmp 0) = .pointer (some ⟨zr, 0, none⟩) := by rw [ha2, ev_other _ _ _ _ (by decide)]; exact f1_0
  have f2_1 : a0_2.eval (.tmp 1) = .int .i64 (k : Int) := by rw [ha2, ev_other _ _ _ _ (by decide)]; exact f1_1
  have f2_6 : a0_2.eval (.tmp 6) = .pointer (some ⟨zx, 0, none⟩) := by rw [ha2, ev_other _ _ _ _ (by decide)]; exact f1_6
  have f2_10 : a0_2.eval (.tmp 10) = .int .i64 (i : Int) := by rw [ha2, ev_other _ _ _ _ (by decide)]; exact f1_10
  have f2_26 : a0_2.eval (.tmp 26) = .bool false := by rw [ha2]; exact ev_same _ _ _ (Nat.lt_of_le_of_lt (by decide) qz1)
  rw [← ha2] at h0 ⊢
  clear ha2
  refine wpAnyH_take (i := 2) (oi := rm_2 s) (v := keyV x) (by kernel_rfl) (by kernel_rfl) (by kernel_rfl) (by kernel_rfl) (fun c a w h => hQ c _ _ _ w h) (Or.inl ⟨wanted_some rfl (by kernel_rfl) f2_26 (Nat.lt_of_le_of_lt (by decide) qz2), fun w hw => run_load rfl f2_6 hw.2.2.load⟩) hS ?_
  change wpAnyH _ _ _ _ _ _ _ (a0_2.put (some 27) (keyV x)) _
  obtain ⟨a0_3, ha3⟩ : ∃ rr : Act, rr = a0_2.put (some 27) (keyV x) := ⟨_, rfl⟩
  have qz3 : 38 < a0_3.tmps.size := by rw [ha3, sz_put]; exact qz2
  have f3_0 : a0_3.eval (.tmp 0) = .pointer (some ⟨zr, 0, none⟩) := by rw [ha3, ev_other _ _ _ _ (by decide)]; exact f2_0
  have f3_1 : a0_3.eval (.tmp 1) = .int .i64 (k : Int) := by rw [ha3, ev_other _ _ _ _ (by decide)]; exact f2_1
  have f3_10 : a0_3.eval (.tmp 10) = .int .i64 (i : Int) := by rw [ha3, ev_other _ _ _ _ (by decide)]; exact f2_10
  have f3_26 : a0_3.eval (.tmp 26) = .bool false := by rw [ha3, ev_other _ _ _ _ (by decide)]; exact f2_26
  have f3_27 : a0_3.eval (.tmp 27) = keyV x := by rw [ha3]; exact ev_same _ _ _ (Nat.lt_of_le_of_lt (by decide) qz2)
  rw [← ha3] at h0 ⊢
  clear ha3
  refine wpAnyH_take (i := 3) (oi := rm_3 s) (v := .pointer (some ⟨zr, 0, none⟩)) (by kernel_rfl) (by kernel_rfl) (by kernel_rfl) (by kernel_rfl) (fun c a w h => hQ c _ _ _ w h) (Or.inl ⟨wanted_some rfl (by kernel_rfl) f3_26 (Nat.lt_of_le_of_lt (by decide) qz3), fun w hw => by simp only [execOp, rm_3, f3_0]; rfl⟩) hS ?_
  change wpAnyH _ _ _ _ _ _ _ (a0_3.put (some 28) (.pointer (some ⟨zr, 0, none⟩))) _
  obtain ⟨a0_4, ha4⟩ : ∃ rr : Act, rr = a0_3.put (some 28) (.pointer (some ⟨zr, 0, none⟩)) := ⟨_, rfl⟩
  have qz4 : 38 < a0_4.tmps.size := by rw [ha4, sz_put]; exact qz3
  have f4_1 : a0_4.eval (.tmp 1) = .int .i64 (k : Int) := by rw [ha4, ev_other _ _ _ _ (by decide)]; exact f3_1
  have f4_10 : a0_4.eval (.tmp 10) = .int .i64 (i : Int) := by rw [ha4, ev_other _ _ _ _ (by decide)]; exact f3_10
  have f4_26 : a0_4.eval (.tmp 26) = .bool false := by rw [ha4, ev_other _ _ _ _ (by decide)]; exact f3_26
  have f4_27 : a0_4.eval (.tmp 27) = keyV x := by rw [ha4, ev_other _ _ _ _ (by decide)]; exact f3_27
  have f4_28 : a0_4.eval (.tmp 28) = .pointer (some ⟨zr, 0, none⟩) := by rw [ha4]; exact ev_same _ _ _ (Nat.lt_of_le_of_lt (by decide) qz3)
  rw [← ha4] at h0 ⊢
  clear ha4
  refine wpAnyH_take (i := 4) (oi := rm_4 s) (v := .int .i64 (k : Int)) (by kernel_rfl) (by kernel_rfl) (by kernel_rfl) (by kernel_rfl) (fun c a w h => hQ c _ _ _ w h) (Or.inl ⟨wanted_some rfl (by kernel_rfl) f4_26 (Nat.lt_of_le_of_lt (by decide) qz4), fun w hw => by simp only [execOp, rm_4, f4_1]; rfl⟩) hS ?_
  change wpAnyH _ _ _ _ _ _ _ (a0_4.put (some 29) (.int .i64 (k : Int))) _
  obtain ⟨a0_5, ha5⟩ : ∃ rr : Act, rr = a0_4.put (some 29) (.int .i64 (k : Int)) := ⟨_, rfl⟩
  have qz5 : 38 < a0_5.tmps.size := by rw [ha5, sz_put]; exact qz4
  have f5_10 : a0_5.eval (.tmp 10) = .int .i64 (i : Int) := by rw [ha5, ev_other _ _ _ _ (by decide)]; exact f4_10
  have f5_26 : a0_5.eval (.tmp 26) = .bool false := by rw [ha5, ev_other _ _ _ _ (by decide)]; exact f4_26
  have f5_27 : a0_5.eval (.tmp 27) = keyV x := by rw [ha5, ev_other _ _ _ _ (by decide)]; exact f4_27
  have f5_28 : a0_5.eval (.tmp 28) = .pointer (some ⟨zr, 0, none⟩) := by rw [ha5, ev_other _ _ _ _ (by decide)]; exact f4_28
  have f5_29 : a0_5.eval (.tmp 29) = .int .i64 (k : Int) := by rw [ha5]; exact ev_same _ _ _ (Nat.lt_of_le_of_lt (by decide) qz4)
  rw [← ha5] at h0 ⊢
  clear ha5
  refine wpAnyH_take (i := 5) (oi := rm_5 s) (v := .pointer (some ⟨zr, 0, none⟩)) (by kernel_rfl) (by kernel_rfl) (by kernel_rfl) (by kernel_rfl) (fun c a w h => hQ c _ _ _ w h) (Or.inl ⟨wanted_some rfl (by kernel_rfl) f5_26 (Nat.lt_of_le_of_lt (by decide) qz5), fun w hw => by simp only [execOp, rm_5, f5_28]; rfl⟩) hS ?_
  change wpAnyH _ _ _ _ _ _ _ (a0_5.put (some 30) (.pointer (some ⟨zr, 0, none⟩))) _
  obtain ⟨a0_6, ha6⟩ : ∃ rr : Act, rr = a0_5.put (some 30) (.pointer (some ⟨zr, 0, none⟩)) := ⟨_, rfl⟩
  have qz6 : 38 < a0_6.tmps.size := by rw [ha6, sz_put]; exact qz5
  have f6_10 : a0_6.eval (.tmp 10) = .int .i64 (i : Int) := by rw [ha6, ev_other _ _ _ _ (by decide)]; exact f5_10
  have f6_26 : a0_6.eval (.tmp 26) = .bool false := by rw [ha6, ev_other _ _ _ _ (by decide)]; exact f5_26
  have f6_27 : a0_6.eval (.tmp 27) = keyV x := by rw [ha6, ev_other _ _ _ _ (by decide)]; exact f5_27
  have f6_29 : a0_6.eval (.tmp 29) = .int .i64 (k : Int) := by rw [ha6, ev_other _ _ _ _ (by decide)]; exact f5_29
  have f6_30 : a0_6.eval (.tmp 30) = .pointer (some ⟨zr, 0, none⟩) := by rw [ha6]; exact ev_same _ _ _ (Nat.lt_of_le_of_lt (by decide) qz5)
  rw [← ha6] at h0 ⊢
  clear ha6
  refine wpAnyH_take (i := 6) (oi := rm_6 s) (v := .pointer (some ⟨zr, 32, none⟩)) (by kernel_rfl) (by kernel_rfl) (by kernel_rfl) (by kernel_rfl) (fun c a w h => hQ c _ _ _ w h) (Or.inl ⟨wanted_some rfl (by kernel_rfl) f6_26 (Nat.lt_of_le_of_lt (by decide) qz6), fun w hw => by simp only [execOp, rm_6, f6_30]; rfl⟩) hS ?_
  change wpAnyH _ _ _ _ _ _ _ (a0_6.put (some 31) (.pointer (some ⟨zr, 32, none⟩))) _
  obtain ⟨a0_7, ha7⟩ : ∃ rr : Act, rr = a0_6.put (some 31) (.pointer (some ⟨zr, 32, none⟩)) := ⟨_, rfl⟩
  have qz7 : 38 < a0_7.tmps.size := by rw [ha7, sz_put]; exact qz6
  have f7_10 : a0_7.eval (.tmp 10) = .int .i64 (i : Int) := by rw [ha7, ev_other _ _ _ _ (by decide)]; exact f6_10
  have f7_26 : a0_7.eval (.tmp 26) = .bool false := by rw [ha7, ev_other _ _ _ _ (by decide)]; exact f6_26
  have f7_27 : a0_7.eval (.tmp 27) = keyV x := by rw [ha7, ev_other _ _ _ _ (by decide)]; exact f6_27
  have f7_29 : a0_7.eval (.tmp 29) = .int .i64 (k : Int) := by rw [ha7, ev_other _ _ _ _ (by decide)]; exact f6_29
  have f7_31 : a0_7.eval (.tmp 31) = .pointer (some ⟨zr, 32, none⟩) := by rw [ha7]; exact ev_same _ _ _ (Nat.lt_of_le_of_lt (by decide) qz6)
  rw [← ha7] at h0 ⊢
  clear ha7
  refine wpAnyH_take (i := 7) (oi := rm_7 s) (v := .pointer (some ⟨zr, 32 + k, none⟩)) (by kernel_rfl) (by kernel_rfl) (by kernel_rfl) (by kernel_rfl) (fun c a w h => hQ c _ _ _ w h) (Or.inl ⟨wanted_some rfl (by kernel_rfl) f7_26 (Nat.lt_of_le_of_lt (by decide) qz7), fun w hw => run_idxR rfl f7_31 f7_29 hk16 w⟩) hS ?_
  change wpAnyH _ _ _ _ _ _ _ (a0_7.put (some 32) (.pointer (some ⟨zr, 32 + k, none⟩))) _
  obtain ⟨a0_8, ha8⟩ : ∃ rr : Act, rr = a0_7.put (some 32) (.pointer (some ⟨zr, 32 + k, none⟩)) := ⟨_, rfl⟩
  have qz8 : 38 < a0_8.tmps.size := by rw [ha8, sz_put]; exact qz7
  have f8_10 : a0_8.eval (.tmp 10) = .int .i64 (i : Int) := by rw [ha8, ev_other _ _ _ _ (by decide)]; exact f7_10
  have f8_26 : a0_8.eval (.tmp 26) = .bool false := by rw [ha8, ev_other _ _ _ _ (by decide)]; exact f7_26
  have f8_27 : a0_8.eval (.tmp 27) = keyV x := by rw [ha8, ev_other _ _ _ _ (by decide)]; exact f7_27
  have f8_32 : a0_8.eval (.tmp 32) = .pointer (some ⟨zr, 32 + k, none⟩) := by rw [ha8]; exact ev_same _ _ _ (Nat.lt_of_le_of_lt (by decide) qz7)
  rw [← ha8] at h0 ⊢
  clear ha8
  refine wpAnyH_take (i := 8) (oi := rm_8 s) (v := .slice (some ⟨g, o, none⟩) n c) (by kernel_rfl) (by kernel_rfl) (by kernel_rfl) (by kernel_rfl) (fun c a w h => hQ c _ _ _ w h) (Or.inl ⟨wanted_some rfl (by kernel_rfl) f8_26 (Nat.lt_of_le_of_lt (by decide) qz8), fun w hw => run_load rfl f8_32 (load_rowR hw.1)⟩) hS ?_
  change wpAnyH _ _ _ _ _ _ _ (a0_8.put (some 33) (.slice (some ⟨g, o, none⟩) n c)) _
  obtain ⟨a0_9, ha9⟩ : ∃ rr : Act, rr = a0_8.put (some 33) (.slice (some ⟨g, o, none⟩) n c) := ⟨_, rfl⟩
  have qz9 : 38 < a0_9.tmps.size := by rw [ha9, sz_put]; exact qz8
  have f9_10 : a0_9.eval (.tmp 10) = .int .i64 (i : Int) := by rw [ha9, ev_other _ _ _ _ (by decide)]; exact f8_10
  have f9_26 : a0_9.eval (.tmp 26) = .bool false := by rw [ha9, ev_other _ _ _ _ (by decide)]; exact f8_26
  have f9_27 : a0_9.eval (.tmp 27) = keyV x := by rw [ha9, ev_other _ _ _ _ (by decide)]; exact f8_27
  have f9_33 : a0_9.eval (.tmp 33) = .slice (some ⟨g, o, none⟩) n c := by rw [ha9]; exact ev_same _ _ _ (Nat.lt_of_le_of_lt (by decide) qz8)
  rw [← ha9] at h0 ⊢
  clear ha9
  refine wpAnyH_take (i := 9) (oi := rm_9 s) (v := .int .i64 (i : Int)) (by kernel_rfl) (by kernel_rfl) (by kernel_rfl) (by kernel_rfl) (fun c a w h => hQ c _ _ _ w h) (Or.inl ⟨wanted_some rfl (by kernel_rfl) f9_26 (Nat.lt_of_le_of_lt (by decide) qz9), fun w hw => by simp only [execOp, rm_9, f9_10]; rfl⟩) hS ?_
  change wpAnyH _ _ _ _ _ _ _ (a0_9.put (some 34) (.int .i64 (i : Int))) _
  obtain ⟨a0_10, ha10⟩ : ∃ rr : Act, rr = a0_9.put (some 34) (.int .i64 (i : Int)) := ⟨_, rfl⟩
  have qz10 : 38 < a0_10.tmps.size := by rw [ha10, sz_put]; exact qz9
  have f10_26 : a0_10.eval (.tmp 26) = .bool false := by rw [ha10, ev_other _ _ _ _ (by decide)]; exact f9_26
  have f10_27 : a0_10.eval (.tmp 27) = keyV x := by rw [ha10, ev_other _ _ _ _ (by decide)]; exact f9_27
  have f10_33 : a0_10.eval (.tmp 33) = .slice (some ⟨g, o, none⟩) n c := by rw [ha10, ev_other _ _ _ _ (by decide)]; exact f9_33
  have f10_34 : a0_10.eval (.tmp 34) = .int .i64 (i : Int) := by rw [ha10]; exact ev_same _ _ _ (Nat.lt_of_le_of_lt (by decide) qz9)
  rw [← ha10] at h0 ⊢
  clear ha10
  refine wpAnyH_take (i := 10) (oi := rm_10 s) (v := .pointer (some ⟨g, o + i * 32, none⟩)) (by kernel_rfl) (by kernel_rfl) (by kernel_rfl) (by kernel_rfl) (fun c a w h => hQ c _ _ _ w h) (Or.inl ⟨wanted_some rfl (by kernel_rfl) f10_26 (Nat.lt_of_le_of_lt (by decide) qz10), fun w hw => run_idxK2 rfl f10_33 f10_34 hi w⟩) hS ?_
  change wpAnyH _ _ _ _ _ _ _ (a0_10.put (some 35) (.pointer (some ⟨g, o + i * 32, none⟩))) _
  obtain ⟨a0_11, ha11⟩ : ∃ rr : Act, rr = a0_10.put (some 35) (.pointer (some ⟨g, o + i * 32, none⟩)) := ⟨_, rfl⟩
  have qz11 : 38 < a0_11.tmps.size := by rw [ha11, sz_put]; exact qz10
  have f11_26 : a0_11.eval (.tmp 26) = .bool false := by rw [ha11, ev_other _ _ _ _ (by decide)]; exact f10_26
  have f11_27 : a0_11.eval (.tmp 27) = keyV x := by rw [ha11, ev_other _ _ _ _ (by decide)]; exact f10_27
  have f11_35 : a0_11.eval (.tmp 35) = .pointer (some ⟨g, o + i * 32, none⟩) := by rw [ha11]; exact ev_same _ _ _ (Nat.lt_of_le_of_lt (by decide) qz10)
  rw [← ha11] at h0 ⊢
  clear ha11
  refine wpAnyH_take (i := 11) (oi := rm_11 s) (v := keyV y) (by kernel_rfl) (by kernel_rfl) (by kernel_rfl) (by kernel_rfl) (fun c a w h => hQ c _ _ _ w h) (Or.inl ⟨wanted_some rfl (by kernel_rfl) f11_26 (Nat.lt_of_le_of_lt (by decide) qz11), fun w hw => run_load rfl f11_35 (loadAt_key hyl hw.2.1)⟩) hS ?_
  change wpAnyH _ _ _ _ _ _ _ (a0_11.put (some 36) (keyV y)) _
  obtain ⟨a0_12, ha12⟩ : ∃ rr : Act, rr = a0_11.put (some 36) (keyV y) := ⟨_, rfl⟩
  have qz12 : 38 < a0_12.tmps.size := by rw [ha12, sz_put]; exact qz11
  have f12_26 : a0_12.eval (.tmp 26) = .bool false := by rw [ha12, ev_other _ _ _ _ (by decide)]; exact f11_26
  have f12_27 : a0_12.eval (.tmp 27) = keyV x := by rw [ha12, ev_other _ _ _ _ (by decide)]; exact f11_27
  have f12_36 : a0_12.eval (.tmp 36) = keyV y := by rw [ha12]; exact ev_same _ _ _ (Nat.lt_of_le_of_lt (by decide) qz11)
  rw [← ha12] at h0 ⊢
  clear ha12
  refine wpAnyH_ready (rs := [12]) (by kernel_rfl) (by simp) ?_
  refine AllReadyH.cons (o := rm_12 s) (by kernel_rfl) (fun KQ hKQ => ?_) AllReadyH.nil
  rw [if_pos (wanted_some rfl (by kernel_rfl) f12_26 (Nat.lt_of_le_of_lt (by decide) qz12))]
  refine step_enterE 12 #[keyV x, keyV y] (by rw [rm_enter12, f12_27, f12_36]) (fun V w' => V = .bool r ∧ Below W.heap.size W w') (hc1.mono (fun e w' h => ⟨_, h.1, rfl, (below_d W).trans h.2⟩)) ?_
  rintro _ w1 ⟨rfl, hb1⟩
  refine hKQ.out _ _ (hk w1 hb1) (fun _ => ?_)
  clear hKQ KQ
  change wpAnyH _ _ _ _ _ _ _ (a0_12.put (some 37) (.bool r)) _
  have h0 := h0 w1 hb1
  obtain ⟨a0_13, ha13⟩ : ∃ rr : Act, rr = a0_12.put (some 37) (.bool r) := ⟨_, rfl⟩
  have qz13 : 38 < a0_13.tmps.size := by rw [ha13, sz_put]; exact qz12
  have f13_26 : a0_13.eval (.tmp 26) = .bool false := by rw [ha13, ev_other _ _ _ _ (by decide)]; exact f12_26
  have f13_37 : a0_13.eval (.tmp 37) = .bool r := by rw [ha13]; exact ev_same _ _ _ (Nat.lt_of_le_of_lt (by decide) qz12)
  rw [← ha13] at h0 ⊢
  clear ha13
  refine wpAnyH_take (i := 13) (oi := rm_13 s) (v := .bool r) (by kernel_rfl) (by kernel_rfl) (by kernel_rfl) (by kernel_rfl) (fun c a w h => hQ c _ _ _ w h) (Or.inl ⟨wanted_none rfl, fun w hw => by simp only [execOp, rm_13, f13_26, f13_37]; rfl⟩) (hk w1 hb1) ?_
  change wpAnyH _ _ _ _ _ _ _ (a0_13.put (some 38) (.bool r)) _
  obtain ⟨a0_14, ha14⟩ : ∃ rr : Act, rr = a0_13.put (some 38) (.bool r) := ⟨_, rfl⟩
  have qz14 : 38 < a0_14.tmps.size := by rw [ha14, sz_put]; exact qz13
  rw [← ha14] at h0 ⊢
  clear ha14
  refine wpAnyH_done (by kernel_rfl) ?_ _
  exact h0
def rp_0 (s : String) : Oper := { dst := some 29, op := Op.move (Operand.tmp 8), type := 4, pos := s, after := #[], guard := none }
def rp_1 (s : String) : Oper := { dst := some 30, op := Op.unOp UnOp.not 4 (Operand.tmp 29), type := 4, pos := s, after := #[{ on := 0, ground := Ground.data }], guard := none }
def rp_2 (s : String) : Oper := { dst := some 31, op := Op.move (Operand.tmp 30), type := 4, pos := s, after := #[{ on := 1, ground := Ground.data }], guard := none }
def rp_3 (s : String) : Oper := { dst := some 32, op := Op.load 30 (Operand.tmp 5), type := 30, pos := s, after := #[{ on := 2, ground := Ground.guard }], guard := some (2, true) }
def rp_4 (s : String) : Oper := { dst := some 33, op := Op.move (Operand.tmp 0), type := 25, pos := s, after := #[{ on := 2, ground := Ground.guard }], guard := some (2, true) }
def rp_5 (s : String) : Oper := { dst := some 34, op := Op.move (Operand.tmp 1), type := 3, pos := s, after := #[{ on := 2, ground := Ground.guard }], guard := some (2, true) }
def rp_6 (s : String) : Oper := { dst := some 35, op := Op.nilCheck (Operand.tmp 33), type := 0, pos := s, after := #[{ on := 4, ground := Ground.data }, { on := 2, ground := Ground.guard }], guard := some (2, true) }
def rp_7 (s : String) : Oper := { dst := some 36, op := Op.fieldAddr 58 (Operand.tmp 35) 2, type := 0, pos := s, after := #[{ on := 6, ground := Ground.data }, { on := 2, ground := Ground.guard }], guard := some (2, true) }
def rp_8 (s : String) : Oper := { dst := some 37, op := Op.indexAddr 56 (Operand.tmp 36) (Operand.tmp 34), type := 0, pos := s, after := #[{ on := 7, ground := Ground.data }, { on := 5, ground := Ground.data }, { on := 2, ground := Ground.guard }], guard := some (2, true) }
def rp_9 (s : String) : Oper := { dst := some 38, op := Op.load 42 (Operand.tmp 37), type := 42, pos := s, after := #[{ on := 8, ground := Ground.data }, { on := 2, ground := Ground.guard }], guard := some (2, true) }
def rp_10 (s : String) : Oper := { dst := some 39, op := Op.move (Operand.tmp 9), type := 3, pos := s, after := #[{ on := 2, ground := Ground.guard }], guard := some (2, true) }
def rp_11 (s : String) : Oper := { dst := some 40, op := Op.indexAddr 42 (Operand.tmp 38) (Operand.tmp 39), type := 0, pos := s, after := #[{ on := 9, ground := Ground.data }, { on := 10, ground := Ground.data }, { on := 2, ground := Ground.guard }], guard := some (2, true) }
def rp_12 (s : String) : Oper := { dst := some 41, op := Op.load 30 (Operand.tmp 40), type := 30, pos := s, after := #[{ on := 11, ground := Ground.data }, { on := 2, ground := Ground.guard }], guard := some (2, true) }
def rp_13 (s : String) : Oper := { dst := some 42, op := Op.call { callee := Callee.value (Operand.func 12), args := #[Operand.tmp 32, Operand.tmp 41], argTypes := #[30, 30] }, type := 4, pos := s, after := #[{ on := 3, ground := Ground.data }, { on := 12, ground := Ground.data }, { on := 2, ground := Ground.chain }, { on := 2, ground := Ground.guard }], guard := some (2, true) }
def rp_14 (s : String) : Oper := { dst := some 43, op := Op.pick (Operand.tmp 31) (Operand.tmp 42) (Operand.const (Value.bool false)), type := 4, pos := s, after := #[{ on := 2, ground := Ground.data }, { on := 13, ground := Ground.data }], guard := none }
def rp_ops (s : String) : Array Oper := #[rp_0 s, rp_1 s, rp_2 s, rp_3 s, rp_4 s, rp_5 s, rp_6 s, rp_7 s, rp_8 s, rp_9 s, rp_10 s, rp_11 s, rp_12 s, rp_13 s, rp_14 s]
theorem rp_enter13 (s : String) (a : Act) (w : World) : (execOp a.eval (rp_13 s)).run Try.prog w = .ok (.enter 12 #[a.eval (.tmp 32), a.eval (.tmp 41)]) w := by kernel_rfl
theorem rp_walk (s : String) {Q : Exit → Act → World → Prop} (hQ : ∀ c (a : Act) t v w, Q (.panic c) (a.put (some t) v) w → Q (.panic c) a w) (W : World)
    (a : Act) (hs : 43 < a.tmps.size) (e8 : a.eval (.tmp 8) = .bool true)
    (h0 :  Q .normal (((((((((((((((a.put (some 29) (.bool true)).put (some 30) (.bool false)).put (some 31) (.bool false)).put (some 32) (undef)).put (some 33) (undef)).put (some 34) (undef)).put (some 35) (undef)).put (some 36) (undef)).put (some 37) (undef)).put (some 38) (undef)).put (some 39) (undef)).put (some 40) (undef)).put (some 41) (undef)).put (some 42) (undef)).put (some 43) (.bool false)) W.drew) :
    Code.wp Try.prog (.region 10 (rp_ops s) true) Q a W := by
  refine wp_region_held_drew (S := fun _ => True) (by kernel_rfl) trivial (fun hS => ?_)
  change wpAnyH _ _ _ _ _ _ _ _ (World.drew _)
  refine wpAnyH_take (i := 0) (oi := rp_0 s) (v := .bool true) (by kernel_rfl) (by kernel_rfl) (by kernel_rfl) (by kernel_rfl) (fun c a w h => hQ c _ _ _ w h) (Or.inl ⟨wanted_none rfl, fun w hw => by simp only [execOp, rp_0, e8]; rfl⟩) hS ?_
  change wpAnyH _ _ _ _ _ _ _ (a.put (some 29) (.bool true)) _
  obtain ⟨a0_1, ha1⟩ : ∃ rr : Act, rr = a.put (some 29) (.bool true) := ⟨_, rfl⟩
  have qz1 : 43 < a0_1.tmps.size := by rw [ha1, sz_put]; exact hs
  have f1_29 : a0_1.eval (.tmp 29) = .bool true := by rw [ha1]; exact ev_same _ _ _ (Nat.lt_of_le_of_lt (by decide) hs)
  rw [← ha1] at h0 ⊢
  clear ha1
  refine wpAnyH_take (i := 1) (oi := rp_1 s) (v := .bool false) (by kernel_rfl) (by kernel_rfl) (by kernel_rfl) (by kernel_rfl) (fun c a w h => hQ c _ _ _ w h) (Or.inl ⟨wanted_none rfl, fun w hw => by simp only [execOp, rp_1, f1_29]; kernel_rfl⟩) hS ?_
  change wpAnyH _ _ _ _ _ _ _ (a0_1.put (some 30) (.bool false)) _
  obtain ⟨a0_2, ha2⟩ : ∃ rr : Act, rr = a0_1.put (some 30) (.bool false) := ⟨_, rfl⟩
  have qz2 : 43 < a0_2.tmps.size := by rw [ha2, sz_put]; exact qz1
  have f2_30 : a0_2.eval (.tmp 30) = .bool false := by rw [ha2]; exact ev_same _ _ _ (Nat.lt_of_le_of_lt (by decide) qz1)
  rw [← ha2] at h0 ⊢
  clear ha2
  refine wpAnyH_take (i := 2) (oi := rp_2 s) (v := .bool false) (by kernel_rfl) (by kernel_rfl) (by kernel_rfl) (by kernel_rfl) (fun c a w h => hQ c _ _ _ w h) (Or.inl ⟨wanted_none rfl, fun w hw => by simp only [execOp, rp_2, f2_30]; rfl⟩) hS ?_
  change wpAnyH _ _ _ _ _ _ _ (a0_2.put (some 31) (.bool false)) _
  obtain ⟨a0_3, ha3⟩ : ∃ rr : Act, rr = a0_2.put (some 31) (.bool false) := ⟨_, rfl⟩
  have qz3 : 43 < a0_3.tmps.size := by rw [ha3, sz_put]; exact qz2
  have f3_31 : a0_3.eval (.tmp 31) = .bool false := by rw [ha3]; exact ev_same _ _ _ (Nat.lt_of_le_of_lt (by decide) qz2)
  rw [← ha3] at h0 ⊢
  clear ha3
  refine wpAnyH_take (i := 3) (oi := rp_3 s) (v := undef) (by kernel_rfl) (by kernel_rfl) (by kernel_rfl) (by kernel_rfl) (fun c a w h => hQ c _ _ _ w h) (Or.inr ⟨wanted_no rfl (by kernel_rfl) f3_31 (Nat.lt_of_le_of_lt (by decide) qz3), rfl⟩) hS ?_
  change wpAnyH _ _ _ _ _ _ _ (a0_3.put (some 32) (undef)) _
  obtain ⟨a0_4, ha4⟩ : ∃ rr : Act, rr = a0_3.put (some 32) (undef) := ⟨_, rfl⟩
  have qz4 : 43 < a0_4.tmps.size := by rw [ha4, sz_put]; exact qz3
  have f4_31 : a0_4.eval (.tmp 31) = .bool false := by rw [ha4, ev_other _ _ _ _ (by decide)]; exact f3_31
  rw [← ha4] at h0 ⊢
  clear ha4
  refine wpAnyH_take (i := 4) (oi := rp_4 s) (v := undef) (by kernel_rfl) (by kernel_rfl) (by kernel_rfl) (by kernel_rfl) (fun c a w h => hQ c _ _ _ w h) (Or.inr ⟨wanted_no rfl (by kernel_rfl) f4_31 (Nat.lt_of_le_of_lt (by decide) qz4), rfl⟩) hS ?_
  change wpAnyH _ _ _ _ _ _ _ (a0_4.put (some 33) (undef)) _
  obtain ⟨a0_5, ha5⟩ : ∃ rr : Act, rr = a0_4.put (some 33) (undef) := ⟨_, rfl⟩
  have qz5 : 43 < a0_5.tmps.size := by rw [ha5, sz_put]; exact qz4
  have f5_31 : a0_5.eval (.tmp 31) = .bool false := by rw [ha5, ev_other _ _ _ _ (by decide)]; exact f4_31
  rw [← ha5] at h0 ⊢
  clear ha5
  refine wpAnyH_take (i := 5) (oi := rp_5 s) (v := undef) (by kernel_rfl) (by kernel_rfl) (by kernel_rfl) (by kernel_rfl) (fun c a w h => hQ c _ _ _ w h) (Or.inr ⟨wanted_no rfl (by kernel_rfl) f5_31 (Nat.lt_of_le_of_lt (by decide) qz5), rfl⟩) hS ?_
  change wpAnyH _ _ _ _ _ _ _ (a0_5.put (some 34) (undef)) _
  obtain ⟨a0_6, ha6⟩ : ∃ rr : Act, rr = a0_5.put (some 34) (undef) := ⟨_, rfl⟩
  have qz6 : 43 < a0_6.tmps.size := by rw [ha6, sz_put]; exact qz5
  have f6_31 : a0_6.eval (.tmp 31) = .bool false := by rw [ha6, ev_other _ _ _ _ (by decide)]; exact f5_31
  rw [← ha6] at h0 ⊢
  clear ha6
  refine wpAnyH_take (i := 6) (oi := rp_6 s) (v := undef) (by kernel_rfl) (by kernel_rfl) (by kernel_rfl) (by kernel_rfl) (fun c a w h => hQ c _ _ _ w h) (Or.inr ⟨wanted_no rfl (by kernel_rfl) f6_31 (Nat.lt_of_le_of_lt (by decide) qz6), rfl⟩) hS ?_
  change wpAnyH _ _ _ _ _ _ _ (a0_6.put (some 35) (undef)) _
  obtain ⟨a0_7, ha7⟩ : ∃ rr : Act, rr = a0_6.put (some 35) (undef) := ⟨_, rfl⟩
  have qz7 : 43 < a0_7.tmps.size := by rw [ha7, sz_put]; exact qz6
  have f7_31 : a0_7.eval (.tmp 31) = .bool false := by rw [ha7, ev_other _ _ _ _ (by decide)]; exact f6_31
  rw [← ha7] at h0 ⊢
  clear ha7
  refine wpAnyH_take (i := 7) (oi := rp_7 s) (v := undef) (by kernel_rfl) (by kernel_rfl) (by kernel_rfl) (by kernel_rfl) (fun c a w h => hQ c _ _ _ w h) (Or.inr ⟨wanted_no rfl (by kernel_rfl) f7_31 (Nat.lt_of_le_of_lt (by decide) qz7), rfl⟩) hS ?_
  change wpAnyH _ _ _ _ _ _ _ (a0_7.put (some 36) (undef)) _
  obtain ⟨a0_8, ha8⟩ : ∃ rr : Act, rr = a0_7.put (some 36) (undef) := ⟨_, rfl⟩
  have qz8 : 43 < a0_8.tmps.size := by rw [ha8, sz_put]; exact qz7
  have f8_31 : a0_8.eval (.tmp 31) = .bool false := by rw [ha8, ev_other _ _ _ _ (by decide)]; exact f7_31
  rw [← ha8] at h0 ⊢
  clear ha8
  refine wpAnyH_take (i := 8) (oi := rp_8 s) (v := undef) (by kernel_rfl) (by kernel_rfl) (by kernel_rfl) (by kernel_rfl) (fun c a w h => hQ c _ _ _ w h) (Or.inr ⟨wanted_no rfl (by kernel_rfl) f8_31 (Nat.lt_of_le_of_lt (by decide) qz8), rfl⟩) hS ?_
  change wpAnyH _ _ _ _ _ _ _ (a0_8.put (some 37) (undef)) _
  obtain ⟨a0_9, ha9⟩ : ∃ rr : Act, rr = a0_8.put (some 37) (undef) := ⟨_, rfl⟩
  have qz9 : 43 < a0_9.tmps.size := by rw [ha9, sz_put]; exact qz8
  have f9_31 : a0_9.eval (.tmp 31) = .bool false := by rw [ha9, ev_other _ _ _ _ (by decide)]; exact f8_31
  rw [← ha9] at h0 ⊢
  clear ha9
  refine wpAnyH_take (i := 9) (oi := rp_9 s) (v := undef) (by kernel_rfl) (by kernel_rfl) (by kernel_rfl) (by kernel_rfl) (fun c a w h => hQ c _ _ _ w h) (Or.inr ⟨wanted_no rfl (by kernel_rfl) f9_31 (Nat.lt_of_le_of_lt (by decide) qz9), rfl⟩) hS ?_
  change wpAnyH _ _ _ _ _ _ _ (a0_9.put (some 38) (undef)) _
  obtain ⟨a0_10, ha10⟩ : ∃ rr : Act, rr = a0_9.put (some 38) (undef) := ⟨_, rfl⟩
  have qz10 : 43 < a0_10.tmps.size := by rw [ha10, sz_put]; exact qz9
  have f10_31 : a0_10.eval (.tmp 31) = .bool false := by rw [ha10, ev_other _ _ _ _ (by decide)]; exact f9_31
  rw [← ha10] at h0 ⊢
  clear ha10
  refine wpAnyH_take (i := 10) (oi := rp_10 s) (v := undef) (by kernel_rfl) (by kernel_rfl) (by kernel_rfl) (by kernel_rfl) (fun c a w h => hQ c _ _ _ w h) (Or.inr ⟨wanted_no rfl (by kernel_rfl) f10_31 (Nat.lt_of_le_of_lt (by decide) qz10), rfl⟩) hS ?_
  change wpAnyH _ _ _ _ _ _ _ (a0_10.put (some 39) (undef)) _
  obtain ⟨a0_11, ha11⟩ : ∃ rr : Act, rr = a0_10.put (some 39) (undef) := ⟨_, rfl⟩
  have qz11 : 43 < a0_11.tmps.size := by rw [ha11, sz_put]; exact qz10
  have f11_31 : a0_11.eval (.tmp 31) = .bool false := by rw [ha11, ev_other _ _ _ _ (by decide)]; exact f10_31
  rw [← ha11] at h0 ⊢
  clear ha11
  refine wpAnyH_take (i := 11) (oi := rp_11 s) (v := undef) (by kernel_rfl) (by kernel_rfl) (by kernel_rfl) (by kernel_rfl) (fun c a w h => hQ c _ _ _ w h) (Or.inr ⟨wanted_no rfl (by kernel_rfl) f11_31 (Nat.lt_of_le_of_lt (by decide) qz11), rfl⟩) hS ?_
  change wpAnyH _ _ _ _ _ _ _ (a0_11.put (some 40) (undef)) _
  obtain ⟨a0_12, ha12⟩ : ∃ rr : Act, rr = a0_11.put (some 40) (undef) := ⟨_, rfl⟩
  have qz12 : 43 < a0_12.tmps.size := by rw [ha12, sz_put]; exact qz11
  have f12_31 : a0_12.eval (.tmp 31) = .bool false := by rw [ha12, ev_other _ _ _ _ (by decide)]; exact f11_31
  rw [← ha12] at h0 ⊢
  clear ha12
  refine wpAnyH_take (i := 12) (oi := rp_12 s) (v := undef) (by kernel_rfl) (by kernel_rfl) (by kernel_rfl) (by kernel_rfl) (fun c a w h => hQ c _ _ _ w h) (Or.inr ⟨wanted_no rfl (by kernel_rfl) f12_31 (Nat.lt_of_le_of_lt (by decide) qz12), rfl⟩) hS ?_
  change wpAnyH _ _ _ _ _ _ _ (a0_12.put (some 41) (undef)) _
  obtain ⟨a0_13, ha13⟩ : ∃ rr : Act, rr = a0_12.put (some 41) (undef) := ⟨_, rfl⟩
  have qz13 : 43 < a0_13.tmps.size := by rw [ha13, sz_put]; exact qz12
  have f13_31 : a0_13.eval (.tmp 31) = .bool false := by rw [ha13, ev_other _ _ _ _ (by decide)]; exact f12_31
  rw [← ha13] at h0 ⊢
  clear ha13
  refine wpAnyH_take (i := 13) (oi := rp_13 s) (v := undef) (by kernel_rfl) (by kernel_rfl) (by kernel_rfl) (by kernel_rfl) (fun c a w h => hQ c _ _ _ w h) (Or.inr ⟨wanted_no rfl (by kernel_rfl) f13_31 (Nat.lt_of_le_of_lt (by decide) qz13), rfl⟩) hS ?_
  change wpAnyH _ _ _ _ _ _ _ (a0_13.put (some 42) (undef)) _
  obtain ⟨a0_14, ha14⟩ : ∃ rr : Act, rr = a0_13.put (some 42) (undef) := ⟨_, rfl⟩
  have qz14 : 43 < a0_14.tmps.size := by rw [ha14, sz_put]; exact qz13
  have f14_31 : a0_14.eval (.tmp 31) = .bool false := by rw [ha14, ev_other _ _ _ _ (by decide)]; exact f13_31
  have f14_42 : a0_14.eval (.tmp 42) = undef := by rw [ha14]; exact ev_same _ _ _ (Nat.lt_of_le_of_lt (by decide) qz13)
  rw [← ha14] at h0 ⊢
  clear ha14
  refine wpAnyH_take (i := 14) (oi := rp_14 s) (v := .bool false) (by kernel_rfl) (by kernel_rfl) (by kernel_rfl) (by kernel_rfl) (fun c a w h => hQ c _ _ _ w h) (Or.inl ⟨wanted_none rfl, fun w hw => by simp only [execOp, rp_14, f14_31]; rfl⟩) hS ?_
  change wpAnyH _ _ _ _ _ _ _ (a0_14.put (some 43) (.bool false)) _
  obtain ⟨a0_15, ha15⟩ : ∃ rr : Act, rr = a0_14.put (some 43) (.bool false) := ⟨_, rfl⟩
  have qz15 : 43 < a0_15.tmps.size := by rw [ha15, sz_put]; exact qz14
  rw [← ha15] at h0 ⊢
  clear ha15
  refine wpAnyH_done (by kernel_rfl) ?_ _
  exact h0
def rq_0 (s : String) : Oper := { dst := some 29, op := Op.move (Operand.tmp 8), type := 4, pos := s, after := #[], guard := none }
def rq_1 (s : String) : Oper := { dst := some 30, op := Op.unOp UnOp.not 4 (Operand.tmp 29), type := 4, pos := s, after := #[{ on := 0, ground := Ground.data }], guard := none }
def rq_2 (s : String) : Oper := { dst := some 31, op := Op.move (Operand.tmp 30), type := 4, pos := s, after := #[{ on := 1, ground := Ground.data }], guard := none }
def rq_3 (s : String) : Oper := { dst := some 32, op := Op.load 30 (Operand.tmp 5), type := 30, pos := s, after := #[{ on := 2, ground := Ground.guard }], guard := some (2, true) }
def rq_4 (s : String) : Oper := { dst := some 33, op := Op.move (Operand.tmp 0), type := 25, pos := s, after := #[{ on := 2, ground := Ground.guard }], guard := some (2, true) }
def rq_5 (s : String) : Oper := { dst := some 34, op := Op.move (Operand.tmp 1), type := 3, pos := s, after := #[{ on := 2, ground := Ground.guard }], guard := some (2, true) }
def rq_6 (s : String) : Oper := { dst := some 35, op := Op.nilCheck (Operand.tmp 33), type := 0, pos := s, after := #[{ on := 4, ground := Ground.data }, { on := 2, ground := Ground.guard }], guard := some (2, true) }
def rq_7 (s : String) : Oper := { dst := some 36, op := Op.fieldAddr 58 (Operand.tmp 35) 2, type := 0, pos := s, after := #[{ on := 6, ground := Ground.data }, { on := 2, ground := Ground.guard }], guard := some (2, true) }
def rq_8 (s : String) : Oper := { dst := some 37, op := Op.indexAddr 56 (Operand.tmp 36) (Operand.tmp 34), type := 0, pos := s, after := #[{ on := 7, ground := Ground.data }, { on := 5, ground := Ground.data }, { on := 2, ground := Ground.guard }], guard := some (2, true) }
def rq_9 (s : String) : Oper := { dst := some 38, op := Op.load 42 (Operand.tmp 37), type := 42, pos := s, after := #[{ on := 8, ground := Ground.data }, { on := 2, ground := Ground.guard }], guard := some (2, true) }
def rq_10 (s : String) : Oper := { dst := some 39, op := Op.move (Operand.tmp 9), type := 3, pos := s, after := #[{ on := 2, ground := Ground.guard }], guard := some (2, true) }
def rq_11 (s : String) : Oper := { dst := some 40, op := Op.indexAddr 42 (Operand.tmp 38) (Operand.tmp 39), type := 0, pos := s, after := #[{ on := 9, ground := Ground.data }, { on := 10, ground := Ground.data }, { on := 2, ground := Ground.guard }], guard := some (2, true) }
def rq_12 (s : String) : Oper := { dst := some 41, op := Op.load 30 (Operand.tmp 40), type := 30, pos := s, after := #[{ on := 11, ground := Ground.data }, { on := 2, ground := Ground.guard }], guard := some (2, true) }
def rq_13 (s : String) : Oper := { dst := some 42, op := Op.call { callee := Callee.value (Operand.func 12), args := #[Operand.tmp 32, Operand.tmp 41], argTypes := #[30, 30] }, type := 4, pos := s, after := #[{ on := 3, ground := Ground.data }, { on := 12, ground := Ground.data }, { on := 2, ground := Ground.chain }, { on := 2, ground := Ground.guard }], guard := some (2, true) }
def rq_14 (s : String) : Oper := { dst := some 43, op := Op.pick (Operand.tmp 31) (Operand.tmp 42) (Operand.const (Value.bool false)), type := 4, pos := s, after := #[{ on := 2, ground := Ground.data }, { on := 13, ground := Ground.data }], guard := none }
def rq_ops (s : String) : Array Oper := #[rq_0 s, rq_1 s, rq_2 s, rq_3 s, rq_4 s, rq_5 s, rq_6 s, rq_7 s, rq_8 s, rq_9 s, rq_10 s, rq_11 s, rq_12 s, rq_13 s, rq_14 s]
theorem rq_enter13 (s : String) (a : Act) (w : World) : (execOp a.eval (rq_13 s)).run Try.prog w = .ok (.enter 12 #[a.eval (.tmp 32), a.eval (.tmp 41)]) w := by kernel_rfl
theorem rq_walk (s : String) {Q : Exit → Act → World → Prop} (hQ : ∀ c (a : Act) t v w, Q (.panic c) (a.put (some t) v) w → Q (.panic c) a w) (W : World) (zr k g o n c i zx : Nat) (x y : List UInt8) (hxl : x.length = 32) (hyl : y.length = 32) (hk16 : k < 16) (hi : i < n) (hk : ∀ w', Below W.heap.size W w' → w'.cell? ⟨zr, 32 + k, none⟩ = some (.slice (some ⟨g, o, none⟩) n c) ∧ w'.rangeAt g (o + i * 32) (y.map u8c) ∧ KeyAt w' zx x) (r : Bool) (hc1 : Calls Try.prog 12 #[keyV x, keyV y] W.drew fun e w' => e = .returned (.bool r) ∧ Below W.drew.heap.size W.drew w')
    (a : Act) (hs : 43 < a.tmps.size) (e0 : a.eval (.tmp 0) = .pointer (some ⟨zr, 0, none⟩)) (e1 : a.eval (.tmp 1) = .int .i64 (k : Int)) (e5 : a.eval (.tmp 5) = .pointer (some ⟨zx, 0, none⟩)) (e8 : a.eval (.tmp 8) = .bool false) (e9 : a.eval (.tmp 9) = .int .i64 (i : Int))
    (h0 : ∀ w1, Below W.heap.size W w1 → Q .normal (((((((((((((((a.put (some 29) (.bool false)).put (some 30) (.bool true)).put (some 31) (.bool true)).put (some 32) (keyV x)).put (some 33) (.pointer (some ⟨zr, 0, none⟩))).put (some 34) (.int .i64 (k : Int))).put (some 35) (.pointer (some ⟨zr, 0, none⟩))).put (some 36) (.pointer (some ⟨zr, 32, none⟩))).put (some 37) (.pointer (some ⟨zr, 32 + k, none⟩))).put (some 38) (.slice (some ⟨g, o, none⟩) n c)).put (some 39) (.int .i64 (i : Int))).put (some 40) (.pointer (some ⟨g, o + i * 32, none⟩))).put (some 41) (keyV y)).put (some 42) (.bool r)).put (some 43) (.bool r)) w1) :
    Code.wp Try.prog (.region 10 (rq_ops s) true) Q a W := by
  refine wp_region_held_drew (S := fun w => w.cell? ⟨zr, 32 + k, none⟩ = some (.slice (some ⟨g, o, none⟩) n c) ∧ w.rangeAt g (o + i * 32) (y.map u8c) ∧ KeyAt w zx x) (by kernel_rfl) (hk _ (below_d W)) (fun hS => ?_)
  change wpAnyH _ _ _ _ _ _ _ _ (World.drew _)
  refine wpAnyH_take (i := 0) (oi := rq_0 s) (v := .bool false) (by kernel_rfl) (by kernel_rfl) (by kernel_rfl) (by kernel_rfl) (fun c a w h => hQ c _ _ _ w h) (Or.inl ⟨wanted_none rfl, fun w hw => by simp only [execOp, rq_0, e8]; rfl⟩) hS ?_
  change wpAnyH _ _ _ _ _ _ _ (a.put (some 29) (.bool false)) _
  obtain ⟨a0_1, ha1⟩ : ∃ rr : Act, rr = a.put (some 29) (.bool false) := ⟨_, rfl⟩
  have qz1 : 43 < a0_1.tmps.size := by rw [ha1, sz_put]; exact hs
  have f1_0 : a0_1.eval (.tmp 0) = .pointer (some ⟨zr, 0, none⟩) := by rw [ha1, ev_other _ _ _ _ (by decide)]; exact e0
  have f1_1 : a0_1.eval (.tmp 1) = .int .i64 (k : Int) := by rw [ha1, ev_other _ _ _ _ (by decide)]; exact e1
  have f1_5 : a0_1.eval (.tmp 5) = .pointer (some ⟨zx, 0, none⟩) := by rw [ha1, ev_other _ _ _ _ (by decide)]; exact e5
  have f1_9 : a0_1.eval (.tmp 9) = .int .i64 (i : Int) := by rw [ha1, ev_other _ _ _ _ (by decide)]; exact e9
  have f1_29 : a0_1.eval (.tmp 29) = .bool false := by rw [ha1]; exact ev_same _ _ _ (Nat.lt_of_le_of_lt (by decide) hs)
  rw [← ha1] at h0 ⊢
  clear ha1
  refine wpAnyH_take (i := 1) (oi := rq_1 s) (v := .bool true) (by kernel_rfl) (by kernel_rfl) (by kernel_rfl) (by kernel_rfl) (fun c a w h => hQ c _ _ _ w h) (Or.inl ⟨wanted_none rfl, fun w hw => by simp only [execOp, rq_1, f1_29]; kernel_rfl⟩) hS ?_
  change wpAnyH _ _ _ _ _ _ _ (a0_1.put (some 30) (.bool true)) _
  obtain ⟨a0_2, ha2⟩ : ∃ rr : Act, rr = a0_1.put (some 30) (.bool true) := ⟨_, rfl⟩
  have qz2 : 43 < a0_2.tmps.size := by rw [ha2, sz_put]; exact qz1
  have f2_0 : a0_2.eval (.tmp 0) = .pointer (some ⟨zr, 0, none⟩) := by rw [ha2, ev_other _ _ _ _ (by decide)]; exact f1_0
  have f2_1 : a0_2.eval (.tmp 1) = .int .i64 (k : Int) := by rw [ha2, ev_other _ _ _ _ (by decide)]; exact f1_1
  have f2_5 : a0_2.eval (.tmp 5) = .pointer (some ⟨zx, 0, none⟩) := by rw [ha2, ev_other _ _ _ _ (by decide)]; exact f1_5
  have f2_9 : a0_2.eval (.tmp 9) = .int .i64 (i : Int) := by rw [ha2, ev_other _ _ _ _ (by decide)]; exact f1_9
  have f2_30 : a0_2.eval (.tmp 30) = .bool true := by rw [ha2]; exact ev_same _ _ _ (Nat.lt_of_le_of_lt (by decide) qz1)
  rw [← ha2] at h0 ⊢
  clear ha2
  refine wpAnyH_take (i := 2) (oi := rq_2 s) (v := .bool true) (by kernel_rfl) (by kernel_rfl) (by kernel_rfl) (by kernel_rfl) (fun c a w h => hQ c _ _ _ w h) (Or.inl ⟨wanted_none rfl, fun w hw => by simp only [execOp, rq_2, f2_30]; rfl⟩) hS ?_
  change wpAnyH _ _ _ _ _ _ _ (a0_2.put (some 31) (.bool true)) _
  obtain ⟨a0_3, ha3⟩ : ∃ rr : Act, rr = a0_2.put (some 31) (.bool true) := ⟨_, rfl⟩
  have qz3 : 43 < a0_3.tmps.size := by rw [ha3, sz_put]; exact qz2
  have f3_0 : a0_3.eval (.tmp 0) = .pointer (some ⟨zr, 0, none⟩) := by rw [ha3, ev_other _ _ _ _ (by decide)]; exact f2_0
  have f3_1 : a0_3.eval (.tmp 1) = .int .i64 (k : Int) := by rw [ha3, ev_other _ _ _ _ (by decide)]; exact f2_1
  have f3_5 : a0_3.eval (.tmp 5) = .pointer (some ⟨zx, 0, none⟩) := by rw [ha3, ev_other _ _ _ _ (by decide)]; exact f2_5
  have f3_9 : a0_3.eval (.tmp 9) = .int .i64 (i : Int) := by rw [ha3, ev_other _ _ _ _ (by decide)]; exact f2_9
  have f3_31 : a0_3.eval (.tmp 31) = .bool true := by rw [ha3]; exact ev_same _ _ _ (Nat.lt_of_le_of_lt (by decide) qz2)
  rw [← ha3] at h0 ⊢
  clear ha3
  refine wpAnyH_take (i := 3) (oi := rq_3 s) (v := keyV x) (by kernel_rfl) (by kernel_rfl) (by kernel_rfl) (by kernel_rfl) (fun c a w h => hQ c _ _ _ w h) (Or.inl ⟨wanted_some rfl (by kernel_rfl) f3_31 (Nat.lt_of_le_of_lt (by decide) qz3), fun w hw => run_load rfl f3_5 hw.2.2.load⟩) hS ?_
  change wpAnyH _ _ _ _ _ _ _ (a0_3.put (some 32) (keyV x)) _
  obtain ⟨a0_4, ha4⟩ : ∃ rr : Act, rr = a0_3.put (some 32) (keyV x) := ⟨_, rfl⟩
  have qz4 : 43 < a0_4.tmps.size := by rw [ha4, sz_put]; exact qz3
  have f4_0 : a0_4.eval (.tmp 0) = .pointer (some ⟨zr, 0, none⟩) := by rw [ha4, ev_other _ _ _ _ (by decide)]; exact f3_0
  have f4_1 : a0_4.eval (.tmp 1) = .int .i64 (k : Int) := by rw [ha4, ev_other _ _ _ _ (by decide)]; exact f3_1
  have f4_9 : a0_4.eval (.tmp 9) = .int .i64 (i : Int) := by rw [ha4, ev_other _ _ _ _ (by decide)]; exact f3_9
  have f4_31 : a0_4.eval (.tmp 31) = .bool true := by rw [ha4, ev_other _ _ _ _ (by decide)]; exact f3_31
  have f4_32 : a0_4.eval (.tmp 32) = keyV x := by rw [ha4]; exact ev_same _ _ _ (Nat.lt_of_le_of_lt (by decide) qz3)
  rw [← ha4] at h0 ⊢
  clear ha4
  refine wpAnyH_take (i := 4) (oi := rq_4 s) (v := .pointer (some ⟨zr, 0, none⟩)) (by kernel_rfl) (by kernel_rfl) (by kernel_rfl) (by kernel_rfl) (fun c a w h => hQ c _ _ _ w h) (Or.inl ⟨wanted_some rfl (by kernel_rfl) f4_31 (Nat.lt_of_le_of_lt (by decide) qz4), fun w hw => by simp only [execOp, rq_4, f4_0]; rfl⟩) hS ?_
  change wpAnyH _ _ _ _ _ _ _ (a0_4.put (some 33) (.pointer (some ⟨zr, 0, none⟩))) _
  obtain ⟨a0_5, ha5⟩ : ∃ rr : Act, rr = a0_4.put (some 33) (.pointer (some ⟨zr, 0, none⟩)) := ⟨_, rfl⟩
  have qz5 : 43 < a0_5.tmps.size := by rw [ha5, sz_put]; exact qz4
  have f5_1 : a0_5.eval (.tmp 1) = .int .i64 (k : Int) := by rw [ha5, ev_other _ _ _ _ (by decide)]; exact f4_1
  have f5_9 : a0_5.eval (.tmp 9) = .int .i64 (i : Int) := by rw [ha5, ev_other _ _ _ _ (by decide)]; exact f4_9
  have f5_31 : a0_5.eval (.tmp 31) = .bool true := by rw [ha5, ev_other _ _ _ _ (by decide)]; exact f4_31
  have f5_32 : a0_5.eval (.tmp 32) = keyV x := by rw [ha5, ev_other _ _ _ _ (by decide)]; exact f4_32
  have f5_33 : a0_5.eval (.tmp 33) = .pointer (some ⟨zr, 0, none⟩) := by rw [ha5]; exact ev_same _ _ _ (Nat.lt_of_le_of_lt (by decide) qz4)
  rw [← ha5] at h0 ⊢
  clear ha5
  refine wpAnyH_take (i := 5) (oi := rq_5 s) (v := .int .i64 (k : Int)) (by kernel_rfl) (by kernel_rfl) (by kernel_rfl) (by kernel_rfl) (fun c a w h => hQ c _ _ _ w h) (Or.inl ⟨wanted_some rfl (by kernel_rfl) f5_31 (Nat.lt_of_le_of_lt (by decide) qz5), fun w hw => by simp only [execOp, rq_5, f5_1]; rfl⟩) hS ?_
  change wpAnyH _ _ _ _ _ _ _ (a0_5.put (some 34) (.int .i64 (k : Int))) _
  obtain ⟨a0_6, ha6⟩ : ∃ rr : Act, rr = a0_5.put (some 34) (.int .i64 (k : Int)) := ⟨_, rfl⟩
  have qz6 : 43 < a0_6.tmps.size := by rw [ha6, sz_put]; exact qz5
  have f6_9 : a0_6.eval (.tmp 9) = .int .i64 (i : Int) := by rw [ha6, ev_other _ _ _ _ (by decide)]; exact f5_9
  have f6_31 : a0_6.eval (.tmp 31) = .bool true := by rw [ha6, ev_other _ _ _ _ (by decide)]; exact f5_31
  have f6_32 : a0_6.eval (.tmp 32) = keyV x := by rw [ha6, ev_other _ _ _ _ (by decide)]; exact f5_32
  have f6_33 : a0_6.eval (.tmp 33) = .pointer (some ⟨zr, 0, none⟩) := by rw [ha6, ev_other _ _ _ _ (by decide)]; exact f5_33
  have f6_34 : a0_6.eval (.tmp 34) = .int .i64 (k : Int) := by rw [ha6]; exact ev_same _ _ _ (Nat.lt_of_le_of_lt (by decide) qz5)
  rw [← ha6] at h0 ⊢
  clear ha6
  refine wpAnyH_take (i := 6) (oi := rq_6 s) (v := .pointer (some ⟨zr, 0, none⟩)) (by kernel_rfl) (by kernel_rfl) (by kernel_rfl) (by kernel_rfl) (fun c a w h => hQ c _ _ _ w h) (Or.inl ⟨wanted_some rfl (by kernel_rfl) f6_31 (Nat.lt_of_le_of_lt (by decide) qz6), fun w hw => by simp only [execOp, rq_6, f6_33]; rfl⟩) hS ?_
  change wpAnyH _ _ _ _ _ _ _ (a0_6.put (some 35) (.pointer (some ⟨zr, 0, none⟩))) _
  obtain ⟨a0_7, ha7⟩ : ∃ rr : Act, rr = a0_6.put (some 35) (.pointer (some ⟨zr, 0, none⟩)) := ⟨_, rfl⟩
  have qz7 : 43 < a0_7.tmps.size := by rw [ha7, sz_put]; exact qz6
  have f7_9 : a0_7.eval (.tmp 9) = .int .i64 (i : Int) := by rw [ha7, ev_other _ _ _ _ (by decide)]; exact f6_9
  have f7_31 : a0_7.eval (.tmp 31) = .bool true := by rw [ha7, ev_other _ _ _ _ (by decide)]; exact f6_31
  have f7_32 : a0_7.eval (.tmp 32) = keyV x := by rw [ha7, ev_other _ _ _ _ (by decide)]; exact f6_32
  have f7_34 : a0_7.eval (.tmp 34) = .int .i64 (k : Int) := by rw [ha7, ev_other _ _ _ _ (by decide)]; exact f6_34
  have f7_35 : a0_7.eval (.tmp 35) = .pointer (some ⟨zr, 0, none⟩) := by rw [ha7]; exact ev_same _ _ _ (Nat.lt_of_le_of_lt (by decide) qz6)
  rw [← ha7] at h0 ⊢
  clear ha7
  refine wpAnyH_take (i := 7) (oi := rq_7 s) (v := .pointer (some ⟨zr, 32, none⟩)) (by kernel_rfl) (by kernel_rfl) (by kernel_rfl) (by kernel_rfl) (fun c a w h => hQ c _ _ _ w h) (Or.inl ⟨wanted_some rfl (by kernel_rfl) f7_31 (Nat.lt_of_le_of_lt (by decide) qz7), fun w hw => by simp only [execOp, rq_7, f7_35]; rfl⟩) hS ?_
  change wpAnyH _ _ _ _ _ _ _ (a0_7.put (some 36) (.pointer (some ⟨zr, 32, none⟩))) _
  obtain ⟨a0_8, ha8⟩ : ∃ rr : Act, rr = a0_7.put (some 36) (.pointer (some ⟨zr, 32, none⟩)) := ⟨_, rfl⟩
  have qz8 : 43 < a0_8.tmps.size := by rw [ha8, sz_put]; exact qz7
  have f8_9 : a0_8.eval (.tmp 9) = .int .i64 (i : Int) := by rw [ha8, ev_other _ _ _ _ (by decide)]; exact f7_9
  have f8_31 : a0_8.eval (.tmp 31) = .bool true := by rw [ha8, ev_other _ _ _ _ (by decide)]; exact f7_31
  have f8_32 : a0_8.eval (.tmp 32) = keyV x := by rw [ha8, ev_other _ _ _ _ (by decide)]; exact f7_32
  have f8_34 : a0_8.eval (.tmp 34) = .int .i64 (k : Int) := by rw [ha8, ev_other _ _ _ _ (by decide)]; exact f7_34
  have f8_36 : a0_8.eval (.tmp 36) = .pointer (some ⟨zr, 32, none⟩) := by rw [ha8]; exact ev_same _ _ _ (Nat.lt_of_le_of_lt (by decide) qz7)
  rw [← ha8] at h0 ⊢
  clear ha8
  refine wpAnyH_take (i := 8) (oi := rq_8 s) (v := .pointer (some ⟨zr, 32 + k, none⟩)) (by kernel_rfl) (by kernel_rfl) (by kernel_rfl) (by kernel_rfl) (fun c a w h => hQ c _ _ _ w h) (Or.inl ⟨wanted_some rfl (by kernel_rfl) f8_31 (Nat.lt_of_le_of_lt (by decide) qz8), fun w hw => run_idxR rfl f8_36 f8_34 hk16 w⟩) hS ?_
  change wpAnyH _ _ _ _ _ _ _ (a0_8.put (some 37) (.pointer (some ⟨zr, 32 + k, none⟩))) _
  obtain ⟨a0_9, ha9⟩ : ∃ rr : Act, rr = a0_8.put (some 37) (.pointer (some ⟨zr, 32 + k, none⟩)) := ⟨_, rfl⟩
  have qz9 : 43 < a0_9.tmps.size := by rw [ha9, sz_put]; exact qz8
  have f9_9 : a0_9.eval (.tmp 9) = .int .i64 (i : Int) := by rw [ha9, ev_other _ _ _ _ (by decide)]; exact f8_9
  have f9_31 : a0_9.eval (.tmp 31) = .bool true := by rw [ha9, ev_other _ _ _ _ (by decide)]; exact f8_31
  have f9_32 : a0_9.eval (.tmp 32) = keyV x := by rw [ha9, ev_other _ _ _ _ (by decide)]; exact f8_32
  have f9_37 : a0_9.eval (.tmp 37) = .pointer (some ⟨zr, 32 + k, none⟩) := by rw [ha9]; exact ev_same _ _ _ (Nat.lt_of_le_of_lt (by decide) qz8)
  rw [← ha9] at h0 ⊢
  clear ha9
  refine wpAnyH_take (i := 9) (oi := rq_9 s) (v := .slice (some ⟨g, o, none⟩) n c) (by kernel_rfl) (by kernel_rfl) (by kernel_rfl) (by kernel_rfl) (fun c a w h => hQ c _ _ _ w h) (Or.inl ⟨wanted_some rfl (by kernel_rfl) f9_31 (Nat.lt_of_le_of_lt (by decide) qz9), fun w hw => run_load rfl f9_37 (load_rowR hw.1)⟩) hS ?_
  change wpAnyH _ _ _ _ _ _ _ (a0_9.put (some 38) (.slice (some ⟨g, o, none⟩) n c)) _
  obtain ⟨a0_10, ha10⟩ : ∃ rr : Act, rr = a0_9.put (some 38) (.slice (some ⟨g, o, none⟩) n c) := ⟨_, rfl⟩
  have qz10 : 43 < a0_10.tmps.size := by rw [ha10, sz_put]; exact qz9
  have f10_9 : a0_10.eval (.tmp 9) = .int .i64 (i : Int) := by rw [ha10, ev_other _ _ _ _ (by decide)]; exact f9_9
  have f10_31 : a0_10.eval (.tmp 31) = .bool true := by rw [ha10, ev_other _ _ _ _ (by decide)]; exact f9_31
  have f10_32 : a0_10.eval (.tmp 32) = keyV x := by rw [ha10, ev_other _ _ _ _ (by decide)]; exact f9_32
  have f10_38 : a0_10.eval (.tmp 38) = .slice (some ⟨g, o, none⟩) n c := by rw [ha10]; exact ev_same _ _ _ (Nat.lt_of_le_of_lt (by decide) qz9)
  rw [← ha10] at h0 ⊢
  clear ha10
  refine wpAnyH_take (i := 10) (oi := rq_10 s) (v := .int .i64 (i : Int)) (by kernel_rfl) (by kernel_rfl) (by kernel_rfl) (by kernel_rfl) (fun c a w h => hQ c _ _ _ w h) (Or.inl ⟨wanted_some rfl (by kernel_rfl) f10_31 (Nat.lt_of_le_of_lt (by decide) qz10), fun w hw => by simp only [execOp, rq_10, f10_9]; rfl⟩) hS ?_
  change wpAnyH _ _ _ _ _ _ _ (a0_10.put (some 39) (.int .i64 (i : Int))) _
  obtain ⟨a0_11, ha11⟩ : ∃ rr : Act, rr = a0_10.put (some 39) (.int .i64 (i : Int)) := ⟨_, rfl⟩
  have qz11 : 43 < a0_11.tmps.size := by rw [ha11, sz_put]; exact qz10
  have f11_31 : a0_11.eval (.tmp 31) = .bool true := by rw [ha11, ev_other _ _ _ _ (by decide)]; exact f10_31
  have f11_32 : a0_11.eval (.tmp 32) = keyV x := by rw [ha11, ev_other _ _ _ _ (by decide)]; exact f10_32
  have f11_38 : a0_11.eval (.tmp 38) = .slice (some ⟨g, o, none⟩) n c := by rw [ha11, ev_other _ _ _ _ (by decide)]; exact f10_38
  have f11_39 : a0_11.eval (.tmp 39) = .int .i64 (i : Int) := by rw [ha11]; exact ev_same _ _ _ (Nat.lt_of_le_of_lt (by decide) qz10)
  rw [← ha11] at h0 ⊢
  clear ha11
  refine wpAnyH_take (i := 11) (oi := rq_11 s) (v := .pointer (some ⟨g, o + i * 32, none⟩)) (by kernel_rfl) (by kernel_rfl) (by kernel_rfl) (by kernel_rfl) (fun c a w h => hQ c _ _ _ w h) (Or.inl ⟨wanted_some rfl (by kernel_rfl) f11_31 (Nat.lt_of_le_of_lt (by decide) qz11), fun w hw => run_idxK2 rfl f11_38 f11_39 hi w⟩) hS ?_
  change wpAnyH _ _ _ _ _ _ _ (a0_11.put (some 40) (.pointer (some ⟨g, o + i * 32, none⟩))) _
  obtain ⟨a0_12, ha12⟩ : ∃ rr : Act, rr = a0_11.put (some 40) (.pointer (some ⟨g, o + i * 32, none⟩)) := ⟨_, rfl⟩
  have qz12 : 43 < a0_12.tmps.size := by rw [ha12, sz_put]; exact qz11
  have f12_31 : a0_12.eval (.tmp 31) = .bool true := by rw [ha12, ev_other _ _ _ _ (by decide)]; exact f11_31
  have f12_32 : a0_12.eval (.tmp 32) = keyV x := by rw [ha12, ev_other _ _ _ _ (by decide)]; exact f11_32
  have f12_40 : a0_12.eval (.tmp 40) = .pointer (some ⟨g, o + i * 32, none⟩) := by rw [ha12]; exact ev_same _ _ _ (Nat.lt_of_le_of_lt (by decide) qz11)
  rw [← ha12] at h0 ⊢
  clear ha12
  refine wpAnyH_take (i := 12) (oi := rq_12 s) (v := keyV y) (by kernel_rfl) (by kernel_rfl) (by kernel_rfl) (by kernel_rfl) (fun c a w h => hQ c _ _ _ w h) (Or.inl ⟨wanted_some rfl (by kernel_rfl) f12_31 (Nat.lt_of_le_of_lt (by decide) qz12), fun w hw => run_load rfl f12_40 (loadAt_key hyl hw.2.1)⟩) hS ?_
  change wpAnyH _ _ _ _ _ _ _ (a0_12.put (some 41) (keyV y)) _
  obtain ⟨a0_13, ha13⟩ : ∃ rr : Act, rr = a0_12.put (some 41) (keyV y) := ⟨_, rfl⟩
  have qz13 : 43 < a0_13.tmps.size := by rw [ha13, sz_put]; exact qz12
  have f13_31 : a0_13.eval (.tmp 31) = .bool true := by rw [ha13, ev_other _ _ _ _ (by decide)]; exact f12_31
  have f13_32 : a0_13.eval (.tmp 32) = keyV x := by rw [ha13, ev_other _ _ _ _ (by decide)]; exact f12_32
  have f13_41 : a0_13.eval (.tmp 41) = keyV y := by rw [ha13]; exact ev_same _ _ _ (Nat.lt_of_le_of_lt (by decide) qz12)
  rw [← ha13] at h0 ⊢
  clear ha13
  refine wpAnyH_ready (rs := [13]) (by kernel_rfl) (by simp) ?_
  refine AllReadyH.cons (o := rq_13 s) (by kernel_rfl) (fun KQ hKQ => ?_) AllReadyH.nil
  rw [if_pos (wanted_some rfl (by kernel_rfl) f13_31 (Nat.lt_of_le_of_lt (by decide) qz13))]
  refine step_enterE 12 #[keyV x, keyV y] (by rw [rq_enter13, f13_32, f13_41]) (fun V w' => V = .bool r ∧ Below W.heap.size W w') (hc1.mono (fun e w' h => ⟨_, h.1, rfl, (below_d W).trans h.2⟩)) ?_
  rintro _ w1 ⟨rfl, hb1⟩
  refine hKQ.out _ _ (hk w1 hb1) (fun _ => ?_)
  clear hKQ KQ
  change wpAnyH _ _ _ _ _ _ _ (a0_13.put (some 42) (.bool r)) _
  have h0 := h0 w1 hb1
  obtain ⟨a0_14, ha14⟩ : ∃ rr : Act, rr = a0_13.put (some 42) (.bool r) := ⟨_, rfl⟩
  have qz14 : 43 < a0_14.tmps.size := by rw [ha14, sz_put]; exact qz13
  have f14_31 : a0_14.eval (.tmp 31) = .bool true := by rw [ha14, ev_other _ _ _ _ (by decide)]; exact f13_31
  have f14_42 : a0_14.eval (.tmp 42) = .bool r := by rw [ha14]; exact ev_same _ _ _ (Nat.lt_of_le_of_lt (by decide) qz13)
  rw [← ha14] at h0 ⊢
  clear ha14
  refine wpAnyH_take (i := 14) (oi := rq_14 s) (v := .bool r) (by kernel_rfl) (by kernel_rfl) (by kernel_rfl) (by kernel_rfl) (fun c a w h => hQ c _ _ _ w h) (Or.inl ⟨wanted_none rfl, fun w hw => by simp only [execOp, rq_14, f14_31, f14_42]; rfl⟩) (hk w1 hb1) ?_
  change wpAnyH _ _ _ _ _ _ _ (a0_14.put (some 43) (.bool r)) _
  obtain ⟨a0_15, ha15⟩ : ∃ rr : Act, rr = a0_14.put (some 43) (.bool r) := ⟨_, rfl⟩
  have qz15 : 43 < a0_15.tmps.size := by rw [ha15, sz_put]; exact qz14
  rw [← ha15] at h0 ⊢
  clear ha15
  refine wpAnyH_done (by kernel_rfl) ?_ _
  exact h0
end Go.Proofs.Ytagnglkkmdeicaa
