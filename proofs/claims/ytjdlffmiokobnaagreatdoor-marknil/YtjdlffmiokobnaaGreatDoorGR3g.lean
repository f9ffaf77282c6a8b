/- A ring: the drawn regions of at, set, lay. -/
import Derived.Test.YtjdlffmiokobnaaGreatDoorGR2g
namespace Go.Proofs.YtjdlffmiokobnaaGreatDoor
set_option linter.unusedVariables false
set_option linter.unusedSimpArgs false
namespace RG
open Go.RowKit
set_option maxRecDepth 100000

theorem load_slS {w : World} {b o : Nat} {v : Value} (h : w.cell? ⟨b, o, none⟩ = some v) : (Instr.loadAt slT (.pointer (some ⟨b, o, none⟩))).run Tryz.prog w = .ok v w := by
  have hu := slU
  simp [go_sem, h, hu]
theorem load_intS {w : World} {b o : Nat} {v : Value} (h : w.cell? ⟨b, o, none⟩ = some v) : (Instr.loadAt 3 (.pointer (some ⟨b, o, none⟩))).run Tryz.prog w = .ok v w := by
  have hu := Tryz.underlying3
  simp [go_sem, h, hu]
theorem run_ixO {op : Oper} {ev : Operand → Value} {x y : Operand} {g n c j : Nat} (ho : op.op = .indexAddr slT x y) (hx : ev x = .slice (some ⟨g, 0, none⟩) n c) (hy : ev y = .int .i64 (j : Int)) (hj : j < n) (w : World) : (execOp ev op).run Tryz.prog w = .ok (.value (.pointer (some ⟨g, ofs j, none⟩))) w := by
  have hu := slU
  have hs : (sizeOf elT).run Tryz.prog w = .ok WD w := by kernel_rfl
  have h1 : (j : Int) < (n : Int) := by omega
  simp only [execOp, ho, hx, hy]
  simp [go_sem, hu, hs, h1]
/-- A row cut from a place on. -/
theorem run_sl1 {op : Oper} {ev : Operand → Value} {x y : Operand} {g n c j : Nat} (ho : op.op = .slice slT x (some y) none none) (hx : ev x = .slice (some ⟨g, 0, none⟩) n c) (hy : ev y = .int .i64 (j : Int)) (hj : j ≤ n) (hn : n ≤ c) (w : World) : (execOp ev op).run Tryz.prog w = .ok (.value (.slice (some ⟨g, if c = j then 0 else ofs j, none⟩) (n - j) (c - j))) w := by
  have hu := slU
  have hs : (sizeOf elT).run Tryz.prog w = .ok WD w := by kernel_rfl
  have h1 : (j : Int) ≤ (n : Int) := by omega
  simp only [execOp, ho, hx, hy]
  by_cases hc : c = j
  · subst hc
    simp [go_sem, hu, hs, h1, hy]
  · rw [if_neg hc]
    simp [go_sem, hu, hs, h1, hc, hy]
theorem run_cpO {op : Oper} {ev : Operand → Value} {x y : Operand} {u v r : Value} {w w' : World} (ho : op.op = .call { callee := .builtin .copy, args := #[x, y], argTypes := #[slT, slT] }) (hx : ev x = u) (hy : ev y = v) (h : ∀ ty, (Builtin.copy_ #[slT, slT] ty #[u, v]).run Tryz.prog w = .ok r w') : (execOp ev op).run Tryz.prog w = .ok (.value r) w' := by
  unfold execOp
  simp only [ho, resolve, invoke, builtin, Sem.run_bind, Sem.run_pure, Result.andThen_ok, List.map_toArray, List.map_cons, List.map_nil, hx, hy, h]
def la1_0 (s : String) : Oper := { dst := some 11, op := Op.move (Operand.tmp 1), type := 57, pos := s, after := #[], guard := none }
def la1_1 (s : String) : Oper := { dst := some 12, op := Op.move (Operand.tmp 0), type := 221, pos := s, after := #[], guard := none }
def la1_2 (s : String) : Oper := { dst := some 13, op := Op.nilCheck (Operand.tmp 12), type := 0, pos := s, after := #[{ on := 1, ground := Ground.data }], guard := none }
def la1_3 (s : String) : Oper := { dst := some 14, op := Op.fieldAddr 117 (Operand.tmp 13) 0, type := 0, pos := s, after := #[{ on := 2, ground := Ground.data }], guard := none }
def la1_4 (s : String) : Oper := { dst := some 15, op := Op.load 57 (Operand.tmp 14), type := 57, pos := s, after := #[{ on := 3, ground := Ground.data }], guard := none }
def la1_5 (s : String) : Oper := { dst := some 16, op := Op.move (Operand.tmp 0), type := 221, pos := s, after := #[], guard := none }
def la1_6 (s : String) : Oper := { dst := some 17, op := Op.nilCheck (Operand.tmp 16), type := 0, pos := s, after := #[{ on := 5, ground := Ground.data }], guard := none }
def la1_7 (s : String) : Oper := { dst := some 18, op := Op.fieldAddr 117 (Operand.tmp 17) 1, type := 0, pos := s, after := #[{ on := 6, ground := Ground.data }], guard := none }
def la1_8 (s : String) : Oper := { dst := some 19, op := Op.load 3 (Operand.tmp 18), type := 3, pos := s, after := #[{ on := 7, ground := Ground.data }], guard := none }
def la1_9 (s : String) : Oper := { dst := some 20, op := Op.slice 57 (Operand.tmp 15) (some (Operand.tmp 19)) none none, type := 57, pos := s, after := #[{ on := 4, ground := Ground.data }, { on := 8, ground := Ground.data }], guard := none }
def la1_10 (s : String) : Oper := { dst := some 21, op := Op.call { callee := Callee.builtin Builtin.copy, args := #[Operand.tmp 11, Operand.tmp 20], argTypes := #[57, 57] }, type := 3, pos := s, after := #[{ on := 0, ground := Ground.data }, { on := 9, ground := Ground.data }], guard := none }
def la1_11 (s : String) : Oper := { dst := some 4, op := Op.assign (Operand.tmp 21), type := 3, pos := s, after := #[{ on := 10, ground := Ground.data }, { on := 10, ground := Ground.chain }, { on := 0, ground := Ground.phase }, { on := 1, ground := Ground.phase }, { on := 2, ground := Ground.phase }, { on := 3, ground := Ground.phase }, { on := 4, ground := Ground.phase }, { on := 5, ground := Ground.phase }, { on := 6, ground := Ground.phase }, { on := 7, ground := Ground.phase }, { on := 8, ground := Ground.phase }, { on := 9, ground := Ground.phase }, { on := 10, ground := Ground.phase }], guard := none }
def la1_ops (s : String) : Array Oper := #[la1_0 s, la1_1 s, la1_2 s, la1_3 s, la1_4 s, la1_5 s, la1_6 s, la1_7 s, la1_8 s, la1_9 s, la1_10 s, la1_11 s]
theorem la1_walk (s : String) {Q : Exit → Act → World → Prop} (hQ : ∀ c (a : Act) t v w, Q (.panic c) (a.put (some t) v) w → Q (.panic c) a w) (W : World) (z g d b c n2 k : Nat) (zT : TypeId) (S : List EL) (hb : b ≤ S.length) (M1 : World → Prop) (hS0 : Blk W.drew z (rgL g S.length b c) zT) (hr : ∃ w1, (∀ ty, (Builtin.copy_ #[slT, slT] ty #[.slice (some ⟨d, 0, none⟩) c n2, .slice (some ⟨g, if S.length = b then 0 else ofs b, none⟩) (S.length - b) (S.length - b)]).run Tryz.prog W.drew = .ok (.int .i64 (k : Int)) w1) ∧ Blk w1 z (rgL g S.length b c) zT ∧ M1 w1)
    (a : Act) (hs : 21 < a.tmps.size) (e0 : a.eval (.tmp 0) = .pointer (some ⟨z, 0, none⟩)) (e1 : a.eval (.tmp 1) = .slice (some ⟨d, 0, none⟩) c n2)
    (h0 : ∀ w1, M1 w1 → Q .normal ((((((((((((a.put (some 11) (.slice (some ⟨d, 0, none⟩) c n2)).put (some 12) (.pointer (some ⟨z, 0, none⟩))).put (some 13) (.pointer (some ⟨z, 0, none⟩))).put (some 14) (.pointer (some ⟨z, 0, none⟩))).put (some 15) (.slice (some ⟨g, 0, none⟩) S.length S.length)).put (some 16) (.pointer (some ⟨z, 0, none⟩))).put (some 17) (.pointer (some ⟨z, 0, none⟩))).put (some 18) (.pointer (some ⟨z, 1, none⟩))).put (some 19) (.int .i64 (b : Int))).put (some 20) (.slice (some ⟨g, if S.length = b then 0 else ofs b, none⟩) (S.length - b) (S.length - b))).put (some 21) (.int .i64 (k : Int))).put (some 4) (.int .i64 (k : Int))) w1) :
    Code.wp Tryz.prog (.region 1 (la1_ops s) true) Q a W := by
  obtain ⟨w1, hrun, hB1, hM1⟩ := hr
  refine wp_region_held_drew (S := fun w => Blk w z (rgL g S.length b c) zT) (by kernel_rfl) hS0 (fun hS => ?_)
  change wpAnyH _ _ _ _ _ _ _ _ (World.drew _)
  refine wpAnyH_take (i := 0) (oi := la1_0 s) (v := .slice (some ⟨d, 0, none⟩) c n2) (by kernel_rfl) (by kernel_rfl) (by kernel_rfl) (by kernel_rfl) (fun c a w h => hQ c _ _ _ w h) (Or.inl ⟨wanted_none rfl, fun w hw => by simp only [execOp, la1_0, e1]; rfl⟩) hS ?_
  change wpAnyH _ _ _ _ _ _ _ (a.put (some 11) (.slice (some ⟨d, 0, none⟩) c n2)) _
  obtain ⟨a0_1, ha1⟩ : ∃ rr : Act, rr = a.put (some 11) (.slice (some ⟨d, 0, none⟩) c n2) := ⟨_, rfl⟩
  have qz1 : 21 < a0_1.tmps.size := by rw [ha1, sz_put]; exact hs
  have f1_0 : a0_1.eval (.tmp 0) = .pointer (some ⟨z, 0, none⟩) := by rw [ha1, ev_other _ _ _ _ (by decide)]; exact e0
  have f1_11 : a0_1.eval (.tmp 11) = .slice (some ⟨d, 0, none⟩) c n2 := by rw [ha1]; exact ev_same _ _ _ (Nat.lt_of_le_of_lt (by decide) hs)
  rw [← ha1] at h0 ⊢
  clear ha1
  refine wpAnyH_take (i := 1) (oi := la1_1 s) (v := .pointer (some ⟨z, 0, none⟩)) (by kernel_rfl) (by kernel_rfl) (by kernel_rfl) (by kernel_rfl) (fun c a w h => hQ c _ _ _ w h) (Or.inl ⟨wanted_none rfl, fun w hw => by simp only [execOp, la1_1, f1_0]; rfl⟩) hS ?_
  change wpAnyH _ _ _ _ _ _ _ (a0_1.put (some 12) (.pointer (some ⟨z, 0, none⟩))) _
  obtain ⟨a0_2, ha2⟩ : ∃ rr : Act, rr = a0_1.put (some 12) (.pointer (some ⟨z, 0, none⟩)) := ⟨_, rfl⟩
  have qz2 : 21 < a0_2.tmps.size := by rw [ha2, sz_put]; exact qz1
  have f2_0 : a0_2.eval (.tmp 0) = .pointer (some ⟨z, 0, none⟩) := by rw [ha2, ev_other _ _ _ _ (by decide)]; exact f1_0
  have f2_11 : a0_2.eval (.tmp 11) = .slice (some ⟨d, 0, none⟩) c n2 := by rw [ha2, ev_other _ _ _ _ (by decide)]; exact f1_11
  have f2_12 : a0_2.eval (.tmp 12) = .pointer (some ⟨z, 0, none⟩) := by rw [ha2]; exact ev_same _ _ _ (Nat.lt_of_le_of_lt (by decide) qz1)
  rw [← ha2] at h0 ⊢
  clear ha2
  refine wpAnyH_take (i := 2) (oi := la1_2 s) (v := .pointer (some ⟨z, 0, none⟩)) (by kernel_rfl) (by kernel_rfl) (by kernel_rfl) (by kernel_rfl) (fun c a w h => hQ c _ _ _ w h) (Or.inl ⟨wanted_none rfl, fun w hw => by simp only [execOp, la1_2, f2_12]; rfl⟩) hS ?_
  change wpAnyH _ _ _ _ _ _ _ (a0_2.put (some 13) (.pointer (some ⟨z, 0, none⟩))) _
  obtain ⟨a0_3, ha3⟩ : ∃ rr : Act, rr = a0_2.put (some 13) (.pointer (some ⟨z, 0, none⟩)) := ⟨_, rfl⟩
  have qz3 : 21 < a0_3.tmps.size := by rw [ha3, sz_put]; exact qz2
  have f3_0 : a0_3.eval (.tmp 0) = .pointer (some ⟨z, 0, none⟩) := by rw [ha3, ev_other _ _ _ _ (by decide)]; exact f2_0
  have f3_11 : a0_3.eval (.tmp 11) = .slice (some ⟨d, 0, none⟩) c n2 := by rw [ha3, ev_other _ _ _ _ (by decide)]; exact f2_11
  have f3_13 : a0_3.eval (.tmp 13) = .pointer (some ⟨z, 0, none⟩) := by rw [ha3]; exact ev_same _ _ _ (Nat.lt_of_le_of_lt (by decide) qz2)
  rw [← ha3] at h0 ⊢
  clear ha3
  refine wpAnyH_take (i := 3) (oi := la1_3 s) (v := .pointer (some ⟨z, 0, none⟩)) (by kernel_rfl) (by kernel_rfl) (by kernel_rfl) (by kernel_rfl) (fun c a w h => hQ c _ _ _ w h) (Or.inl ⟨wanted_none rfl, fun w hw => by simp only [execOp, la1_3, f3_13]; rfl⟩) hS ?_
  change wpAnyH _ _ _ _ _ _ _ (a0_3.put (some 14) (.pointer (some ⟨z, 0, none⟩))) _
  obtain ⟨a0_4, ha4⟩ : ∃ rr : Act, rr = a0_3.put (some 14) (.pointer (some ⟨z, 0, none⟩)) := ⟨_, rfl⟩
  have qz4 : 21 < a0_4.tmps.size := by rw [ha4, sz_put]; exact qz3
  have f4_0 : a0_4.eval (.tmp 0) = .pointer (some ⟨z, 0, none⟩) := by rw [ha4, ev_other _ _ _ _ (by decide)]; exact f3_0
  have f4_11 : a0_4.eval (.tmp 11) = .slice (some ⟨d, 0, none⟩) c n2 := by rw [ha4, ev_other _ _ _ _ (by decide)]; exact f3_11
  have f4_14 : a0_4.eval (.tmp 14) = .pointer (some ⟨z, 0, none⟩) := by rw [ha4]; exact ev_same _ _ _ (Nat.lt_of_le_of_lt (by decide) qz3)
  rw [← ha4] at h0 ⊢
  clear ha4
  refine wpAnyH_take (i := 4) (oi := la1_4 s) (v := .slice (some ⟨g, 0, none⟩) S.length S.length) (by kernel_rfl) (by kernel_rfl) (by kernel_rfl) (by kernel_rfl) (fun c a w h => hQ c _ _ _ w h) (Or.inl ⟨wanted_none rfl, fun w hw => run_load rfl f4_14 (load_slS (by rw [hw.cell]; rfl))⟩) hS ?_
  change wpAnyH _ _ _ _ _ _ _ (a0_4.put (some 15) (.slice (some ⟨g, 0, none⟩) S.length S.length)) _
  obtain ⟨a0_5, ha5⟩ : ∃ rr : Act, rr = a0_4.put (some 15) (.slice (some ⟨g, 0, none⟩) S.length S.length) := ⟨_, rfl⟩
  have qz5 : 21 < a0_5.tmps.size := by rw [ha5, sz_put]; exact qz4
  have f5_0 : a0_5.eval (.tmp 0) = .pointer (some ⟨z, 0, none⟩) := by rw [ha5, ev_other _ _ _ _ (by decide)]; exact f4_0
  have f5_11 : a0_5.eval (.tmp 11) = .slice (some ⟨d, 0, none⟩) c n2 := by rw [ha5, ev_other _ _ _ _ (by decide)]; exact f4_11
  have f5_15 : a0_5.eval (.tmp 15) = .slice (some ⟨g, 0, none⟩) S.length S.length := by rw [ha5]; exact ev_same _ _ _ (Nat.lt_of_le_of_lt (by decide) qz4)
  rw [← ha5] at h0 ⊢
  clear ha5
  refine wpAnyH_take (i := 5) (oi := la1_5 s) (v := .pointer (some ⟨z, 0, none⟩)) (by kernel_rfl) (by kernel_rfl) (by kernel_rfl) (by kernel_rfl) (fun c a w h => hQ c _ _ _ w h) (Or.inl ⟨wanted_none rfl, fun w hw => by simp only [execOp, la1_5, f5_0]; rfl⟩) hS ?_
  change wpAnyH _ _ _ _ _ _ _ (a0_5.put (some 16) (.pointer (some ⟨z, 0, none⟩))) _
  obtain ⟨a0_6, ha6⟩ : ∃ rr : Act, rr = a0_5.put (some 16) (.pointer (some ⟨z, 0, none⟩)) := ⟨_, rfl⟩
  have qz6 : 21 < a0_6.tmps.size := by rw [ha6, sz_put]; exact qz5
  have f6_11 : a0_6.eval (.tmp 11) = .slice (some ⟨d, 0, none⟩) c n2 := by rw [ha6, ev_other _ _ _ _ (by decide)]; exact f5_11
  have f6_15 : a0_6.eval (.tmp 15) = .slice (some ⟨g, 0, none⟩) S.length S.length := by rw [ha6, ev_other _ _ _ _ (by decide)]; exact f5_15
  have f6_16 : a0_6.eval (.tmp 16) = .pointer (some ⟨z, 0, none⟩) := by rw [ha6]; exact ev_same _ _ _ (Nat.lt_of_le_of_lt (by decide) qz5)
  rw [← ha6] at h0 ⊢
  clear ha6
  refine wpAnyH_take (i := 6) (oi := la1_6 s) (v := .pointer (some ⟨z, 0, none⟩)) (by kernel_rfl) (by kernel_rfl) (by kernel_rfl) (by kernel_rfl) (fun c a w h => hQ c _ _ _ w h) (Or.inl ⟨wanted_none rfl, fun w hw => by simp only [execOp, la1_6, f6_16]; rfl⟩) hS ?_
  change wpAnyH _ _ _ _ _ _ _ (a0_6.put (some 17) (.pointer (some ⟨z, 0, none⟩))) _
  obtain ⟨a0_7, ha7⟩ : ∃ rr : Act, rr = a0_6.put (some 17) (.pointer (some ⟨z, 0, none⟩)) := ⟨_, rfl⟩
  have qz7 : 21 < a0_7.tmps.size := by rw [ha7, sz_put]; exact qz6
  have f7_11 : a0_7.eval (.tmp 11) = .slice (some ⟨d, 0, none⟩) c n2 := by rw [ha7, ev_other _ _ _ _ (by decide)]; exact f6_11
  have f7_15 : a0_7.eval (.tmp 15) = .slice (some ⟨g, 0, none⟩) S.length S.length := by rw [ha7, ev_other _ _ _ _ (by decide)]; exact f6_15
  have f7_17 : a0_7.eval (.tmp 17) = .pointer (some ⟨z, 0, none⟩) := by rw [ha7]; exact ev_same _ _ _ (Nat.lt_of_le_of_lt (by decide) qz6)
  rw [← ha7] at h0 ⊢
  clear ha7
  refine wpAnyH_take (i := 7) (oi := la1_7 s) (v := .pointer (some ⟨z, 1, none⟩)) (by kernel_rfl) (by kernel_rfl) (by kernel_rfl) (by kernel_rfl) (fun c a w h => hQ c _ _ _ w h) (Or.inl ⟨wanted_none rfl, fun w hw => by simp only [execOp, la1_7, f7_17]; rfl⟩) hS ?_
  change wpAnyH _ _ _ _ _ _ _ (a0_7.put (some 18) (.pointer (some ⟨z, 1, none⟩))) _
  obtain ⟨a0_8, ha8⟩ : ∃ rr : Act, rr = a0_7.put (some 18) (.pointer (some ⟨z, 1, none⟩)) := ⟨_, rfl⟩
  have qz8 : 21 < a0_8.tmps.size := by rw [ha8, sz_put]; exact qz7
  have f8_11 : a0_8.eval (.tmp 11) = .slice (some ⟨d, 0, none⟩) c n2 := by rw [ha8, ev_other _ _ _ _ (by decide)]; exact f7_11
  have f8_15 : a0_8.eval (.tmp 15) = .slice (some ⟨g, 0, none⟩) S.length S.length := by rw [ha8, ev_other _ _ _ _ (by decide)]; exact f7_15
  have f8_18 : a0_8.eval (.tmp 18) = .pointer (some ⟨z, 1, none⟩) := by rw [ha8]; exact ev_same _ _ _ (Nat.lt_of_le_of_lt (by decide) qz7)
  rw [← ha8] at h0 ⊢
  clear ha8
  refine wpAnyH_take (i := 8) (oi := la1_8 s) (v := .int .i64 (b : Int)) (by kernel_rfl) (by kernel_rfl) (by kernel_rfl) (by kernel_rfl) (fun c a w h => hQ c _ _ _ w h) (Or.inl ⟨wanted_none rfl, fun w hw => run_load rfl f8_18 (load_intS (by rw [hw.cell]; rfl))⟩) hS ?_
  change wpAnyH _ _ _ _ _ _ _ (a0_8.put (some 19) (.int .i64 (b : Int))) _
  obtain ⟨a0_9, ha9⟩ : ∃ rr : Act, rr = a0_8.put (some 19) (.int .i64 (b : Int)) := ⟨_, rfl⟩
  have qz9 : 21 < a0_9.tmps.size := by rw [ha9, sz_put]; exact qz8
  have f9_11 : a0_9.eval (.tmp 11) = .slice (some ⟨d, 0, none⟩) c n2 := by rw [ha9, ev_other _ _ _ _ (by decide)]; exact f8_11
  have f9_15 : a0_9.eval (.tmp 15) = .slice (some ⟨g, 0, none⟩) S.length S.length := by rw [ha9, ev_other _ _ _ _ (by decide)]; exact f8_15
  have f9_19 : a0_9.eval (.tmp 19) = .int .i64 (b : Int) := by rw [ha9]; exact ev_same _ _ _ (Nat.lt_of_le_of_lt (by decide) qz8)
  rw [← ha9] at h0 ⊢
  clear ha9
  refine wpAnyH_take (i := 9) (oi := la1_9 s) (v := .slice (some ⟨g, if S.length = b then 0 else ofs b, none⟩) (S.length - b) (S.length - b)) (by kernel_rfl) (by kernel_rfl) (by kernel_rfl) (by kernel_rfl) (fun c a w h => hQ c _ _ _ w h) (Or.inl ⟨wanted_none rfl, fun w hw => run_sl1 rfl f9_15 f9_19 hb (Nat.le_refl _) w⟩) hS ?_
  change wpAnyH _ _ _ _ _ _ _ (a0_9.put (some 20) (.slice (some ⟨g, if S.length = b then 0 else ofs b, none⟩) (S.length - b) (S.length - b))) _
  obtain ⟨a0_10, ha10⟩ : ∃ rr : Act, rr = a0_9.put (some 20) (.slice (some ⟨g, if S.length = b then 0 else ofs b, none⟩) (S.length - b) (S.length - b)) := ⟨_, rfl⟩
  have qz10 : 21 < a0_10.tmps.size := by rw [ha10, sz_put]; exact qz9
  have f10_11 : a0_10.eval (.tmp 11) = .slice (some ⟨d, 0, none⟩) c n2 := by rw [ha10, ev_other _ _ _ _ (by decide)]; exact f9_11
  have f10_20 : a0_10.eval (.tmp 20) = .slice (some ⟨g, if S.length = b then 0 else ofs b, none⟩) (S.length - b) (S.length - b) := by rw [ha10]; exact ev_same _ _ _ (Nat.lt_of_le_of_lt (by decide) qz9)
  rw [← ha10] at h0 ⊢
  clear ha10
  refine wpAnyH_ready (rs := [10]) (by kernel_rfl) (by simp) ?_
  refine AllReadyH.cons (o := la1_10 s) (by kernel_rfl) (fun KQ hKQ => ?_) AllReadyH.nil
  rw [if_pos (wanted_none rfl)]
  refine step_runE (.int .i64 (k : Int)) (w1) (run_cpO rfl f10_11 f10_20 hrun) ?_
  refine hKQ.out _ _ (hB1) (fun _ => ?_)
  clear hKQ KQ
  change wpAnyH _ _ _ _ _ _ _ (a0_10.put (some 21) (.int .i64 (k : Int))) _
  have h0 := h0 w1 hM1
  obtain ⟨a0_11, ha11⟩ : ∃ rr : Act, rr = a0_10.put (some 21) (.int .i64 (k : Int)) := ⟨_, rfl⟩
  have qz11 : 21 < a0_11.tmps.size := by rw [ha11, sz_put]; exact qz10
  have f11_21 : a0_11.eval (.tmp 21) = .int .i64 (k : Int) := by rw [ha11]; exact ev_same _ _ _ (Nat.lt_of_le_of_lt (by decide) qz10)
  rw [← ha11] at h0 ⊢
  clear ha11
  refine wpAnyH_take (i := 11) (oi := la1_11 s) (v := .int .i64 (k : Int)) (by kernel_rfl) (by kernel_rfl) (by kernel_rfl) (by kernel_rfl) (fun c a w h => hQ c _ _ _ w h) (Or.inl ⟨wanted_none rfl, fun w hw => by simp only [execOp, la1_11, f11_21]; rfl⟩) hB1 ?_
  change wpAnyH _ _ _ _ _ _ _ (a0_11.put (some 4) (.int .i64 (k : Int))) _
  obtain ⟨a0_12, ha12⟩ : ∃ rr : Act, rr = a0_11.put (some 4) (.int .i64 (k : Int)) := ⟨_, rfl⟩
  have qz12 : 21 < a0_12.tmps.size := by rw [ha12, sz_put]; exact qz11
  rw [← ha12] at h0 ⊢
  clear ha12
  refine wpAnyH_done (by kernel_rfl) ?_ _
  exact h0
def la2_0 (s : String) : Oper := { dst := some 22, op := Op.move (Operand.tmp 1), type := 57, pos := s, after := #[], guard := none }
def la2_1 (s : String) : Oper := { dst := some 23, op := Op.move (Operand.tmp 4), type := 3, pos := s, after := #[], guard := none }
def la2_2 (s : String) : Oper := { dst := some 24, op := Op.slice 57 (Operand.tmp 22) (some (Operand.tmp 23)) none none, type := 57, pos := s, after := #[{ on := 0, ground := Ground.data }, { on := 1, ground := Ground.data }], guard := none }
def la2_3 (s : String) : Oper := { dst := some 25, op := Op.move (Operand.tmp 0), type := 221, pos := s, after := #[], guard := none }
def la2_4 (s : String) : Oper := { dst := some 26, op := Op.nilCheck (Operand.tmp 25), type := 0, pos := s, after := #[{ on := 3, ground := Ground.data }], guard := none }
def la2_5 (s : String) : Oper := { dst := some 27, op := Op.fieldAddr 117 (Operand.tmp 26) 0, type := 0, pos := s, after := #[{ on := 4, ground := Ground.data }], guard := none }
def la2_6 (s : String) : Oper := { dst := some 28, op := Op.load 57 (Operand.tmp 27), type := 57, pos := s, after := #[{ on := 5, ground := Ground.data }], guard := none }
def la2_7 (s : String) : Oper := { dst := some 29, op := Op.call { callee := Callee.builtin Builtin.copy, args := #[Operand.tmp 24, Operand.tmp 28], argTypes := #[57, 57] }, type := 3, pos := s, after := #[{ on := 2, ground := Ground.data }, { on := 6, ground := Ground.data }], guard := none }
def la2_ops (s : String) : Array Oper := #[la2_0 s, la2_1 s, la2_2 s, la2_3 s, la2_4 s, la2_5 s, la2_6 s, la2_7 s]
theorem la2_walk (s : String) {Q : Exit → Act → World → Prop} (hQ : ∀ c (a : Act) t v w, Q (.panic c) (a.put (some t) v) w → Q (.panic c) a w) (W : World) (z g d b c n2 k m : Nat) (zT : TypeId) (S : List EL) (hk : k ≤ c) (hc : c ≤ n2) (M1 : World → Prop) (hS0 : Blk W.drew z (rgL g S.length b c) zT) (hr : ∃ w1, (∀ ty, (Builtin.copy_ #[slT, slT] ty #[.slice (some ⟨d, if n2 = k then 0 else ofs k, none⟩) (c - k) (n2 - k), .slice (some ⟨g, 0, none⟩) S.length S.length]).run Tryz.prog W.drew = .ok (.int .i64 (m : Int)) w1) ∧ Blk w1 z (rgL g S.length b c) zT ∧ M1 w1)
    (a : Act) (hs : 29 < a.tmps.size) (e0 : a.eval (.tmp 0) = .pointer (some ⟨z, 0, none⟩)) (e1 : a.eval (.tmp 1) = .slice (some ⟨d, 0, none⟩) c n2) (e4 : a.eval (.tmp 4) = .int .i64 (k : Int))
    (h0 : ∀ w1, M1 w1 → Q .normal ((((((((a.put (some 22) (.slice (some ⟨d, 0, none⟩) c n2)).put (some 23) (.int .i64 (k : Int))).put (some 24) (.slice (some ⟨d, if n2 = k then 0 else ofs k, none⟩) (c - k) (n2 - k))).put (some 25) (.pointer (some ⟨z, 0, none⟩))).put (some 26) (.pointer (some ⟨z, 0, none⟩))).put (some 27) (.pointer (some ⟨z, 0, none⟩))).put (some 28) (.slice (some ⟨g, 0, none⟩) S.length S.length)).put (some 29) (.int .i64 (m : Int))) w1) :
    Code.wp Tryz.prog (.region 2 (la2_ops s) true) Q a W := by
  obtain ⟨w1, hrun, hB1, hM1⟩ := hr
  refine wp_region_held_drew (S := fun w => Blk w z (rgL g S.length b c) zT) (by kernel_rfl) hS0 (fun hS => ?_)
  change wpAnyH _ _ _ _ _ _ _ _ (World.drew _)
  refine wpAnyH_take (i := 0) (oi := la2_0 s) (v := .slice (some ⟨d, 0, none⟩) c n2) (by kernel_rfl) (by kernel_rfl) (by kernel_rfl) (by kernel_rfl) (fun c a w h => hQ c _ _ _ w h) (Or.inl ⟨wanted_none rfl, fun w hw => by simp only [execOp, la2_0, e1]; rfl⟩) hS ?_
  change wpAnyH _ _ _ _ _ _ _ (a.put (some 22) (.slice (some ⟨d, 0, none⟩) c n2)) _
  obtain ⟨a0_1, ha1⟩ : ∃ rr : Act, rr = a.put (some 22) (.slice (some ⟨d, 0, none⟩) c n2) := ⟨_, rfl⟩
  have qz1 : 29 < a0_1.tmps.size := by rw [ha1, sz_put]; exact hs
  have f1_0 : a0_1.eval (.tmp 0) = .pointer (some ⟨z, 0, none⟩) := by rw [ha1, ev_other _ _ _ _ (by decide)]; exact e0
  have f1_4 : a0_1.eval (.tmp 4) = .int .i64 (k : Int) := by rw [ha1, ev_other _ _ _ _ (by decide)]; exact e4
  have f1_22 : a0_1.eval (.tmp 22) = .slice (some ⟨d, 0, none⟩) c n2 := by rw [ha1]; exact ev_same _ _ _ (Nat.lt_of_le_of_lt (by decide) hs)
  rw [← ha1] at h0 ⊢
  clear ha1
  refine wpAnyH_take (i := 1) (oi := la2_1 s) (v := .int .i64 (k : Int)) (by kernel_rfl) (by kernel_rfl) (by kernel_rfl) (by kernel_rfl) (fun c a w h => hQ c _ _ _ w h) (Or.inl ⟨wanted_none rfl, fun w hw => by simp only [execOp, la2_1, f1_4]; rfl⟩) hS ?_
  change wpAnyH _ _ _ _ _ _ _ (a0_1.put (some 23) (.int .i64 (k : Int))) _
  obtain ⟨a0_2, ha2⟩ : ∃ rr : Act, rr = a0_1.put (some 23) (.int .i64 (k : Int)) := ⟨_, rfl⟩
  have qz2 : 29 < a0_2.tmps.size := by rw [ha2, sz_put]; exact qz1
  have f2_0 : a0_2.eval (.tmp 0) = .pointer (some ⟨z, 0, none⟩) := by rw [ha2, ev_other _ _ _ _ (by decide)]; exact f1_0
  have f2_22 : a0_2.eval (.tmp 22) = .slice (some ⟨d, 0, none⟩) c n2 := by rw [ha2, ev_other _ _ _ _ (by decide)]; exact f1_22
  have f2_23 : a0_2.eval (.tmp 23) = .int .i64 (k : Int) := by rw [ha2]; exact ev_same _ _ _ (Nat.lt_of_le_of_lt (by decide) qz1)
  rw [← ha2] at h0 ⊢
  clear ha2
  refine wpAnyH_take (i := 2) (oi := la2_2 s) (v := .slice (some ⟨d, if n2 = k then 0 else ofs k, none⟩) (c - k) (n2 - k)) (by kernel_rfl) (by kernel_rfl) (by kernel_rfl) (by kernel_rfl) (fun c a w h => hQ c _ _ _ w h) (Or.inl ⟨wanted_none rfl, fun w hw => run_sl1 rfl f2_22 f2_23 hk hc w⟩) hS ?_
  change wpAnyH _ _ _ _ _ _ _ (a0_2.put (some 24) (.slice (some ⟨d, if n2 = k then 0 else ofs k, none⟩) (c - k) (n2 - k))) _
  obtain ⟨a0_3, ha3⟩ : ∃ rr : Act, rr = a0_2.put (some 24) (.slice (some ⟨d, if n2 = k then 0 else ofs k, none⟩) (c - k) (n2 - k)) := ⟨_, rfl⟩
  have qz3 : 29 < a0_3.tmps.size := by rw [ha3, sz_put]; exact qz2
  have f3_0 : a0_3.eval (.tmp 0) = .pointer (some ⟨z, 0, none⟩) := by rw [ha3, ev_other _ _ _ _ (by decide)]; exact f2_0
  have f3_24 : a0_3.eval (.tmp 24) = .slice (some ⟨d, if n2 = k then 0 else ofs k, none⟩) (c - k) (n2 - k) := by rw [ha3]; exact ev_same _ _ _ (Nat.lt_of_le_of_lt (by decide) qz2)
  rw [← ha3] at h0 ⊢
  clear ha3
  refine wpAnyH_take (i := 3) (oi := la2_3 s) (v := .pointer (some ⟨z, 0, none⟩)) (by kernel_rfl) (by kernel_rfl) (by kernel_rfl) (by kernel_rfl) (fun c a w h => hQ c _ _ _ w h) (Or.inl ⟨wanted_none rfl, fun w hw => by simp only [execOp, la2_3, f3_0]; rfl⟩) hS ?_
  change wpAnyH _ _ _ _ _ _ _ (a0_3.put (some 25) (.pointer (some ⟨z, 0, none⟩))) _
  obtain ⟨a0_4, ha4⟩ : ∃ rr : Act, rr = a0_3.put (some 25) (.pointer (some ⟨z, 0, none⟩)) := ⟨_, rfl⟩
  have qz4 : 29 < a0_4.tmps.size := by rw [ha4, sz_put]; exact qz3
  have f4_24 : a0_4.eval (.tmp 24) = .slice (some ⟨d, if n2 = k then 0 else ofs k, none⟩) (c - k) (n2 - k) := by rw [ha4, ev_other _ _ _ _ (by decide)]; exact f3_24
  have f4_25 : a0_4.eval (.tmp 25) = .pointer (some ⟨z, 0, none⟩) := by rw [ha4]; exact ev_same _ _ _ (Nat.lt_of_le_of_lt (by decide) qz3)
  rw [← ha4] at h0 ⊢
  clear ha4
  refine wpAnyH_take (i := 4) (oi := la2_4 s) (v := .pointer (some ⟨z, 0, none⟩)) (by kernel_rfl) (by kernel_rfl) (by kernel_rfl) (by kernel_rfl) (fun c a w h => hQ c _ _ _ w h) (Or.inl ⟨wanted_none rfl, fun w hw => by simp only [execOp, la2_4, f4_25]; rfl⟩) hS ?_
  change wpAnyH _ _ _ _ _ _ _ (a0_4.put (some 26) (.pointer (some ⟨z, 0, none⟩))) _
  obtain ⟨a0_5, ha5⟩ : ∃ rr : Act, rr = a0_4.put (some 26) (.pointer (some ⟨z, 0, none⟩)) := ⟨_, rfl⟩
  have qz5 : 29 < a0_5.tmps.size := by rw [ha5, sz_put]; exact qz4
  have f5_24 : a0_5.eval (.tmp 24) = .slice (some ⟨d, if n2 = k then 0 else ofs k, none⟩) (c - k) (n2 - k) := by rw [ha5, ev_other _ _ _ _ (by decide)]; exact f4_24
  have f5_26 : a0_5.eval (.tmp 26) = .pointer (some ⟨z, 0, none⟩) := by rw [ha5]; exact ev_same _ _ _ (Nat.lt_of_le_of_lt (by decide) qz4)
  rw [← ha5] at h0 ⊢
  clear ha5
  refine wpAnyH_take (i := 5) (oi := la2_5 s) (v := .pointer (some ⟨z, 0, none⟩)) (by kernel_rfl) (by kernel_rfl) (by kernel_rfl) (by kernel_rfl) (fun c a w h => hQ c _ _ _ w h) (Or.inl ⟨wanted_none rfl, fun w hw => by simp only [execOp, la2_5, f5_26]; rfl⟩) hS ?_
  change wpAnyH _ _ _ _ _ _ _ (a0_5.put (some 27) (.pointer (some ⟨z, 0, none⟩))) _
  obtain ⟨a0_6, ha6⟩ : ∃ rr : Act, rr = a0_5.put (some 27) (.pointer (some ⟨z, 0, none⟩)) := ⟨_, rfl⟩
  have qz6 : 29 < a0_6.tmps.size := by rw [ha6, sz_put]; exact qz5
  have f6_24 : a0_6.eval (.tmp 24) = .slice (some ⟨d, if n2 = k then 0 else ofs k, none⟩) (c - k) (n2 - k) := by rw [ha6, ev_other _ _ _ _ (by decide)]; exact f5_24
  have f6_27 : a0_6.eval (.tmp 27) = .pointer (some ⟨z, 0, none⟩) := by rw [ha6]; exact ev_same _ _ _ (Nat.lt_of_le_of_lt (by decide) qz5)
  rw [← ha6] at h0 ⊢
  clear ha6
  refine wpAnyH_take (i := 6) (oi := la2_6 s) (v := .slice (some ⟨g, 0, none⟩) S.length S.length) (by kernel_rfl) (by kernel_rfl) (by kernel_rfl) (by kernel_rfl) (fun c a w h => hQ c _ _ _ w h) (Or.inl ⟨wanted_none rfl, fun w hw => run_load rfl f6_27 (load_slS (by rw [hw.cell]; rfl))⟩) hS ?_
  change wpAnyH _ _ _ _ _ _ _ (a0_6.put (some 28) (.slice (some ⟨g, 0, none⟩) S.length S.length)) _
  obtain ⟨a0_7, ha7⟩ : ∃ rr : Act, rr = a0_6.put (some 28) (.slice (some ⟨g, 0, none⟩) S.length S.length) := ⟨_, rfl⟩
  have qz7 : 29 < a0_7.tmps.size := by rw [ha7, sz_put]; exact qz6
  have f7_24 : a0_7.eval (.tmp 24) = .slice (some ⟨d, if n2 = k then 0 else ofs k, none⟩) (c - k) (n2 - k) := by rw [ha7, ev_other _ _ _ _ (by decide)]; exact f6_24
  have f7_28 : a0_7.eval (.tmp 28) = .slice (some ⟨g, 0, none⟩) S.length S.length := by rw [ha7]; exact ev_same _ _ _ (Nat.lt_of_le_of_lt (by decide) qz6)
  rw [← ha7] at h0 ⊢
  clear ha7
  refine wpAnyH_ready (rs := [7]) (by kernel_rfl) (by simp) ?_
  refine AllReadyH.cons (o := la2_7 s) (by kernel_rfl) (fun KQ hKQ => ?_) AllReadyH.nil
  rw [if_pos (wanted_none rfl)]
  refine step_runE (.int .i64 (m : Int)) (w1) (run_cpO rfl f7_24 f7_28 hrun) ?_
  refine hKQ.out _ _ (hB1) (fun _ => ?_)
  clear hKQ KQ
  change wpAnyH _ _ _ _ _ _ _ (a0_7.put (some 29) (.int .i64 (m : Int))) _
  have h0 := h0 w1 hM1
  obtain ⟨a0_8, ha8⟩ : ∃ rr : Act, rr = a0_7.put (some 29) (.int .i64 (m : Int)) := ⟨_, rfl⟩
  have qz8 : 29 < a0_8.tmps.size := by rw [ha8, sz_put]; exact qz7
  rw [← ha8] at h0 ⊢
  clear ha8
  refine wpAnyH_done (by kernel_rfl) ?_ _
  exact h0
end RG
end Go.Proofs.YtjdlffmiokobnaaGreatDoor
