/- KeySets: the regions that read. -/
import Derived.Test.YtnloglecfbhpcaaKL3t
namespace Go.Proofs.Ytnloglecfbhpcaa
set_option linter.unusedVariables false
set_option linter.unusedSimpArgs false
open Go.RowKit Go.Sort Go.Shelf
set_option maxRecDepth 100000
set_option maxHeartbeats 8000000

/-- Which of the three. -/
def thN (n : Int) : Nat := ((n.tmod 3 + 3).tmod 3).toNat
theorem thN_lt (n : Int) : thN n < 3 := by
  have h1 : -3 < n.tmod 3 := Int.lt_tmod_of_pos n (by decide)
  have h2 : (n.tmod 3 + 3).tmod 3 < 3 := Int.tmod_lt_of_pos _ (by decide)
  unfold thN
  omega
theorem three_val (n : Int) (w : World) : Calls Try.prog 17 #[.int .i64 n] w fun e w' => e = .returned (.int .i64 (thN n : Int)) ∧ w' = w := by
  obtain ⟨a, ha⟩ : ∃ a, n.tmod 3 = a := ⟨_, rfl⟩
  have h1 : -3 < a := by rw [← ha]; exact Int.lt_tmod_of_pos n (by decide)
  have h2 : a < 3 := by rw [← ha]; exact Int.tmod_lt_of_pos n (by decide)
  have h3 : a = -2 ∨ a = -1 ∨ a = 0 ∨ a = 1 ∨ a = 2 := by omega
  unfold thN
  rcases h3 with rfl | rfl | rfl | rfl | rfl
  all_goals
    clear h1 h2
    rw [ha]
    go_enter Try.func17, Try.ntmps17
    go_wp2
    go_ret
    exact ⟨rfl, rfl⟩
theorem fS1 (z : Nat) (w : World) : (Instr.fieldAt SPT (.pointer (some ⟨z, 0, none⟩)) 1).run Try.prog w = .ok (.pointer (some ⟨z, 1, none⟩)) w := by kernel_rfl
theorem fS2 (z : Nat) (w : World) : (Instr.fieldAt SPT (.pointer (some ⟨z, 0, none⟩)) 2).run Try.prog w = .ok (.pointer (some ⟨z, 2, none⟩)) w := by kernel_rfl
theorem load_it {w : World} {b o : Nat} {v : Value} (h : w.cell? ⟨b, o, none⟩ = some v) : (Instr.loadAt 3 (.pointer (some ⟨b, o, none⟩))).run Try.prog w = .ok v w := by
  have hu := Try.underlying3
  simp [go_sem, h, hu]
theorem run_lenQ {op : Oper} {ev : Operand → Value} {x : Operand} {ao : Option Addr} {n c : Nat} (ho : op.op = .call { callee := .builtin .len, args := #[x], argTypes := #[KLT] }) (hx : ev x = .slice ao n c) (w : World) : (execOp ev op).run Try.prog w = .ok (.value (.int .i64 (n : Int))) w := by
  have hu := Try.underlying39
  simp only [execOp, ho]
  simp [hx, go_sem, hu]
theorem run_eqIn {op : Oper} {ev : Operand → Value} {x y : Operand} {u : TypeId} {q : Int} (ho : op.op = .binOp .eql 3 x y u) (hx : ev x = .int .i64 q) (hy : ev y = .int .i64 q) (w : World) : (execOp ev op).run Try.prog w = .ok (.value (.bool true)) w := by
  simp only [execOp, ho, hx, hy]
  simp [go_sem, Try.underlying3]
theorem wp_norm {P : Program} {c : Code} {Q' : Exit → Act → World → Prop} {a : Act} {w : World} (h : c.wp P (Exit.then (fun a w => Q' .normal a w) (fun _ _ _ => False)) a w) : c.wp P Q' a w := wp_mono h (fun e a w q => by cases e <;> first | exact q | exact q.elim)
def ar_0 (s : String) : Oper := { dst := some 23, op := Op.move (Operand.tmp 0), type := 24, pos := s, after := #[], guard := none }
def ar_1 (s : String) : Oper := { dst := some 24, op := Op.move (Operand.tmp 5), type := 3, pos := s, after := #[], guard := none }
def ar_2 (s : String) : Oper := { dst := some 25, op := Op.nilCheck (Operand.tmp 23), type := 0, pos := s, after := #[{ on := 0, ground := Ground.data }], guard := none }
def ar_3 (s : String) : Oper := { dst := some 26, op := Op.fieldAddr 32 (Operand.tmp 25) 0, type := 0, pos := s, after := #[{ on := 2, ground := Ground.data }], guard := none }
def ar_4 (s : String) : Oper := { dst := some 27, op := Op.indexAddr 26 (Operand.tmp 26) (Operand.tmp 24), type := 0, pos := s, after := #[{ on := 3, ground := Ground.data }, { on := 1, ground := Ground.data }], guard := none }
def ar_5 (s : String) : Oper := { dst := some 28, op := Op.load 25 (Operand.tmp 27), type := 25, pos := s, after := #[{ on := 4, ground := Ground.data }], guard := none }
def ar_6 (s : String) : Oper := { dst := some 29, op := Op.move (Operand.tmp 0), type := 24, pos := s, after := #[{ on := 12, ground := Ground.gcOnly Departure.lateStores }], guard := none }
def ar_7 (s : String) : Oper := { dst := some 30, op := Op.move (Operand.tmp 5), type := 3, pos := s, after := #[{ on := 12, ground := Ground.gcOnly Departure.lateStores }], guard := none }
def ar_8 (s : String) : Oper := { dst := some 31, op := Op.nilCheck (Operand.tmp 29), type := 0, pos := s, after := #[{ on := 6, ground := Ground.data }, { on := 12, ground := Ground.gcOnly Departure.lateStores }], guard := none }
def ar_9 (s : String) : Oper := { dst := some 32, op := Op.fieldAddr 32 (Operand.tmp 31) 1, type := 0, pos := s, after := #[{ on := 8, ground := Ground.data }, { on := 12, ground := Ground.gcOnly Departure.lateStores }], guard := none }
def ar_10 (s : String) : Oper := { dst := some 33, op := Op.indexAddr 28 (Operand.tmp 32) (Operand.tmp 30), type := 0, pos := s, after := #[{ on := 9, ground := Ground.data }, { on := 7, ground := Ground.data }, { on := 12, ground := Ground.gcOnly Departure.lateStores }], guard := none }
def ar_11 (s : String) : Oper := { dst := some 34, op := Op.load 27 (Operand.tmp 33), type := 27, pos := s, after := #[{ on := 10, ground := Ground.data }, { on := 12, ground := Ground.gcOnly Departure.lateStores }], guard := none }
def ar_12 (s : String) : Oper := { dst := some 6, op := Op.assign (Operand.tmp 28), type := 25, pos := s, after := #[{ on := 5, ground := Ground.data }, { on := 0, ground := Ground.phase }, { on := 1, ground := Ground.phase }, { on := 2, ground := Ground.phase }, { on := 3, ground := Ground.phase }, { on := 4, ground := Ground.phase }, { on := 5, ground := Ground.phase }, { on := 6, ground := Ground.textOnly Departure.lateStores }, { on := 7, ground := Ground.textOnly Departure.lateStores }, { on := 8, ground := Ground.textOnly Departure.lateStores }, { on := 9, ground := Ground.textOnly Departure.lateStores }, { on := 10, ground := Ground.textOnly Departure.lateStores }, { on := 11, ground := Ground.textOnly Departure.lateStores }], guard := none }
def ar_13 (s : String) : Oper := { dst := some 7, op := Op.assign (Operand.tmp 34), type := 27, pos := s, after := #[{ on := 11, ground := Ground.data }, { on := 12, ground := Ground.chain }, { on := 0, ground := Ground.phase }, { on := 1, ground := Ground.phase }, { on := 2, ground := Ground.phase }, { on := 3, ground := Ground.phase }, { on := 4, ground := Ground.phase }, { on := 5, ground := Ground.phase }, { on := 6, ground := Ground.phase }, { on := 7, ground := Ground.phase }, { on := 8, ground := Ground.phase }, { on := 9, ground := Ground.phase }, { on := 10, ground := Ground.phase }, { on := 11, ground := Ground.phase }, { on := 12, ground := Ground.phase }], guard := none }
def ar_ops (s : String) : Array Oper := #[ar_0 s, ar_1 s, ar_2 s, ar_3 s, ar_4 s, ar_5 s, ar_6 s, ar_7 s, ar_8 s, ar_9 s, ar_10 s, ar_11 s, ar_12 s, ar_13 s]
theorem ar_walk (s : String) {Q : Exit → Act → World → Prop} (hQ : ∀ c (a : Act) t v w, Q (.panic c) (a.put (some t) v) w → Q (.panic c) a w) (W : World) (wz j z : Nat) (hj : j < 3) (q : Option Addr) (hS0 : W.drew.cell? ⟨wz, j, none⟩ = some (.pointer q) ∧ W.drew.cell? ⟨wz, 3 + j, none⟩ = some (.pointer (some ⟨z, 0, none⟩)))
    (a : Act) (hs : 34 < a.tmps.size) (e0 : a.eval (.tmp 0) = .pointer (some ⟨wz, 0, none⟩)) (e5 : a.eval (.tmp 5) = .int .i64 (j : Int))
    (h0 :  Q .normal ((((((((((((((a.put (some 23) (.pointer (some ⟨wz, 0, none⟩))).put (some 24) (.int .i64 (j : Int))).put (some 25) (.pointer (some ⟨wz, 0, none⟩))).put (some 26) (.pointer (some ⟨wz, 0, none⟩))).put (some 27) (.pointer (some ⟨wz, j, none⟩))).put (some 28) (.pointer q)).put (some 29) (.pointer (some ⟨wz, 0, none⟩))).put (some 30) (.int .i64 (j : Int))).put (some 31) (.pointer (some ⟨wz, 0, none⟩))).put (some 32) (.pointer (some ⟨wz, 3, none⟩))).put (some 33) (.pointer (some ⟨wz, 3 + j, none⟩))).put (some 34) (.pointer (some ⟨z, 0, none⟩))).put (some 6) (.pointer q)).put (some 7) (.pointer (some ⟨z, 0, none⟩))) W.drew) :
    Code.wp Try.prog (.region 2 (ar_ops s) true) Q a W := by
  refine wp_region_held_drew (S := fun w => w.cell? ⟨wz, j, none⟩ = some (.pointer q) ∧ w.cell? ⟨wz, 3 + j, none⟩ = some (.pointer (some ⟨z, 0, none⟩))) (by kernel_rfl) hS0 (fun hS => ?_)
  change wpAnyH _ _ _ _ _ _ _ _ (World.drew _)
  refine wpAnyH_take (i := 0) (oi := ar_0 s) (v := .pointer (some ⟨wz, 0, none⟩)) (by kernel_rfl) (by kernel_rfl) (by kernel_rfl) (by kernel_rfl) (fun c a w h => hQ c _ _ _ w h) (Or.inl ⟨wanted_none rfl, fun w hw => by simp only [execOp, ar_0, e0]; rfl⟩) hS ?_
  change wpAnyH _ _ _ _ _ _ _ (a.put (some 23) (.pointer (some ⟨wz, 0, none⟩))) _
  obtain ⟨a0_1, ha1⟩ : ∃ rr : Act, rr = a.put (some 23) (.pointer (some ⟨wz, 0, none⟩)) := ⟨_, rfl⟩
  have qz1 : 34 < a0_1.tmps.size := by rw [ha1, sz_put]; exact hs
  have f1_0 : a0_1.eval (.tmp 0) = .pointer (some ⟨wz, 0, none⟩) := by rw [ha1, ev_other _ _ _ _ (by decide)]; exact e0
  have f1_5 : a0_1.eval (.tmp 5) = .int .i64 (j : Int) := by rw [ha1, ev_other _ _ _ _ (by decide)]; exact e5
  have f1_23 : a0_1.eval (.tmp 23) = .pointer (some ⟨wz, 0, none⟩) := by rw [ha1]; exact ev_same _ _ _ (Nat.lt_of_le_of_lt (by decide) hs)
  rw [← ha1] at h0 ⊢
  clear ha1
  refine wpAnyH_take (i := 1) (oi := ar_1 s) (v := .int .i64 (j : Int)) (by kernel_rfl) (by kernel_rfl) (by kernel_rfl) (by kernel_rfl) (fun c a w h => hQ c _ _ _ w h) (Or.inl ⟨wanted_none rfl, fun w hw => by simp only [execOp, ar_1, f1_5]; rfl⟩) hS ?_
  change wpAnyH _ _ _ _ _ _ _ (a0_1.put (some 24) (.int .i64 (j : Int))) _
  obtain ⟨a0_2, ha2⟩ : ∃ rr : Act, rr = a0_1.put (some 24) (.int .i64 (j : Int)) := ⟨_, rfl⟩
  have qz2 : 34 < a0_2.tmps.size := by rw [ha2, sz_put]; exact qz1
  have f2_0 : a0_2.eval (.tmp 0) = .pointer (some ⟨wz, 0, none⟩) := by rw [ha2, ev_other _ _ _ _ (by decide)]; exact f1_0
  have f2_5 : a0_2.eval (.tmp 5) = .int .i64 (j : Int) := by rw [ha2, ev_other _ _ _ _ (by decide)]; exact f1_5
  have f2_23 : a0_2.eval (.tmp 23) = .pointer (some ⟨wz, 0, none⟩) := by rw [ha2, ev_other _ _ _ _ (by decide)]; exact f1_23
  have f2_24 : a0_2.eval (.tmp 24) = .int .i64 (j : Int) := by rw [ha2]; exact ev_same _ _ _ (Nat.lt_of_le_of_lt (by decide) qz1)
  rw [← ha2] at h0 ⊢
  clear ha2
  refine wpAnyH_take (i := 2) (oi := ar_2 s) (v := .pointer (some ⟨wz, 0, none⟩)) (by kernel_rfl) (by kernel_rfl) (by kernel_rfl) (by kernel_rfl) (fun c a w h => hQ c _ _ _ w h) (Or.inl ⟨wanted_none rfl, fun w hw => run_nil rfl f2_23 w⟩) hS ?_
  change wpAnyH _ _ _ _ _ _ _ (a0_2.put (some 25) (.pointer (some ⟨wz, 0, none⟩))) _
  obtain ⟨a0_3, ha3⟩ : ∃ rr : Act, rr = a0_2.put (some 25) (.pointer (some ⟨wz, 0, none⟩)) := ⟨_, rfl⟩
  have qz3 : 34 < a0_3.tmps.size := by rw [ha3, sz_put]; exact qz2
  have f3_0 : a0_3.eval (.tmp 0) = .pointer (some ⟨wz, 0, none⟩) := by rw [ha3, ev_other _ _ _ _ (by decide)]; exact f2_0
  have f3_5 : a0_3.eval (.tmp 5) = .int .i64 (j : Int) := by rw [ha3, ev_other _ _ _ _ (by decide)]; exact f2_5
  have f3_24 : a0_3.eval (.tmp 24) = .int .i64 (j : Int) := by rw [ha3, ev_other _ _ _ _ (by decide)]; exact f2_24
  have f3_25 : a0_3.eval (.tmp 25) = .pointer (some ⟨wz, 0, none⟩) := by rw [ha3]; exact ev_same _ _ _ (Nat.lt_of_le_of_lt (by decide) qz2)
  rw [← ha3] at h0 ⊢
  clear ha3
  refine wpAnyH_take (i := 3) (oi := ar_3 s) (v := .pointer (some ⟨wz, 0, none⟩)) (by kernel_rfl) (by kernel_rfl) (by kernel_rfl) (by kernel_rfl) (fun c a w h => hQ c _ _ _ w h) (Or.inl ⟨wanted_none rfl, fun w hw => fldW wz 0 0 (fW0 wz) rfl f3_25 w⟩) hS ?_
  change wpAnyH _ _ _ _ _ _ _ (a0_3.put (some 26) (.pointer (some ⟨wz, 0, none⟩))) _
  obtain ⟨a0_4, ha4⟩ : ∃ rr : Act, rr = a0_3.put (some 26) (.pointer (some ⟨wz, 0, none⟩)) := ⟨_, rfl⟩
  have qz4 : 34 < a0_4.tmps.size := by rw [ha4, sz_put]; exact qz3
  have f4_0 : a0_4.eval (.tmp 0) = .pointer (some ⟨wz, 0, none⟩) := by rw [ha4, ev_other _ _ _ _ (by decide)]; exact f3_0
  have f4_5 : a0_4.eval (.tmp 5) = .int .i64 (j : Int) := by rw [ha4, ev_other _ _ _ _ (by decide)]; exact f3_5
  have f4_24 : a0_4.eval (.tmp 24) = .int .i64 (j : Int) := by rw [ha4, ev_other _ _ _ _ (by decide)]; exact f3_24
  have f4_26 : a0_4.eval (.tmp 26) = .pointer (some ⟨wz, 0, none⟩) := by rw [ha4]; exact ev_same _ _ _ (Nat.lt_of_le_of_lt (by decide) qz3)
  rw [← ha4] at h0 ⊢
  clear ha4
  refine wpAnyH_take (i := 4) (oi := ar_4 s) (v := .pointer (some ⟨wz, j, none⟩)) (by kernel_rfl) (by kernel_rfl) (by kernel_rfl) (by kernel_rfl) (fun c a w h => hQ c _ _ _ w h) (Or.inl ⟨wanted_none rfl, fun w hw => run_ixP rfl f4_26 f4_24 hj w⟩) hS ?_
  change wpAnyH _ _ _ _ _ _ _ (a0_4.put (some 27) (.pointer (some ⟨wz, j, none⟩))) _
  obtain ⟨a0_5, ha5⟩ : ∃ rr : Act, rr = a0_4.put (some 27) (.pointer (some ⟨wz, j, none⟩)) := ⟨_, rfl⟩
  have qz5 : 34 < a0_5.tmps.size := by rw [ha5, sz_put]; exact qz4
  have f5_0 : a0_5.eval (.tmp 0) = .pointer (some ⟨wz, 0, none⟩) := by rw [ha5, ev_other _ _ _ _ (by decide)]; exact f4_0
  have f5_5 : a0_5.eval (.tmp 5) = .int .i64 (j : Int) := by rw [ha5, ev_other _ _ _ _ (by decide)]; exact f4_5
  have f5_27 : a0_5.eval (.tmp 27) = .pointer (some ⟨wz, j, none⟩) := by rw [ha5]; exact ev_same _ _ _ (Nat.lt_of_le_of_lt (by decide) qz4)
  rw [← ha5] at h0 ⊢
  clear ha5
  refine wpAnyH_take (i := 5) (oi := ar_5 s) (v := .pointer q) (by kernel_rfl) (by kernel_rfl) (by kernel_rfl) (by kernel_rfl) (fun c a w h => hQ c _ _ _ w h) (Or.inl ⟨wanted_none rfl, fun w hw => run_load rfl f5_27 (load_xp hw.1)⟩) hS ?_
  change wpAnyH _ _ _ _ _ _ _ (a0_5.put (some 28) (.pointer q)) _
  obtain ⟨a0_6, ha6⟩ : ∃ rr : Act, rr = a0_5.put (some 28) (.pointer q) := ⟨_, rfl⟩
  have qz6 : 34 < a0_6.tmps.size := by rw [ha6, sz_put]; exact qz5
  have f6_0 : a0_6.eval (.tmp 0) = .pointer (some ⟨wz, 0, none⟩) := by rw [ha6, ev_other _ _ _ _ (by decide)]; exact f5_0
  have f6_5 : a0_6.eval (.tmp 5) = .int .i64 (j : Int) := by rw [ha6, ev_other _ _ _ _ (by decide)]; exact f5_5
  have f6_28 : a0_6.eval (.tmp 28) = .pointer q := by rw [ha6]; exact ev_same _ _ _ (Nat.lt_of_le_of_lt (by decide) qz5)
  rw [← ha6] at h0 ⊢
  clear ha6
  refine wpAnyH_take (i := 6) (oi := ar_6 s) (v := .pointer (some ⟨wz, 0, none⟩)) (by kernel_rfl) (by kernel_rfl) (by kernel_rfl) (by kernel_rfl) (fun c a w h => hQ c _ _ _ w h) (Or.inl ⟨wanted_none rfl, fun w hw => by simp only [execOp, ar_6, f6_0]; rfl⟩) hS ?_
  change wpAnyH _ _ _ _ _ _ _ (a0_6.put (some 29) (.pointer (some ⟨wz, 0, none⟩))) _
  obtain ⟨a0_7, ha7⟩ : ∃ rr : Act, rr = a0_6.put (some 29) (.pointer (some ⟨wz, 0, none⟩)) := ⟨_, rfl⟩
  have qz7 : 34 < a0_7.tmps.size := by rw [ha7, sz_put]; exact qz6
  have f7_5 : a0_7.eval (.tmp 5) = .int .i64 (j : Int) := by rw [ha7, ev_other _ _ _ _ (by decide)]; exact f6_5
  have f7_28 : a0_7.eval (.tmp 28) = .pointer q := by rw [ha7, ev_other _ _ _ _ (by decide)]; exact f6_28
  have f7_29 : a0_7.eval (.tmp 29) = .pointer (some ⟨wz, 0, none⟩) := by rw [ha7]; exact ev_same _ _ _ (Nat.lt_of_le_of_lt (by decide) qz6)
  rw [← ha7] at h0 ⊢
  clear ha7
  refine wpAnyH_take (i := 7) (oi := ar_7 s) (v := .int .i64 (j : Int)) (by kernel_rfl) (by kernel_rfl) (by kernel_rfl) (by kernel_rfl) (fun c a w h => hQ c _ _ _ w h) (Or.inl ⟨wanted_none rfl, fun w hw => by simp only [execOp, ar_7, f7_5]; rfl⟩) hS ?_
  change wpAnyH _ _ _ _ _ _ _ (a0_7.put (some 30) (.int .i64 (j : Int))) _
  obtain ⟨a0_8, ha8⟩ : ∃ rr : Act, rr = a0_7.put (some 30) (.int .i64 (j : Int)) := ⟨_, rfl⟩
  have qz8 : 34 < a0_8.tmps.size := by rw [ha8, sz_put]; exact qz7
  have f8_28 : a0_8.eval (.tmp 28) = .pointer q := by rw [ha8, ev_other _ _ _ _ (by decide)]; exact f7_28
  have f8_29 : a0_8.eval (.tmp 29) = .pointer (some ⟨wz, 0, none⟩) := by rw [ha8, ev_other _ _ _ _ (by decide)]; exact f7_29
  have f8_30 : a0_8.eval (.tmp 30) = .int .i64 (j : Int) := by rw [ha8]; exact ev_same _ _ _ (Nat.lt_of_le_of_lt (by decide) qz7)
  rw [← ha8] at h0 ⊢
  clear ha8
  refine wpAnyH_take (i := 8) (oi := ar_8 s) (v := .pointer (some ⟨wz, 0, none⟩)) (by kernel_rfl) (by kernel_rfl) (by kernel_rfl) (by kernel_rfl) (fun c a w h => hQ c _ _ _ w h) (Or.inl ⟨wanted_none rfl, fun w hw => run_nil rfl f8_29 w⟩) hS ?_
  change wpAnyH _ _ _ _ _ _ _ (a0_8.put (some 31) (.pointer (some ⟨wz, 0, none⟩))) _
  obtain ⟨a0_9, ha9⟩ : ∃ rr : Act, rr = a0_8.put (some 31) (.pointer (some ⟨wz, 0, none⟩)) := ⟨_, rfl⟩
  have qz9 : 34 < a0_9.tmps.size := by rw [ha9, sz_put]; exact qz8
  have f9_28 : a0_9.eval (.tmp 28) = .pointer q := by rw [ha9, ev_other _ _ _ _ (by decide)]; exact f8_28
  have f9_30 : a0_9.eval (.tmp 30) = .int .i64 (j : Int) := by rw [ha9, ev_other _ _ _ _ (by decide)]; exact f8_30
  have f9_31 : a0_9.eval (.tmp 31) = .pointer (some ⟨wz, 0, none⟩) := by rw [ha9]; exact ev_same _ _ _ (Nat.lt_of_le_of_lt (by decide) qz8)
  rw [← ha9] at h0 ⊢
  clear ha9
  refine wpAnyH_take (i := 9) (oi := ar_9 s) (v := .pointer (some ⟨wz, 3, none⟩)) (by kernel_rfl) (by kernel_rfl) (by kernel_rfl) (by kernel_rfl) (fun c a w h => hQ c _ _ _ w h) (Or.inl ⟨wanted_none rfl, fun w hw => fldW wz 1 3 (fW1 wz) rfl f9_31 w⟩) hS ?_
  change wpAnyH _ _ _ _ _ _ _ (a0_9.put (some 32) (.pointer (some ⟨wz, 3, none⟩))) _
  obtain ⟨a0_10, ha10⟩ : ∃ rr : Act, rr = a0_9.put (some 32) (.pointer (some ⟨wz, 3, none⟩)) := ⟨_, rfl⟩
  have qz10 : 34 < a0_10.tmps.size := by rw [ha10, sz_put]; exact qz9
  have f10_28 : a0_10.eval (.tmp 28) = .pointer q := by rw [ha10, ev_other _ _ _ _ (by decide)]; exact f9_28
  have f10_30 : a0_10.eval (.tmp 30) = .int .i64 (j : Int) := by rw [ha10, ev_other _ _ _ _ (by decide)]; exact f9_30
  have f10_32 : a0_10.eval (.tmp 32) = .pointer (some ⟨wz, 3, none⟩) := by rw [ha10]; exact ev_same _ _ _ (Nat.lt_of_le_of_lt (by decide) qz9)
  rw [← ha10] at h0 ⊢
  clear ha10
  refine wpAnyH_take (i := 10) (oi := ar_10 s) (v := .pointer (some ⟨wz, 3 + j, none⟩)) (by kernel_rfl) (by kernel_rfl) (by kernel_rfl) (by kernel_rfl) (fun c a w h => hQ c _ _ _ w h) (Or.inl ⟨wanted_none rfl, fun w hw => run_ixR rfl f10_32 f10_30 hj w⟩) hS ?_
  change wpAnyH _ _ _ _ _ _ _ (a0_10.put (some 33) (.pointer (some ⟨wz, 3 + j, none⟩))) _
  obtain ⟨a0_11, ha11⟩ : ∃ rr : Act, rr = a0_10.put (some 33) (.pointer (some ⟨wz, 3 + j, none⟩)) := ⟨_, rfl⟩
  have qz11 : 34 < a0_11.tmps.size := by rw [ha11, sz_put]; exact qz10
  have f11_28 : a0_11.eval (.tmp 28) = .pointer q := by rw [ha11, ev_other _ _ _ _ (by decide)]; exact f10_28
  have f11_33 : a0_11.eval (.tmp 33) = .pointer (some ⟨wz, 3 + j, none⟩) := by rw [ha11]; exact ev_same _ _ _ (Nat.lt_of_le_of_lt (by decide) qz10)
  rw [← ha11] at h0 ⊢
  clear ha11
  refine wpAnyH_take (i := 11) (oi := ar_11 s) (v := .pointer (some ⟨z, 0, none⟩)) (by kernel_rfl) (by kernel_rfl) (by kernel_rfl) (by kernel_rfl) (fun c a w h => hQ c _ _ _ w h) (Or.inl ⟨wanted_none rfl, fun w hw => run_load rfl f11_33 (load_qp hw.2)⟩) hS ?_
  change wpAnyH _ _ _ _ _ _ _ (a0_11.put (some 34) (.pointer (some ⟨z, 0, none⟩))) _
  obtain ⟨a0_12, ha12⟩ : ∃ rr : Act, rr = a0_11.put (some 34) (.pointer (some ⟨z, 0, none⟩)) := ⟨_, rfl⟩
  have qz12 : 34 < a0_12.tmps.size := by rw [ha12, sz_put]; exact qz11
  have f12_28 : a0_12.eval (.tmp 28) = .pointer q := by rw [ha12, ev_other _ _ _ _ (by decide)]; exact f11_28
  have f12_34 : a0_12.eval (.tmp 34) = .pointer (some ⟨z, 0, none⟩) := by rw [ha12]; exact ev_same _ _ _ (Nat.lt_of_le_of_lt (by decide) qz11)
  rw [← ha12] at h0 ⊢
  clear ha12
  refine wpAnyH_take (i := 12) (oi := ar_12 s) (v := .pointer q) (by kernel_rfl) (by kernel_rfl) (by kernel_rfl) (by kernel_rfl) (fun c a w h => hQ c _ _ _ w h) (Or.inl ⟨wanted_none rfl, fun w hw => by simp only [execOp, ar_12, f12_28]; rfl⟩) hS ?_
  change wpAnyH _ _ _ _ _ _ _ (a0_12.put (some 6) (.pointer q)) _
  obtain ⟨a0_13, ha13⟩ : ∃ rr : Act, rr = a0_12.put (some 6) (.pointer q) := ⟨_, rfl⟩
  have qz13 : 34 < a0_13.tmps.size := by rw [ha13, sz_put]; exact qz12
  have f13_34 : a0_13.eval (.tmp 34) = .pointer (some ⟨z, 0, none⟩) := by rw [ha13, ev_other _ _ _ _ (by decide)]; exact f12_34
  rw [← ha13] at h0 ⊢
  clear ha13
  refine wpAnyH_take (i := 13) (oi := ar_13 s) (v := .pointer (some ⟨z, 0, none⟩)) (by kernel_rfl) (by kernel_rfl) (by kernel_rfl) (by kernel_rfl) (fun c a w h => hQ c _ _ _ w h) (Or.inl ⟨wanted_none rfl, fun w hw => by simp only [execOp, ar_13, f13_34]; rfl⟩) hS ?_
  change wpAnyH _ _ _ _ _ _ _ (a0_13.put (some 7) (.pointer (some ⟨z, 0, none⟩))) _
  obtain ⟨a0_14, ha14⟩ : ∃ rr : Act, rr = a0_13.put (some 7) (.pointer (some ⟨z, 0, none⟩)) := ⟨_, rfl⟩
  have qz14 : 34 < a0_14.tmps.size := by rw [ha14, sz_put]; exact qz13
  rw [← ha14] at h0 ⊢
  clear ha14
  refine wpAnyH_done (by kernel_rfl) ?_ _
  exact h0
def cr_0 (s : String) : Oper := { dst := some 17, op := Op.move (Operand.tmp 0), type := 24, pos := s, after := #[], guard := none }
def cr_1 (s : String) : Oper := { dst := some 18, op := Op.move (Operand.tmp 5), type := 3, pos := s, after := #[], guard := none }
def cr_2 (s : String) : Oper := { dst := some 19, op := Op.nilCheck (Operand.tmp 17), type := 0, pos := s, after := #[{ on := 0, ground := Ground.data }], guard := none }
def cr_3 (s : String) : Oper := { dst := some 20, op := Op.fieldAddr 32 (Operand.tmp 19) 0, type := 0, pos := s, after := #[{ on := 2, ground := Ground.data }], guard := none }
def cr_4 (s : String) : Oper := { dst := some 21, op := Op.indexAddr 26 (Operand.tmp 20) (Operand.tmp 18), type := 0, pos := s, after := #[{ on := 3, ground := Ground.data }, { on := 1, ground := Ground.data }], guard := none }
def cr_5 (s : String) : Oper := { dst := some 22, op := Op.load 25 (Operand.tmp 21), type := 25, pos := s, after := #[{ on := 4, ground := Ground.data }], guard := none }
def cr_6 (s : String) : Oper := { dst := some 23, op := Op.move (Operand.tmp 0), type := 24, pos := s, after := #[{ on := 12, ground := Ground.gcOnly Departure.lateStores }], guard := none }
def cr_7 (s : String) : Oper := { dst := some 24, op := Op.move (Operand.tmp 5), type := 3, pos := s, after := #[{ on := 12, ground := Ground.gcOnly Departure.lateStores }], guard := none }
def cr_8 (s : String) : Oper := { dst := some 25, op := Op.nilCheck (Operand.tmp 23), type := 0, pos := s, after := #[{ on := 6, ground := Ground.data }, { on := 12, ground := Ground.gcOnly Departure.lateStores }], guard := none }
def cr_9 (s : String) : Oper := { dst := some 26, op := Op.fieldAddr 32 (Operand.tmp 25) 1, type := 0, pos := s, after := #[{ on := 8, ground := Ground.data }, { on := 12, ground := Ground.gcOnly Departure.lateStores }], guard := none }
def cr_10 (s : String) : Oper := { dst := some 27, op := Op.indexAddr 28 (Operand.tmp 26) (Operand.tmp 24), type := 0, pos := s, after := #[{ on := 9, ground := Ground.data }, { on := 7, ground := Ground.data }, { on := 12, ground := Ground.gcOnly Departure.lateStores }], guard := none }
def cr_11 (s : String) : Oper := { dst := some 28, op := Op.load 27 (Operand.tmp 27), type := 27, pos := s, after := #[{ on := 10, ground := Ground.data }, { on := 12, ground := Ground.gcOnly Departure.lateStores }], guard := none }
def cr_12 (s : String) : Oper := { dst := some 7, op := Op.assign (Operand.tmp 22), type := 25, pos := s, after := #[{ on := 5, ground := Ground.data }, { on := 0, ground := Ground.phase }, { on := 1, ground := Ground.phase }, { on := 2, ground := Ground.phase }, { on := 3, ground := Ground.phase }, { on := 4, ground := Ground.phase }, { on := 5, ground := Ground.phase }, { on := 6, ground := Ground.textOnly Departure.lateStores }, { on := 7, ground := Ground.textOnly Departure.lateStores }, { on := 8, ground := Ground.textOnly Departure.lateStores }, { on := 9, ground := Ground.textOnly Departure.lateStores }, { on := 10, ground := Ground.textOnly Departure.lateStores }, { on := 11, ground := Ground.textOnly Departure.lateStores }], guard := none }
def cr_13 (s : String) : Oper := { dst := some 8, op := Op.assign (Operand.tmp 28), type := 27, pos := s, after := #[{ on := 11, ground := Ground.data }, { on := 12, ground := Ground.chain }, { on := 0, ground := Ground.phase }, { on := 1, ground := Ground.phase }, { on := 2, ground := Ground.phase }, { on := 3, ground := Ground.phase }, { on := 4, ground := Ground.phase }, { on := 5, ground := Ground.phase }, { on := 6, ground := Ground.phase }, { on := 7, ground := Ground.phase }, { on := 8, ground := Ground.phase }, { on := 9, ground := Ground.phase }, { on := 10, ground := Ground.phase }, { on := 11, ground := Ground.phase }, { on := 12, ground := Ground.phase }], guard := none }
def cr_ops (s : String) : Array Oper := #[cr_0 s, cr_1 s, cr_2 s, cr_3 s, cr_4 s, cr_5 s, cr_6 s, cr_7 s, cr_8 s, cr_9 s, cr_10 s, cr_11 s, cr_12 s, cr_13 s]
theorem cr_walk (s : String) {Q : Exit → Act → World → Prop} (hQ : ∀ c (a : Act) t v w, Q (.panic c) (a.put (some t) v) w → Q (.panic c) a w) (W : World) (wz j z : Nat) (hj : j < 3) (q : Option Addr) (hS0 : W.drew.cell? ⟨wz, j, none⟩ = some (.pointer q) ∧ W.drew.cell? ⟨wz, 3 + j, none⟩ = some (.pointer (some ⟨z, 0, none⟩)))
    (a : Act) (hs : 28 < a.tmps.size) (e0 : a.eval (.tmp 0) = .pointer (some ⟨wz, 0, none⟩)) (e5 : a.eval (.tmp 5) = .int .i64 (j : Int))
    (h0 :  Q .normal ((((((((((((((a.put (some 17) (.pointer (some ⟨wz, 0, none⟩))).put (some 18) (.int .i64 (j : Int))).put (some 19) (.pointer (some ⟨wz, 0, none⟩))).put (some 20) (.pointer (some ⟨wz, 0, none⟩))).put (some 21) (.pointer (some ⟨wz, j, none⟩))).put (some 22) (.pointer q)).put (some 23) (.pointer (some ⟨wz, 0, none⟩))).put (some 24) (.int .i64 (j : Int))).put (some 25) (.pointer (some ⟨wz, 0, none⟩))).put (some 26) (.pointer (some ⟨wz, 3, none⟩))).put (some 27) (.pointer (some ⟨wz, 3 + j, none⟩))).put (some 28) (.pointer (some ⟨z, 0, none⟩))).put (some 7) (.pointer q)).put (some 8) (.pointer (some ⟨z, 0, none⟩))) W.drew) :
    Code.wp Try.prog (.region 2 (cr_ops s) true) Q a W := by
  refine wp_region_held_drew (S := fun w => w.cell? ⟨wz, j, none⟩ = some (.pointer q) ∧ w.cell? ⟨wz, 3 + j, none⟩ = some (.pointer (some ⟨z, 0, none⟩))) (by kernel_rfl) hS0 (fun hS => ?_)
  change wpAnyH _ _ _ _ _ _ _ _ (World.drew _)
  refine wpAnyH_take (i := 0) (oi := cr_0 s) (v := .pointer (some ⟨wz, 0, none⟩)) (by kernel_rfl) (by kernel_rfl) (by kernel_rfl) (by kernel_rfl) (fun c a w h => hQ c _ _ _ w h) (Or.inl ⟨wanted_none rfl, fun w hw => by simp only [execOp, cr_0, e0]; rfl⟩) hS ?_
  change wpAnyH _ _ _ _ _ _ _ (a.put (some 17) (.pointer (some ⟨wz, 0, none⟩))) _
  obtain ⟨a0_1, ha1⟩ : ∃ rr : Act, rr = a.put (some 17) (.pointer (some ⟨wz, 0, none⟩)) := ⟨_, rfl⟩
  have qz1 : 28 < a0_1.tmps.size := by rw [ha1, sz_put]; exact hs
  have f1_0 : a0_1.eval (.tmp 0) = .pointer (some ⟨wz, 0, none⟩) := by rw [ha1, ev_other _ _ _ _ (by decide)]; exact e0
  have f1_5 : a0_1.eval (.tmp 5) = .int .i64 (j : Int) := by rw [ha1, ev_other _ _ _ _ (by decide)]; exact e5
  have f1_17 : a0_1.eval (.tmp 17) = .pointer (some ⟨wz, 0, none⟩) := by rw [ha1]; exact ev_same _ _ _ (Nat.lt_of_le_of_lt (by decide) hs)
  rw [← ha1] at h0 ⊢
  clear ha1
  refine wpAnyH_take (i := 1) (oi := cr_1 s) (v := .int .i64 (j : Int)) (by kernel_rfl) (by kernel_rfl) (by kernel_rfl) (by kernel_rfl) (fun c a w h => hQ c _ _ _ w h) (Or.inl ⟨wanted_none rfl, fun w hw => by simp only [execOp, cr_1, f1_5]; rfl⟩) hS ?_
  change wpAnyH _ _ _ _ _ _ _ (a0_1.put (some 18) (.int .i64 (j : Int))) _
  obtain ⟨a0_2, ha2⟩ : ∃ rr : Act, rr = a0_1.put (some 18) (.int .i64 (j : Int)) := ⟨_, rfl⟩
  have qz2 : 28 < a0_2.tmps.size := by rw [ha2, sz_put]; exact qz1
  have f2_0 : a0_2.eval (.tmp 0) = .pointer (some ⟨wz, 0, none⟩) := by rw [ha2, ev_other _ _ _ _ (by decide)]; exact f1_0
  have f2_5 : a0_2.eval (.tmp 5) = .int .i64 (j : Int) := by rw [ha2, ev_other _ _ _ _ (by decide)]; exact f1_5
  have f2_17 : a0_2.eval (.tmp 17) = .pointer (some ⟨wz, 0, none⟩) := by rw [ha2, ev_other _ _ _ _ (by decide)]; exact f1_17
  have f2_18 : a0_2.eval (.tmp 18) = .int .i64 (j : Int) := by rw [ha2]; exact ev_same _ _ _ (Nat.lt_of_le_of_lt (by decide) qz1)
  rw [← ha2] at h0 ⊢
  clear ha2
  refine wpAnyH_take (i := 2) (oi := cr_2 s) (v := .pointer (some ⟨wz, 0, none⟩)) (by kernel_rfl) (by kernel_rfl) (by kernel_rfl) (by kernel_rfl) (fun c a w h => hQ c _ _ _ w h) (Or.inl ⟨wanted_none rfl, fun w hw => run_nil rfl f2_17 w⟩) hS ?_
  change wpAnyH _ _ _ _ _ _ _ (a0_2.put (some 19) (.pointer (some ⟨wz, 0, none⟩))) _
  obtain ⟨a0_3, ha3⟩ : ∃ rr : Act, rr = a0_2.put (some 19) (.pointer (some ⟨wz, 0, none⟩)) := ⟨_, rfl⟩
  have qz3 : 28 < a0_3.tmps.size := by rw [ha3, sz_put]; exact qz2
  have f3_0 : a0_3.eval (.tmp 0) = .pointer (some ⟨wz, 0, none⟩) := by rw [ha3, ev_other _ _ _ _ (by decide)]; exact f2_0
  have f3_5 : a0_3.eval (.tmp 5) = .int .i64 (j : Int) := by rw [ha3, ev_other _ _ _ _ (by decide)]; exact f2_5
  have f3_18 : a0_3.eval (.tmp 18) = .int .i64 (j : Int) := by rw [ha3, ev_other _ _ _ _ (by decide)]; exact f2_18
  have f3_19 : a0_3.eval (.tmp 19) = .pointer (some ⟨wz, 0, none⟩) := by rw [ha3]; exact ev_same _ _ _ (Nat.lt_of_le_of_lt (by decide) qz2)
  rw [← ha3] at h0 ⊢
  clear ha3
  refine wpAnyH_take (i := 3) (oi := cr_3 s) (v := .pointer (some ⟨wz, 0, none⟩)) (by kernel_rfl) (by kernel_rfl) (by kernel_rfl) (by kernel_rfl) (fun c a w h => hQ c _ _ _ w h) (Or.inl ⟨wanted_none rfl, fun w hw => fldW wz 0 0 (fW0 wz) rfl f3_19 w⟩) hS ?_
  change wpAnyH _ _ _ _ _ _ _ (a0_3.put (some 20) (.pointer (some ⟨wz, 0, none⟩))) _
  obtain ⟨a0_4, ha4⟩ : ∃ rr : Act, rr = a0_3.put (some 20) (.pointer (some ⟨wz, 0, none⟩)) := ⟨_, rfl⟩
  have qz4 : 28 < a0_4.tmps.size := by rw [ha4, sz_put]; exact qz3
  have f4_0 : a0_4.eval (.tmp 0) = .pointer (some ⟨wz, 0, none⟩) := by rw [ha4, ev_other _ _ _ _ (by decide)]; exact f3_0
  have f4_5 : a0_4.eval (.tmp 5) = .int .i64 (j : Int) := by rw [ha4, ev_other _ _ _ _ (by decide)]; exact f3_5
  have f4_18 : a0_4.eval (.tmp 18) = .int .i64 (j : Int) := by rw [ha4, ev_other _ _ _ _ (by decide)]; exact f3_18
  have f4_20 : a0_4.eval (.tmp 20) = .pointer (some ⟨wz, 0, none⟩) := by rw [ha4]; exact ev_same _ _ _ (Nat.lt_of_le_of_lt (by decide) qz3)
  rw [← ha4] at h0 ⊢
  clear ha4
  refine wpAnyH_take (i := 4) (oi := cr_4 s) (v := .pointer (some ⟨wz, j, none⟩)) (by kernel_rfl) (by kernel_rfl) (by kernel_rfl) (by kernel_rfl) (fun c a w h => hQ c _ _ _ w h) (Or.inl ⟨wanted_none rfl, fun w hw => run_ixP rfl f4_20 f4_18 hj w⟩) hS ?_
  change wpAnyH _ _ _ _ _ _ _ (a0_4.put (some 21) (.pointer (some ⟨wz, j, none⟩))) _
  obtain ⟨a0_5, ha5⟩ : ∃ rr : Act, rr = a0_4.put (some 21) (.pointer (some ⟨wz, j, none⟩)) := ⟨_, rfl⟩
  have qz5 : 28 < a0_5.tmps.size := by rw [ha5, sz_put]; exact qz4
  have f5_0 : a0_5.eval (.tmp 0) = .pointer (some ⟨wz, 0, none⟩) := by rw [ha5, ev_other _ _ _ _ (by decide)]; exact f4_0
  have f5_5 : a0_5.eval (.tmp 5) = .int .i64 (j : Int) := by rw [ha5, ev_other _ _ _ _ (by decide)]; exact f4_5
  have f5_21 : a0_5.eval (.tmp 21) = .pointer (some ⟨wz, j, none⟩) := by rw [ha5]; exact ev_same _ _ _ (Nat.lt_of_le_of_lt (by decide) qz4)
  rw [← ha5] at h0 ⊢
  clear ha5
  refine wpAnyH_take (i := 5) (oi := cr_5 s) (v := .pointer q) (by kernel_rfl) (by kernel_rfl) (by kernel_rfl) (by kernel_rfl) (fun c a w h => hQ c _ _ _ w h) (Or.inl ⟨wanted_none rfl, fun w hw => run_load rfl f5_21 (load_xp hw.1)⟩) hS ?_
  change wpAnyH _ _ _ _ _ _ _ (a0_5.put (some 22) (.pointer q)) _
  obtain ⟨a0_6, ha6⟩ : ∃ rr : Act, rr = a0_5.put (some 22) (.pointer q) := ⟨_, rfl⟩
  have qz6 : 28 < a0_6.tmps.size := by rw [ha6, sz_put]; exact qz5
  have f6_0 : a0_6.eval (.tmp 0) = .pointer (some ⟨wz, 0, none⟩) := by rw [ha6, ev_other _ _ _ _ (by decide)]; exact f5_0
  have f6_5 : a0_6.eval (.tmp 5) = .int .i64 (j : Int) := by rw [ha6, ev_other _ _ _ _ (by decide)]; exact f5_5
  have f6_22 : a0_6.eval (.tmp 22) = .pointer q := by rw [ha6]; exact ev_same _ _ _ (Nat.lt_of_le_of_lt (by decide) qz5)
  rw [← ha6] at h0 ⊢
  clear ha6
  refine wpAnyH_take (i := 6) (oi := cr_6 s) (v := .pointer (some ⟨wz, 0, none⟩)) (by kernel_rfl) (by kernel_rfl) (by kernel_rfl) (by kernel_rfl) (fun c a w h => hQ c _ _ _ w h) (Or.inl ⟨wanted_none rfl, fun w hw => by simp only [execOp, cr_6, f6_0]; rfl⟩) hS ?_
  change wpAnyH _ _ _ _ _ _ _ (a0_6.put (some 23) (.pointer (some ⟨wz, 0, none⟩))) _
  obtain ⟨a0_7, ha7⟩ : ∃ rr : Act, rr = a0_6.put (some 23) (.pointer (some ⟨wz, 0, none⟩)) := ⟨_, rfl⟩
  have qz7 : 28 < a0_7.tmps.size := by rw [ha7, sz_put]; exact qz6
  have f7_5 : a0_7.eval (.tmp 5) = .int .i64 (j : Int) := by rw [ha7, ev_other _ _ _ _ (by decide)]; exact f6_5
  have f7_22 : a0_7.eval (.tmp 22) = .pointer q := by rw [ha7, ev_other _ _ _ _ (by decide)]; exact f6_22
  have f7_23 : a0_7.eval (.tmp 23) = .pointer (some ⟨wz, 0, none⟩) := by rw [ha7]; exact ev_same _ _ _ (Nat.lt_of_le_of_lt (by decide) qz6)
  rw [← ha7] at h0 ⊢
  clear ha7
  refine wpAnyH_take (i := 7) (oi := cr_7 s) (v := .int .i64 (j : Int)) (by kernel_rfl) (by kernel_rfl) (by kernel_rfl) (by kernel_rfl) (fun c a w h => hQ c _ _ _ w h) (Or.inl ⟨wanted_none rfl, fun w hw => by simp only [execOp, cr_7, f7_5]; rfl⟩) hS ?_
  change wpAnyH _ _ _ _ _ _ _ (a0_7.put (some 24) (.int .i64 (j : Int))) _
  obtain ⟨a0_8, ha8⟩ : ∃ rr : Act, rr = a0_7.put (some 24) (.int .i64 (j : Int)) := ⟨_, rfl⟩
  have qz8 : 28 < a0_8.tmps.size := by rw [ha8, sz_put]; exact qz7
  have f8_22 : a0_8.eval (.tmp 22) = .pointer q := by rw [ha8, ev_other _ _ _ _ (by decide)]; exact f7_22
  have f8_23 : a0_8.eval (.tmp 23) = .pointer (some ⟨wz, 0, none⟩) := by rw [ha8, ev_other _ _ _ _ (by decide)]; exact f7_23
  have f8_24 : a0_8.eval (.tmp 24) = .int .i64 (j : Int) := by rw [ha8]; exact ev_same _ _ _ (Nat.lt_of_le_of_lt (by decide) qz7)
  rw [← ha8] at h0 ⊢
  clear ha8
  refine wpAnyH_take (i := 8) (oi := cr_8 s) (v := .pointer (some ⟨wz, 0, none⟩)) (by kernel_rfl) (by kernel_rfl) (by kernel_rfl) (by kernel_rfl) (fun c a w h => hQ c _ _ _ w h) (Or.inl ⟨wanted_none rfl, fun w hw => run_nil rfl f8_23 w⟩) hS ?_
  change wpAnyH _ _ _ _ _ _ _ (a0_8.put (some 25) (.pointer (some ⟨wz, 0, none⟩))) _
  obtain ⟨a0_9, ha9⟩ : ∃ rr : Act, rr = a0_8.put (some 25) (.pointer (some ⟨wz, 0, none⟩)) := ⟨_, rfl⟩
  have qz9 : 28 < a0_9.tmps.size := by rw [ha9, sz_put]; exact qz8
  have f9_22 : a0_9.eval (.tmp 22) = .pointer q := by rw [ha9, ev_other _ _ _ _ (by decide)]; exact f8_22
  have f9_24 : a0_9.eval (.tmp 24) = .int .i64 (j : Int) := by rw [ha9, ev_other _ _ _ _ (by decide)]; exact f8_24
  have f9_25 : a0_9.eval (.tmp 25) = .pointer (some ⟨wz, 0, none⟩) := by rw [ha9]; exact ev_same _ _ _ (Nat.lt_of_le_of_lt (by decide) qz8)
  rw [← ha9] at h0 ⊢
  clear ha9
  refine wpAnyH_take (i := 9) (oi := cr_9 s) (v := .pointer (some ⟨wz, 3, none⟩)) (by kernel_rfl) (by kernel_rfl) (by kernel_rfl) (by kernel_rfl) (fun c a w h => hQ c _ _ _ w h) (Or.inl ⟨wanted_none rfl, fun w hw => fldW wz 1 3 (fW1 wz) rfl f9_25 w⟩) hS ?_
  change wpAnyH _ _ _ _ _ _ _ (a0_9.put (some 26) (.pointer (some ⟨wz, 3, none⟩))) _
  obtain ⟨a0_10, ha10⟩ : ∃ rr : Act, rr = a0_9.put (some 26) (.pointer (some ⟨wz, 3, none⟩)) := ⟨_, rfl⟩
  have qz10 : 28 < a0_10.tmps.size := by rw [ha10, sz_put]; exact qz9
  have f10_22 : a0_10.eval (.tmp 22) = .pointer q := by rw [ha10, ev_other _ _ _ _ (by decide)]; exact f9_22
  have f10_24 : a0_10.eval (.tmp 24) = .int .i64 (j : Int) := by rw [ha10, ev_other _ _ _ _ (by decide)]; exact f9_24
  have f10_26 : a0_10.eval (.tmp 26) = .pointer (some ⟨wz, 3, none⟩) := by rw [ha10]; exact ev_same _ _ _ (Nat.lt_of_le_of_lt (by decide) qz9)
  rw [← ha10] at h0 ⊢
  clear ha10
  refine wpAnyH_take (i := 10) (oi := cr_10 s) (v := .pointer (some ⟨wz, 3 + j, none⟩)) (by kernel_rfl) (by kernel_rfl) (by kernel_rfl) (by kernel_rfl) (fun c a w h => hQ c _ _ _ w h) (Or.inl ⟨wanted_none rfl, fun w hw => run_ixR rfl f10_26 f10_24 hj w⟩) hS ?_
  change wpAnyH _ _ _ _ _ _ _ (a0_10.put (some 27) (.pointer (some ⟨wz, 3 + j, none⟩))) _
  obtain ⟨a0_11, ha11⟩ : ∃ rr : Act, rr = a0_10.put (some 27) (.pointer (some ⟨wz, 3 + j, none⟩)) := ⟨_, rfl⟩
  have qz11 : 28 < a0_11.tmps.size := by rw [ha11, sz_put]; exact qz10
  have f11_22 : a0_11.eval (.tmp 22) = .pointer q := by rw [ha11, ev_other _ _ _ _ (by decide)]; exact f10_22
  have f11_27 : a0_11.eval (.tmp 27) = .pointer (some ⟨wz, 3 + j, none⟩) := by rw [ha11]; exact ev_same _ _ _ (Nat.lt_of_le_of_lt (by decide) qz10)
  rw [← ha11] at h0 ⊢
  clear ha11
  refine wpAnyH_take (i := 11) (oi := cr_11 s) (v := .pointer (some ⟨z, 0, none⟩)) (by kernel_rfl) (by kernel_rfl) (by kernel_rfl) (by kernel_rfl) (fun c a w h => hQ c _ _ _ w h) (Or.inl ⟨wanted_none rfl, fun w hw => run_load rfl f11_27 (load_qp hw.2)⟩) hS ?_
  change wpAnyH _ _ _ _ _ _ _ (a0_11.put (some 28) (.pointer (some ⟨z, 0, none⟩))) _
  obtain ⟨a0_12, ha12⟩ : ∃ rr : Act, rr = a0_11.put (some 28) (.pointer (some ⟨z, 0, none⟩)) := ⟨_, rfl⟩
  have qz12 : 28 < a0_12.tmps.size := by rw [ha12, sz_put]; exact qz11
  have f12_22 : a0_12.eval (.tmp 22) = .pointer q := by rw [ha12, ev_other _ _ _ _ (by decide)]; exact f11_22
  have f12_28 : a0_12.eval (.tmp 28) = .pointer (some ⟨z, 0, none⟩) := by rw [ha12]; exact ev_same _ _ _ (Nat.lt_of_le_of_lt (by decide) qz11)
  rw [← ha12] at h0 ⊢
  clear ha12
  refine wpAnyH_take (i := 12) (oi := cr_12 s) (v := .pointer q) (by kernel_rfl) (by kernel_rfl) (by kernel_rfl) (by kernel_rfl) (fun c a w h => hQ c _ _ _ w h) (Or.inl ⟨wanted_none rfl, fun w hw => by simp only [execOp, cr_12, f12_22]; rfl⟩) hS ?_
  change wpAnyH _ _ _ _ _ _ _ (a0_12.put (some 7) (.pointer q)) _
  obtain ⟨a0_13, ha13⟩ : ∃ rr : Act, rr = a0_12.put (some 7) (.pointer q) := ⟨_, rfl⟩
  have qz13 : 28 < a0_13.tmps.size := by rw [ha13, sz_put]; exact qz12
  have f13_28 : a0_13.eval (.tmp 28) = .pointer (some ⟨z, 0, none⟩) := by rw [ha13, ev_other _ _ _ _ (by decide)]; exact f12_28
  rw [← ha13] at h0 ⊢
  clear ha13
  refine wpAnyH_take (i := 13) (oi := cr_13 s) (v := .pointer (some ⟨z, 0, none⟩)) (by kernel_rfl) (by kernel_rfl) (by kernel_rfl) (by kernel_rfl) (fun c a w h => hQ c _ _ _ w h) (Or.inl ⟨wanted_none rfl, fun w hw => by simp only [execOp, cr_13, f13_28]; rfl⟩) hS ?_
  change wpAnyH _ _ _ _ _ _ _ (a0_13.put (some 8) (.pointer (some ⟨z, 0, none⟩))) _
  obtain ⟨a0_14, ha14⟩ : ∃ rr : Act, rr = a0_13.put (some 8) (.pointer (some ⟨z, 0, none⟩)) := ⟨_, rfl⟩
  have qz14 : 28 < a0_14.tmps.size := by rw [ha14, sz_put]; exact qz13
  rw [← ha14] at h0 ⊢
  clear ha14
  refine wpAnyH_done (by kernel_rfl) ?_ _
  exact h0
def ci_0 (s : String) : Oper := { dst := some 11, op := Op.fieldAddr 41 (Operand.tmp 3) 1, type := 0, pos := s, after := #[], guard := none }
def ci_1 (s : String) : Oper := { dst := some 12, op := Op.load 3 (Operand.tmp 11), type := 3, pos := s, after := #[{ on := 0, ground := Ground.data }], guard := none }
def ci_2 (s : String) : Oper := { dst := some 13, op := Op.call { callee := Callee.value (Operand.func 17), args := #[Operand.tmp 12], argTypes := #[3] }, type := 3, pos := s, after := #[{ on := 1, ground := Ground.data }], guard := none }
def ci_3 (s : String) : Oper := { dst := some 14, op := Op.fieldAddr 41 (Operand.tmp 3) 2, type := 0, pos := s, after := #[], guard := none }
def ci_4 (s : String) : Oper := { dst := some 15, op := Op.load 3 (Operand.tmp 14), type := 3, pos := s, after := #[{ on := 3, ground := Ground.data }], guard := none }
def ci_5 (s : String) : Oper := { dst := some 16, op := Op.call { callee := Callee.value (Operand.func 17), args := #[Operand.tmp 15], argTypes := #[3] }, type := 3, pos := s, after := #[{ on := 4, ground := Ground.data }, { on := 2, ground := Ground.chain }], guard := none }
def ci_6 (s : String) : Oper := { dst := some 5, op := Op.assign (Operand.tmp 13), type := 3, pos := s, after := #[{ on := 2, ground := Ground.data }, { on := 5, ground := Ground.chain }, { on := 0, ground := Ground.phase }, { on := 1, ground := Ground.phase }, { on := 2, ground := Ground.phase }, { on := 3, ground := Ground.textOnly Departure.lateStores }, { on := 4, ground := Ground.textOnly Departure.lateStores }, { on := 5, ground := Ground.textOnly Departure.lateStoresUnsure }], guard := none }
def ci_7 (s : String) : Oper := { dst := some 6, op := Op.assign (Operand.tmp 16), type := 3, pos := s, after := #[{ on := 5, ground := Ground.data }, { on := 6, ground := Ground.chain }, { on := 0, ground := Ground.phase }, { on := 1, ground := Ground.phase }, { on := 2, ground := Ground.phase }, { on := 3, ground := Ground.phase }, { on := 4, ground := Ground.phase }, { on := 5, ground := Ground.phase }, { on := 6, ground := Ground.phase }], guard := none }
def ci_ops (s : String) : Array Oper := #[ci_0 s, ci_1 s, ci_2 s, ci_3 s, ci_4 s, ci_5 s, ci_6 s, ci_7 s]
theorem ci_enter2 (s : String) (a : Act) (w : World) : (execOp a.eval (ci_2 s)).run Try.prog w = .ok (.enter 17 #[a.eval (.tmp 12)]) w := by kernel_rfl
theorem ci_enter5 (s : String) (a : Act) (w : World) : (execOp a.eval (ci_5 s)).run Try.prog w = .ok (.enter 17 #[a.eval (.tmp 15)]) w := by kernel_rfl
theorem ci_walk (s : String) {Q : Exit → Act → World → Prop} (hQ : ∀ c (a : Act) t v w, Q (.panic c) (a.put (some t) v) w → Q (.panic c) a w) (W : World) (kb : Nat) (on wi : Int) (hS0 : W.drew.cell? ⟨kb, 1, none⟩ = some (.int .i64 on) ∧ W.drew.cell? ⟨kb, 2, none⟩ = some (.int .i64 wi))
    (a : Act) (hs : 16 < a.tmps.size) (e3 : a.eval (.tmp 3) = .pointer (some ⟨kb, 0, none⟩))
    (h0 :  Q .normal ((((((((a.put (some 11) (.pointer (some ⟨kb, 1, none⟩))).put (some 12) (.int .i64 on)).put (some 14) (.pointer (some ⟨kb, 2, none⟩))).put (some 15) (.int .i64 wi)).put (some 13) (.int .i64 (thN on : Int))).put (some 16) (.int .i64 (thN wi : Int))).put (some 5) (.int .i64 (thN on : Int))).put (some 6) (.int .i64 (thN wi : Int))) W.drew) :
    Code.wp Try.prog (.region 1 (ci_ops s) true) Q a W := by
  refine wp_region_held_drew (S := fun w => w.cell? ⟨kb, 1, none⟩ = some (.int .i64 on) ∧ w.cell? ⟨kb, 2, none⟩ = some (.int .i64 wi)) (by kernel_rfl) hS0 (fun hS => ?_)
  change wpAnyH _ _ _ _ _ _ _ _ (World.drew _)
  refine wpAnyH_take (i := 0) (oi := ci_0 s) (v := .pointer (some ⟨kb, 1, none⟩)) (by kernel_rfl) (by kernel_rfl) (by kernel_rfl) (by kernel_rfl) (fun c a w h => hQ c _ _ _ w h) (Or.inl ⟨wanted_none rfl, fun w hw => fldS kb 1 1 (fS1 kb) rfl e3 w⟩) hS ?_
  change wpAnyH _ _ _ _ _ _ _ (a.put (some 11) (.pointer (some ⟨kb, 1, none⟩))) _
  obtain ⟨a0_1, ha1⟩ : ∃ rr : Act, rr = a.put (some 11) (.pointer (some ⟨kb, 1, none⟩)) := ⟨_, rfl⟩
  have qz1 : 16 < a0_1.tmps.size := by rw [ha1, sz_put]; exact hs
  have f1_3 : a0_1.eval (.tmp 3) = .pointer (some ⟨kb, 0, none⟩) := by rw [ha1, ev_other _ _ _ _ (by decide)]; exact e3
  have f1_11 : a0_1.eval (.tmp 11) = .pointer (some ⟨kb, 1, none⟩) := by rw [ha1]; exact ev_same _ _ _ (Nat.lt_of_le_of_lt (by decide) hs)
  rw [← ha1] at h0 ⊢
  clear ha1
  refine wpAnyH_take (i := 1) (oi := ci_1 s) (v := .int .i64 on) (by kernel_rfl) (by kernel_rfl) (by kernel_rfl) (by kernel_rfl) (fun c a w h => hQ c _ _ _ w h) (Or.inl ⟨wanted_none rfl, fun w hw => run_load rfl f1_11 (load_it hw.1)⟩) hS ?_
  change wpAnyH _ _ _ _ _ _ _ (a0_1.put (some 12) (.int .i64 on)) _
  obtain ⟨a0_2, ha2⟩ : ∃ rr : Act, rr = a0_1.put (some 12) (.int .i64 on) := ⟨_, rfl⟩
  have qz2 : 16 < a0_2.tmps.size := by rw [ha2, sz_put]; exact qz1
  have f2_3 : a0_2.eval (.tmp 3) = .pointer (some ⟨kb, 0, none⟩) := by rw [ha2, ev_other _ _ _ _ (by decide)]; exact f1_3
  have f2_12 : a0_2.eval (.tmp 12) = .int .i64 on := by rw [ha2]; exact ev_same _ _ _ (Nat.lt_of_le_of_lt (by decide) qz1)
  rw [← ha2] at h0 ⊢
  clear ha2
  refine wpAnyH_take (i := 3) (oi := ci_3 s) (v := .pointer (some ⟨kb, 2, none⟩)) (by kernel_rfl) (by kernel_rfl) (by kernel_rfl) (by kernel_rfl) (fun c a w h => hQ c _ _ _ w h) (Or.inl ⟨wanted_none rfl, fun w hw => fldS kb 2 2 (fS2 kb) rfl f2_3 w⟩) hS ?_
  change wpAnyH _ _ _ _ _ _ _ (a0_2.put (some 14) (.pointer (some ⟨kb, 2, none⟩))) _
  obtain ⟨a0_3, ha3⟩ : ∃ rr : Act, rr = a0_2.put (some 14) (.pointer (some ⟨kb, 2, none⟩)) := ⟨_, rfl⟩
  have qz3 : 16 < a0_3.tmps.size := by rw [ha3, sz_put]; exact qz2
  have f3_12 : a0_3.eval (.tmp 12) = .int .i64 on := by rw [ha3, ev_other _ _ _ _ (by decide)]; exact f2_12
  have f3_14 : a0_3.eval (.tmp 14) = .pointer (some ⟨kb, 2, none⟩) := by rw [ha3]; exact ev_same _ _ _ (Nat.lt_of_le_of_lt (by decide) qz2)
  rw [← ha3] at h0 ⊢
  clear ha3
  refine wpAnyH_take (i := 4) (oi := ci_4 s) (v := .int .i64 wi) (by kernel_rfl) (by kernel_rfl) (by kernel_rfl) (by kernel_rfl) (fun c a w h => hQ c _ _ _ w h) (Or.inl ⟨wanted_none rfl, fun w hw => run_load rfl f3_14 (load_it hw.2)⟩) hS ?_
  change wpAnyH _ _ _ _ _ _ _ (a0_3.put (some 15) (.int .i64 wi)) _
  obtain ⟨a0_4, ha4⟩ : ∃ rr : Act, rr = a0_3.put (some 15) (.int .i64 wi) := ⟨_, rfl⟩
  have qz4 : 16 < a0_4.tmps.size := by rw [ha4, sz_put]; exact qz3
  have f4_12 : a0_4.eval (.tmp 12) = .int .i64 on := by rw [ha4, ev_other _ _ _ _ (by decide)]; exact f3_12
  have f4_15 : a0_4.eval (.tmp 15) = .int .i64 wi := by rw [ha4]; exact ev_same _ _ _ (Nat.lt_of_le_of_lt (by decide) qz3)
  rw [← ha4] at h0 ⊢
  clear ha4
  refine wpAnyH_ready (rs := [2]) (by kernel_rfl) (by simp) ?_
  refine AllReadyH.cons (o := ci_2 s) (by kernel_rfl) (fun KQ hKQ => ?_) AllReadyH.nil
  rw [if_pos (wanted_none rfl)]
  refine step_enterE 17 #[.int .i64 on] (by rw [ci_enter2, f4_12]) (fun V w' => V = .int .i64 (thN on : Int) ∧ w' = W.drew) ((three_val on _).mono (fun e w' ⟨h1, h2⟩ => ⟨_, h1, rfl, h2⟩)) ?_
  rintro _ _ ⟨rfl, rfl⟩
  refine hKQ.out _ _ (hS0) (fun _ => ?_)
  clear hKQ KQ
  change wpAnyH _ _ _ _ _ _ _ (a0_4.put (some 13) (.int .i64 (thN on : Int))) _
  obtain ⟨a0_5, ha5⟩ : ∃ rr : Act, rr = a0_4.put (some 13) (.int .i64 (thN on : Int)) := ⟨_, rfl⟩
  have qz5 : 16 < a0_5.tmps.size := by rw [ha5, sz_put]; exact qz4
  have f5_13 : a0_5.eval (.tmp 13) = .int .i64 (thN on : Int) := by rw [ha5]; exact ev_same _ _ _ (Nat.lt_of_le_of_lt (by decide) qz4)
  have f5_15 : a0_5.eval (.tmp 15) = .int .i64 wi := by rw [ha5, ev_other _ _ _ _ (by decide)]; exact f4_15
  rw [← ha5] at h0 ⊢
  clear ha5
  refine wpAnyH_ready (rs := [5]) (by kernel_rfl) (by simp) ?_
  refine AllReadyH.cons (o := ci_5 s) (by kernel_rfl) (fun KQ hKQ => ?_) AllReadyH.nil
  rw [if_pos (wanted_none rfl)]
  refine step_enterE 17 #[.int .i64 wi] (by rw [ci_enter5, f5_15]) (fun V w' => V = .int .i64 (thN wi : Int) ∧ w' = W.drew) ((three_val wi _).mono (fun e w' ⟨h1, h2⟩ => ⟨_, h1, rfl, h2⟩)) ?_
  rintro _ _ ⟨rfl, rfl⟩
  refine hKQ.out _ _ (hS0) (fun _ => ?_)
  clear hKQ KQ
  change wpAnyH _ _ _ _ _ _ _ (a0_5.put (some 16) (.int .i64 (thN wi : Int))) _
  obtain ⟨a0_6, ha6⟩ : ∃ rr : Act, rr = a0_5.put (some 16) (.int .i64 (thN wi : Int)) := ⟨_, rfl⟩
  have qz6 : 16 < a0_6.tmps.size := by rw [ha6, sz_put]; exact qz5
  have f6_13 : a0_6.eval (.tmp 13) = .int .i64 (thN on : Int) := by rw [ha6, ev_other _ _ _ _ (by decide)]; exact f5_13
  have f6_16 : a0_6.eval (.tmp 16) = .int .i64 (thN wi : Int) := by rw [ha6]; exact ev_same _ _ _ (Nat.lt_of_le_of_lt (by decide) qz5)
  rw [← ha6] at h0 ⊢
  clear ha6
  refine wpAnyH_take (i := 6) (oi := ci_6 s) (v := .int .i64 (thN on : Int)) (by kernel_rfl) (by kernel_rfl) (by kernel_rfl) (by kernel_rfl) (fun c a w h => hQ c _ _ _ w h) (Or.inl ⟨wanted_none rfl, fun w hw => by simp only [execOp, ci_6, f6_13]; rfl⟩) hS0 ?_
  change wpAnyH _ _ _ _ _ _ _ (a0_6.put (some 5) (.int .i64 (thN on : Int))) _
  obtain ⟨a0_7, ha7⟩ : ∃ rr : Act, rr = a0_6.put (some 5) (.int .i64 (thN on : Int)) := ⟨_, rfl⟩
  have qz7 : 16 < a0_7.tmps.size := by rw [ha7, sz_put]; exact qz6
  have f7_16 : a0_7.eval (.tmp 16) = .int .i64 (thN wi : Int) := by rw [ha7, ev_other _ _ _ _ (by decide)]; exact f6_16
  rw [← ha7] at h0 ⊢
  clear ha7
  refine wpAnyH_take (i := 7) (oi := ci_7 s) (v := .int .i64 (thN wi : Int)) (by kernel_rfl) (by kernel_rfl) (by kernel_rfl) (by kernel_rfl) (fun c a w h => hQ c _ _ _ w h) (Or.inl ⟨wanted_none rfl, fun w hw => by simp only [execOp, ci_7, f7_16]; rfl⟩) hS0 ?_
  change wpAnyH _ _ _ _ _ _ _ (a0_7.put (some 6) (.int .i64 (thN wi : Int))) _
  obtain ⟨a0_8, ha8⟩ : ∃ rr : Act, rr = a0_7.put (some 6) (.int .i64 (thN wi : Int)) := ⟨_, rfl⟩
  have qz8 : 16 < a0_8.tmps.size := by rw [ha8, sz_put]; exact qz7
  rw [← ha8] at h0 ⊢
  clear ha8
  refine wpAnyH_done (by kernel_rfl) ?_ _
  exact h0
def ah_0 (s : String) : Oper := { dst := some 39, op := Op.move (Operand.tmp 6), type := 25, pos := s, after := #[], guard := none }
def ah_1 (s : String) : Oper := { dst := some 40, op := Op.fieldAddr 41 (Operand.tmp 3) 3, type := 0, pos := s, after := #[], guard := none }
def ah_2 (s : String) : Oper := { dst := some 41, op := Op.load 38 (Operand.tmp 40), type := 38, pos := s, after := #[{ on := 1, ground := Ground.data }], guard := none }
def ah_3 (s : String) : Oper := { dst := some 42, op := Op.call { callee := Callee.value (Operand.func 13), args := #[Operand.tmp 39, Operand.tmp 41], argTypes := #[25, 38] }, type := 4, pos := s, after := #[{ on := 0, ground := Ground.data }, { on := 2, ground := Ground.data }], guard := none }
def ah_4 (s : String) : Oper := { dst := some 43, op := Op.move (Operand.tmp 7), type := 27, pos := s, after := #[], guard := none }
def ah_5 (s : String) : Oper := { dst := some 44, op := Op.fieldAddr 41 (Operand.tmp 3) 3, type := 0, pos := s, after := #[], guard := none }
def ah_6 (s : String) : Oper := { dst := some 45, op := Op.load 38 (Operand.tmp 44), type := 38, pos := s, after := #[{ on := 5, ground := Ground.data }], guard := none }
def ah_7 (s : String) : Oper := { dst := some 46, op := Op.call { callee := Callee.value (Operand.func 18), args := #[Operand.tmp 43, Operand.tmp 45], argTypes := #[27, 38] }, type := 4, pos := s, after := #[{ on := 4, ground := Ground.data }, { on := 6, ground := Ground.data }, { on := 3, ground := Ground.chain }], guard := none }
def ah_8 (s : String) : Oper := { dst := some 47, op := Op.binOp BinOp.eql 4 (Operand.tmp 42) (Operand.tmp 46) 4, type := 4, pos := s, after := #[{ on := 3, ground := Ground.data }, { on := 7, ground := Ground.data }], guard := none }
def ah_9 (s : String) : Oper := { dst := some 4, op := Op.assign (Operand.tmp 47), type := 4, pos := s, after := #[{ on := 8, ground := Ground.data }, { on := 7, ground := Ground.chain }, { on := 0, ground := Ground.phase }, { on := 1, ground := Ground.phase }, { on := 2, ground := Ground.phase }, { on := 3, ground := Ground.phase }, { on := 4, ground := Ground.phase }, { on := 5, ground := Ground.phase }, { on := 6, ground := Ground.phase }, { on := 7, ground := Ground.phase }, { on := 8, ground := Ground.phase }], guard := none }
def ah_ops (s : String) : Array Oper := #[ah_0 s, ah_1 s, ah_2 s, ah_3 s, ah_4 s, ah_5 s, ah_6 s, ah_7 s, ah_8 s, ah_9 s]
theorem ah_enter3 (s : String) (a : Act) (w : World) : (execOp a.eval (ah_3 s)).run Try.prog w = .ok (.enter 13 #[a.eval (.tmp 39), a.eval (.tmp 41)]) w := by kernel_rfl
theorem ah_enter7 (s : String) (a : Act) (w : World) : (execOp a.eval (ah_7 s)).run Try.prog w = .ok (.enter 18 #[a.eval (.tmp 43), a.eval (.tmp 45)]) w := by kernel_rfl
theorem ah_walk (s : String) {Q : Exit → Act → World → Prop} (hQ : ∀ c (a : Act) t v w, Q (.panic c) (a.put (some t) v) w → Q (.panic c) a w) (W : World) (z kb : Nat) (q : Option Addr) (s0 : SK) (h32 : s0.key.length = 32) (b : Bool) (M1 : World → Prop) (M2 : World → World → Prop) (hS0 : W.drew.rangeAt kb 3 (s0.key.map u8c)) (hc1 : Calls Try.prog 13 #[.pointer q, keyV s0.key] W.drew fun e w' => e = .returned (.bool b) ∧ M1 w') (hk1 : ∀ w2, M1 w2 → w2.rangeAt kb 3 (s0.key.map u8c)) (hc2 : ∀ w2, M1 w2 → Calls Try.prog 18 #[.pointer (some ⟨z, 0, none⟩), keyV s0.key] w2 fun e w' => e = .returned (.bool b) ∧ M2 w2 w') (hk2 : ∀ w2 w3, M1 w2 → M2 w2 w3 → w3.rangeAt kb 3 (s0.key.map u8c))
    (a : Act) (hs : 47 < a.tmps.size) (e3 : a.eval (.tmp 3) = .pointer (some ⟨kb, 0, none⟩)) (e6 : a.eval (.tmp 6) = .pointer q) (e7 : a.eval (.tmp 7) = .pointer (some ⟨z, 0, none⟩))
    (h0 : ∀ w2, M1 w2 → ∀ w3, M2 w2 w3 → Q .normal ((((((((((a.put (some 39) (.pointer q)).put (some 40) (.pointer (some ⟨kb, 3, none⟩))).put (some 41) (keyV s0.key)).put (some 43) (.pointer (some ⟨z, 0, none⟩))).put (some 44) (.pointer (some ⟨kb, 3, none⟩))).put (some 45) (keyV s0.key)).put (some 42) (.bool b)).put (some 46) (.bool b)).put (some 47) (.bool true)).put (some 4) (.bool true)) w3) :
    Code.wp Try.prog (.region 5 (ah_ops s) true) Q a W := by
  refine wp_region_held_drew (S := fun w => w.rangeAt kb 3 (s0.key.map u8c)) (by kernel_rfl) hS0 (fun hS => ?_)
  change wpAnyH _ _ _ _ _ _ _ _ (World.drew _)
  refine wpAnyH_take (i := 0) (oi := ah_0 s) (v := .pointer q) (by kernel_rfl) (by kernel_rfl) (by kernel_rfl) (by kernel_rfl) (fun c a w h => hQ c _ _ _ w h) (Or.inl ⟨wanted_none rfl, fun w hw => by simp only [execOp, ah_0, e6]; rfl⟩) hS ?_
  change wpAnyH _ _ _ _ _ _ _ (a.put (some 39) (.pointer q)) _
  obtain ⟨a0_1, ha1⟩ : ∃ rr : Act, rr = a.put (some 39) (.pointer q) := ⟨_, rfl⟩
  have qz1 : 47 < a0_1.tmps.size := by rw [ha1, sz_put]; exact hs
  have f1_3 : a0_1.eval (.tmp 3) = .pointer (some ⟨kb, 0, none⟩) := by rw [ha1, ev_other _ _ _ _ (by decide)]; exact e3
  have f1_7 : a0_1.eval (.tmp 7) = .pointer (some ⟨z, 0, none⟩) := by rw [ha1, ev_other _ _ _ _ (by decide)]; exact e7
  have f1_39 : a0_1.eval (.tmp 39) = .pointer q := by rw [ha1]; exact ev_same _ _ _ (Nat.lt_of_le_of_lt (by decide) hs)
  rw [← ha1] at h0 ⊢
  clear ha1
  refine wpAnyH_take (i := 1) (oi := ah_1 s) (v := .pointer (some ⟨kb, 3, none⟩)) (by kernel_rfl) (by kernel_rfl) (by kernel_rfl) (by kernel_rfl) (fun c a w h => hQ c _ _ _ w h) (Or.inl ⟨wanted_none rfl, fun w hw => fldS kb 3 3 (fS3 kb) rfl f1_3 w⟩) hS ?_
  change wpAnyH _ _ _ _ _ _ _ (a0_1.put (some 40) (.pointer (some ⟨kb, 3, none⟩))) _
  obtain ⟨a0_2, ha2⟩ : ∃ rr : Act, rr = a0_1.put (some 40) (.pointer (some ⟨kb, 3, none⟩)) := ⟨_, rfl⟩
  have qz2 : 47 < a0_2.tmps.size := by rw [ha2, sz_put]; exact qz1
  have f2_3 : a0_2.eval (.tmp 3) = .pointer (some ⟨kb, 0, none⟩) := by rw [ha2, ev_other _ _ _ _ (by decide)]; exact f1_3
  have f2_7 : a0_2.eval (.tmp 7) = .pointer (some ⟨z, 0, none⟩) := by rw [ha2, ev_other _ _ _ _ (by decide)]; exact f1_7
  have f2_39 : a0_2.eval (.tmp 39) = .pointer q := by rw [ha2, ev_other _ _ _ _ (by decide)]; exact f1_39
  have f2_40 : a0_2.eval (.tmp 40) = .pointer (some ⟨kb, 3, none⟩) := by rw [ha2]; exact ev_same _ _ _ (Nat.lt_of_le_of_lt (by decide) qz1)
  rw [← ha2] at h0 ⊢
  clear ha2
  refine wpAnyH_take (i := 2) (oi := ah_2 s) (v := keyV s0.key) (by kernel_rfl) (by kernel_rfl) (by kernel_rfl) (by kernel_rfl) (fun c a w h => hQ c _ _ _ w h) (Or.inl ⟨wanted_none rfl, fun w hw => run_loadK rfl f2_40 h32 hw⟩) hS ?_
  change wpAnyH _ _ _ _ _ _ _ (a0_2.put (some 41) (keyV s0.key)) _
  obtain ⟨a0_3, ha3⟩ : ∃ rr : Act, rr = a0_2.put (some 41) (keyV s0.key) := ⟨_, rfl⟩
  have qz3 : 47 < a0_3.tmps.size := by rw [ha3, sz_put]; exact qz2
  have f3_3 : a0_3.eval (.tmp 3) = .pointer (some ⟨kb, 0, none⟩) := by rw [ha3, ev_other _ _ _ _ (by decide)]; exact f2_3
  have f3_7 : a0_3.eval (.tmp 7) = .pointer (some ⟨z, 0, none⟩) := by rw [ha3, ev_other _ _ _ _ (by decide)]; exact f2_7
  have f3_39 : a0_3.eval (.tmp 39) = .pointer q := by rw [ha3, ev_other _ _ _ _ (by decide)]; exact f2_39
  have f3_41 : a0_3.eval (.tmp 41) = keyV s0.key := by rw [ha3]; exact ev_same _ _ _ (Nat.lt_of_le_of_lt (by decide) qz2)
  rw [← ha3] at h0 ⊢
  clear ha3
  refine wpAnyH_take (i := 4) (oi := ah_4 s) (v := .pointer (some ⟨z, 0, none⟩)) (by kernel_rfl) (by kernel_rfl) (by kernel_rfl) (by kernel_rfl) (fun c a w h => hQ c _ _ _ w h) (Or.inl ⟨wanted_none rfl, fun w hw => by simp only [execOp, ah_4, f3_7]; rfl⟩) hS ?_
  change wpAnyH _ _ _ _ _ _ _ (a0_3.put (some 43) (.pointer (some ⟨z, 0, none⟩))) _
  obtain ⟨a0_4, ha4⟩ : ∃ rr : Act, rr = a0_3.put (some 43) (.pointer (some ⟨z, 0, none⟩)) := ⟨_, rfl⟩
  have qz4 : 47 < a0_4.tmps.size := by rw [ha4, sz_put]; exact qz3
  have f4_3 : a0_4.eval (.tmp 3) = .pointer (some ⟨kb, 0, none⟩) := by rw [ha4, ev_other _ _ _ _ (by decide)]; exact f3_3
  have f4_39 : a0_4.eval (.tmp 39) = .pointer q := by rw [ha4, ev_other _ _ _ _ (by decide)]; exact f3_39
  have f4_41 : a0_4.eval (.tmp 41) = keyV s0.key := by rw [ha4, ev_other _ _ _ _ (by decide)]; exact f3_41
  have f4_43 : a0_4.eval (.tmp 43) = .pointer (some ⟨z, 0, none⟩) := by rw [ha4]; exact ev_same _ _ _ (Nat.lt_of_le_of_lt (by decide) qz3)
  rw [← ha4] at h0 ⊢
  clear ha4
  refine wpAnyH_take (i := 5) (oi := ah_5 s) (v := .pointer (some ⟨kb, 3, none⟩)) (by kernel_rfl) (by kernel_rfl) (by kernel_rfl) (by kernel_rfl) (fun c a w h => hQ c _ _ _ w h) (Or.inl ⟨wanted_none rfl, fun w hw => fldS kb 3 3 (fS3 kb) rfl f4_3 w⟩) hS ?_
  change wpAnyH _ _ _ _ _ _ _ (a0_4.put (some 44) (.pointer (some ⟨kb, 3, none⟩))) _
  obtain ⟨a0_5, ha5⟩ : ∃ rr : Act, rr = a0_4.put (some 44) (.pointer (some ⟨kb, 3, none⟩)) := ⟨_, rfl⟩
  have qz5 : 47 < a0_5.tmps.size := by rw [ha5, sz_put]; exact qz4
  have f5_39 : a0_5.eval (.tmp 39) = .pointer q := by rw [ha5, ev_other _ _ _ _ (by decide)]; exact f4_39
  have f5_41 : a0_5.eval (.tmp 41) = keyV s0.key := by rw [ha5, ev_other _ _ _ _ (by decide)]; exact f4_41
  have f5_43 : a0_5.eval (.tmp 43) = .pointer (some ⟨z, 0, none⟩) := by rw [ha5, ev_other _ _ _ _ (by decide)]; exact f4_43
  have f5_44 : a0_5.eval (.tmp 44) = .pointer (some ⟨kb, 3, none⟩) := by rw [ha5]; exact ev_same _ _ _ (Nat.lt_of_le_of_lt (by decide) qz4)
  rw [← ha5] at h0 ⊢
  clear ha5
  refine wpAnyH_take (i := 6) (oi := ah_6 s) (v := keyV s0.key) (by kernel_rfl) (by kernel_rfl) (by kernel_rfl) (by kernel_rfl) (fun c a w h => hQ c _ _ _ w h) (Or.inl ⟨wanted_none rfl, fun w hw => run_loadK rfl f5_44 h32 hw⟩) hS ?_
  change wpAnyH _ _ _ _ _ _ _ (a0_5.put (some 45) (keyV s0.key)) _
  obtain ⟨a0_6, ha6⟩ : ∃ rr : Act, rr = a0_5.put (some 45) (keyV s0.key) := ⟨_, rfl⟩
  have qz6 : 47 < a0_6.tmps.size := by rw [ha6, sz_put]; exact qz5
  have f6_39 : a0_6.eval (.tmp 39) = .pointer q := by rw [ha6, ev_other _ _ _ _ (by decide)]; exact f5_39
  have f6_41 : a0_6.eval (.tmp 41) = keyV s0.key := by rw [ha6, ev_other _ _ _ _ (by decide)]; exact f5_41
  have f6_43 : a0_6.eval (.tmp 43) = .pointer (some ⟨z, 0, none⟩) := by rw [ha6, ev_other _ _ _ _ (by decide)]; exact f5_43
  have f6_45 : a0_6.eval (.tmp 45) = keyV s0.key := by rw [ha6]; exact ev_same _ _ _ (Nat.lt_of_le_of_lt (by decide) qz5)
  rw [← ha6] at h0 ⊢
  clear ha6
  refine wpAnyH_ready (rs := [3]) (by kernel_rfl) (by simp) ?_
  refine AllReadyH.cons (o := ah_3 s) (by kernel_rfl) (fun KQ hKQ => ?_) AllReadyH.nil
  rw [if_pos (wanted_none rfl)]
  refine step_enterE 13 #[.pointer q, keyV s0.key] (by rw [ah_enter3, f6_39, f6_41]) (fun V w' => V = .bool b ∧ M1 w') (hc1.mono (fun e w' ⟨h1, h2⟩ => ⟨_, h1, rfl, h2⟩)) ?_
  rintro _ w2 ⟨rfl, hM1⟩
  refine hKQ.out _ _ (hk1 w2 hM1) (fun _ => ?_)
  clear hKQ KQ
  change wpAnyH _ _ _ _ _ _ _ (a0_6.put (some 42) (.bool b)) _
  have h0 := h0 w2 hM1
  obtain ⟨a0_7, ha7⟩ : ∃ rr : Act, rr = a0_6.put (some 42) (.bool b) := ⟨_, rfl⟩
  have qz7 : 47 < a0_7.tmps.size := by rw [ha7, sz_put]; exact qz6
  have f7_42 : a0_7.eval (.tmp 42) = .bool b := by rw [ha7]; exact ev_same _ _ _ (Nat.lt_of_le_of_lt (by decide) qz6)
  have f7_43 : a0_7.eval (.tmp 43) = .pointer (some ⟨z, 0, none⟩) := by rw [ha7, ev_other _ _ _ _ (by decide)]; exact f6_43
  have f7_45 : a0_7.eval (.tmp 45) = keyV s0.key := by rw [ha7, ev_other _ _ _ _ (by decide)]; exact f6_45
  rw [← ha7] at h0 ⊢
  clear ha7
  refine wpAnyH_ready (rs := [7]) (by kernel_rfl) (by simp) ?_
  refine AllReadyH.cons (o := ah_7 s) (by kernel_rfl) (fun KQ hKQ => ?_) AllReadyH.nil
  rw [if_pos (wanted_none rfl)]
  refine step_enterE 18 #[.pointer (some ⟨z, 0, none⟩), keyV s0.key] (by rw [ah_enter7, f7_43, f7_45]) (fun V w' => V = .bool b ∧ M2 w2 w') ((hc2 w2 hM1).mono (fun e w' ⟨h1, h2⟩ => ⟨_, h1, rfl, h2⟩)) ?_
  rintro _ w3 ⟨rfl, hM2⟩
  refine hKQ.out _ _ (hk2 w2 w3 hM1 hM2) (fun _ => ?_)
  clear hKQ KQ
  change wpAnyH _ _ _ _ _ _ _ (a0_7.put (some 46) (.bool b)) _
  have h0 := h0 w3 hM2
  obtain ⟨a0_8, ha8⟩ : ∃ rr : Act, rr = a0_7.put (some 46) (.bool b) := ⟨_, rfl⟩
  have qz8 : 47 < a0_8.tmps.size := by rw [ha8, sz_put]; exact qz7
  have f8_42 : a0_8.eval (.tmp 42) = .bool b := by rw [ha8, ev_other _ _ _ _ (by decide)]; exact f7_42
  have f8_46 : a0_8.eval (.tmp 46) = .bool b := by rw [ha8]; exact ev_same _ _ _ (Nat.lt_of_le_of_lt (by decide) qz7)
  rw [← ha8] at h0 ⊢
  clear ha8
  refine wpAnyH_take (i := 8) (oi := ah_8 s) (v := .bool true) (by kernel_rfl) (by kernel_rfl) (by kernel_rfl) (by kernel_rfl) (fun c a w h => hQ c _ _ _ w h) (Or.inl ⟨wanted_none rfl, fun w hw => run_eqBB rfl f8_42 f8_46 w⟩) (hk2 w2 w3 hM1 hM2) ?_
  change wpAnyH _ _ _ _ _ _ _ (a0_8.put (some 47) (.bool true)) _
  obtain ⟨a0_9, ha9⟩ : ∃ rr : Act, rr = a0_8.put (some 47) (.bool true) := ⟨_, rfl⟩
  have qz9 : 47 < a0_9.tmps.size := by rw [ha9, sz_put]; exact qz8
  have f9_47 : a0_9.eval (.tmp 47) = .bool true := by rw [ha9]; exact ev_same _ _ _ (Nat.lt_of_le_of_lt (by decide) qz8)
  rw [← ha9] at h0 ⊢
  clear ha9
  refine wpAnyH_take (i := 9) (oi := ah_9 s) (v := .bool true) (by kernel_rfl) (by kernel_rfl) (by kernel_rfl) (by kernel_rfl) (fun c a w h => hQ c _ _ _ w h) (Or.inl ⟨wanted_none rfl, fun w hw => by simp only [execOp, ah_9, f9_47]; rfl⟩) (hk2 w2 w3 hM1 hM2) ?_
  change wpAnyH _ _ _ _ _ _ _ (a0_9.put (some 4) (.bool true)) _
  obtain ⟨a0_10, ha10⟩ : ∃ rr : Act, rr = a0_9.put (some 4) (.bool true) := ⟨_, rfl⟩
  have qz10 : 47 < a0_10.tmps.size := by rw [ha10, sz_put]; exact qz9
  rw [← ha10] at h0 ⊢
  clear ha10
  refine wpAnyH_done (by kernel_rfl) ?_ _
  exact h0
def al_0 (s : String) : Oper := { dst := some 50, op := Op.move (Operand.tmp 6), type := 25, pos := s, after := #[], guard := none }
def al_1 (s : String) : Oper := { dst := some 51, op := Op.call { callee := Callee.value (Operand.func 12), args := #[Operand.tmp 50], argTypes := #[25] }, type := 3, pos := s, after := #[{ on := 0, ground := Ground.data }], guard := none }
def al_2 (s : String) : Oper := { dst := some 52, op := Op.move (Operand.tmp 7), type := 27, pos := s, after := #[], guard := none }
def al_3 (s : String) : Oper := { dst := some 53, op := Op.nilCheck (Operand.tmp 52), type := 0, pos := s, after := #[{ on := 2, ground := Ground.data }], guard := none }
def al_4 (s : String) : Oper := { dst := some 54, op := Op.fieldAddr 48 (Operand.tmp 53) 0, type := 0, pos := s, after := #[{ on := 3, ground := Ground.data }], guard := none }
def al_5 (s : String) : Oper := { dst := some 55, op := Op.load 39 (Operand.tmp 54), type := 39, pos := s, after := #[{ on := 4, ground := Ground.data }], guard := none }
def al_6 (s : String) : Oper := { dst := some 56, op := Op.call { callee := Callee.builtin Builtin.len, args := #[Operand.tmp 55], argTypes := #[39] }, type := 3, pos := s, after := #[{ on := 5, ground := Ground.data }], guard := none }
def al_7 (s : String) : Oper := { dst := some 57, op := Op.binOp BinOp.eql 3 (Operand.tmp 51) (Operand.tmp 56) 3, type := 4, pos := s, after := #[{ on := 1, ground := Ground.data }, { on := 6, ground := Ground.data }], guard := none }
def al_8 (s : String) : Oper := { dst := some 4, op := Op.assign (Operand.tmp 57), type := 4, pos := s, after := #[{ on := 7, ground := Ground.data }, { on := 1, ground := Ground.chain }, { on := 0, ground := Ground.phase }, { on := 1, ground := Ground.phase }, { on := 2, ground := Ground.phase }, { on := 3, ground := Ground.phase }, { on := 4, ground := Ground.phase }, { on := 5, ground := Ground.phase }, { on := 6, ground := Ground.phase }, { on := 7, ground := Ground.phase }], guard := none }
def al_ops (s : String) : Array Oper := #[al_0 s, al_1 s, al_2 s, al_3 s, al_4 s, al_5 s, al_6 s, al_7 s, al_8 s]
theorem al_enter1 (s : String) (a : Act) (w : World) : (execOp a.eval (al_1 s)).run Try.prog w = .ok (.enter 12 #[a.eval (.tmp 50)]) w := by kernel_rfl
theorem al_walk (s : String) {Q : Exit → Act → World → Prop} (hQ : ∀ c (a : Act) t v w, Q (.panic c) (a.put (some t) v) w → Q (.panic c) a w) (W : World) (z n c : Nat) (ao q : Option Addr) (hS0 : W.drew.cell? ⟨z, 0, none⟩ = some (.slice ao n c)) (hc1 : Calls Try.prog 12 #[.pointer q] W.drew fun e w' => e = .returned (.int .i64 (n : Int)) ∧ w' = W.drew)
    (a : Act) (hs : 57 < a.tmps.size) (e6 : a.eval (.tmp 6) = .pointer q) (e7 : a.eval (.tmp 7) = .pointer (some ⟨z, 0, none⟩))
    (h0 :  Q .normal (((((((((a.put (some 50) (.pointer q)).put (some 52) (.pointer (some ⟨z, 0, none⟩))).put (some 53) (.pointer (some ⟨z, 0, none⟩))).put (some 54) (.pointer (some ⟨z, 0, none⟩))).put (some 55) (.slice ao n c)).put (some 56) (.int .i64 (n : Int))).put (some 51) (.int .i64 (n : Int))).put (some 57) (.bool true)).put (some 4) (.bool true)) W.drew) :
    Code.wp Try.prog (.region 7 (al_ops s) true) Q a W := by
  refine wp_region_held_drew (S := fun w => w.cell? ⟨z, 0, none⟩ = some (.slice ao n c)) (by kernel_rfl) hS0 (fun hS => ?_)
  change wpAnyH _ _ _ _ _ _ _ _ (World.drew _)
  refine wpAnyH_take (i := 0) (oi := al_0 s) (v := .pointer q) (by kernel_rfl) (by kernel_rfl) (by kernel_rfl) (by kernel_rfl) (fun c a w h => hQ c _ _ _ w h) (Or.inl ⟨wanted_none rfl, fun w hw => by simp only [execOp, al_0, e6]; rfl⟩) hS ?_
  change wpAnyH _ _ _ _ _ _ _ (a.put (some 50) (.pointer q)) _
  obtain ⟨a0_1, ha1⟩ : ∃ rr : Act, rr = a.put (some 50) (.pointer q) := ⟨_, rfl⟩
  have qz1 : 57 < a0_1.tmps.size := by rw [ha1, sz_put]; exact hs
  have f1_7 : a0_1.eval (.tmp 7) = .pointer (some ⟨z, 0, none⟩) := by rw [ha1, ev_other _ _ _ _ (by decide)]; exact e7
  have f1_50 : a0_1.eval (.tmp 50) = .pointer q := by rw [ha1]; exact ev_same _ _ _ (Nat.lt_of_le_of_lt (by decide) hs)
  rw [← ha1] at h0 ⊢
  clear ha1
  refine wpAnyH_take (i := 2) (oi := al_2 s) (v := .pointer (some ⟨z, 0, none⟩)) (by kernel_rfl) (by kernel_rfl) (by kernel_rfl) (by kernel_rfl) (fun c a w h => hQ c _ _ _ w h) (Or.inl ⟨wanted_none rfl, fun w hw => by simp only [execOp, al_2, f1_7]; rfl⟩) hS ?_
  change wpAnyH _ _ _ _ _ _ _ (a0_1.put (some 52) (.pointer (some ⟨z, 0, none⟩))) _
  obtain ⟨a0_2, ha2⟩ : ∃ rr : Act, rr = a0_1.put (some 52) (.pointer (some ⟨z, 0, none⟩)) := ⟨_, rfl⟩
  have qz2 : 57 < a0_2.tmps.size := by rw [ha2, sz_put]; exact qz1
  have f2_50 : a0_2.eval (.tmp 50) = .pointer q := by rw [ha2, ev_other _ _ _ _ (by decide)]; exact f1_50
  have f2_52 : a0_2.eval (.tmp 52) = .pointer (some ⟨z, 0, none⟩) := by rw [ha2]; exact ev_same _ _ _ (Nat.lt_of_le_of_lt (by decide) qz1)
  rw [← ha2] at h0 ⊢
  clear ha2
  refine wpAnyH_take (i := 3) (oi := al_3 s) (v := .pointer (some ⟨z, 0, none⟩)) (by kernel_rfl) (by kernel_rfl) (by kernel_rfl) (by kernel_rfl) (fun c a w h => hQ c _ _ _ w h) (Or.inl ⟨wanted_none rfl, fun w hw => run_nil rfl f2_52 w⟩) hS ?_
  change wpAnyH _ _ _ _ _ _ _ (a0_2.put (some 53) (.pointer (some ⟨z, 0, none⟩))) _
  obtain ⟨a0_3, ha3⟩ : ∃ rr : Act, rr = a0_2.put (some 53) (.pointer (some ⟨z, 0, none⟩)) := ⟨_, rfl⟩
  have qz3 : 57 < a0_3.tmps.size := by rw [ha3, sz_put]; exact qz2
  have f3_50 : a0_3.eval (.tmp 50) = .pointer q := by rw [ha3, ev_other _ _ _ _ (by decide)]; exact f2_50
  have f3_53 : a0_3.eval (.tmp 53) = .pointer (some ⟨z, 0, none⟩) := by rw [ha3]; exact ev_same _ _ _ (Nat.lt_of_le_of_lt (by decide) qz2)
  rw [← ha3] at h0 ⊢
  clear ha3
  refine wpAnyH_take (i := 4) (oi := al_4 s) (v := .pointer (some ⟨z, 0, none⟩)) (by kernel_rfl) (by kernel_rfl) (by kernel_rfl) (by kernel_rfl) (fun c a w h => hQ c _ _ _ w h) (Or.inl ⟨wanted_none rfl, fun w hw => fldQ rfl f3_53 w⟩) hS ?_
  change wpAnyH _ _ _ _ _ _ _ (a0_3.put (some 54) (.pointer (some ⟨z, 0, none⟩))) _
  obtain ⟨a0_4, ha4⟩ : ∃ rr : Act, rr = a0_3.put (some 54) (.pointer (some ⟨z, 0, none⟩)) := ⟨_, rfl⟩
  have qz4 : 57 < a0_4.tmps.size := by rw [ha4, sz_put]; exact qz3
  have f4_50 : a0_4.eval (.tmp 50) = .pointer q := by rw [ha4, ev_other _ _ _ _ (by decide)]; exact f3_50
  have f4_54 : a0_4.eval (.tmp 54) = .pointer (some ⟨z, 0, none⟩) := by rw [ha4]; exact ev_same _ _ _ (Nat.lt_of_le_of_lt (by decide) qz3)
  rw [← ha4] at h0 ⊢
  clear ha4
  refine wpAnyH_take (i := 5) (oi := al_5 s) (v := .slice ao n c) (by kernel_rfl) (by kernel_rfl) (by kernel_rfl) (by kernel_rfl) (fun c a w h => hQ c _ _ _ w h) (Or.inl ⟨wanted_none rfl, fun w hw => run_load rfl f4_54 (load_kl hw)⟩) hS ?_
  change wpAnyH _ _ _ _ _ _ _ (a0_4.put (some 55) (.slice ao n c)) _
  obtain ⟨a0_5, ha5⟩ : ∃ rr : Act, rr = a0_4.put (some 55) (.slice ao n c) := ⟨_, rfl⟩
  have qz5 : 57 < a0_5.tmps.size := by rw [ha5, sz_put]; exact qz4
  have f5_50 : a0_5.eval (.tmp 50) = .pointer q := by rw [ha5, ev_other _ _ _ _ (by decide)]; exact f4_50
  have f5_55 : a0_5.eval (.tmp 55) = .slice ao n c := by rw [ha5]; exact ev_same _ _ _ (Nat.lt_of_le_of_lt (by decide) qz4)
  rw [← ha5] at h0 ⊢
  clear ha5
  refine wpAnyH_take (i := 6) (oi := al_6 s) (v := .int .i64 (n : Int)) (by kernel_rfl) (by kernel_rfl) (by kernel_rfl) (by kernel_rfl) (fun c a w h => hQ c _ _ _ w h) (Or.inl ⟨wanted_none rfl, fun w hw => run_lenQ rfl f5_55 w⟩) hS ?_
  change wpAnyH _ _ _ _ _ _ _ (a0_5.put (some 56) (.int .i64 (n : Int))) _
  obtain ⟨a0_6, ha6⟩ : ∃ rr : Act, rr = a0_5.put (some 56) (.int .i64 (n : Int)) := ⟨_, rfl⟩
  have qz6 : 57 < a0_6.tmps.size := by rw [ha6, sz_put]; exact qz5
  have f6_50 : a0_6.eval (.tmp 50) = .pointer q := by rw [ha6, ev_other _ _ _ _ (by decide)]; exact f5_50
  have f6_56 : a0_6.eval (.tmp 56) = .int .i64 (n : Int) := by rw [ha6]; exact ev_same _ _ _ (Nat.lt_of_le_of_lt (by decide) qz5)
  rw [← ha6] at h0 ⊢
  clear ha6
  refine wpAnyH_ready (rs := [1]) (by kernel_rfl) (by simp) ?_
  refine AllReadyH.cons (o := al_1 s) (by kernel_rfl) (fun KQ hKQ => ?_) AllReadyH.nil
  rw [if_pos (wanted_none rfl)]
  refine step_enterE 12 #[.pointer q] (by rw [al_enter1, f6_50]) (fun V w' => V = .int .i64 (n : Int) ∧ w' = W.drew) (hc1.mono (fun e w' ⟨h1, h2⟩ => ⟨_, h1, rfl, h2⟩)) ?_
  rintro _ _ ⟨rfl, rfl⟩
  refine hKQ.out _ _ (hS0) (fun _ => ?_)
  clear hKQ KQ
  change wpAnyH _ _ _ _ _ _ _ (a0_6.put (some 51) (.int .i64 (n : Int))) _
  obtain ⟨a0_7, ha7⟩ : ∃ rr : Act, rr = a0_6.put (some 51) (.int .i64 (n : Int)) := ⟨_, rfl⟩
  have qz7 : 57 < a0_7.tmps.size := by rw [ha7, sz_put]; exact qz6
  have f7_51 : a0_7.eval (.tmp 51) = .int .i64 (n : Int) := by rw [ha7]; exact ev_same _ _ _ (Nat.lt_of_le_of_lt (by decide) qz6)
  have f7_56 : a0_7.eval (.tmp 56) = .int .i64 (n : Int) := by rw [ha7, ev_other _ _ _ _ (by decide)]; exact f6_56
  rw [← ha7] at h0 ⊢
  clear ha7
  refine wpAnyH_take (i := 7) (oi := al_7 s) (v := .bool true) (by kernel_rfl) (by kernel_rfl) (by kernel_rfl) (by kernel_rfl) (fun c a w h => hQ c _ _ _ w h) (Or.inl ⟨wanted_none rfl, fun w hw => run_eqIn rfl f7_51 f7_56 w⟩) hS0 ?_
  change wpAnyH _ _ _ _ _ _ _ (a0_7.put (some 57) (.bool true)) _
  obtain ⟨a0_8, ha8⟩ : ∃ rr : Act, rr = a0_7.put (some 57) (.bool true) := ⟨_, rfl⟩
  have qz8 : 57 < a0_8.tmps.size := by rw [ha8, sz_put]; exact qz7
  have f8_57 : a0_8.eval (.tmp 57) = .bool true := by rw [ha8]; exact ev_same _ _ _ (Nat.lt_of_le_of_lt (by decide) qz7)
  rw [← ha8] at h0 ⊢
  clear ha8
  refine wpAnyH_take (i := 8) (oi := al_8 s) (v := .bool true) (by kernel_rfl) (by kernel_rfl) (by kernel_rfl) (by kernel_rfl) (fun c a w h => hQ c _ _ _ w h) (Or.inl ⟨wanted_none rfl, fun w hw => by simp only [execOp, al_8, f8_57]; rfl⟩) hS0 ?_
  change wpAnyH _ _ _ _ _ _ _ (a0_8.put (some 4) (.bool true)) _
  obtain ⟨a0_9, ha9⟩ : ∃ rr : Act, rr = a0_8.put (some 4) (.bool true) := ⟨_, rfl⟩
  have qz9 : 57 < a0_9.tmps.size := by rw [ha9, sz_put]; exact qz8
  rw [← ha9] at h0 ⊢
  clear ha9
  refine wpAnyH_done (by kernel_rfl) ?_ _
  exact h0
end Go.Proofs.Ytnloglecfbhpcaa

/- KeySets: the row of what was kept, without bytes; one more of it. -/
namespace Go.Proofs.Ytnloglecfbhpcaa
set_option linter.unusedVariables false
set_option linter.unusedSimpArgs false
open Go.RowKit Go.Sort Go.Shelf
set_option maxRecDepth 100000
set_option maxHeartbeats 4000000

theorem zc_no (n : Nat) : ∀ v ∈ (Builtin.zeroCells (Value.agg #[.nilFunc, .slice none 0 0]).cells n).toList, ∀ u : UInt8, v ≠ u8c u := by
  intro v hv u e
  have h1 : (Value.agg #[.nilFunc, .slice none 0 0]).cells = #[.nilFunc, .slice none 0 0] := rfl
  rw [h1] at hv
  unfold Builtin.zeroCells at hv
  rw [Array.toList_map, List.mem_map] at hv
  obtain ⟨i, _, hi⟩ := hv
  have h2 : i % (#[Value.nilFunc, .slice none 0 0] : Array Value).size = 0 ∨ i % (#[Value.nilFunc, .slice none 0 0] : Array Value).size = 1 := by
    show i % 2 = 0 ∨ i % 2 = 1
    omega
  subst e
  rcases h2 with h2 | h2 <;> rw [h2] at hi <;> cases hi
theorem kp_no {lb n c : Nat} {ao : Option Addr} : ∀ v ∈ [riF lb, .slice ao n c], ∀ u : UInt8, v ≠ u8c u := by
  intro v hv u e
  subst e
  simp only [List.mem_cons, List.not_mem_nil, or_false] at hv
  rcases hv with h | h <;> cases h
theorem noU_list {w : World} {z : Nat} {cs : Array Value} {t : TypeId} (hz : Blk w z cs t) (h : NoU w z) : ∀ v ∈ cs.toList, ∀ u : UInt8, v ≠ u8c u := fun v hv u e => by
  obtain ⟨o, ho⟩ := List.getElem?_of_mem hv
  refine h o u ?_
  rw [hz.cell, ← Array.getElem?_toList, ho, e]
theorem nou_app {w : World} {base : Nat} {v : Value} {A : List (Value × Value)} (hown : OwnP w base v A) (hno : ∀ b, v.ownBlock = some b → NoU w b) {z lb n c : Nat} {ao : Option Addr} (hc : Blk w z #[riF lb, .slice ao n c] KPT) (hlen : A.length + 1 ≤ 1099511627776) {v5 : Value} {w5 : World}
    (hr : (Builtin.append_ #[KPLT, KPLT] KPLT #[v, .slice (some ⟨z, 0, none⟩) 1 1]).run Try.prog w = .ok v5 w5) : ∀ b, v5.ownBlock = some b → NoU w5 b := by
  obtain ⟨i0, hi, hz0, hz1, hz2⟩ := kpI
  have hnews : ∀ j u, [riF lb, .slice ao n c][j]? = some u → w.cell? ((⟨z, 0, none⟩ : Addr).add j) = some u := fun j u hj => by rw [Addr.add_mid, hc.cell]; simpa using hj
  have h1 : ∀ u ∈ [riF lb, .slice ao n c], u.oneCell' = true := by intro u hu; simp only [List.mem_cons, List.not_mem_nil, or_false] at hu; rcases hu with rfl | rfl <;> rfl
  obtain ⟨hlx, hcase⟩ := hown
  rcases hcase with ⟨rfl, hn0⟩ | ⟨g, cap, cur, rfl, hbg, hg, hnc, hcm, hcs, htake⟩
  · have hr2 := run_append_nil (P := Try.prog) w KPLT KPLT KPT i0 _ Try.underlying30 hi hz0 ⟨z, 0, none⟩ 1 1 [riF lb, .slice ao n c] (by rw [hz1]; rfl) hnews (by decide) (by decide) (by rw [hz2]; decide)
    rw [hr2] at hr
    injection hr with e1 e2
    subst e1 e2
    intro b hb
    have hb2 : w.heap.size = b := by simpa [Value.ownBlock] using hb
    subst hb2
    refine NoU.blk (Blk.made w.drew _ _) ?_
    intro v hv
    rw [Array.toList_append, List.mem_append] at hv
    rcases hv with hv | hv
    · exact kp_no v hv
    · exact zc_no _ v hv
  · have hmn := hno g rfl
    have hgB : Blk w g cur KPT := hg
    by_cases hroom : A.length + 1 ≤ cap
    · have hr2 := run_append_room (P := Try.prog) w KPLT KPLT KPT i0 Try.underlying30 hi g A.length cap cur hg ⟨z, 0, none⟩ 1 1 [riF lb, .slice ao n c] (by rw [hz1]; rfl) hnews h1 hroom (by rw [hz1, hcs]; simp only [List.length_cons, List.length_nil]; omega)
      rw [hr2] at hr
      injection hr with e1 e2
      subst e1 e2
      intro b hb
      have hb2 : g = b := by simpa [Value.ownBlock] using hb
      subst hb2
      refine NoU.blk (t := KPT) (setRow_heap w g cur _ KPT _ hg) ?_
      intro v hv
      have hall := noU_list hgB hmn
      simp only [List.mem_append] at hv
      rcases hv with (hv | hv) | hv
      · exact hall v (List.mem_of_mem_take hv)
      · exact kp_no v hv
      · exact hall v (List.mem_of_mem_drop hv)
    · have holds : ∀ j u, (A.flatMap KsC)[j]? = some u → w.cell? ((⟨g, 0, none⟩ : Addr).add j) = some u := World.ownsRow.cells (g := g) (show OwnP w base (.slice (some ⟨g, 0, none⟩) A.length cap) A from ⟨hlx, .inr ⟨g, cap, cur, rfl, hbg, hg, hnc, hcm, hcs, htake⟩⟩) rfl
      have hr2 := run_append_grow (P := Try.prog) w KPLT KPLT KPT i0 _ Try.underlying30 hi hz0 ⟨g, 0, none⟩ A.length cap (A.flatMap KsC) (by rw [hz1]; exact hlx) holds ⟨z, 0, none⟩ 1 1 [riF lb, .slice ao n c] (by rw [hz1]; rfl) hnews (by omega) (by omega) (by rw [hz2]; exact growslice_fits (by omega) (by omega))
      rw [hr2] at hr
      injection hr with e1 e2
      subst e1 e2
      intro b hb
      have hb2 : w.heap.size = b := by simpa [Value.ownBlock] using hb
      subst hb2
      refine NoU.blk (Blk.made w.drew _ _) ?_
      intro v hv
      have hall := noU_list hgB hmn
      rw [Array.toList_append, Array.toList_append, List.mem_append, List.mem_append] at hv
      rcases hv with (hv | hv) | hv
      · refine hall v ?_
        rw [← htake] at hv
        exact List.mem_of_mem_take hv
      · exact kp_no v hv
      · exact zc_no _ v hv
theorem blk_ne {W : World} {a b : Nat} {cs ds : Array Value} {t u : TypeId} (h : Blk W a cs t) (k : Blk W b ds u) (hne : t ≠ u) : a ≠ b := fun e => by
  subst e
  unfold Blk at h k
  rw [h] at k
  injection Option.some.inj k with e1 e2
  exact hne e2
/-- One more is kept. -/
theorem LwS.push {TK : List (List UInt8)} {w0 W : World} {N wz : Nat} {E : Nat → EL} {kv : Value} {KS : List (Value × Value)} (h : LwS TK w0 W N wz E kv KS) {lb n c : Nat} {ao : Option Addr} {V : List (List UInt8)} (hit : ItK W lb V) (hr : KRow W ao V) (hn : n = V.length) (hl : V.length ≤ 4398046510976) (hlen : KS.length + 1 ≤ 1099511627776) :
    ∃ a5 n5 c5 w5, (Builtin.append_ #[KPLT, KPLT] KPLT #[kv, .slice (some ⟨W.heap.size, 0, none⟩) 1 1]).run Try.prog (W.alloc (.cells #[riF lb, .slice ao n c] KPT)) = .ok (.slice a5 n5 c5) w5 ∧ Blk w5 wz (wA E kv) WT ∧ LwS TK w0 (w5.setCell ⟨wz, 9, none⟩ (.slice a5 n5 c5)) N wz E (.slice a5 n5 c5) (KS ++ [(riF lb, .slice ao n c)]) ∧
      (∀ z cs t, Blk W z cs t → t ≠ KPT → Blk w5 z cs t) ∧ (∀ z cs t, Blk W z cs t → t ≠ KPT → t ≠ WT → Blk (w5.setCell ⟨wz, 9, none⟩ (.slice a5 n5 c5)) z cs t) := by
  have hb1 : Below W.heap.size W (W.alloc (.cells #[riF lb, .slice ao n c] KPT)) := (Below.refl _ _).alloc (Nat.le_refl _) _
  have h1 := h.below hb1
  have hz1 : Blk (W.alloc (.cells #[riF lb, .slice ao n c] KPT)) W.heap.size #[riF lb, .slice ao n c] KPT := Blk.made W _ _
  obtain ⟨v5, w5, r1, r2, r3⟩ := run_appP h1.kr hz1 hlen h1.sz
  have r4 := nou_app h1.kr h1.nu hz1 hlen r1
  obtain ⟨a5, c5, e5, _⟩ := r2.slice
  obtain ⟨n5, hn5⟩ : ∃ n5, n5 = (KS ++ [(riF lb, Value.slice ao n c)]).length := ⟨_, rfl⟩
  rw [← hn5] at e5
  subst e5
  have g1 : ∀ z cs t, Blk (W.alloc (.cells #[riF lb, .slice ao n c] KPT)) z cs t → t ≠ KPT → Blk w5 z cs t := fun z cs t hb ht => hb.grown r3 (fun e => by
    obtain ⟨ds, hd⟩ := h1.kr.blk e.symm
    exact blk_ne hb hd ht rfl)
  have hw5 : Blk w5 wz (wA E kv) WT := g1 _ _ _ h1.wb (by decide)
  have g2 : ∀ z cs t, Blk w5 z cs t → t ≠ WT → Blk (w5.setCell ⟨wz, 9, none⟩ (.slice a5 n5 c5)) z cs t := fun z cs t hb ht => hb.setOther _ _ (blk_ne hb hw5 ht)
  have g0 : ∀ z cs t, Blk W z cs t → Blk (W.alloc (.cells #[riF lb, .slice ao n c] KPT)) z cs t := fun z cs t hb => hb.below hb1 hb.lt
  refine ⟨a5, n5, c5, w5, r1, hw5, ?_, fun z cs t hb ht => g1 z cs t (g0 z cs t hb) ht, fun z cs t hb ht hw => g2 z cs t (g1 z cs t (g0 z cs t hb) ht) hw⟩
  obtain ⟨W', hW'⟩ : ∃ W', W' = w5.setCell ⟨wz, 9, none⟩ (.slice a5 n5 c5) := ⟨_, rfl⟩
  rw [← hW'] at g2 ⊢
  have hoth : ∀ k, k ≠ wz → W'.heap[k]? = w5.heap[k]? := fun k hk => by rw [hW']; exact heap_setCell_other w5 _ k _ hk
  have hT : Tch (fun k => kv.ownBlock = some k ∨ k = wz) (W.alloc (.cells #[riF lb, .slice ao n c] KPT)) W' := by
    refine ⟨by rw [hW']; exact r3.os, by rw [hW']; exact r3.tape, by rw [hW']; exact r3.output, by rw [hW']; unfold World.setCell; simpa using r3.size, fun k hk hn2 => ?_⟩
    exact (hoth k (fun e => hn2 (.inr e))).trans (r3.block k hk (fun e => hn2 (.inl e.symm)))
  have hnw : NoU (W.alloc (.cells #[riF lb, .slice ao n c] KPT)) wz := NoU.blk h1.wb (fun v hv u e => by
    simp only [wA, List.mem_cons, List.not_mem_nil, or_false] at hv
    rcases hv with rfl | rfl | rfl | rfl | rfl | rfl | rfl | rfl | rfl | rfl <;> first | (cases e; done) | skip
    obtain ⟨ao, c, e2, _⟩ := h.kr.slice
    rw [e2] at e
    cases e)
  have hkv : KeepV (W.alloc (.cells #[riF lb, .slice ao n c] KPT)) W' := KeepV.tch hT (fun k hk => by
    rcases hk with hk | rfl
    · exact h1.nu k hk
    · exact hnw) (fun k cs hk hb => by
    rcases hk with hk | rfl
    · obtain ⟨ds, hd⟩ := h1.kr.blk hk
      exact blk_ne hb hd (by decide) rfl
    · exact blk_ne hb h1.wb (by decide) rfl)
  have hTn : ∀ {k : Nat} {cs : Array Value} {t : TypeId}, Blk (W.alloc (.cells #[riF lb, .slice ao n c] KPT)) k cs t → t ≠ KPT → t ≠ WT → ¬ (kv.ownBlock = some k ∨ k = wz) := fun {k cs t} hb ht hw hk => by
    rcases hk with hk | rfl
    · obtain ⟨ds, hd⟩ := h1.kr.blk hk
      exact blk_ne hb hd ht rfl
    · exact blk_ne hb h1.wb hw rfl
  refine ⟨hT.bel h1.bel h1.sz (fun k hk => ?_), ?_, h.lo, fun j hj => ?_, h.low, h.ap, r2.same (fun b e => ?_), fun z hz => ?_, fun b e => ?_⟩
  · rcases hk with hk | rfl
    · exact (h1.kr.lt hk).2
    · exact h.lo
  · rw [hW']
    exact hw5.set 9 _
  · have hel := h1.el j hj
    obtain ⟨ar, nr, cr, hrr⟩ := hel.rs
    refine hel.stay (f := E 0) hT hkv (hTn hrr.blk (by decide) (by decide)) (fun hq ht => ?_) (fun zp hz ht => ?_)
    · rcases hel.set with ⟨h1q, _⟩ | ⟨zp, S, _, h2, _⟩
      · exact hq h1q
      · obtain ⟨es, clock, hm⟩ := h2.map
        rcases ht with ht | ht
        · obtain ⟨ds, hd⟩ := h1.kr.blk ht
          exact map_noBlk hm hd
        · rw [ht] at hm
          exact map_noBlk hm h1.wb
    · rcases hel.set with ⟨h1q, _⟩ | ⟨zp', S, h1q, h2, _⟩
      · rw [h1q] at hz; cases hz
      · rw [h1q] at hz
        cases hz
        exact hTn h2.blk (by decide) (by decide) ht
  · obtain ⟨cs, hc⟩ := r2.blk e
    exact hoth b (blk_ne hc hw5 (by decide))
  · rcases List.mem_append.1 hz with hz | hz
    · exact (h1.ks z hz).keepV hkv
    · rw [List.mem_singleton.1 hz]
      exact KsOk.keepV ⟨lb, ao, n, c, V, rfl, hit.below hb1, hr.below hb1, hn, hl⟩ hkv
  · obtain ⟨cs, hc⟩ := r2.blk e
    exact (r4 b e).same (hoth b (blk_ne hc hw5 (by decide)))
end Go.Proofs.Ytnloglecfbhpcaa
