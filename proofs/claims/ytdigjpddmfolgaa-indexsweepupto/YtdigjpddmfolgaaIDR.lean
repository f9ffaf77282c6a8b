/- IndexSweep: the region that holds what is told against what comes. -/
import Derived.Test.YtdigjpddmfolgaaID3
namespace Go.Proofs.Ytdigjpddmfolgaa
set_option linter.unusedVariables false
set_option linter.unusedSimpArgs false
namespace TX
set_option maxRecDepth 100000
set_option maxHeartbeats 8000000
open Go.RowKit Go.Sort

theorem wanted_no {ops : Array Oper} {o : Oper} {a : Act} {j : Nat} {b : Bool} {t : Tmp} (hg : o.guard = some (j, b)) (hd : (ops[j]?).bind (·.dst) = some t) (he : a.eval (.tmp t) = .bool (!b)) (hz : t < a.tmps.size) : Region.wanted o (yielded ops a.tmps) = false := by
  have h1 : a.tmps[t]? = some (.bool (!b)) := by
    rw [Array.getElem?_eq_getElem hz]
    simpa [Act.eval, hz] using he
  simp [Region.wanted, hg, yielded, hd, h1]
theorem run_lenQ {op : Oper} {ev : Operand → Value} {x : Operand} {ao : Option Addr} {n c : Nat} (ho : op.op = .call { callee := .builtin .len, args := #[x], argTypes := #[51] }) (hx : ev x = .slice ao n c) (w : World) : (execOp ev op).run Try.prog w = .ok (.value (.int .i64 (n : Int))) w := by
  have hu := Try.underlying51
  simp only [execOp, ho]
  simp [hx, go_sem, hu]
theorem run_gtr0 {op : Oper} {ev : Operand → Value} {x : Operand} {u : TypeId} {n : Nat} (ho : op.op = .binOp .gtr 3 x (.const (.int .i64 0)) u) (hx : ev x = .int .i64 (n : Int)) (hc : ev (.const (.int .i64 0)) = .int .i64 0) (w : World) : (execOp ev op).run Try.prog w = .ok (.value (.bool (decide (0 < n)))) w := by
  simp only [execOp, ho, hx, hc]
  simp [go_sem]
theorem run_sub1 {op : Oper} {ev : Operand → Value} {x : Operand} {u : TypeId} {n : Nat} (ho : op.op = .binOp .sub 3 x (.const (.int .i64 1)) u) (hx : ev x = .int .i64 (n : Int)) (hc : ev (.const (.int .i64 1)) = .int .i64 1) (h1 : 1 ≤ n) (h2 : n ≤ 9223372036854775807) (w : World) : (execOp ev op).run Try.prog w = .ok (.value (.int .i64 ((n - 1 : Nat) : Int))) w := by
  have h3 : IntKind.i64.wrap ((n : Int) - 1) = ((n - 1 : Nat) : Int) := by
    rw [IntKind.wrap_i64]; omega
  simp only [execOp, ho, hx, hc]
  simp [go_sem, h3]
theorem run_idxQ {op : Oper} {ev : Operand → Value} {x y : Operand} {g n c j : Nat} (ho : op.op = .indexAddr 51 x y) (hx : ev x = .slice (some ⟨g, 0, none⟩) n c) (hy : ev y = .int .i64 (j : Int)) (h : j < n) (w : World) : (execOp ev op).run Try.prog w = .ok (.value (.pointer (some ⟨g, j * 32, none⟩))) w := by
  have hu := Try.underlying51
  have hs : (sizeOf 32).run Try.prog w = .ok 32 w := by kernel_rfl
  have h1 : (j : Int) < (n : Int) := by omega
  simp only [execOp, ho, hx, hy]
  simp [go_sem, hu, h1, hs]
theorem run_fldA {op : Oper} {ev : Operand → Value} {x : Operand} {b : Nat} (ho : op.op = .fieldAddr KDT x 0) (hx : ev x = .pointer (some ⟨b, 0, none⟩)) (w : World) : (execOp ev op).run Try.prog w = .ok (.value (.pointer (some ⟨b, 0, none⟩))) w := by
  simp only [execOp, ho, hx]; kernel_rfl
theorem below_d (W : World) : Below W.heap.size W W.drew := (Below.refl _ W).drew
def sz_0 (s : String) : Oper := { dst := some 54, op := Op.move (Operand.tmp 7), type := 51, pos := s, after := #[], guard := none }
def sz_1 (s : String) : Oper := { dst := some 55, op := Op.call { callee := Callee.builtin Builtin.len, args := #[Operand.tmp 54], argTypes := #[51] }, type := 3, pos := s, after := #[{ on := 0, ground := Ground.data }], guard := none }
def sz_2 (s : String) : Oper := { dst := some 56, op := Op.binOp BinOp.gtr 3 (Operand.tmp 55) (Operand.const (Value.int IntKind.i64 0)) 3, type := 4, pos := s, after := #[{ on := 1, ground := Ground.data }], guard := none }
def sz_3 (s : String) : Oper := { dst := some 57, op := Op.move (Operand.tmp 56), type := 4, pos := s, after := #[{ on := 2, ground := Ground.data }], guard := none }
def sz_4 (s : String) : Oper := { dst := some 58, op := Op.move (Operand.tmp 7), type := 51, pos := s, after := #[{ on := 3, ground := Ground.guard }], guard := some (3, true) }
def sz_5 (s : String) : Oper := { dst := some 59, op := Op.move (Operand.tmp 7), type := 51, pos := s, after := #[{ on := 3, ground := Ground.guard }], guard := some (3, true) }
def sz_6 (s : String) : Oper := { dst := some 60, op := Op.call { callee := Callee.builtin Builtin.len, args := #[Operand.tmp 59], argTypes := #[51] }, type := 3, pos := s, after := #[{ on := 5, ground := Ground.data }, { on := 3, ground := Ground.guard }], guard := some (3, true) }
def sz_7 (s : String) : Oper := { dst := some 61, op := Op.binOp BinOp.sub 3 (Operand.tmp 60) (Operand.const (Value.int IntKind.i64 1)) 3, type := 3, pos := s, after := #[{ on := 6, ground := Ground.data }, { on := 3, ground := Ground.guard }], guard := some (3, true) }
def sz_8 (s : String) : Oper := { dst := some 62, op := Op.indexAddr 51 (Operand.tmp 58) (Operand.tmp 61), type := 0, pos := s, after := #[{ on := 4, ground := Ground.data }, { on := 7, ground := Ground.data }, { on := 3, ground := Ground.guard }], guard := some (3, true) }
def sz_9 (s : String) : Oper := { dst := some 63, op := Op.load 32 (Operand.tmp 62), type := 32, pos := s, after := #[{ on := 8, ground := Ground.data }, { on := 3, ground := Ground.guard }], guard := some (3, true) }
def sz_10 (s : String) : Oper := { dst := some 64, op := Op.fieldAddr 57 (Operand.tmp 8) 0, type := 0, pos := s, after := #[{ on := 3, ground := Ground.guard }], guard := some (3, true) }
def sz_11 (s : String) : Oper := { dst := some 65, op := Op.load 32 (Operand.tmp 64), type := 32, pos := s, after := #[{ on := 10, ground := Ground.data }, { on := 3, ground := Ground.guard }], guard := some (3, true) }
def sz_12 (s : String) : Oper := { dst := some 66, op := Op.call { callee := Callee.value (Operand.func 15), args := #[Operand.tmp 63, Operand.tmp 65], argTypes := #[32, 32] }, type := 4, pos := s, after := #[{ on := 9, ground := Ground.data }, { on := 11, ground := Ground.data }, { on := 3, ground := Ground.chain }, { on := 3, ground := Ground.guard }], guard := some (3, true) }
def sz_13 (s : String) : Oper := { dst := some 67, op := Op.unOp UnOp.not 4 (Operand.tmp 66), type := 4, pos := s, after := #[{ on := 12, ground := Ground.data }, { on := 3, ground := Ground.guard }], guard := some (3, true) }
def sz_14 (s : String) : Oper := { dst := some 68, op := Op.pick (Operand.tmp 57) (Operand.tmp 67) (Operand.const (Value.bool false)), type := 4, pos := s, after := #[{ on := 3, ground := Ground.data }, { on := 13, ground := Ground.data }], guard := none }
def sz_ops (s : String) : Array Oper := #[sz_0 s, sz_1 s, sz_2 s, sz_3 s, sz_4 s, sz_5 s, sz_6 s, sz_7 s, sz_8 s, sz_9 s, sz_10 s, sz_11 s, sz_12 s, sz_13 s, sz_14 s]
theorem sz_enter12 (s : String) (a : Act) (w : World) : (execOp a.eval (sz_12 s)).run Try.prog w = .ok (.enter 15 #[a.eval (.tmp 63), a.eval (.tmp 65)]) w := by kernel_rfl
theorem sz_walk (s : String) {Q : Exit → Act → World → Prop} (hQ : ∀ c (a : Act) t v w, Q (.panic c) (a.put (some t) v) w → Q (.panic c) a w) (W : World) (ao : Option Addr) (m cap : Nat) (hm : ¬ 0 < m)
    (a : Act) (hs : 68 < a.tmps.size) (e7 : a.eval (.tmp 7) = .slice ao m cap)
    (h0 :  Q .normal (((((((((((((((a.put (some 54) (.slice ao m cap)).put (some 55) (.int .i64 (m : Int))).put (some 56) (.bool false)).put (some 57) (.bool false)).put (some 58) (undef)).put (some 59) (undef)).put (some 60) (undef)).put (some 61) (undef)).put (some 62) (undef)).put (some 63) (undef)).put (some 64) (undef)).put (some 65) (undef)).put (some 66) (undef)).put (some 67) (undef)).put (some 68) (.bool false)) W.drew) :
    Code.wp Try.prog (.region 16 (sz_ops s) true) Q a W := by
  refine wp_region_held_drew (S := fun _ => True) (by kernel_rfl) trivial (fun hS => ?_)
  change wpAnyH _ _ _ _ _ _ _ _ (World.drew _)
  refine wpAnyH_take (i := 0) (oi := sz_0 s) (v := .slice ao m cap) (by kernel_rfl) (by kernel_rfl) (by kernel_rfl) (by kernel_rfl) (fun c a w h => hQ c _ _ _ w h) (Or.inl ⟨wanted_none rfl, fun w hw => by simp only [execOp, sz_0, e7]; rfl⟩) hS ?_
  change wpAnyH _ _ _ _ _ _ _ (a.put (some 54) (.slice ao m cap)) _
  obtain ⟨a0_1, ha1⟩ : ∃ rr : Act, rr = a.put (some 54) (.slice ao m cap) := ⟨_, rfl⟩
  have qz1 : 68 < a0_1.tmps.size := by rw [ha1, sz_put]; exact hs
  have f1_54 : a0_1.eval (.tmp 54) = .slice ao m cap := by rw [ha1]; exact ev_same _ _ _ (Nat.lt_of_le_of_lt (by decide) hs)
  rw [← ha1] at h0 ⊢
  clear ha1
  refine wpAnyH_take (i := 1) (oi := sz_1 s) (v := .int .i64 (m : Int)) (by kernel_rfl) (by kernel_rfl) (by kernel_rfl) (by kernel_rfl) (fun c a w h => hQ c _ _ _ w h) (Or.inl ⟨wanted_none rfl, fun w hw => run_lenQ rfl f1_54 w⟩) hS ?_
  change wpAnyH _ _ _ _ _ _ _ (a0_1.put (some 55) (.int .i64 (m : Int))) _
  obtain ⟨a0_2, ha2⟩ : ∃ rr : Act, rr = a0_1.put (some 55) (.int .i64 (m : Int)) := ⟨_, rfl⟩
  have qz2 : 68 < a0_2.tmps.size := by rw [ha2, sz_put]; exact qz1
  have f2_55 : a0_2.eval (.tmp 55) = .int .i64 (m : Int) := by rw [ha2]; exact ev_same _ _ _ (Nat.lt_of_le_of_lt (by decide) qz1)
  rw [← ha2] at h0 ⊢
  clear ha2
  refine wpAnyH_take (i := 2) (oi := sz_2 s) (v := .bool false) (by kernel_rfl) (by kernel_rfl) (by kernel_rfl) (by kernel_rfl) (fun c a w h => hQ c _ _ _ w h) (Or.inl ⟨wanted_none rfl, fun w hw => by rw [run_gtr0 rfl f2_55 rfl w, decide_eq_false hm]⟩) hS ?_
  change wpAnyH _ _ _ _ _ _ _ (a0_2.put (some 56) (.bool false)) _
  obtain ⟨a0_3, ha3⟩ : ∃ rr : Act, rr = a0_2.put (some 56) (.bool false) := ⟨_, rfl⟩
  have qz3 : 68 < a0_3.tmps.size := by rw [ha3, sz_put]; exact qz2
  have f3_56 : a0_3.eval (.tmp 56) = .bool false := by rw [ha3]; exact ev_same _ _ _ (Nat.lt_of_le_of_lt (by decide) qz2)
  rw [← ha3] at h0 ⊢
  clear ha3
  refine wpAnyH_take (i := 3) (oi := sz_3 s) (v := .bool false) (by kernel_rfl) (by kernel_rfl) (by kernel_rfl) (by kernel_rfl) (fun c a w h => hQ c _ _ _ w h) (Or.inl ⟨wanted_none rfl, fun w hw => by simp only [execOp, sz_3, f3_56]; rfl⟩) hS ?_
  change wpAnyH _ _ _ _ _ _ _ (a0_3.put (some 57) (.bool false)) _
  obtain ⟨a0_4, ha4⟩ : ∃ rr : Act, rr = a0_3.put (some 57) (.bool false) := ⟨_, rfl⟩
  have qz4 : 68 < a0_4.tmps.size := by rw [ha4, sz_put]; exact qz3
  have f4_57 : a0_4.eval (.tmp 57) = .bool false := by rw [ha4]; exact ev_same _ _ _ (Nat.lt_of_le_of_lt (by decide) qz3)
  rw [← ha4] at h0 ⊢
  clear ha4
  refine wpAnyH_take (i := 4) (oi := sz_4 s) (v := undef) (by kernel_rfl) (by kernel_rfl) (by kernel_rfl) (by kernel_rfl) (fun c a w h => hQ c _ _ _ w h) (Or.inr ⟨wanted_no rfl (by kernel_rfl) f4_57 (Nat.lt_of_le_of_lt (by decide) qz4), rfl⟩) hS ?_
  change wpAnyH _ _ _ _ _ _ _ (a0_4.put (some 58) (undef)) _
  obtain ⟨a0_5, ha5⟩ : ∃ rr : Act, rr = a0_4.put (some 58) (undef) := ⟨_, rfl⟩
  have qz5 : 68 < a0_5.tmps.size := by rw [ha5, sz_put]; exact qz4
  have f5_57 : a0_5.eval (.tmp 57) = .bool false := by rw [ha5, ev_other _ _ _ _ (by decide)]; exact f4_57
  rw [← ha5] at h0 ⊢
  clear ha5
  refine wpAnyH_take (i := 5) (oi := sz_5 s) (v := undef) (by kernel_rfl) (by kernel_rfl) (by kernel_rfl) (by kernel_rfl) (fun c a w h => hQ c _ _ _ w h) (Or.inr ⟨wanted_no rfl (by kernel_rfl) f5_57 (Nat.lt_of_le_of_lt (by decide) qz5), rfl⟩) hS ?_
  change wpAnyH _ _ _ _ _ _ _ (a0_5.put (some 59) (undef)) _
  obtain ⟨a0_6, ha6⟩ : ∃ rr : Act, rr = a0_5.put (some 59) (undef) := ⟨_, rfl⟩
  have qz6 : 68 < a0_6.tmps.size := by rw [ha6, sz_put]; exact qz5
  have f6_57 : a0_6.eval (.tmp 57) = .bool false := by rw [ha6, ev_other _ _ _ _ (by decide)]; exact f5_57
  rw [← ha6] at h0 ⊢
  clear ha6
  refine wpAnyH_take (i := 6) (oi := sz_6 s) (v := undef) (by kernel_rfl) (by kernel_rfl) (by kernel_rfl) (by kernel_rfl) (fun c a w h => hQ c _ _ _ w h) (Or.inr ⟨wanted_no rfl (by kernel_rfl) f6_57 (Nat.lt_of_le_of_lt (by decide) qz6), rfl⟩) hS ?_
  change wpAnyH _ _ _ _ _ _ _ (a0_6.put (some 60) (undef)) _
  obtain ⟨a0_7, ha7⟩ : ∃ rr : Act, rr = a0_6.put (some 60) (undef) := ⟨_, rfl⟩
  have qz7 : 68 < a0_7.tmps.size := by rw [ha7, sz_put]; exact qz6
  have f7_57 : a0_7.eval (.tmp 57) = .bool false := by rw [ha7, ev_other _ _ _ _ (by decide)]; exact f6_57
  rw [← ha7] at h0 ⊢
  clear ha7
  refine wpAnyH_take (i := 7) (oi := sz_7 s) (v := undef) (by kernel_rfl) (by kernel_rfl) (by kernel_rfl) (by kernel_rfl) (fun c a w h => hQ c _ _ _ w h) (Or.inr ⟨wanted_no rfl (by kernel_rfl) f7_57 (Nat.lt_of_le_of_lt (by decide) qz7), rfl⟩) hS ?_
  change wpAnyH _ _ _ _ _ _ _ (a0_7.put (some 61) (undef)) _
  obtain ⟨a0_8, ha8⟩ : ∃ rr : Act, rr = a0_7.put (some 61) (undef) := ⟨_, rfl⟩
  have qz8 : 68 < a0_8.tmps.size := by rw [ha8, sz_put]; exact qz7
  have f8_57 : a0_8.eval (.tmp 57) = .bool false := by rw [ha8, ev_other _ _ _ _ (by decide)]; exact f7_57
  rw [← ha8] at h0 ⊢
  clear ha8
  refine wpAnyH_take (i := 8) (oi := sz_8 s) (v := undef) (by kernel_rfl) (by kernel_rfl) (by kernel_rfl) (by kernel_rfl) (fun c a w h => hQ c _ _ _ w h) (Or.inr ⟨wanted_no rfl (by kernel_rfl) f8_57 (Nat.lt_of_le_of_lt (by decide) qz8), rfl⟩) hS ?_
  change wpAnyH _ _ _ _ _ _ _ (a0_8.put (some 62) (undef)) _
  obtain ⟨a0_9, ha9⟩ : ∃ rr : Act, rr = a0_8.put (some 62) (undef) := ⟨_, rfl⟩
  have qz9 : 68 < a0_9.tmps.size := by rw [ha9, sz_put]; exact qz8
  have f9_57 : a0_9.eval (.tmp 57) = .bool false := by rw [ha9, ev_other _ _ _ _ (by decide)]; exact f8_57
  rw [← ha9] at h0 ⊢
  clear ha9
  refine wpAnyH_take (i := 9) (oi := sz_9 s) (v := undef) (by kernel_rfl) (by kernel_rfl) (by kernel_rfl) (by kernel_rfl) (fun c a w h => hQ c _ _ _ w h) (Or.inr ⟨wanted_no rfl (by kernel_rfl) f9_57 (Nat.lt_of_le_of_lt (by decide) qz9), rfl⟩) hS ?_
  change wpAnyH _ _ _ _ _ _ _ (a0_9.put (some 63) (undef)) _
  obtain ⟨a0_10, ha10⟩ : ∃ rr : Act, rr = a0_9.put (some 63) (undef) := ⟨_, rfl⟩
  have qz10 : 68 < a0_10.tmps.size := by rw [ha10, sz_put]; exact qz9
  have f10_57 : a0_10.eval (.tmp 57) = .bool false := by rw [ha10, ev_other _ _ _ _ (by decide)]; exact f9_57
  rw [← ha10] at h0 ⊢
  clear ha10
  refine wpAnyH_take (i := 10) (oi := sz_10 s) (v := undef) (by kernel_rfl) (by kernel_rfl) (by kernel_rfl) (by kernel_rfl) (fun c a w h => hQ c _ _ _ w h) (Or.inr ⟨wanted_no rfl (by kernel_rfl) f10_57 (Nat.lt_of_le_of_lt (by decide) qz10), rfl⟩) hS ?_
  change wpAnyH _ _ _ _ _ _ _ (a0_10.put (some 64) (undef)) _
  obtain ⟨a0_11, ha11⟩ : ∃ rr : Act, rr = a0_10.put (some 64) (undef) := ⟨_, rfl⟩
  have qz11 : 68 < a0_11.tmps.size := by rw [ha11, sz_put]; exact qz10
  have f11_57 : a0_11.eval (.tmp 57) = .bool false := by rw [ha11, ev_other _ _ _ _ (by decide)]; exact f10_57
  rw [← ha11] at h0 ⊢
  clear ha11
  refine wpAnyH_take (i := 11) (oi := sz_11 s) (v := undef) (by kernel_rfl) (by kernel_rfl) (by kernel_rfl) (by kernel_rfl) (fun c a w h => hQ c _ _ _ w h) (Or.inr ⟨wanted_no rfl (by kernel_rfl) f11_57 (Nat.lt_of_le_of_lt (by decide) qz11), rfl⟩) hS ?_
  change wpAnyH _ _ _ _ _ _ _ (a0_11.put (some 65) (undef)) _
  obtain ⟨a0_12, ha12⟩ : ∃ rr : Act, rr = a0_11.put (some 65) (undef) := ⟨_, rfl⟩
  have qz12 : 68 < a0_12.tmps.size := by rw [ha12, sz_put]; exact qz11
  have f12_57 : a0_12.eval (.tmp 57) = .bool false := by rw [ha12, ev_other _ _ _ _ (by decide)]; exact f11_57
  rw [← ha12] at h0 ⊢
  clear ha12
  refine wpAnyH_take (i := 12) (oi := sz_12 s) (v := undef) (by kernel_rfl) (by kernel_rfl) (by kernel_rfl) (by kernel_rfl) (fun c a w h => hQ c _ _ _ w h) (Or.inr ⟨wanted_no rfl (by kernel_rfl) f12_57 (Nat.lt_of_le_of_lt (by decide) qz12), rfl⟩) hS ?_
  change wpAnyH _ _ _ _ _ _ _ (a0_12.put (some 66) (undef)) _
  obtain ⟨a0_13, ha13⟩ : ∃ rr : Act, rr = a0_12.put (some 66) (undef) := ⟨_, rfl⟩
  have qz13 : 68 < a0_13.tmps.size := by rw [ha13, sz_put]; exact qz12
  have f13_57 : a0_13.eval (.tmp 57) = .bool false := by rw [ha13, ev_other _ _ _ _ (by decide)]; exact f12_57
  rw [← ha13] at h0 ⊢
  clear ha13
  refine wpAnyH_take (i := 13) (oi := sz_13 s) (v := undef) (by kernel_rfl) (by kernel_rfl) (by kernel_rfl) (by kernel_rfl) (fun c a w h => hQ c _ _ _ w h) (Or.inr ⟨wanted_no rfl (by kernel_rfl) f13_57 (Nat.lt_of_le_of_lt (by decide) qz13), rfl⟩) hS ?_
  change wpAnyH _ _ _ _ _ _ _ (a0_13.put (some 67) (undef)) _
  obtain ⟨a0_14, ha14⟩ : ∃ rr : Act, rr = a0_13.put (some 67) (undef) := ⟨_, rfl⟩
  have qz14 : 68 < a0_14.tmps.size := by rw [ha14, sz_put]; exact qz13
  have f14_57 : a0_14.eval (.tmp 57) = .bool false := by rw [ha14, ev_other _ _ _ _ (by decide)]; exact f13_57
  have f14_67 : a0_14.eval (.tmp 67) = undef := by rw [ha14]; exact ev_same _ _ _ (Nat.lt_of_le_of_lt (by decide) qz13)
  rw [← ha14] at h0 ⊢
  clear ha14
  refine wpAnyH_take (i := 14) (oi := sz_14 s) (v := .bool false) (by kernel_rfl) (by kernel_rfl) (by kernel_rfl) (by kernel_rfl) (fun c a w h => hQ c _ _ _ w h) (Or.inl ⟨wanted_none rfl, fun w hw => by simp only [execOp, sz_14, f14_57]; rfl⟩) hS ?_
  change wpAnyH _ _ _ _ _ _ _ (a0_14.put (some 68) (.bool false)) _
  obtain ⟨a0_15, ha15⟩ : ∃ rr : Act, rr = a0_14.put (some 68) (.bool false) := ⟨_, rfl⟩
  have qz15 : 68 < a0_15.tmps.size := by rw [ha15, sz_put]; exact qz14
  rw [← ha15] at h0 ⊢
  clear ha15
  refine wpAnyH_done (by kernel_rfl) ?_ _
  exact h0
def sp_0 (s : String) : Oper := { dst := some 54, op := Op.move (Operand.tmp 7), type := 51, pos := s, after := #[], guard := none }
def sp_1 (s : String) : Oper := { dst := some 55, op := Op.call { callee := Callee.builtin Builtin.len, args := #[Operand.tmp 54], argTypes := #[51] }, type := 3, pos := s, after := #[{ on := 0, ground := Ground.data }], guard := none }
def sp_2 (s : String) : Oper := { dst := some 56, op := Op.binOp BinOp.gtr 3 (Operand.tmp 55) (Operand.const (Value.int IntKind.i64 0)) 3, type := 4, pos := s, after := #[{ on := 1, ground := Ground.data }], guard := none }
def sp_3 (s : String) : Oper := { dst := some 57, op := Op.move (Operand.tmp 56), type := 4, pos := s, after := #[{ on := 2, ground := Ground.data }], guard := none }
def sp_4 (s : String) : Oper := { dst := some 58, op := Op.move (Operand.tmp 7), type := 51, pos := s, after := #[{ on := 3, ground := Ground.guard }], guard := some (3, true) }
def sp_5 (s : String) : Oper := { dst := some 59, op := Op.move (Operand.tmp 7), type := 51, pos := s, after := #[{ on := 3, ground := Ground.guard }], guard := some (3, true) }
def sp_6 (s : String) : Oper := { dst := some 60, op := Op.call { callee := Callee.builtin Builtin.len, args := #[Operand.tmp 59], argTypes := #[51] }, type := 3, pos := s, after := #[{ on := 5, ground := Ground.data }, { on := 3, ground := Ground.guard }], guard := some (3, true) }
def sp_7 (s : String) : Oper := { dst := some 61, op := Op.binOp BinOp.sub 3 (Operand.tmp 60) (Operand.const (Value.int IntKind.i64 1)) 3, type := 3, pos := s, after := #[{ on := 6, ground := Ground.data }, { on := 3, ground := Ground.guard }], guard := some (3, true) }
def sp_8 (s : String) : Oper := { dst := some 62, op := Op.indexAddr 51 (Operand.tmp 58) (Operand.tmp 61), type := 0, pos := s, after := #[{ on := 4, ground := Ground.data }, { on := 7, ground := Ground.data }, { on := 3, ground := Ground.guard }], guard := some (3, true) }
def sp_9 (s : String) : Oper := { dst := some 63, op := Op.load 32 (Operand.tmp 62), type := 32, pos := s, after := #[{ on := 8, ground := Ground.data }, { on := 3, ground := Ground.guard }], guard := some (3, true) }
def sp_10 (s : String) : Oper := { dst := some 64, op := Op.fieldAddr 57 (Operand.tmp 8) 0, type := 0, pos := s, after := #[{ on := 3, ground := Ground.guard }], guard := some (3, true) }
def sp_11 (s : String) : Oper := { dst := some 65, op := Op.load 32 (Operand.tmp 64), type := 32, pos := s, after := #[{ on := 10, ground := Ground.data }, { on := 3, ground := Ground.guard }], guard := some (3, true) }
def sp_12 (s : String) : Oper := { dst := some 66, op := Op.call { callee := Callee.value (Operand.func 15), args := #[Operand.tmp 63, Operand.tmp 65], argTypes := #[32, 32] }, type := 4, pos := s, after := #[{ on := 9, ground := Ground.data }, { on := 11, ground := Ground.data }, { on := 3, ground := Ground.chain }, { on := 3, ground := Ground.guard }], guard := some (3, true) }
def sp_13 (s : String) : Oper := { dst := some 67, op := Op.unOp UnOp.not 4 (Operand.tmp 66), type := 4, pos := s, after := #[{ on := 12, ground := Ground.data }, { on := 3, ground := Ground.guard }], guard := some (3, true) }
def sp_14 (s : String) : Oper := { dst := some 68, op := Op.pick (Operand.tmp 57) (Operand.tmp 67) (Operand.const (Value.bool false)), type := 4, pos := s, after := #[{ on := 3, ground := Ground.data }, { on := 13, ground := Ground.data }], guard := none }
def sp_ops (s : String) : Array Oper := #[sp_0 s, sp_1 s, sp_2 s, sp_3 s, sp_4 s, sp_5 s, sp_6 s, sp_7 s, sp_8 s, sp_9 s, sp_10 s, sp_11 s, sp_12 s, sp_13 s, sp_14 s]
theorem sp_enter12 (s : String) (a : Act) (w : World) : (execOp a.eval (sp_12 s)).run Try.prog w = .ok (.enter 15 #[a.eval (.tmp 63), a.eval (.tmp 65)]) w := by kernel_rfl
theorem sp_walk (s : String) {Q : Exit → Act → World → Prop} (hQ : ∀ c (a : Act) t v w, Q (.panic c) (a.put (some t) v) w → Q (.panic c) a w) (W : World) (g m cap ab : Nat) (last k : KY) (hm : 1 ≤ m) (hm2 : m ≤ 9223372036854775807) (hk : ∀ w', Below W.heap.size W w' → w'.rangeAt ab 0 (kC k) ∧ w'.rangeAt g ((m - 1) * 32) (kC last)) (hc1 : Calls Try.prog 15 #[kV last, kV k] W.drew fun e w' => e = .returned (.bool true) ∧ Below W.drew.heap.size W.drew w')
    (a : Act) (hs : 68 < a.tmps.size) (e7 : a.eval (.tmp 7) = .slice (some ⟨g, 0, none⟩) m cap) (e8 : a.eval (.tmp 8) = .pointer (some ⟨ab, 0, none⟩))
    (h0 : ∀ w2, Below W.heap.size W w2 → Q .normal (((((((((((((((a.put (some 54) (.slice (some ⟨g, 0, none⟩) m cap)).put (some 55) (.int .i64 (m : Int))).put (some 56) (.bool true)).put (some 57) (.bool true)).put (some 58) (.slice (some ⟨g, 0, none⟩) m cap)).put (some 59) (.slice (some ⟨g, 0, none⟩) m cap)).put (some 60) (.int .i64 (m : Int))).put (some 61) (.int .i64 ((m - 1 : Nat) : Int))).put (some 62) (.pointer (some ⟨g, (m - 1) * 32, none⟩))).put (some 63) (kV last)).put (some 64) (.pointer (some ⟨ab, 0, none⟩))).put (some 65) (kV k)).put (some 66) (.bool true)).put (some 67) (.bool false)).put (some 68) (.bool false)) w2) :
    Code.wp Try.prog (.region 16 (sp_ops s) true) Q a W := by
  refine wp_region_held_drew (S := fun w => w.rangeAt ab 0 (kC k) ∧ w.rangeAt g ((m - 1) * 32) (kC last)) (by kernel_rfl) (hk _ (below_d W)) (fun hS => ?_)
  change wpAnyH _ _ _ _ _ _ _ _ (World.drew _)
  refine wpAnyH_take (i := 0) (oi := sp_0 s) (v := .slice (some ⟨g, 0, none⟩) m cap) (by kernel_rfl) (by kernel_rfl) (by kernel_rfl) (by kernel_rfl) (fun c a w h => hQ c _ _ _ w h) (Or.inl ⟨wanted_none rfl, fun w hw => by simp only [execOp, sp_0, e7]; rfl⟩) hS ?_
  change wpAnyH _ _ _ _ _ _ _ (a.put (some 54) (.slice (some ⟨g, 0, none⟩) m cap)) _
  obtain ⟨a0_1, ha1⟩ : ∃ rr : Act, rr = a.put (some 54) (.slice (some ⟨g, 0, none⟩) m cap) := ⟨_, rfl⟩
  have qz1 : 68 < a0_1.tmps.size := by rw [ha1, sz_put]; exact hs
  have f1_7 : a0_1.eval (.tmp 7) = .slice (some ⟨g, 0, none⟩) m cap := by rw [ha1, ev_other _ _ _ _ (by decide)]; exact e7
  have f1_8 : a0_1.eval (.tmp 8) = .pointer (some ⟨ab, 0, none⟩) := by rw [ha1, ev_other _ _ _ _ (by decide)]; exact e8
  have f1_54 : a0_1.eval (.tmp 54) = .slice (some ⟨g, 0, none⟩) m cap := by rw [ha1]; exact ev_same _ _ _ (Nat.lt_of_le_of_lt (by decide) hs)
  rw [← ha1] at h0 ⊢
  clear ha1
  refine wpAnyH_take (i := 1) (oi := sp_1 s) (v := .int .i64 (m : Int)) (by kernel_rfl) (by kernel_rfl) (by kernel_rfl) (by kernel_rfl) (fun c a w h => hQ c _ _ _ w h) (Or.inl ⟨wanted_none rfl, fun w hw => run_lenQ rfl f1_54 w⟩) hS ?_
  change wpAnyH _ _ _ _ _ _ _ (a0_1.put (some 55) (.int .i64 (m : Int))) _
  obtain ⟨a0_2, ha2⟩ : ∃ rr : Act, rr = a0_1.put (some 55) (.int .i64 (m : Int)) := ⟨_, rfl⟩
  have qz2 : 68 < a0_2.tmps.size := by rw [ha2, sz_put]; exact qz1
  have f2_7 : a0_2.eval (.tmp 7) = .slice (some ⟨g, 0, none⟩) m cap := by rw [ha2, ev_other _ _ _ _ (by decide)]; exact f1_7
  have f2_8 : a0_2.eval (.tmp 8) = .pointer (some ⟨ab, 0, none⟩) := by rw [ha2, ev_other _ _ _ _ (by decide)]; exact f1_8
  have f2_55 : a0_2.eval (.tmp 55) = .int .i64 (m : Int) := by rw [ha2]; exact ev_same _ _ _ (Nat.lt_of_le_of_lt (by decide) qz1)
  rw [← ha2] at h0 ⊢
  clear ha2
  refine wpAnyH_take (i := 2) (oi := sp_2 s) (v := .bool true) (by kernel_rfl) (by kernel_rfl) (by kernel_rfl) (by kernel_rfl) (fun c a w h => hQ c _ _ _ w h) (Or.inl ⟨wanted_none rfl, fun w hw => by rw [run_gtr0 rfl f2_55 rfl w, decide_eq_true (show 0 < m by omega)]⟩) hS ?_
  change wpAnyH _ _ _ _ _ _ _ (a0_2.put (some 56) (.bool true)) _
  obtain ⟨a0_3, ha3⟩ : ∃ rr : Act, rr = a0_2.put (some 56) (.bool true) := ⟨_, rfl⟩
  have qz3 : 68 < a0_3.tmps.size := by rw [ha3, sz_put]; exact qz2
  have f3_7 : a0_3.eval (.tmp 7) = .slice (some ⟨g, 0, none⟩) m cap := by rw [ha3, ev_other _ _ _ _ (by decide)]; exact f2_7
  have f3_8 : a0_3.eval (.tmp 8) = .pointer (some ⟨ab, 0, none⟩) := by rw [ha3, ev_other _ _ _ _ (by decide)]; exact f2_8
  have f3_56 : a0_3.eval (.tmp 56) = .bool true := by rw [ha3]; exact ev_same _ _ _ (Nat.lt_of_le_of_lt (by decide) qz2)
  rw [← ha3] at h0 ⊢
  clear ha3
  refine wpAnyH_take (i := 3) (oi := sp_3 s) (v := .bool true) (by kernel_rfl) (by kernel_rfl) (by kernel_rfl) (by kernel_rfl) (fun c a w h => hQ c _ _ _ w h) (Or.inl ⟨wanted_none rfl, fun w hw => by simp only [execOp, sp_3, f3_56]; rfl⟩) hS ?_
  change wpAnyH _ _ _ _ _ _ _ (a0_3.put (some 57) (.bool true)) _
  obtain ⟨a0_4, ha4⟩ : ∃ rr : Act, rr = a0_3.put (some 57) (.bool true) := ⟨_, rfl⟩
  have qz4 : 68 < a0_4.tmps.size := by rw [ha4, sz_put]; exact qz3
  have f4_7 : a0_4.eval (.tmp 7) = .slice (some ⟨g, 0, none⟩) m cap := by rw [ha4, ev_other _ _ _ _ (by decide)]; exact f3_7
  have f4_8 : a0_4.eval (.tmp 8) = .pointer (some ⟨ab, 0, none⟩) := by rw [ha4, ev_other _ _ _ _ (by decide)]; exact f3_8
  have f4_57 : a0_4.eval (.tmp 57) = .bool true := by rw [ha4]; exact ev_same _ _ _ (Nat.lt_of_le_of_lt (by decide) qz3)
  rw [← ha4] at h0 ⊢
  clear ha4
  refine wpAnyH_take (i := 4) (oi := sp_4 s) (v := .slice (some ⟨g, 0, none⟩) m cap) (by kernel_rfl) (by kernel_rfl) (by kernel_rfl) (by kernel_rfl) (fun c a w h => hQ c _ _ _ w h) (Or.inl ⟨wanted_some rfl (by kernel_rfl) f4_57 (Nat.lt_of_le_of_lt (by decide) qz4), fun w hw => by simp only [execOp, sp_4, f4_7]; rfl⟩) hS ?_
  change wpAnyH _ _ _ _ _ _ _ (a0_4.put (some 58) (.slice (some ⟨g, 0, none⟩) m cap)) _
  obtain ⟨a0_5, ha5⟩ : ∃ rr : Act, rr = a0_4.put (some 58) (.slice (some ⟨g, 0, none⟩) m cap) := ⟨_, rfl⟩
  have qz5 : 68 < a0_5.tmps.size := by rw [ha5, sz_put]; exact qz4
  have f5_7 : a0_5.eval (.tmp 7) = .slice (some ⟨g, 0, none⟩) m cap := by rw [ha5, ev_other _ _ _ _ (by decide)]; exact f4_7
  have f5_8 : a0_5.eval (.tmp 8) = .pointer (some ⟨ab, 0, none⟩) := by rw [ha5, ev_other _ _ _ _ (by decide)]; exact f4_8
  have f5_57 : a0_5.eval (.tmp 57) = .bool true := by rw [ha5, ev_other _ _ _ _ (by decide)]; exact f4_57
  have f5_58 : a0_5.eval (.tmp 58) = .slice (some ⟨g, 0, none⟩) m cap := by rw [ha5]; exact ev_same _ _ _ (Nat.lt_of_le_of_lt (by decide) qz4)
  rw [← ha5] at h0 ⊢
  clear ha5
  refine wpAnyH_take (i := 5) (oi := sp_5 s) (v := .slice (some ⟨g, 0, none⟩) m cap) (by kernel_rfl) (by kernel_rfl) (by kernel_rfl) (by kernel_rfl) (fun c a w h => hQ c _ _ _ w h) (Or.inl ⟨wanted_some rfl (by kernel_rfl) f5_57 (Nat.lt_of_le_of_lt (by decide) qz5), fun w hw => by simp only [execOp, sp_5, f5_7]; rfl⟩) hS ?_
  change wpAnyH _ _ _ _ _ _ _ (a0_5.put (some 59) (.slice (some ⟨g, 0, none⟩) m cap)) _
  obtain ⟨a0_6, ha6⟩ : ∃ rr : Act, rr = a0_5.put (some 59) (.slice (some ⟨g, 0, none⟩) m cap) := ⟨_, rfl⟩
  have qz6 : 68 < a0_6.tmps.size := by rw [ha6, sz_put]; exact qz5
  have f6_8 : a0_6.eval (.tmp 8) = .pointer (some ⟨ab, 0, none⟩) := by rw [ha6, ev_other _ _ _ _ (by decide)]; exact f5_8
  have f6_57 : a0_6.eval (.tmp 57) = .bool true := by rw [ha6, ev_other _ _ _ _ (by decide)]; exact f5_57
  have f6_58 : a0_6.eval (.tmp 58) = .slice (some ⟨g, 0, none⟩) m cap := by rw [ha6, ev_other _ _ _ _ (by decide)]; exact f5_58
  have f6_59 : a0_6.eval (.tmp 59) = .slice (some ⟨g, 0, none⟩) m cap := by rw [ha6]; exact ev_same _ _ _ (Nat.lt_of_le_of_lt (by decide) qz5)
  rw [← ha6] at h0 ⊢
  clear ha6
  refine wpAnyH_take (i := 6) (oi := sp_6 s) (v := .int .i64 (m : Int)) (by kernel_rfl) (by kernel_rfl) (by kernel_rfl) (by kernel_rfl) (fun c a w h => hQ c _ _ _ w h) (Or.inl ⟨wanted_some rfl (by kernel_rfl) f6_57 (Nat.lt_of_le_of_lt (by decide) qz6), fun w hw => run_lenQ rfl f6_59 w⟩) hS ?_
  change wpAnyH _ _ _ _ _ _ _ (a0_6.put (some 60) (.int .i64 (m : Int))) _
  obtain ⟨a0_7, ha7⟩ : ∃ rr : Act, rr = a0_6.put (some 60) (.int .i64 (m : Int)) := ⟨_, rfl⟩
  have qz7 : 68 < a0_7.tmps.size := by rw [ha7, sz_put]; exact qz6
  have f7_8 : a0_7.eval (.tmp 8) = .pointer (some ⟨ab, 0, none⟩) := by rw [ha7, ev_other _ _ _ _ (by decide)]; exact f6_8
  have f7_57 : a0_7.eval (.tmp 57) = .bool true := by rw [ha7, ev_other _ _ _ _ (by decide)]; exact f6_57
  have f7_58 : a0_7.eval (.tmp 58) = .slice (some ⟨g, 0, none⟩) m cap := by rw [ha7, ev_other _ _ _ _ (by decide)]; exact f6_58
  have f7_60 : a0_7.eval (.tmp 60) = .int .i64 (m : Int) := by rw [ha7]; exact ev_same _ _ _ (Nat.lt_of_le_of_lt (by decide) qz6)
  rw [← ha7] at h0 ⊢
  clear ha7
  refine wpAnyH_take (i := 7) (oi := sp_7 s) (v := .int .i64 ((m - 1 : Nat) : Int)) (by kernel_rfl) (by kernel_rfl) (by kernel_rfl) (by kernel_rfl) (fun c a w h => hQ c _ _ _ w h) (Or.inl ⟨wanted_some rfl (by kernel_rfl) f7_57 (Nat.lt_of_le_of_lt (by decide) qz7), fun w hw => run_sub1 rfl f7_60 rfl hm hm2 w⟩) hS ?_
  change wpAnyH _ _ _ _ _ _ _ (a0_7.put (some 61) (.int .i64 ((m - 1 : Nat) : Int))) _
  obtain ⟨a0_8, ha8⟩ : ∃ rr : Act, rr = a0_7.put (some 61) (.int .i64 ((m - 1 : Nat) : Int)) := ⟨_, rfl⟩
  have qz8 : 68 < a0_8.tmps.size := by rw [ha8, sz_put]; exact qz7
  have f8_8 : a0_8.eval (.tmp 8) = .pointer (some ⟨ab, 0, none⟩) := by rw [ha8, ev_other _ _ _ _ (by decide)]; exact f7_8
  have f8_57 : a0_8.eval (.tmp 57) = .bool true := by rw [ha8, ev_other _ _ _ _ (by decide)]; exact f7_57
  have f8_58 : a0_8.eval (.tmp 58) = .slice (some ⟨g, 0, none⟩) m cap := by rw [ha8, ev_other _ _ _ _ (by decide)]; exact f7_58
  have f8_61 : a0_8.eval (.tmp 61) = .int .i64 ((m - 1 : Nat) : Int) := by rw [ha8]; exact ev_same _ _ _ (Nat.lt_of_le_of_lt (by decide) qz7)
  rw [← ha8] at h0 ⊢
  clear ha8
  refine wpAnyH_take (i := 8) (oi := sp_8 s) (v := .pointer (some ⟨g, (m - 1) * 32, none⟩)) (by kernel_rfl) (by kernel_rfl) (by kernel_rfl) (by kernel_rfl) (fun c a w h => hQ c _ _ _ w h) (Or.inl ⟨wanted_some rfl (by kernel_rfl) f8_57 (Nat.lt_of_le_of_lt (by decide) qz8), fun w hw => run_idxQ rfl f8_58 f8_61 (by omega) w⟩) hS ?_
  change wpAnyH _ _ _ _ _ _ _ (a0_8.put (some 62) (.pointer (some ⟨g, (m - 1) * 32, none⟩))) _
  obtain ⟨a0_9, ha9⟩ : ∃ rr : Act, rr = a0_8.put (some 62) (.pointer (some ⟨g, (m - 1) * 32, none⟩)) := ⟨_, rfl⟩
  have qz9 : 68 < a0_9.tmps.size := by rw [ha9, sz_put]; exact qz8
  have f9_8 : a0_9.eval (.tmp 8) = .pointer (some ⟨ab, 0, none⟩) := by rw [ha9, ev_other _ _ _ _ (by decide)]; exact f8_8
  have f9_57 : a0_9.eval (.tmp 57) = .bool true := by rw [ha9, ev_other _ _ _ _ (by decide)]; exact f8_57
  have f9_62 : a0_9.eval (.tmp 62) = .pointer (some ⟨g, (m - 1) * 32, none⟩) := by rw [ha9]; exact ev_same _ _ _ (Nat.lt_of_le_of_lt (by decide) qz8)
  rw [← ha9] at h0 ⊢
  clear ha9
  refine wpAnyH_take (i := 9) (oi := sp_9 s) (v := kV last) (by kernel_rfl) (by kernel_rfl) (by kernel_rfl) (by kernel_rfl) (fun c a w h => hQ c _ _ _ w h) (Or.inl ⟨wanted_some rfl (by kernel_rfl) f9_57 (Nat.lt_of_le_of_lt (by decide) qz9), fun w hw => run_loadO rfl f9_62 (run_ldK hw.2)⟩) hS ?_
  change wpAnyH _ _ _ _ _ _ _ (a0_9.put (some 63) (kV last)) _
  obtain ⟨a0_10, ha10⟩ : ∃ rr : Act, rr = a0_9.put (some 63) (kV last) := ⟨_, rfl⟩
  have qz10 : 68 < a0_10.tmps.size := by rw [ha10, sz_put]; exact qz9
  have f10_8 : a0_10.eval (.tmp 8) = .pointer (some ⟨ab, 0, none⟩) := by rw [ha10, ev_other _ _ _ _ (by decide)]; exact f9_8
  have f10_57 : a0_10.eval (.tmp 57) = .bool true := by rw [ha10, ev_other _ _ _ _ (by decide)]; exact f9_57
  have f10_63 : a0_10.eval (.tmp 63) = kV last := by rw [ha10]; exact ev_same _ _ _ (Nat.lt_of_le_of_lt (by decide) qz9)
  rw [← ha10] at h0 ⊢
  clear ha10
  refine wpAnyH_take (i := 10) (oi := sp_10 s) (v := .pointer (some ⟨ab, 0, none⟩)) (by kernel_rfl) (by kernel_rfl) (by kernel_rfl) (by kernel_rfl) (fun c a w h => hQ c _ _ _ w h) (Or.inl ⟨wanted_some rfl (by kernel_rfl) f10_57 (Nat.lt_of_le_of_lt (by decide) qz10), fun w hw => run_fldA rfl f10_8 w⟩) hS ?_
  change wpAnyH _ _ _ _ _ _ _ (a0_10.put (some 64) (.pointer (some ⟨ab, 0, none⟩))) _
  obtain ⟨a0_11, ha11⟩ : ∃ rr : Act, rr = a0_10.put (some 64) (.pointer (some ⟨ab, 0, none⟩)) := ⟨_, rfl⟩
  have qz11 : 68 < a0_11.tmps.size := by rw [ha11, sz_put]; exact qz10
  have f11_57 : a0_11.eval (.tmp 57) = .bool true := by rw [ha11, ev_other _ _ _ _ (by decide)]; exact f10_57
  have f11_63 : a0_11.eval (.tmp 63) = kV last := by rw [ha11, ev_other _ _ _ _ (by decide)]; exact f10_63
  have f11_64 : a0_11.eval (.tmp 64) = .pointer (some ⟨ab, 0, none⟩) := by rw [ha11]; exact ev_same _ _ _ (Nat.lt_of_le_of_lt (by decide) qz10)
  rw [← ha11] at h0 ⊢
  clear ha11
  refine wpAnyH_take (i := 11) (oi := sp_11 s) (v := kV k) (by kernel_rfl) (by kernel_rfl) (by kernel_rfl) (by kernel_rfl) (fun c a w h => hQ c _ _ _ w h) (Or.inl ⟨wanted_some rfl (by kernel_rfl) f11_57 (Nat.lt_of_le_of_lt (by decide) qz11), fun w hw => run_loadO rfl f11_64 (run_ldK hw.1)⟩) hS ?_
  change wpAnyH _ _ _ _ _ _ _ (a0_11.put (some 65) (kV k)) _
  obtain ⟨a0_12, ha12⟩ : ∃ rr : Act, rr = a0_11.put (some 65) (kV k) := ⟨_, rfl⟩
  have qz12 : 68 < a0_12.tmps.size := by rw [ha12, sz_put]; exact qz11
  have f12_57 : a0_12.eval (.tmp 57) = .bool true := by rw [ha12, ev_other _ _ _ _ (by decide)]; exact f11_57
  have f12_63 : a0_12.eval (.tmp 63) = kV last := by rw [ha12, ev_other _ _ _ _ (by decide)]; exact f11_63
  have f12_65 : a0_12.eval (.tmp 65) = kV k := by rw [ha12]; exact ev_same _ _ _ (Nat.lt_of_le_of_lt (by decide) qz11)
  rw [← ha12] at h0 ⊢
  clear ha12
  refine wpAnyH_ready (rs := [12]) (by kernel_rfl) (by simp) ?_
  refine AllReadyH.cons (o := sp_12 s) (by kernel_rfl) (fun KQ hKQ => ?_) AllReadyH.nil
  rw [if_pos (wanted_some rfl (by kernel_rfl) f12_57 (Nat.lt_of_le_of_lt (by decide) qz12))]
  refine step_enterE 15 #[kV last, kV k] (by rw [sp_enter12, f12_63, f12_65]) (fun V w' => V = .bool true ∧ Below W.heap.size W w') (hc1.mono (fun e w' h => ⟨_, h.1, rfl, (below_d W).trans h.2⟩)) ?_
  rintro _ w1 ⟨rfl, hb1⟩
  refine hKQ.out _ _ (hk w1 hb1) (fun _ => ?_)
  clear hKQ KQ
  change wpAnyH _ _ _ _ _ _ _ (a0_12.put (some 66) (.bool true)) _
  have h0 := h0 w1 hb1
  obtain ⟨a0_13, ha13⟩ : ∃ rr : Act, rr = a0_12.put (some 66) (.bool true) := ⟨_, rfl⟩
  have qz13 : 68 < a0_13.tmps.size := by rw [ha13, sz_put]; exact qz12
  have f13_57 : a0_13.eval (.tmp 57) = .bool true := by rw [ha13, ev_other _ _ _ _ (by decide)]; exact f12_57
  have f13_66 : a0_13.eval (.tmp 66) = .bool true := by rw [ha13]; exact ev_same _ _ _ (Nat.lt_of_le_of_lt (by decide) qz12)
  rw [← ha13] at h0 ⊢
  clear ha13
  refine wpAnyH_take (i := 13) (oi := sp_13 s) (v := .bool false) (by kernel_rfl) (by kernel_rfl) (by kernel_rfl) (by kernel_rfl) (fun c a w h => hQ c _ _ _ w h) (Or.inl ⟨wanted_some rfl (by kernel_rfl) f13_57 (Nat.lt_of_le_of_lt (by decide) qz13), fun w hw => by simp only [execOp, sp_13, f13_66]; kernel_rfl⟩) (hk w1 hb1) ?_
  change wpAnyH _ _ _ _ _ _ _ (a0_13.put (some 67) (.bool false)) _
  obtain ⟨a0_14, ha14⟩ : ∃ rr : Act, rr = a0_13.put (some 67) (.bool false) := ⟨_, rfl⟩
  have qz14 : 68 < a0_14.tmps.size := by rw [ha14, sz_put]; exact qz13
  have f14_57 : a0_14.eval (.tmp 57) = .bool true := by rw [ha14, ev_other _ _ _ _ (by decide)]; exact f13_57
  have f14_67 : a0_14.eval (.tmp 67) = .bool false := by rw [ha14]; exact ev_same _ _ _ (Nat.lt_of_le_of_lt (by decide) qz13)
  rw [← ha14] at h0 ⊢
  clear ha14
  refine wpAnyH_take (i := 14) (oi := sp_14 s) (v := .bool false) (by kernel_rfl) (by kernel_rfl) (by kernel_rfl) (by kernel_rfl) (fun c a w h => hQ c _ _ _ w h) (Or.inl ⟨wanted_none rfl, fun w hw => by simp only [execOp, sp_14, f14_57, f14_67]; rfl⟩) (hk w1 hb1) ?_
  change wpAnyH _ _ _ _ _ _ _ (a0_14.put (some 68) (.bool false)) _
  obtain ⟨a0_15, ha15⟩ : ∃ rr : Act, rr = a0_14.put (some 68) (.bool false) := ⟨_, rfl⟩
  have qz15 : 68 < a0_15.tmps.size := by rw [ha15, sz_put]; exact qz14
  rw [← ha15] at h0 ⊢
  clear ha15
  refine wpAnyH_done (by kernel_rfl) ?_ _
  exact h0
end TX
end Go.Proofs.Ytdigjpddmfolgaa
