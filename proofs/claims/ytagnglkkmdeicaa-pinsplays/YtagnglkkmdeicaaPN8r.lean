/- PinsWalk: its drawn regions 19 and 34. -/
import Derived.Test.YtagnglkkmdeicaaPN8
namespace Go.Proofs.Ytagnglkkmdeicaa
set_option linter.unusedVariables false
set_option linter.unusedSimpArgs false
open Go.RowKit
set_option maxRecDepth 100000

theorem wanted_no {ops : Array Oper} {o : Oper} {a : Act} {j : Nat} {b : Bool} {t : Tmp} (hg : o.guard = some (j, b)) (hd : (ops[j]?).bind (·.dst) = some t) (he : a.eval (.tmp t) = .bool (!b)) (hz : t < a.tmps.size) : Region.wanted o (yielded ops a.tmps) = false := by
  have h1 : a.tmps[t]? = some (.bool (!b)) := by
    rw [Array.getElem?_eq_getElem hz]
    simpa [Act.eval, hz] using he
  simp [Region.wanted, hg, yielded, hd, h1]
theorem run_lenQ {op : Oper} {ev : Operand → Value} {x : Operand} {ao : Option Addr} {n c : Nat} (ho : op.op = .call { callee := .builtin .len, args := #[x], argTypes := #[42] }) (hx : ev x = .slice ao n c) (w : World) : (execOp ev op).run Try.prog w = .ok (.value (.int .i64 (n : Int))) w := by
  have hu := Try.underlying42
  simp only [execOp, ho]
  simp [hx, go_sem, hu]
theorem run_gtr0 {op : Oper} {ev : Operand → Value} {x : Operand} {u : TypeId} {n : Nat} (ho : op.op = .binOp .gtr 3 x (.const (.int .i64 0)) u) (hx : ev x = .int .i64 (n : Int)) (hc : ev (.const (.int .i64 0)) = .int .i64 0) (w : World) : (execOp ev op).run Try.prog w = .ok (.value (.bool (decide (0 < n)))) w := by
  simp only [execOp, ho, hx, hc]
  simp [go_sem]
theorem run_sub1 {op : Oper} {ev : Operand → Value} {x : Operand} {u : TypeId} {n : Nat} (ho : op.op = .binOp .sub 3 x (.const (.int .i64 1)) u) (hx : ev x = .int .i64 (n : Int)) (hc : ev (.const (.int .i64 1)) = .int .i64 1) (h1 : 1 ≤ n) (h2 : n ≤ 9223372036854775807) (w : World) : (execOp ev op).run Try.prog w = .ok (.value (.int .i64 ((n - 1 : Nat) : Int))) w := by
  have h3 : IntKind.i64.wrap ((n : Int) - 1) = ((n - 1 : Nat) : Int) := by
    rw [IntKind.wrap_i64]; omega
  simp only [execOp, ho, hx, hc]
  simp [go_sem, h3]
theorem run_idxQ {op : Oper} {ev : Operand → Value} {x y : Operand} {g n c j : Nat} (ho : op.op = .indexAddr 42 x y) (hx : ev x = .slice (some ⟨g, 0, none⟩) n c) (hy : ev y = .int .i64 (j : Int)) (h : j < n) (w : World) : (execOp ev op).run Try.prog w = .ok (.value (.pointer (some ⟨g, j * 32, none⟩))) w := by
  have hu := Try.underlying42
  have hs : (sizeOf 30).run Try.prog w = .ok 32 w := by kernel_rfl
  have h1 : (j : Int) < (n : Int) := by omega
  simp only [execOp, ho, hx, hy]
  simp [go_sem, hu, h1, hs]
theorem run_idxP {op : Oper} {ev : Operand → Value} {x y : Operand} {g o n c j : Nat} (ho : op.op = .indexAddr 36 x y) (hx : ev x = .slice (some ⟨g, o, none⟩) n c) (hy : ev y = .int .i64 (j : Int)) (h : j < n) (w : World) : (execOp ev op).run Try.prog w = .ok (.value (.pointer (some ⟨g, o + j * 33, none⟩))) w := by
  have hu := Try.underlying36
  have hs : (sizeOf 41).run Try.prog w = .ok 33 w := by kernel_rfl
  have h1 : (j : Int) < (n : Int) := by omega
  simp only [execOp, ho, hx, hy]
  simp [go_sem, hu, h1, hs]
theorem run_fldP {op : Oper} {ev : Operand → Value} {x : Operand} {b o : Nat} (ho : op.op = .fieldAddr 41 x 1) (hx : ev x = .pointer (some ⟨b, o, none⟩)) (w : World) : (execOp ev op).run Try.prog w = .ok (.value (.pointer (some ⟨b, o + 1, none⟩))) w := by
  simp only [execOp, ho, hx]; kernel_rfl
theorem run_eqlQ {op : Oper} {ev : Operand → Value} {x y : Operand} {u : TypeId} {a b : List UInt8} (ho : op.op = .binOp .eql 30 x y u) (hx : ev x = keyV a) (hy : ev y = keyV b) (ha : a.length = 32) (hb : b.length = 32) (w : World) : (execOp ev op).run Try.prog w = .ok (.value (.bool (a == b))) w := by
  have h1 := keysGuard .eql a b x y w
  have h2 := keysEql a b ha hb w
  simp only [execOp, ho, hx, hy]
  simp [Sem.run_bind, h1, h2]
def pa_0 (s : String) : Oper := { dst := some 72, op := Op.move (Operand.tmp 8), type := 42, pos := s, after := #[], guard := none }
def pa_1 (s : String) : Oper := { dst := some 73, op := Op.call { callee := Callee.builtin Builtin.len, args := #[Operand.tmp 72], argTypes := #[42] }, type := 3, pos := s, after := #[{ on := 0, ground := Ground.data }], guard := none }
def pa_2 (s : String) : Oper := { dst := some 74, op := Op.binOp BinOp.gtr 3 (Operand.tmp 73) (Operand.const (Value.int IntKind.i64 0)) 3, type := 4, pos := s, after := #[{ on := 1, ground := Ground.data }], guard := none }
def pa_3 (s : String) : Oper := { dst := some 75, op := Op.move (Operand.tmp 74), type := 4, pos := s, after := #[{ on := 2, ground := Ground.data }], guard := none }
def pa_4 (s : String) : Oper := { dst := some 76, op := Op.move (Operand.tmp 8), type := 42, pos := s, after := #[{ on := 3, ground := Ground.guard }], guard := some (3, true) }
def pa_5 (s : String) : Oper := { dst := some 77, op := Op.move (Operand.tmp 8), type := 42, pos := s, after := #[{ on := 3, ground := Ground.guard }], guard := some (3, true) }
def pa_6 (s : String) : Oper := { dst := some 78, op := Op.call { callee := Callee.builtin Builtin.len, args := #[Operand.tmp 77], argTypes := #[42] }, type := 3, pos := s, after := #[{ on := 5, ground := Ground.data }, { on := 3, ground := Ground.guard }], guard := some (3, true) }
def pa_7 (s : String) : Oper := { dst := some 79, op := Op.binOp BinOp.sub 3 (Operand.tmp 78) (Operand.const (Value.int IntKind.i64 1)) 3, type := 3, pos := s, after := #[{ on := 6, ground := Ground.data }, { on := 3, ground := Ground.guard }], guard := some (3, true) }
def pa_8 (s : String) : Oper := { dst := some 80, op := Op.indexAddr 42 (Operand.tmp 76) (Operand.tmp 79), type := 0, pos := s, after := #[{ on := 4, ground := Ground.data }, { on := 7, ground := Ground.data }, { on := 3, ground := Ground.guard }], guard := some (3, true) }
def pa_9 (s : String) : Oper := { dst := some 81, op := Op.load 30 (Operand.tmp 80), type := 30, pos := s, after := #[{ on := 8, ground := Ground.data }, { on := 3, ground := Ground.guard }], guard := some (3, true) }
def pa_10 (s : String) : Oper := { dst := some 82, op := Op.load 30 (Operand.tmp 9), type := 30, pos := s, after := #[{ on := 3, ground := Ground.guard }], guard := some (3, true) }
def pa_11 (s : String) : Oper := { dst := some 83, op := Op.call { callee := Callee.value (Operand.func 12), args := #[Operand.tmp 81, Operand.tmp 82], argTypes := #[30, 30] }, type := 4, pos := s, after := #[{ on := 9, ground := Ground.data }, { on := 10, ground := Ground.data }, { on := 3, ground := Ground.chain }, { on := 3, ground := Ground.guard }], guard := some (3, true) }
def pa_12 (s : String) : Oper := { dst := some 84, op := Op.unOp UnOp.not 4 (Operand.tmp 83), type := 4, pos := s, after := #[{ on := 11, ground := Ground.data }, { on := 3, ground := Ground.guard }], guard := some (3, true) }
def pa_13 (s : String) : Oper := { dst := some 85, op := Op.pick (Operand.tmp 75) (Operand.tmp 84) (Operand.const (Value.bool false)), type := 4, pos := s, after := #[{ on := 3, ground := Ground.data }, { on := 12, ground := Ground.data }], guard := none }
def pa_14 (s : String) : Oper := { dst := some 86, op := Op.move (Operand.tmp 85), type := 4, pos := s, after := #[{ on := 13, ground := Ground.data }, { on := 11, ground := Ground.chain }], guard := none }
def pa_15 (s : String) : Oper := { dst := some 87, op := Op.move (Operand.tmp 5), type := 23, pos := s, after := #[{ on := 14, ground := Ground.guard }], guard := some (14, false) }
def pa_16 (s : String) : Oper := { dst := some 88, op := Op.move (Operand.tmp 1), type := 3, pos := s, after := #[{ on := 14, ground := Ground.guard }], guard := some (14, false) }
def pa_17 (s : String) : Oper := { dst := some 89, op := Op.load 30 (Operand.tmp 9), type := 30, pos := s, after := #[{ on := 14, ground := Ground.guard }], guard := some (14, false) }
def pa_18 (s : String) : Oper := { dst := some 90, op := Op.call { callee := Callee.value (Operand.func 13), args := #[Operand.tmp 87, Operand.tmp 88, Operand.tmp 89], argTypes := #[23, 3, 30] }, type := 4, pos := s, after := #[{ on := 15, ground := Ground.data }, { on := 16, ground := Ground.data }, { on := 17, ground := Ground.data }, { on := 14, ground := Ground.chain }, { on := 14, ground := Ground.guard }], guard := some (14, false) }
def pa_19 (s : String) : Oper := { dst := some 91, op := Op.unOp UnOp.not 4 (Operand.tmp 90), type := 4, pos := s, after := #[{ on := 18, ground := Ground.data }, { on := 14, ground := Ground.guard }], guard := some (14, false) }
def pa_20 (s : String) : Oper := { dst := some 92, op := Op.pick (Operand.tmp 86) (Operand.const (Value.bool true)) (Operand.tmp 91), type := 4, pos := s, after := #[{ on := 14, ground := Ground.data }, { on := 19, ground := Ground.data }], guard := none }
def pa_ops (s : String) : Array Oper := #[pa_0 s, pa_1 s, pa_2 s, pa_3 s, pa_4 s, pa_5 s, pa_6 s, pa_7 s, pa_8 s, pa_9 s, pa_10 s, pa_11 s, pa_12 s, pa_13 s, pa_14 s, pa_15 s, pa_16 s, pa_17 s, pa_18 s, pa_19 s, pa_20 s]
theorem pa_enter11 (s : String) (a : Act) (w : World) : (execOp a.eval (pa_11 s)).run Try.prog w = .ok (.enter 12 #[a.eval (.tmp 81), a.eval (.tmp 82)]) w := by kernel_rfl
theorem pa_enter18 (s : String) (a : Act) (w : World) : (execOp a.eval (pa_18 s)).run Try.prog w = .ok (.enter 13 #[a.eval (.tmp 87), a.eval (.tmp 88), a.eval (.tmp 89)]) w := by kernel_rfl
theorem pa_walk (s : String) {Q : Exit → Act → World → Prop} (hQ : ∀ c (a : Act) t v w, Q (.panic c) (a.put (some t) v) w → Q (.panic c) a w) (W : World) (zp zk : Nat) (sk : Nat) (k : List UInt8) (ao : Option Addr) (cap : Nat) (hk : ∀ w', Below W.heap.size W w' → KeyAt w' zk k ∧ True) (hc2 : ∀ w1, Below W.heap.size W w1 → Calls Try.prog 13 #[.pointer (some ⟨zp, 0, none⟩), .int .i64 (sk : Int), keyV k] w1 fun e w' => e = .returned (.bool true) ∧ Below w1.heap.size w1 w')
    (a : Act) (hs : 92 < a.tmps.size) (e1 : a.eval (.tmp 1) = .int .i64 (sk : Int)) (e5 : a.eval (.tmp 5) = .pointer (some ⟨zp, 0, none⟩)) (e8 : a.eval (.tmp 8) = .slice ao 0 cap) (e9 : a.eval (.tmp 9) = .pointer (some ⟨zk, 0, none⟩))
    (h0 : ∀ w2, Below W.heap.size W w2 → Q .normal (((((((((((((((((((((a.put (some 72) (.slice ao 0 cap)).put (some 73) (.int .i64 ((0 : Nat) : Int))).put (some 74) (.bool false)).put (some 75) (.bool false)).put (some 76) (undef)).put (some 77) (undef)).put (some 78) (undef)).put (some 79) (undef)).put (some 80) (undef)).put (some 81) (undef)).put (some 82) (undef)).put (some 83) (undef)).put (some 84) (undef)).put (some 85) (.bool false)).put (some 86) (.bool false)).put (some 87) (.pointer (some ⟨zp, 0, none⟩))).put (some 88) (.int .i64 (sk : Int))).put (some 89) (keyV k)).put (some 90) (.bool true)).put (some 91) (.bool false)).put (some 92) (.bool false)) w2) :
    Code.wp Try.prog (.region 19 (pa_ops s) true) Q a W := by
  refine wp_region_held_drew (S := fun w => KeyAt w zk k ∧ True) (by kernel_rfl) (hk _ (below_d W)) (fun hS => ?_)
  change wpAnyH _ _ _ _ _ _ _ _ (World.drew _)
  refine wpAnyH_take (i := 0) (oi := pa_0 s) (v := .slice ao 0 cap) (by kernel_rfl) (by kernel_rfl) (by kernel_rfl) (by kernel_rfl) (fun c a w h => hQ c _ _ _ w h) (Or.inl ⟨wanted_none rfl, fun w hw => by simp only [execOp, pa_0, e8]; rfl⟩) hS ?_
  change wpAnyH _ _ _ _ _ _ _ (a.put (some 72) (.slice ao 0 cap)) _
  obtain ⟨a0_1, ha1⟩ : ∃ rr : Act, rr = a.put (some 72) (.slice ao 0 cap) := ⟨_, rfl⟩
  have qz1 : 92 < a0_1.tmps.size := by rw [ha1, sz_put]; exact hs
  have f1_1 : a0_1.eval (.tmp 1) = .int .i64 (sk : Int) := by rw [ha1, ev_other _ _ _ _ (by decide)]; exact e1
  have f1_5 : a0_1.eval (.tmp 5) = .pointer (some ⟨zp, 0, none⟩) := by rw [ha1, ev_other _ _ _ _ (by decide)]; exact e5
  have f1_9 : a0_1.eval (.tmp 9) = .pointer (some ⟨zk, 0, none⟩) := by rw [ha1, ev_other _ _ _ _ (by decide)]; exact e9
  have f1_72 : a0_1.eval (.tmp 72) = .slice ao 0 cap := by rw [ha1]; exact ev_same _ _ _ (Nat.lt_of_le_of_lt (by decide) hs)
  rw [← ha1] at h0 ⊢
  clear ha1
  refine wpAnyH_take (i := 1) (oi := pa_1 s) (v := .int .i64 ((0 : Nat) : Int)) (by kernel_rfl) (by kernel_rfl) (by kernel_rfl) (by kernel_rfl) (fun c a w h => hQ c _ _ _ w h) (Or.inl ⟨wanted_none rfl, fun w hw => run_lenQ rfl f1_72 w⟩) hS ?_
  change wpAnyH _ _ _ _ _ _ _ (a0_1.put (some 73) (.int .i64 ((0 : Nat) : Int))) _
  obtain ⟨a0_2, ha2⟩ : ∃ rr : Act, rr = a0_1.put (some 73) (.int .i64 ((0 : Nat) : Int)) := ⟨_, rfl⟩
  have qz2 : 92 < a0_2.tmps.size := by rw [ha2, sz_put]; exact qz1
  have f2_1 : a0_2.eval (.tmp 1) = .int .i64 (sk : Int) := by rw [ha2, ev_other _ _ _ _ (by decide)]; exact f1_1
  have f2_5 : a0_2.eval (.tmp 5) = .pointer (some ⟨zp, 0, none⟩) := by rw [ha2, ev_other _ _ _ _ (by decide)]; exact f1_5
  have f2_9 : a0_2.eval (.tmp 9) = .pointer (some ⟨zk, 0, none⟩) := by rw [ha2, ev_other _ _ _ _ (by decide)]; exact f1_9
  have f2_73 : a0_2.eval (.tmp 73) = .int .i64 ((0 : Nat) : Int) := by rw [ha2]; exact ev_same _ _ _ (Nat.lt_of_le_of_lt (by decide) qz1)
  rw [← ha2] at h0 ⊢
  clear ha2
  refine wpAnyH_take (i := 2) (oi := pa_2 s) (v := .bool false) (by kernel_rfl) (by kernel_rfl) (by kernel_rfl) (by kernel_rfl) (fun c a w h => hQ c _ _ _ w h) (Or.inl ⟨wanted_none rfl, fun w hw => run_gtr0 rfl f2_73 rfl w⟩) hS ?_
  change wpAnyH _ _ _ _ _ _ _ (a0_2.put (some 74) (.bool false)) _
  obtain ⟨a0_3, ha3⟩ : ∃ rr : Act, rr = a0_2.put (some 74) (.bool false) := ⟨_, rfl⟩
  have qz3 : 92 < a0_3.tmps.size := by rw [ha3, sz_put]; exact qz2
  have f3_1 : a0_3.eval (.tmp 1) = .int .i64 (sk : Int) := by rw [ha3, ev_other _ _ _ _ (by decide)]; exact f2_1
  have f3_5 : a0_3.eval (.tmp 5) = .pointer (some ⟨zp, 0, none⟩) := by rw [ha3, ev_other _ _ _ _ (by decide)]; exact f2_5
  have f3_9 : a0_3.eval (.tmp 9) = .pointer (some ⟨zk, 0, none⟩) := by rw [ha3, ev_other _ _ _ _ (by decide)]; exact f2_9
  have f3_74 : a0_3.eval (.tmp 74) = .bool false := by rw [ha3]; exact ev_same _ _ _ (Nat.lt_of_le_of_lt (by decide) qz2)
  rw [← ha3] at h0 ⊢
  clear ha3
  refine wpAnyH_take (i := 3) (oi := pa_3 s) (v := .bool false) (by kernel_rfl) (by kernel_rfl) (by kernel_rfl) (by kernel_rfl) (fun c a w h => hQ c _ _ _ w h) (Or.inl ⟨wanted_none rfl, fun w hw => by simp only [execOp, pa_3, f3_74]; rfl⟩) hS ?_
  change wpAnyH _ _ _ _ _ _ _ (a0_3.put (some 75) (.bool false)) _
  obtain ⟨a0_4, ha4⟩ : ∃ rr : Act, rr = a0_3.put (some 75) (.bool false) := ⟨_, rfl⟩
  have qz4 : 92 < a0_4.tmps.size := by rw [ha4, sz_put]; exact qz3
  have f4_1 : a0_4.eval (.tmp 1) = .int .i64 (sk : Int) := by rw [ha4, ev_other _ _ _ _ (by decide)]; exact f3_1
  have f4_5 : a0_4.eval (.tmp 5) = .pointer (some ⟨zp, 0, none⟩) := by rw [ha4, ev_other _ _ _ _ (by decide)]; exact f3_5
  have f4_9 : a0_4.eval (.tmp 9) = .pointer (some ⟨zk, 0, none⟩) := by rw [ha4, ev_other _ _ _ _ (by decide)]; exact f3_9
  have f4_75 : a0_4.eval (.tmp 75) = .bool false := by rw [ha4]; exact ev_same _ _ _ (Nat.lt_of_le_of_lt (by decide) qz3)
  rw [← ha4] at h0 ⊢
  clear ha4
  refine wpAnyH_take (i := 4) (oi := pa_4 s) (v := undef) (by kernel_rfl) (by kernel_rfl) (by kernel_rfl) (by kernel_rfl) (fun c a w h => hQ c _ _ _ w h) (Or.inr ⟨wanted_no rfl (by kernel_rfl) f4_75 (Nat.lt_of_le_of_lt (by decide) qz4), rfl⟩) hS ?_
  change wpAnyH _ _ _ _ _ _ _ (a0_4.put (some 76) (undef)) _
  obtain ⟨a0_5, ha5⟩ : ∃ rr : Act, rr = a0_4.put (some 76) (undef) := ⟨_, rfl⟩
  have qz5 : 92 < a0_5.tmps.size := by rw [ha5, sz_put]; exact qz4
  have f5_1 : a0_5.eval (.tmp 1) = .int .i64 (sk : Int) := by rw [ha5, ev_other _ _ _ _ (by decide)]; exact f4_1
  have f5_5 : a0_5.eval (.tmp 5) = .pointer (some ⟨zp, 0, none⟩) := by rw [ha5, ev_other _ _ _ _ (by decide)]; exact f4_5
  have f5_9 : a0_5.eval (.tmp 9) = .pointer (some ⟨zk, 0, none⟩) := by rw [ha5, ev_other _ _ _ _ (by decide)]; exact f4_9
  have f5_75 : a0_5.eval (.tmp 75) = .bool false := by rw [ha5, ev_other _ _ _ _ (by decide)]; exact f4_75
  rw [← ha5] at h0 ⊢
  clear ha5
  refine wpAnyH_take (i := 5) (oi := pa_5 s) (v := undef) (by kernel_rfl) (by kernel_rfl) (by kernel_rfl) (by kernel_rfl) (fun c a w h => hQ c _ _ _ w h) (Or.inr ⟨wanted_no rfl (by kernel_rfl) f5_75 (Nat.lt_of_le_of_lt (by decide) qz5), rfl⟩) hS ?_
  change wpAnyH _ _ _ _ _ _ _ (a0_5.put (some 77) (undef)) _
  obtain ⟨a0_6, ha6⟩ : ∃ rr : Act, rr = a0_5.put (some 77) (undef) := ⟨_, rfl⟩
  have qz6 : 92 < a0_6.tmps.size := by rw [ha6, sz_put]; exact qz5
  have f6_1 : a0_6.eval (.tmp 1) = .int .i64 (sk : Int) := by rw [ha6, ev_other _ _ _ _ (by decide)]; exact f5_1
  have f6_5 : a0_6.eval (.tmp 5) = .pointer (some ⟨zp, 0, none⟩) := by rw [ha6, ev_other _ _ _ _ (by decide)]; exact f5_5
  have f6_9 : a0_6.eval (.tmp 9) = .pointer (some ⟨zk, 0, none⟩) := by rw [ha6, ev_other _ _ _ _ (by decide)]; exact f5_9
  have f6_75 : a0_6.eval (.tmp 75) = .bool false := by rw [ha6, ev_other _ _ _ _ (by decide)]; exact f5_75
  rw [← ha6] at h0 ⊢
  clear ha6
  refine wpAnyH_take (i := 6) (oi := pa_6 s) (v := undef) (by kernel_rfl) (by kernel_rfl) (by kernel_rfl) (by kernel_rfl) (fun c a w h => hQ c _ _ _ w h) (Or.inr ⟨wanted_no rfl (by kernel_rfl) f6_75 (Nat.lt_of_le_of_lt (by decide) qz6), rfl⟩) hS ?_
  change wpAnyH _ _ _ _ _ _ _ (a0_6.put (some 78) (undef)) _
  obtain ⟨a0_7, ha7⟩ : ∃ rr : Act, rr = a0_6.put (some 78) (undef) := ⟨_, rfl⟩
  have qz7 : 92 < a0_7.tmps.size := by rw [ha7, sz_put]; exact qz6
  have f7_1 : a0_7.eval (.tmp 1) = .int .i64 (sk : Int) := by rw [ha7, ev_other _ _ _ _ (by decide)]; exact f6_1
  have f7_5 : a0_7.eval (.tmp 5) = .pointer (some ⟨zp, 0, none⟩) := by rw [ha7, ev_other _ _ _ _ (by decide)]; exact f6_5
  have f7_9 : a0_7.eval (.tmp 9) = .pointer (some ⟨zk, 0, none⟩) := by rw [ha7, ev_other _ _ _ _ (by decide)]; exact f6_9
  have f7_75 : a0_7.eval (.tmp 75) = .bool false := by rw [ha7, ev_other _ _ _ _ (by decide)]; exact f6_75
  rw [← ha7] at h0 ⊢
  clear ha7
  refine wpAnyH_take (i := 7) (oi := pa_7 s) (v := undef) (by kernel_rfl) (by kernel_rfl) (by kernel_rfl) (by kernel_rfl) (fun c a w h => hQ c _ _ _ w h) (Or.inr ⟨wanted_no rfl (by kernel_rfl) f7_75 (Nat.lt_of_le_of_lt (by decide) qz7), rfl⟩) hS ?_
  change wpAnyH _ _ _ _ _ _ _ (a0_7.put (some 79) (undef)) _
  obtain ⟨a0_8, ha8⟩ : ∃ rr : Act, rr = a0_7.put (some 79) (undef) := ⟨_, rfl⟩
  have qz8 : 92 < a0_8.tmps.size := by rw [ha8, sz_put]; exact qz7
  have f8_1 : a0_8.eval (.tmp 1) = .int .i64 (sk : Int) := by rw [ha8, ev_other _ _ _ _ (by decide)]; exact f7_1
  have f8_5 : a0_8.eval (.tmp 5) = .pointer (some ⟨zp, 0, none⟩) := by rw [ha8, ev_other _ _ _ _ (by decide)]; exact f7_5
  have f8_9 : a0_8.eval (.tmp 9) = .pointer (some ⟨zk, 0, none⟩) := by rw [ha8, ev_other _ _ _ _ (by decide)]; exact f7_9
  have f8_75 : a0_8.eval (.tmp 75) = .bool false := by rw [ha8, ev_other _ _ _ _ (by decide)]; exact f7_75
  rw [← ha8] at h0 ⊢
  clear ha8
  refine wpAnyH_take (i := 8) (oi := pa_8 s) (v := undef) (by kernel_rfl) (by kernel_rfl) (by kernel_rfl) (by kernel_rfl) (fun c a w h => hQ c _ _ _ w h) (Or.inr ⟨wanted_no rfl (by kernel_rfl) f8_75 (Nat.lt_of_le_of_lt (by decide) qz8), rfl⟩) hS ?_
  change wpAnyH _ _ _ _ _ _ _ (a0_8.put (some 80) (undef)) _
  obtain ⟨a0_9, ha9⟩ : ∃ rr : Act, rr = a0_8.put (some 80) (undef) := ⟨_, rfl⟩
  have qz9 : 92 < a0_9.tmps.size := by rw [ha9, sz_put]; exact qz8
  have f9_1 : a0_9.eval (.tmp 1) = .int .i64 (sk : Int) := by rw [ha9, ev_other _ _ _ _ (by decide)]; exact f8_1
  have f9_5 : a0_9.eval (.tmp 5) = .pointer (some ⟨zp, 0, none⟩) := by rw [ha9, ev_other _ _ _ _ (by decide)]; exact f8_5
  have f9_9 : a0_9.eval (.tmp 9) = .pointer (some ⟨zk, 0, none⟩) := by rw [ha9, ev_other _ _ _ _ (by decide)]; exact f8_9
  have f9_75 : a0_9.eval (.tmp 75) = .bool false := by rw [ha9, ev_other _ _ _ _ (by decide)]; exact f8_75
  rw [← ha9] at h0 ⊢
  clear ha9
  refine wpAnyH_take (i := 9) (oi := pa_9 s) (v := undef) (by kernel_rfl) (by kernel_rfl) (by kernel_rfl) (by kernel_rfl) (fun c a w h => hQ c _ _ _ w h) (Or.inr ⟨wanted_no rfl (by kernel_rfl) f9_75 (Nat.lt_of_le_of_lt (by decide) qz9), rfl⟩) hS ?_
  change wpAnyH _ _ _ _ _ _ _ (a0_9.put (some 81) (undef)) _
  obtain ⟨a0_10, ha10⟩ : ∃ rr : Act, rr = a0_9.put (some 81) (undef) := ⟨_, rfl⟩
  have qz10 : 92 < a0_10.tmps.size := by rw [ha10, sz_put]; exact qz9
  have f10_1 : a0_10.eval (.tmp 1) = .int .i64 (sk : Int) := by rw [ha10, ev_other _ _ _ _ (by decide)]; exact f9_1
  have f10_5 : a0_10.eval (.tmp 5) = .pointer (some ⟨zp, 0, none⟩) := by rw [ha10, ev_other _ _ _ _ (by decide)]; exact f9_5
  have f10_9 : a0_10.eval (.tmp 9) = .pointer (some ⟨zk, 0, none⟩) := by rw [ha10, ev_other _ _ _ _ (by decide)]; exact f9_9
  have f10_75 : a0_10.eval (.tmp 75) = .bool false := by rw [ha10, ev_other _ _ _ _ (by decide)]; exact f9_75
  rw [← ha10] at h0 ⊢
  clear ha10
  refine wpAnyH_take (i := 10) (oi := pa_10 s) (v := undef) (by kernel_rfl) (by kernel_rfl) (by kernel_rfl) (by kernel_rfl) (fun c a w h => hQ c _ _ _ w h) (Or.inr ⟨wanted_no rfl (by kernel_rfl) f10_75 (Nat.lt_of_le_of_lt (by decide) qz10), rfl⟩) hS ?_
  change wpAnyH _ _ _ _ _ _ _ (a0_10.put (some 82) (undef)) _
  obtain ⟨a0_11, ha11⟩ : ∃ rr : Act, rr = a0_10.put (some 82) (undef) := ⟨_, rfl⟩
  have qz11 : 92 < a0_11.tmps.size := by rw [ha11, sz_put]; exact qz10
  have f11_1 : a0_11.eval (.tmp 1) = .int .i64 (sk : Int) := by rw [ha11, ev_other _ _ _ _ (by decide)]; exact f10_1
  have f11_5 : a0_11.eval (.tmp 5) = .pointer (some ⟨zp, 0, none⟩) := by rw [ha11, ev_other _ _ _ _ (by decide)]; exact f10_5
  have f11_9 : a0_11.eval (.tmp 9) = .pointer (some ⟨zk, 0, none⟩) := by rw [ha11, ev_other _ _ _ _ (by decide)]; exact f10_9
  have f11_75 : a0_11.eval (.tmp 75) = .bool false := by rw [ha11, ev_other _ _ _ _ (by decide)]; exact f10_75
  rw [← ha11] at h0 ⊢
  clear ha11
  refine wpAnyH_take (i := 11) (oi := pa_11 s) (v := undef) (by kernel_rfl) (by kernel_rfl) (by kernel_rfl) (by kernel_rfl) (fun c a w h => hQ c _ _ _ w h) (Or.inr ⟨wanted_no rfl (by kernel_rfl) f11_75 (Nat.lt_of_le_of_lt (by decide) qz11), rfl⟩) hS ?_
  change wpAnyH _ _ _ _ _ _ _ (a0_11.put (some 83) (undef)) _
  obtain ⟨a0_12, ha12⟩ : ∃ rr : Act, rr = a0_11.put (some 83) (undef) := ⟨_, rfl⟩
  have qz12 : 92 < a0_12.tmps.size := by rw [ha12, sz_put]; exact qz11
  have f12_1 : a0_12.eval (.tmp 1) = .int .i64 (sk : Int) := by rw [ha12, ev_other _ _ _ _ (by decide)]; exact f11_1
  have f12_5 : a0_12.eval (.tmp 5) = .pointer (some ⟨zp, 0, none⟩) := by rw [ha12, ev_other _ _ _ _ (by decide)]; exact f11_5
  have f12_9 : a0_12.eval (.tmp 9) = .pointer (some ⟨zk, 0, none⟩) := by rw [ha12, ev_other _ _ _ _ (by decide)]; exact f11_9
  have f12_75 : a0_12.eval (.tmp 75) = .bool false := by rw [ha12, ev_other _ _ _ _ (by decide)]; exact f11_75
  rw [← ha12] at h0 ⊢
  clear ha12
  refine wpAnyH_take (i := 12) (oi := pa_12 s) (v := undef) (by kernel_rfl) (by kernel_rfl) (by kernel_rfl) (by kernel_rfl) (fun c a w h => hQ c _ _ _ w h) (Or.inr ⟨wanted_no rfl (by kernel_rfl) f12_75 (Nat.lt_of_le_of_lt (by decide) qz12), rfl⟩) hS ?_
  change wpAnyH _ _ _ _ _ _ _ (a0_12.put (some 84) (undef)) _
  obtain ⟨a0_13, ha13⟩ : ∃ rr : Act, rr = a0_12.put (some 84) (undef) := ⟨_, rfl⟩
  have qz13 : 92 < a0_13.tmps.size := by rw [ha13, sz_put]; exact qz12
  have f13_1 : a0_13.eval (.tmp 1) = .int .i64 (sk : Int) := by rw [ha13, ev_other _ _ _ _ (by decide)]; exact f12_1
  have f13_5 : a0_13.eval (.tmp 5) = .pointer (some ⟨zp, 0, none⟩) := by rw [ha13, ev_other _ _ _ _ (by decide)]; exact f12_5
  have f13_9 : a0_13.eval (.tmp 9) = .pointer (some ⟨zk, 0, none⟩) := by rw [ha13, ev_other _ _ _ _ (by decide)]; exact f12_9
  have f13_75 : a0_13.eval (.tmp 75) = .bool false := by rw [ha13, ev_other _ _ _ _ (by decide)]; exact f12_75
  have f13_84 : a0_13.eval (.tmp 84) = undef := by rw [ha13]; exact ev_same _ _ _ (Nat.lt_of_le_of_lt (by decide) qz12)
  rw [← ha13] at h0 ⊢
  clear ha13
  refine wpAnyH_take (i := 13) (oi := pa_13 s) (v := .bool false) (by kernel_rfl) (by kernel_rfl) (by kernel_rfl) (by kernel_rfl) (fun c a w h => hQ c _ _ _ w h) (Or.inl ⟨wanted_none rfl, fun w hw => by simp only [execOp, pa_13, f13_75]; rfl⟩) hS ?_
  change wpAnyH _ _ _ _ _ _ _ (a0_13.put (some 85) (.bool false)) _
  obtain ⟨a0_14, ha14⟩ : ∃ rr : Act, rr = a0_13.put (some 85) (.bool false) := ⟨_, rfl⟩
  have qz14 : 92 < a0_14.tmps.size := by rw [ha14, sz_put]; exact qz13
  have f14_1 : a0_14.eval (.tmp 1) = .int .i64 (sk : Int) := by rw [ha14, ev_other _ _ _ _ (by decide)]; exact f13_1
  have f14_5 : a0_14.eval (.tmp 5) = .pointer (some ⟨zp, 0, none⟩) := by rw [ha14, ev_other _ _ _ _ (by decide)]; exact f13_5
  have f14_9 : a0_14.eval (.tmp 9) = .pointer (some ⟨zk, 0, none⟩) := by rw [ha14, ev_other _ _ _ _ (by decide)]; exact f13_9
  have f14_85 : a0_14.eval (.tmp 85) = .bool false := by rw [ha14]; exact ev_same _ _ _ (Nat.lt_of_le_of_lt (by decide) qz13)
  rw [← ha14] at h0 ⊢
  clear ha14
  refine wpAnyH_take (i := 14) (oi := pa_14 s) (v := .bool false) (by kernel_rfl) (by kernel_rfl) (by kernel_rfl) (by kernel_rfl) (fun c a w h => hQ c _ _ _ w h) (Or.inl ⟨wanted_none rfl, fun w hw => by simp only [execOp, pa_14, f14_85]; rfl⟩) hS ?_
  change wpAnyH _ _ _ _ _ _ _ (a0_14.put (some 86) (.bool false)) _
  obtain ⟨a0_15, ha15⟩ : ∃ rr : Act, rr = a0_14.put (some 86) (.bool false) := ⟨_, rfl⟩
  have qz15 : 92 < a0_15.tmps.size := by rw [ha15, sz_put]; exact qz14
  have f15_1 : a0_15.eval (.tmp 1) = .int .i64 (sk : Int) := by rw [ha15, ev_other _ _ _ _ (by decide)]; exact f14_1
  have f15_5 : a0_15.eval (.tmp 5) = .pointer (some ⟨zp, 0, none⟩) := by rw [ha15, ev_other _ _ _ _ (by decide)]; exact f14_5
  have f15_9 : a0_15.eval (.tmp 9) = .pointer (some ⟨zk, 0, none⟩) := by rw [ha15, ev_other _ _ _ _ (by decide)]; exact f14_9
  have f15_86 : a0_15.eval (.tmp 86) = .bool false := by rw [ha15]; exact ev_same _ _ _ (Nat.lt_of_le_of_lt (by decide) qz14)
  rw [← ha15] at h0 ⊢
  clear ha15
  refine wpAnyH_take (i := 15) (oi := pa_15 s) (v := .pointer (some ⟨zp, 0, none⟩)) (by kernel_rfl) (by kernel_rfl) (by kernel_rfl) (by kernel_rfl) (fun c a w h => hQ c _ _ _ w h) (Or.inl ⟨wanted_some rfl (by kernel_rfl) f15_86 (Nat.lt_of_le_of_lt (by decide) qz15), fun w hw => by simp only [execOp, pa_15, f15_5]; rfl⟩) hS ?_
  change wpAnyH _ _ _ _ _ _ _ (a0_15.put (some 87) (.pointer (some ⟨zp, 0, none⟩))) _
  obtain ⟨a0_16, ha16⟩ : ∃ rr : Act, rr = a0_15.put (some 87) (.pointer (some ⟨zp, 0, none⟩)) := ⟨_, rfl⟩
  have qz16 : 92 < a0_16.tmps.size := by rw [ha16, sz_put]; exact qz15
  have f16_1 : a0_16.eval (.tmp 1) = .int .i64 (sk : Int) := by rw [ha16, ev_other _ _ _ _ (by decide)]; exact f15_1
  have f16_9 : a0_16.eval (.tmp 9) = .pointer (some ⟨zk, 0, none⟩) := by rw [ha16, ev_other _ _ _ _ (by decide)]; exact f15_9
  have f16_86 : a0_16.eval (.tmp 86) = .bool false := by rw [ha16, ev_other _ _ _ _ (by decide)]; exact f15_86
  have f16_87 : a0_16.eval (.tmp 87) = .pointer (some ⟨zp, 0, none⟩) := by rw [ha16]; exact ev_same _ _ _ (Nat.lt_of_le_of_lt (by decide) qz15)
  rw [← ha16] at h0 ⊢
  clear ha16
  refine wpAnyH_take (i := 16) (oi := pa_16 s) (v := .int .i64 (sk : Int)) (by kernel_rfl) (by kernel_rfl) (by kernel_rfl) (by kernel_rfl) (fun c a w h => hQ c _ _ _ w h) (Or.inl ⟨wanted_some rfl (by kernel_rfl) f16_86 (Nat.lt_of_le_of_lt (by decide) qz16), fun w hw => by simp only [execOp, pa_16, f16_1]; rfl⟩) hS ?_
  change wpAnyH _ _ _ _ _ _ _ (a0_16.put (some 88) (.int .i64 (sk : Int))) _
  obtain ⟨a0_17, ha17⟩ : ∃ rr : Act, rr = a0_16.put (some 88) (.int .i64 (sk : Int)) := ⟨_, rfl⟩
  have qz17 : 92 < a0_17.tmps.size := by rw [ha17, sz_put]; exact qz16
  have f17_9 : a0_17.eval (.tmp 9) = .pointer (some ⟨zk, 0, none⟩) := by rw [ha17, ev_other _ _ _ _ (by decide)]; exact f16_9
  have f17_86 : a0_17.eval (.tmp 86) = .bool false := by rw [ha17, ev_other _ _ _ _ (by decide)]; exact f16_86
  have f17_87 : a0_17.eval (.tmp 87) = .pointer (some ⟨zp, 0, none⟩) := by rw [ha17, ev_other _ _ _ _ (by decide)]; exact f16_87
  have f17_88 : a0_17.eval (.tmp 88) = .int .i64 (sk : Int) := by rw [ha17]; exact ev_same _ _ _ (Nat.lt_of_le_of_lt (by decide) qz16)
  rw [← ha17] at h0 ⊢
  clear ha17
  refine wpAnyH_take (i := 17) (oi := pa_17 s) (v := keyV k) (by kernel_rfl) (by kernel_rfl) (by kernel_rfl) (by kernel_rfl) (fun c a w h => hQ c _ _ _ w h) (Or.inl ⟨wanted_some rfl (by kernel_rfl) f17_86 (Nat.lt_of_le_of_lt (by decide) qz17), fun w hw => run_load rfl f17_9 hw.1.load⟩) hS ?_
  change wpAnyH _ _ _ _ _ _ _ (a0_17.put (some 89) (keyV k)) _
  obtain ⟨a0_18, ha18⟩ : ∃ rr : Act, rr = a0_17.put (some 89) (keyV k) := ⟨_, rfl⟩
  have qz18 : 92 < a0_18.tmps.size := by rw [ha18, sz_put]; exact qz17
  have f18_86 : a0_18.eval (.tmp 86) = .bool false := by rw [ha18, ev_other _ _ _ _ (by decide)]; exact f17_86
  have f18_87 : a0_18.eval (.tmp 87) = .pointer (some ⟨zp, 0, none⟩) := by rw [ha18, ev_other _ _ _ _ (by decide)]; exact f17_87
  have f18_88 : a0_18.eval (.tmp 88) = .int .i64 (sk : Int) := by rw [ha18, ev_other _ _ _ _ (by decide)]; exact f17_88
  have f18_89 : a0_18.eval (.tmp 89) = keyV k := by rw [ha18]; exact ev_same _ _ _ (Nat.lt_of_le_of_lt (by decide) qz17)
  rw [← ha18] at h0 ⊢
  clear ha18
  refine wpAnyH_ready (rs := [18]) (by kernel_rfl) (by simp) ?_
  refine AllReadyH.cons (o := pa_18 s) (by kernel_rfl) (fun KQ hKQ => ?_) AllReadyH.nil
  rw [if_pos (wanted_some rfl (by kernel_rfl) f18_86 (Nat.lt_of_le_of_lt (by decide) qz18))]
  refine step_enterE 13 #[.pointer (some ⟨zp, 0, none⟩), .int .i64 (sk : Int), keyV k] (by rw [pa_enter18, f18_87, f18_88, f18_89]) (fun V w' => V = .bool true ∧ Below W.heap.size W w') ((hc2 _ (below_d W)).mono (fun e w' h => ⟨_, h.1, rfl, (below_d W).trans (h.2.mono (below_d W).size)⟩)) ?_
  rintro _ w2 ⟨rfl, hb2⟩
  refine hKQ.out _ _ (hk w2 hb2) (fun _ => ?_)
  clear hKQ KQ
  change wpAnyH _ _ _ _ _ _ _ (a0_18.put (some 90) (.bool true)) _
  have h0 := h0 w2 hb2
  obtain ⟨a0_19, ha19⟩ : ∃ rr : Act, rr = a0_18.put (some 90) (.bool true) := ⟨_, rfl⟩
  have qz19 : 92 < a0_19.tmps.size := by rw [ha19, sz_put]; exact qz18
  have f19_86 : a0_19.eval (.tmp 86) = .bool false := by rw [ha19, ev_other _ _ _ _ (by decide)]; exact f18_86
  have f19_90 : a0_19.eval (.tmp 90) = .bool true := by rw [ha19]; exact ev_same _ _ _ (Nat.lt_of_le_of_lt (by decide) qz18)
  rw [← ha19] at h0 ⊢
  clear ha19
  refine wpAnyH_take (i := 19) (oi := pa_19 s) (v := .bool false) (by kernel_rfl) (by kernel_rfl) (by kernel_rfl) (by kernel_rfl) (fun c a w h => hQ c _ _ _ w h) (Or.inl ⟨wanted_some rfl (by kernel_rfl) f19_86 (Nat.lt_of_le_of_lt (by decide) qz19), fun w hw => by simp only [execOp, pa_19, f19_90]; kernel_rfl⟩) (hk w2 hb2) ?_
  change wpAnyH _ _ _ _ _ _ _ (a0_19.put (some 91) (.bool false)) _
  obtain ⟨a0_20, ha20⟩ : ∃ rr : Act, rr = a0_19.put (some 91) (.bool false) := ⟨_, rfl⟩
  have qz20 : 92 < a0_20.tmps.size := by rw [ha20, sz_put]; exact qz19
  have f20_86 : a0_20.eval (.tmp 86) = .bool false := by rw [ha20, ev_other _ _ _ _ (by decide)]; exact f19_86
  have f20_91 : a0_20.eval (.tmp 91) = .bool false := by rw [ha20]; exact ev_same _ _ _ (Nat.lt_of_le_of_lt (by decide) qz19)
  rw [← ha20] at h0 ⊢
  clear ha20
  refine wpAnyH_take (i := 20) (oi := pa_20 s) (v := .bool false) (by kernel_rfl) (by kernel_rfl) (by kernel_rfl) (by kernel_rfl) (fun c a w h => hQ c _ _ _ w h) (Or.inl ⟨wanted_none rfl, fun w hw => by simp only [execOp, pa_20, f20_86, f20_91]; rfl⟩) (hk w2 hb2) ?_
  change wpAnyH _ _ _ _ _ _ _ (a0_20.put (some 92) (.bool false)) _
  obtain ⟨a0_21, ha21⟩ : ∃ rr : Act, rr = a0_20.put (some 92) (.bool false) := ⟨_, rfl⟩
  have qz21 : 92 < a0_21.tmps.size := by rw [ha21, sz_put]; exact qz20
  rw [← ha21] at h0 ⊢
  clear ha21
  refine wpAnyH_done (by kernel_rfl) ?_ _
  exact h0
def pb_0 (s : String) : Oper := { dst := some 72, op := Op.move (Operand.tmp 8), type := 42, pos := s, after := #[], guard := none }
def pb_1 (s : String) : Oper := { dst := some 73, op := Op.call { callee := Callee.builtin Builtin.len, args := #[Operand.tmp 72], argTypes := #[42] }, type := 3, pos := s, after := #[{ on := 0, ground := Ground.data }], guard := none }
def pb_2 (s : String) : Oper := { dst := some 74, op := Op.binOp BinOp.gtr 3 (Operand.tmp 73) (Operand.const (Value.int IntKind.i64 0)) 3, type := 4, pos := s, after := #[{ on := 1, ground := Ground.data }], guard := none }
def pb_3 (s : String) : Oper := { dst := some 75, op := Op.move (Operand.tmp 74), type := 4, pos := s, after := #[{ on := 2, ground := Ground.data }], guard := none }
def pb_4 (s : String) : Oper := { dst := some 76, op := Op.move (Operand.tmp 8), type := 42, pos := s, after := #[{ on := 3, ground := Ground.guard }], guard := some (3, true) }
def pb_5 (s : String) : Oper := { dst := some 77, op := Op.move (Operand.tmp 8), type := 42, pos := s, after := #[{ on := 3, ground := Ground.guard }], guard := some (3, true) }
def pb_6 (s : String) : Oper := { dst := some 78, op := Op.call { callee := Callee.builtin Builtin.len, args := #[Operand.tmp 77], argTypes := #[42] }, type := 3, pos := s, after := #[{ on := 5, ground := Ground.data }, { on := 3, ground := Ground.guard }], guard := some (3, true) }
def pb_7 (s : String) : Oper := { dst := some 79, op := Op.binOp BinOp.sub 3 (Operand.tmp 78) (Operand.const (Value.int IntKind.i64 1)) 3, type := 3, pos := s, after := #[{ on := 6, ground := Ground.data }, { on := 3, ground := Ground.guard }], guard := some (3, true) }
def pb_8 (s : String) : Oper := { dst := some 80, op := Op.indexAddr 42 (Operand.tmp 76) (Operand.tmp 79), type := 0, pos := s, after := #[{ on := 4, ground := Ground.data }, { on := 7, ground := Ground.data }, { on := 3, ground := Ground.guard }], guard := some (3, true) }
def pb_9 (s : String) : Oper := { dst := some 81, op := Op.load 30 (Operand.tmp 80), type := 30, pos := s, after := #[{ on := 8, ground := Ground.data }, { on := 3, ground := Ground.guard }], guard := some (3, true) }
def pb_10 (s : String) : Oper := { dst := some 82, op := Op.load 30 (Operand.tmp 9), type := 30, pos := s, after := #[{ on := 3, ground := Ground.guard }], guard := some (3, true) }
def pb_11 (s : String) : Oper := { dst := some 83, op := Op.call { callee := Callee.value (Operand.func 12), args := #[Operand.tmp 81, Operand.tmp 82], argTypes := #[30, 30] }, type := 4, pos := s, after := #[{ on := 9, ground := Ground.data }, { on := 10, ground := Ground.data }, { on := 3, ground := Ground.chain }, { on := 3, ground := Ground.guard }], guard := some (3, true) }
def pb_12 (s : String) : Oper := { dst := some 84, op := Op.unOp UnOp.not 4 (Operand.tmp 83), type := 4, pos := s, after := #[{ on := 11, ground := Ground.data }, { on := 3, ground := Ground.guard }], guard := some (3, true) }
def pb_13 (s : String) : Oper := { dst := some 85, op := Op.pick (Operand.tmp 75) (Operand.tmp 84) (Operand.const (Value.bool false)), type := 4, pos := s, after := #[{ on := 3, ground := Ground.data }, { on := 12, ground := Ground.data }], guard := none }
def pb_14 (s : String) : Oper := { dst := some 86, op := Op.move (Operand.tmp 85), type := 4, pos := s, after := #[{ on := 13, ground := Ground.data }, { on := 11, ground := Ground.chain }], guard := none }
def pb_15 (s : String) : Oper := { dst := some 87, op := Op.move (Operand.tmp 5), type := 23, pos := s, after := #[{ on := 14, ground := Ground.guard }], guard := some (14, false) }
def pb_16 (s : String) : Oper := { dst := some 88, op := Op.move (Operand.tmp 1), type := 3, pos := s, after := #[{ on := 14, ground := Ground.guard }], guard := some (14, false) }
def pb_17 (s : String) : Oper := { dst := some 89, op := Op.load 30 (Operand.tmp 9), type := 30, pos := s, after := #[{ on := 14, ground := Ground.guard }], guard := some (14, false) }
def pb_18 (s : String) : Oper := { dst := some 90, op := Op.call { callee := Callee.value (Operand.func 13), args := #[Operand.tmp 87, Operand.tmp 88, Operand.tmp 89], argTypes := #[23, 3, 30] }, type := 4, pos := s, after := #[{ on := 15, ground := Ground.data }, { on := 16, ground := Ground.data }, { on := 17, ground := Ground.data }, { on := 14, ground := Ground.chain }, { on := 14, ground := Ground.guard }], guard := some (14, false) }
def pb_19 (s : String) : Oper := { dst := some 91, op := Op.unOp UnOp.not 4 (Operand.tmp 90), type := 4, pos := s, after := #[{ on := 18, ground := Ground.data }, { on := 14, ground := Ground.guard }], guard := some (14, false) }
def pb_20 (s : String) : Oper := { dst := some 92, op := Op.pick (Operand.tmp 86) (Operand.const (Value.bool true)) (Operand.tmp 91), type := 4, pos := s, after := #[{ on := 14, ground := Ground.data }, { on := 19, ground := Ground.data }], guard := none }
def pb_ops (s : String) : Array Oper := #[pb_0 s, pb_1 s, pb_2 s, pb_3 s, pb_4 s, pb_5 s, pb_6 s, pb_7 s, pb_8 s, pb_9 s, pb_10 s, pb_11 s, pb_12 s, pb_13 s, pb_14 s, pb_15 s, pb_16 s, pb_17 s, pb_18 s, pb_19 s, pb_20 s]
theorem pb_enter11 (s : String) (a : Act) (w : World) : (execOp a.eval (pb_11 s)).run Try.prog w = .ok (.enter 12 #[a.eval (.tmp 81), a.eval (.tmp 82)]) w := by kernel_rfl
theorem pb_enter18 (s : String) (a : Act) (w : World) : (execOp a.eval (pb_18 s)).run Try.prog w = .ok (.enter 13 #[a.eval (.tmp 87), a.eval (.tmp 88), a.eval (.tmp 89)]) w := by kernel_rfl
theorem pb_walk (s : String) {Q : Exit → Act → World → Prop} (hQ : ∀ c (a : Act) t v w, Q (.panic c) (a.put (some t) v) w → Q (.panic c) a w) (W : World) (zp zk : Nat) (sk : Nat) (k : List UInt8) (g m cap : Nat) (last : List UInt8) (hm : 1 ≤ m) (hm2 : m ≤ 9223372036854775807) (hlast : last.length = 32) (hk : ∀ w', Below W.heap.size W w' → KeyAt w' zk k ∧ w'.rangeAt g ((m - 1) * 32) (last.map u8c)) (hc1 : Calls Try.prog 12 #[keyV last, keyV k] W.drew fun e w' => e = .returned (.bool true) ∧ Below W.drew.heap.size W.drew w') (hc2 : ∀ w1, Below W.heap.size W w1 → Calls Try.prog 13 #[.pointer (some ⟨zp, 0, none⟩), .int .i64 (sk : Int), keyV k] w1 fun e w' => e = .returned (.bool true) ∧ Below w1.heap.size w1 w')
    (a : Act) (hs : 92 < a.tmps.size) (e1 : a.eval (.tmp 1) = .int .i64 (sk : Int)) (e5 : a.eval (.tmp 5) = .pointer (some ⟨zp, 0, none⟩)) (e8 : a.eval (.tmp 8) = .slice (some ⟨g, 0, none⟩) m cap) (e9 : a.eval (.tmp 9) = .pointer (some ⟨zk, 0, none⟩))
    (h0 : ∀ w2, Below W.heap.size W w2 → Q .normal (((((((((((((((((((((a.put (some 72) (.slice (some ⟨g, 0, none⟩) m cap)).put (some 73) (.int .i64 (m : Int))).put (some 74) (.bool true)).put (some 75) (.bool true)).put (some 76) (.slice (some ⟨g, 0, none⟩) m cap)).put (some 77) (.slice (some ⟨g, 0, none⟩) m cap)).put (some 78) (.int .i64 (m : Int))).put (some 79) (.int .i64 ((m - 1 : Nat) : Int))).put (some 80) (.pointer (some ⟨g, (m - 1) * 32, none⟩))).put (some 81) (keyV last)).put (some 82) (keyV k)).put (some 83) (.bool true)).put (some 84) (.bool false)).put (some 85) (.bool false)).put (some 86) (.bool false)).put (some 87) (.pointer (some ⟨zp, 0, none⟩))).put (some 88) (.int .i64 (sk : Int))).put (some 89) (keyV k)).put (some 90) (.bool true)).put (some 91) (.bool false)).put (some 92) (.bool false)) w2) :
    Code.wp Try.prog (.region 19 (pb_ops s) true) Q a W := by
  refine wp_region_held_drew (S := fun w => KeyAt w zk k ∧ w.rangeAt g ((m - 1) * 32) (last.map u8c)) (by kernel_rfl) (hk _ (below_d W)) (fun hS => ?_)
  change wpAnyH _ _ _ _ _ _ _ _ (World.drew _)
  refine wpAnyH_take (i := 0) (oi := pb_0 s) (v := .slice (some ⟨g, 0, none⟩) m cap) (by kernel_rfl) (by kernel_rfl) (by kernel_rfl) (by kernel_rfl) (fun c a w h => hQ c _ _ _ w h) (Or.inl ⟨wanted_none rfl, fun w hw => by simp only [execOp, pb_0, e8]; rfl⟩) hS ?_
  change wpAnyH _ _ _ _ _ _ _ (a.put (some 72) (.slice (some ⟨g, 0, none⟩) m cap)) _
  obtain ⟨a0_1, ha1⟩ : ∃ rr : Act, rr = a.put (some 72) (.slice (some ⟨g, 0, none⟩) m cap) := ⟨_, rfl⟩
  have qz1 : 92 < a0_1.tmps.size := by rw [ha1, sz_put]; exact hs
  have f1_1 : a0_1.eval (.tmp 1) = .int .i64 (sk : Int) := by rw [ha1, ev_other _ _ _ _ (by decide)]; exact e1
  have f1_5 : a0_1.eval (.tmp 5) = .pointer (some ⟨zp, 0, none⟩) := by rw [ha1, ev_other _ _ _ _ (by decide)]; exact e5
  have f1_8 : a0_1.eval (.tmp 8) = .slice (some ⟨g, 0, none⟩) m cap := by rw [ha1, ev_other _ _ _ _ (by decide)]; exact e8
  have f1_9 : a0_1.eval (.tmp 9) = .pointer (some ⟨zk, 0, none⟩) := by rw [ha1, ev_other _ _ _ _ (by decide)]; exact e9
  have f1_72 : a0_1.eval (.tmp 72) = .slice (some ⟨g, 0, none⟩) m cap := by rw [ha1]; exact ev_same _ _ _ (Nat.lt_of_le_of_lt (by decide) hs)
  rw [← ha1] at h0 ⊢
  clear ha1
  refine wpAnyH_take (i := 1) (oi := pb_1 s) (v := .int .i64 (m : Int)) (by kernel_rfl) (by kernel_rfl) (by kernel_rfl) (by kernel_rfl) (fun c a w h => hQ c _ _ _ w h) (Or.inl ⟨wanted_none rfl, fun w hw => run_lenQ rfl f1_72 w⟩) hS ?_
  change wpAnyH _ _ _ _ _ _ _ (a0_1.put (some 73) (.int .i64 (m : Int))) _
  obtain ⟨a0_2, ha2⟩ : ∃ rr : Act, rr = a0_1.put (some 73) (.int .i64 (m : Int)) := ⟨_, rfl⟩
  have qz2 : 92 < a0_2.tmps.size := by rw [ha2, sz_put]; exact qz1
  have f2_1 : a0_2.eval (.tmp 1) = .int .i64 (sk : Int) := by rw [ha2, ev_other _ _ _ _ (by decide)]; exact f1_1
  have f2_5 : a0_2.eval (.tmp 5) = .pointer (some ⟨zp, 0, none⟩) := by rw [ha2, ev_other _ _ _ _ (by decide)]; exact f1_5
  have f2_8 : a0_2.eval (.tmp 8) = .slice (some ⟨g, 0, none⟩) m cap := by rw [ha2, ev_other _ _ _ _ (by decide)]; exact f1_8
  have f2_9 : a0_2.eval (.tmp 9) = .pointer (some ⟨zk, 0, none⟩) := by rw [ha2, ev_other _ _ _ _ (by decide)]; exact f1_9
  have f2_73 : a0_2.eval (.tmp 73) = .int .i64 (m : Int) := by rw [ha2]; exact ev_same _ _ _ (Nat.lt_of_le_of_lt (by decide) qz1)
  rw [← ha2] at h0 ⊢
  clear ha2
  refine wpAnyH_take (i := 2) (oi := pb_2 s) (v := .bool true) (by kernel_rfl) (by kernel_rfl) (by kernel_rfl) (by kernel_rfl) (fun c a w h => hQ c _ _ _ w h) (Or.inl ⟨wanted_none rfl, fun w hw => by rw [run_gtr0 rfl f2_73 rfl w, decide_eq_true (show 0 < m by omega)]⟩) hS ?_
  change wpAnyH _ _ _ _ _ _ _ (a0_2.put (some 74) (.bool true)) _
  obtain ⟨a0_3, ha3⟩ : ∃ rr : Act, rr = a0_2.put (some 74) (.bool true) := ⟨_, rfl⟩
  have qz3 : 92 < a0_3.tmps.size := by rw [ha3, sz_put]; exact qz2
  have f3_1 : a0_3.eval (.tmp 1) = .int .i64 (sk : Int) := by rw [ha3, ev_other _ _ _ _ (by decide)]; exact f2_1
  have f3_5 : a0_3.eval (.tmp 5) = .pointer (some ⟨zp, 0, none⟩) := by rw [ha3, ev_other _ _ _ _ (by decide)]; exact f2_5
  have f3_8 : a0_3.eval (.tmp 8) = .slice (some ⟨g, 0, none⟩) m cap := by rw [ha3, ev_other _ _ _ _ (by decide)]; exact f2_8
  have f3_9 : a0_3.eval (.tmp 9) = .pointer (some ⟨zk, 0, none⟩) := by rw [ha3, ev_other _ _ _ _ (by decide)]; exact f2_9
  have f3_74 : a0_3.eval (.tmp 74) = .bool true := by rw [ha3]; exact ev_same _ _ _ (Nat.lt_of_le_of_lt (by decide) qz2)
  rw [← ha3] at h0 ⊢
  clear ha3
  refine wpAnyH_take (i := 3) (oi := pb_3 s) (v := .bool true) (by kernel_rfl) (by kernel_rfl) (by kernel_rfl) (by kernel_rfl) (fun c a w h => hQ c _ _ _ w h) (Or.inl ⟨wanted_none rfl, fun w hw => by simp only [execOp, pb_3, f3_74]; rfl⟩) hS ?_
  change wpAnyH _ _ _ _ _ _ _ (a0_3.put (some 75) (.bool true)) _
  obtain ⟨a0_4, ha4⟩ : ∃ rr : Act, rr = a0_3.put (some 75) (.bool true) := ⟨_, rfl⟩
  have qz4 : 92 < a0_4.tmps.size := by rw [ha4, sz_put]; exact qz3
  have f4_1 : a0_4.eval (.tmp 1) = .int .i64 (sk : Int) := by rw [ha4, ev_other _ _ _ _ (by decide)]; exact f3_1
  have f4_5 : a0_4.eval (.tmp 5) = .pointer (some ⟨zp, 0, none⟩) := by rw [ha4, ev_other _ _ _ _ (by decide)]; exact f3_5
  have f4_8 : a0_4.eval (.tmp 8) = .slice (some ⟨g, 0, none⟩) m cap := by rw [ha4, ev_other _ _ _ _ (by decide)]; exact f3_8
  have f4_9 : a0_4.eval (.tmp 9) = .pointer (some ⟨zk, 0, none⟩) := by rw [ha4, ev_other _ _ _ _ (by decide)]; exact f3_9
  have f4_75 : a0_4.eval (.tmp 75) = .bool true := by rw [ha4]; exact ev_same _ _ _ (Nat.lt_of_le_of_lt (by decide) qz3)
  rw [← ha4] at h0 ⊢
  clear ha4
  refine wpAnyH_take (i := 4) (oi := pb_4 s) (v := .slice (some ⟨g, 0, none⟩) m cap) (by kernel_rfl) (by kernel_rfl) (by kernel_rfl) (by kernel_rfl) (fun c a w h => hQ c _ _ _ w h) (Or.inl ⟨wanted_some rfl (by kernel_rfl) f4_75 (Nat.lt_of_le_of_lt (by decide) qz4), fun w hw => by simp only [execOp, pb_4, f4_8]; rfl⟩) hS ?_
  change wpAnyH _ _ _ _ _ _ _ (a0_4.put (some 76) (.slice (some ⟨g, 0, none⟩) m cap)) _
  obtain ⟨a0_5, ha5⟩ : ∃ rr : Act, rr = a0_4.put (some 76) (.slice (some ⟨g, 0, none⟩) m cap) := ⟨_, rfl⟩
  have qz5 : 92 < a0_5.tmps.size := by rw [ha5, sz_put]; exact qz4
  have f5_1 : a0_5.eval (.tmp 1) = .int .i64 (sk : Int) := by rw [ha5, ev_other _ _ _ _ (by decide)]; exact f4_1
  have f5_5 : a0_5.eval (.tmp 5) = .pointer (some ⟨zp, 0, none⟩) := by rw [ha5, ev_other _ _ _ _ (by decide)]; exact f4_5
  have f5_8 : a0_5.eval (.tmp 8) = .slice (some ⟨g, 0, none⟩) m cap := by rw [ha5, ev_other _ _ _ _ (by decide)]; exact f4_8
  have f5_9 : a0_5.eval (.tmp 9) = .pointer (some ⟨zk, 0, none⟩) := by rw [ha5, ev_other _ _ _ _ (by decide)]; exact f4_9
  have f5_75 : a0_5.eval (.tmp 75) = .bool true := by rw [ha5, ev_other _ _ _ _ (by decide)]; exact f4_75
  have f5_76 : a0_5.eval (.tmp 76) = .slice (some ⟨g, 0, none⟩) m cap := by rw [ha5]; exact ev_same _ _ _ (Nat.lt_of_le_of_lt (by decide) qz4)
  rw [← ha5] at h0 ⊢
  clear ha5
  refine wpAnyH_take (i := 5) (oi := pb_5 s) (v := .slice (some ⟨g, 0, none⟩) m cap) (by kernel_rfl) (by kernel_rfl) (by kernel_rfl) (by kernel_rfl) (fun c a w h => hQ c _ _ _ w h) (Or.inl ⟨wanted_some rfl (by kernel_rfl) f5_75 (Nat.lt_of_le_of_lt (by decide) qz5), fun w hw => by simp only [execOp, pb_5, f5_8]; rfl⟩) hS ?_
  change wpAnyH _ _ _ _ _ _ _ (a0_5.put (some 77) (.slice (some ⟨g, 0, none⟩) m cap)) _
  obtain ⟨a0_6, ha6⟩ : ∃ rr : Act, rr = a0_5.put (some 77) (.slice (some ⟨g, 0, none⟩) m cap) := ⟨_, rfl⟩
  have qz6 : 92 < a0_6.tmps.size := by rw [ha6, sz_put]; exact qz5
  have f6_1 : a0_6.eval (.tmp 1) = .int .i64 (sk : Int) := by rw [ha6, ev_other _ _ _ _ (by decide)]; exact f5_1
  have f6_5 : a0_6.eval (.tmp 5) = .pointer (some ⟨zp, 0, none⟩) := by rw [ha6, ev_other _ _ _ _ (by decide)]; exact f5_5
  have f6_9 : a0_6.eval (.tmp 9) = .pointer (some ⟨zk, 0, none⟩) := by rw [ha6, ev_other _ _ _ _ (by decide)]; exact f5_9
  have f6_75 : a0_6.eval (.tmp 75) = .bool true := by rw [ha6, ev_other _ _ _ _ (by decide)]; exact f5_75
  have f6_76 : a0_6.eval (.tmp 76) = .slice (some ⟨g, 0, none⟩) m cap := by rw [ha6, ev_other _ _ _ _ (by decide)]; exact f5_76
  have f6_77 : a0_6.eval (.tmp 77) = .slice (some ⟨g, 0, none⟩) m cap := by rw [ha6]; exact ev_same _ _ _ (Nat.lt_of_le_of_lt (by decide) qz5)
  rw [← ha6] at h0 ⊢
  clear ha6
  refine wpAnyH_take (i := 6) (oi := pb_6 s) (v := .int .i64 (m : Int)) (by kernel_rfl) (by kernel_rfl) (by kernel_rfl) (by kernel_rfl) (fun c a w h => hQ c _ _ _ w h) (Or.inl ⟨wanted_some rfl (by kernel_rfl) f6_75 (Nat.lt_of_le_of_lt (by decide) qz6), fun w hw => run_lenQ rfl f6_77 w⟩) hS ?_
  change wpAnyH _ _ _ _ _ _ _ (a0_6.put (some 78) (.int .i64 (m : Int))) _
  obtain ⟨a0_7, ha7⟩ : ∃ rr : Act, rr = a0_6.put (some 78) (.int .i64 (m : Int)) := ⟨_, rfl⟩
  have qz7 : 92 < a0_7.tmps.size := by rw [ha7, sz_put]; exact qz6
  have f7_1 : a0_7.eval (.tmp 1) = .int .i64 (sk : Int) := by rw [ha7, ev_other _ _ _ _ (by decide)]; exact f6_1
  have f7_5 : a0_7.eval (.tmp 5) = .pointer (some ⟨zp, 0, none⟩) := by rw [ha7, ev_other _ _ _ _ (by decide)]; exact f6_5
  have f7_9 : a0_7.eval (.tmp 9) = .pointer (some ⟨zk, 0, none⟩) := by rw [ha7, ev_other _ _ _ _ (by decide)]; exact f6_9
  have f7_75 : a0_7.eval (.tmp 75) = .bool true := by rw [ha7, ev_other _ _ _ _ (by decide)]; exact f6_75
  have f7_76 : a0_7.eval (.tmp 76) = .slice (some ⟨g, 0, none⟩) m cap := by rw [ha7, ev_other _ _ _ _ (by decide)]; exact f6_76
  have f7_78 : a0_7.eval (.tmp 78) = .int .i64 (m : Int) := by rw [ha7]; exact ev_same _ _ _ (Nat.lt_of_le_of_lt (by decide) qz6)
  rw [← ha7] at h0 ⊢
  clear ha7
  refine wpAnyH_take (i := 7) (oi := pb_7 s) (v := .int .i64 ((m - 1 : Nat) : Int)) (by kernel_rfl) (by kernel_rfl) (by kernel_rfl) (by kernel_rfl) (fun c a w h => hQ c _ _ _ w h) (Or.inl ⟨wanted_some rfl (by kernel_rfl) f7_75 (Nat.lt_of_le_of_lt (by decide) qz7), fun w hw => run_sub1 rfl f7_78 rfl hm hm2 w⟩) hS ?_
  change wpAnyH _ _ _ _ _ _ _ (a0_7.put (some 79) (.int .i64 ((m - 1 : Nat) : Int))) _
  obtain ⟨a0_8, ha8⟩ : ∃ rr : Act, rr = a0_7.put (some 79) (.int .i64 ((m - 1 : Nat) : Int)) := ⟨_, rfl⟩
  have qz8 : 92 < a0_8.tmps.size := by rw [ha8, sz_put]; exact qz7
  have f8_1 : a0_8.eval (.tmp 1) = .int .i64 (sk : Int) := by rw [ha8, ev_other _ _ _ _ (by decide)]; exact f7_1
  have f8_5 : a0_8.eval (.tmp 5) = .pointer (some ⟨zp, 0, none⟩) := by rw [ha8, ev_other _ _ _ _ (by decide)]; exact f7_5
  have f8_9 : a0_8.eval (.tmp 9) = .pointer (some ⟨zk, 0, none⟩) := by rw [ha8, ev_other _ _ _ _ (by decide)]; exact f7_9
  have f8_75 : a0_8.eval (.tmp 75) = .bool true := by rw [ha8, ev_other _ _ _ _ (by decide)]; exact f7_75
  have f8_76 : a0_8.eval (.tmp 76) = .slice (some ⟨g, 0, none⟩) m cap := by rw [ha8, ev_other _ _ _ _ (by decide)]; exact f7_76
  have f8_79 : a0_8.eval (.tmp 79) = .int .i64 ((m - 1 : Nat) : Int) := by rw [ha8]; exact ev_same _ _ _ (Nat.lt_of_le_of_lt (by decide) qz7)
  rw [← ha8] at h0 ⊢
  clear ha8
  refine wpAnyH_take (i := 8) (oi := pb_8 s) (v := .pointer (some ⟨g, (m - 1) * 32, none⟩)) (by kernel_rfl) (by kernel_rfl) (by kernel_rfl) (by kernel_rfl) (fun c a w h => hQ c _ _ _ w h) (Or.inl ⟨wanted_some rfl (by kernel_rfl) f8_75 (Nat.lt_of_le_of_lt (by decide) qz8), fun w hw => run_idxQ rfl f8_76 f8_79 (by omega) w⟩) hS ?_
  change wpAnyH _ _ _ _ _ _ _ (a0_8.put (some 80) (.pointer (some ⟨g, (m - 1) * 32, none⟩))) _
  obtain ⟨a0_9, ha9⟩ : ∃ rr : Act, rr = a0_8.put (some 80) (.pointer (some ⟨g, (m - 1) * 32, none⟩)) := ⟨_, rfl⟩
  have qz9 : 92 < a0_9.tmps.size := by rw [ha9, sz_put]; exact qz8
  have f9_1 : a0_9.eval (.tmp 1) = .int .i64 (sk : Int) := by rw [ha9, ev_other _ _ _ _ (by decide)]; exact f8_1
  have f9_5 : a0_9.eval (.tmp 5) = .pointer (some ⟨zp, 0, none⟩) := by rw [ha9, ev_other _ _ _ _ (by decide)]; exact f8_5
  have f9_9 : a0_9.eval (.tmp 9) = .pointer (some ⟨zk, 0, none⟩) := by rw [ha9, ev_other _ _ _ _ (by decide)]; exact f8_9
  have f9_75 : a0_9.eval (.tmp 75) = .bool true := by rw [ha9, ev_other _ _ _ _ (by decide)]; exact f8_75
  have f9_80 : a0_9.eval (.tmp 80) = .pointer (some ⟨g, (m - 1) * 32, none⟩) := by rw [ha9]; exact ev_same _ _ _ (Nat.lt_of_le_of_lt (by decide) qz8)
  rw [← ha9] at h0 ⊢
  clear ha9
  refine wpAnyH_take (i := 9) (oi := pb_9 s) (v := keyV last) (by kernel_rfl) (by kernel_rfl) (by kernel_rfl) (by kernel_rfl) (fun c a w h => hQ c _ _ _ w h) (Or.inl ⟨wanted_some rfl (by kernel_rfl) f9_75 (Nat.lt_of_le_of_lt (by decide) qz9), fun w hw => run_load rfl f9_80 (loadAt_key hlast hw.2)⟩) hS ?_
  change wpAnyH _ _ _ _ _ _ _ (a0_9.put (some 81) (keyV last)) _
  obtain ⟨a0_10, ha10⟩ : ∃ rr : Act, rr = a0_9.put (some 81) (keyV last) := ⟨_, rfl⟩
  have qz10 : 92 < a0_10.tmps.size := by rw [ha10, sz_put]; exact qz9
  have f10_1 : a0_10.eval (.tmp 1) = .int .i64 (sk : Int) := by rw [ha10, ev_other _ _ _ _ (by decide)]; exact f9_1
  have f10_5 : a0_10.eval (.tmp 5) = .pointer (some ⟨zp, 0, none⟩) := by rw [ha10, ev_other _ _ _ _ (by decide)]; exact f9_5
  have f10_9 : a0_10.eval (.tmp 9) = .pointer (some ⟨zk, 0, none⟩) := by rw [ha10, ev_other _ _ _ _ (by decide)]; exact f9_9
  have f10_75 : a0_10.eval (.tmp 75) = .bool true := by rw [ha10, ev_other _ _ _ _ (by decide)]; exact f9_75
  have f10_81 : a0_10.eval (.tmp 81) = keyV last := by rw [ha10]; exact ev_same _ _ _ (Nat.lt_of_le_of_lt (by decide) qz9)
  rw [← ha10] at h0 ⊢
  clear ha10
  refine wpAnyH_take (i := 10) (oi := pb_10 s) (v := keyV k) (by kernel_rfl) (by kernel_rfl) (by kernel_rfl) (by kernel_rfl) (fun c a w h => hQ c _ _ _ w h) (Or.inl ⟨wanted_some rfl (by kernel_rfl) f10_75 (Nat.lt_of_le_of_lt (by decide) qz10), fun w hw => run_load rfl f10_9 hw.1.load⟩) hS ?_
  change wpAnyH _ _ _ _ _ _ _ (a0_10.put (some 82) (keyV k)) _
  obtain ⟨a0_11, ha11⟩ : ∃ rr : Act, rr = a0_10.put (some 82) (keyV k) := ⟨_, rfl⟩
  have qz11 : 92 < a0_11.tmps.size := by rw [ha11, sz_put]; exact qz10
  have f11_1 : a0_11.eval (.tmp 1) = .int .i64 (sk : Int) := by rw [ha11, ev_other _ _ _ _ (by decide)]; exact f10_1
  have f11_5 : a0_11.eval (.tmp 5) = .pointer (some ⟨zp, 0, none⟩) := by rw [ha11, ev_other _ _ _ _ (by decide)]; exact f10_5
  have f11_9 : a0_11.eval (.tmp 9) = .pointer (some ⟨zk, 0, none⟩) := by rw [ha11, ev_other _ _ _ _ (by decide)]; exact f10_9
  have f11_75 : a0_11.eval (.tmp 75) = .bool true := by rw [ha11, ev_other _ _ _ _ (by decide)]; exact f10_75
  have f11_81 : a0_11.eval (.tmp 81) = keyV last := by rw [ha11, ev_other _ _ _ _ (by decide)]; exact f10_81
  have f11_82 : a0_11.eval (.tmp 82) = keyV k := by rw [ha11]; exact ev_same _ _ _ (Nat.lt_of_le_of_lt (by decide) qz10)
  rw [← ha11] at h0 ⊢
  clear ha11
  refine wpAnyH_ready (rs := [11]) (by kernel_rfl) (by simp) ?_
  refine AllReadyH.cons (o := pb_11 s) (by kernel_rfl) (fun KQ hKQ => ?_) AllReadyH.nil
  rw [if_pos (wanted_some rfl (by kernel_rfl) f11_75 (Nat.lt_of_le_of_lt (by decide) qz11))]
  refine step_enterE 12 #[keyV last, keyV k] (by rw [pb_enter11, f11_81, f11_82]) (fun V w' => V = .bool true ∧ Below W.heap.size W w') (hc1.mono (fun e w' h => ⟨_, h.1, rfl, (below_d W).trans h.2⟩)) ?_
  rintro _ w1 ⟨rfl, hb1⟩
  refine hKQ.out _ _ (hk w1 hb1) (fun _ => ?_)
  clear hKQ KQ
  change wpAnyH _ _ _ _ _ _ _ (a0_11.put (some 83) (.bool true)) _
  obtain ⟨a0_12, ha12⟩ : ∃ rr : Act, rr = a0_11.put (some 83) (.bool true) := ⟨_, rfl⟩
  have qz12 : 92 < a0_12.tmps.size := by rw [ha12, sz_put]; exact qz11
  have f12_1 : a0_12.eval (.tmp 1) = .int .i64 (sk : Int) := by rw [ha12, ev_other _ _ _ _ (by decide)]; exact f11_1
  have f12_5 : a0_12.eval (.tmp 5) = .pointer (some ⟨zp, 0, none⟩) := by rw [ha12, ev_other _ _ _ _ (by decide)]; exact f11_5
  have f12_9 : a0_12.eval (.tmp 9) = .pointer (some ⟨zk, 0, none⟩) := by rw [ha12, ev_other _ _ _ _ (by decide)]; exact f11_9
  have f12_75 : a0_12.eval (.tmp 75) = .bool true := by rw [ha12, ev_other _ _ _ _ (by decide)]; exact f11_75
  have f12_83 : a0_12.eval (.tmp 83) = .bool true := by rw [ha12]; exact ev_same _ _ _ (Nat.lt_of_le_of_lt (by decide) qz11)
  rw [← ha12] at h0 ⊢
  clear ha12
  refine wpAnyH_take (i := 12) (oi := pb_12 s) (v := .bool false) (by kernel_rfl) (by kernel_rfl) (by kernel_rfl) (by kernel_rfl) (fun c a w h => hQ c _ _ _ w h) (Or.inl ⟨wanted_some rfl (by kernel_rfl) f12_75 (Nat.lt_of_le_of_lt (by decide) qz12), fun w hw => by simp only [execOp, pb_12, f12_83]; kernel_rfl⟩) (hk w1 hb1) ?_
  change wpAnyH _ _ _ _ _ _ _ (a0_12.put (some 84) (.bool false)) _
  obtain ⟨a0_13, ha13⟩ : ∃ rr : Act, rr = a0_12.put (some 84) (.bool false) := ⟨_, rfl⟩
  have qz13 : 92 < a0_13.tmps.size := by rw [ha13, sz_put]; exact qz12
  have f13_1 : a0_13.eval (.tmp 1) = .int .i64 (sk : Int) := by rw [ha13, ev_other _ _ _ _ (by decide)]; exact f12_1
  have f13_5 : a0_13.eval (.tmp 5) = .pointer (some ⟨zp, 0, none⟩) := by rw [ha13, ev_other _ _ _ _ (by decide)]; exact f12_5
  have f13_9 : a0_13.eval (.tmp 9) = .pointer (some ⟨zk, 0, none⟩) := by rw [ha13, ev_other _ _ _ _ (by decide)]; exact f12_9
  have f13_75 : a0_13.eval (.tmp 75) = .bool true := by rw [ha13, ev_other _ _ _ _ (by decide)]; exact f12_75
  have f13_84 : a0_13.eval (.tmp 84) = .bool false := by rw [ha13]; exact ev_same _ _ _ (Nat.lt_of_le_of_lt (by decide) qz12)
  rw [← ha13] at h0 ⊢
  clear ha13
  refine wpAnyH_take (i := 13) (oi := pb_13 s) (v := .bool false) (by kernel_rfl) (by kernel_rfl) (by kernel_rfl) (by kernel_rfl) (fun c a w h => hQ c _ _ _ w h) (Or.inl ⟨wanted_none rfl, fun w hw => by simp only [execOp, pb_13, f13_75, f13_84]; rfl⟩) (hk w1 hb1) ?_
  change wpAnyH _ _ _ _ _ _ _ (a0_13.put (some 85) (.bool false)) _
  obtain ⟨a0_14, ha14⟩ : ∃ rr : Act, rr = a0_13.put (some 85) (.bool false) := ⟨_, rfl⟩
  have qz14 : 92 < a0_14.tmps.size := by rw [ha14, sz_put]; exact qz13
  have f14_1 : a0_14.eval (.tmp 1) = .int .i64 (sk : Int) := by rw [ha14, ev_other _ _ _ _ (by decide)]; exact f13_1
  have f14_5 : a0_14.eval (.tmp 5) = .pointer (some ⟨zp, 0, none⟩) := by rw [ha14, ev_other _ _ _ _ (by decide)]; exact f13_5
  have f14_9 : a0_14.eval (.tmp 9) = .pointer (some ⟨zk, 0, none⟩) := by rw [ha14, ev_other _ _ _ _ (by decide)]; exact f13_9
  have f14_85 : a0_14.eval (.tmp 85) = .bool false := by rw [ha14]; exact ev_same _ _ _ (Nat.lt_of_le_of_lt (by decide) qz13)
  rw [← ha14] at h0 ⊢
  clear ha14
  refine wpAnyH_take (i := 14) (oi := pb_14 s) (v := .bool false) (by kernel_rfl) (by kernel_rfl) (by kernel_rfl) (by kernel_rfl) (fun c a w h => hQ c _ _ _ w h) (Or.inl ⟨wanted_none rfl, fun w hw => by simp only [execOp, pb_14, f14_85]; rfl⟩) (hk w1 hb1) ?_
  change wpAnyH _ _ _ _ _ _ _ (a0_14.put (some 86) (.bool false)) _
  obtain ⟨a0_15, ha15⟩ : ∃ rr : Act, rr = a0_14.put (some 86) (.bool false) := ⟨_, rfl⟩
  have qz15 : 92 < a0_15.tmps.size := by rw [ha15, sz_put]; exact qz14
  have f15_1 : a0_15.eval (.tmp 1) = .int .i64 (sk : Int) := by rw [ha15, ev_other _ _ _ _ (by decide)]; exact f14_1
  have f15_5 : a0_15.eval (.tmp 5) = .pointer (some ⟨zp, 0, none⟩) := by rw [ha15, ev_other _ _ _ _ (by decide)]; exact f14_5
  have f15_9 : a0_15.eval (.tmp 9) = .pointer (some ⟨zk, 0, none⟩) := by rw [ha15, ev_other _ _ _ _ (by decide)]; exact f14_9
  have f15_86 : a0_15.eval (.tmp 86) = .bool false := by rw [ha15]; exact ev_same _ _ _ (Nat.lt_of_le_of_lt (by decide) qz14)
  rw [← ha15] at h0 ⊢
  clear ha15
  refine wpAnyH_take (i := 15) (oi := pb_15 s) (v := .pointer (some ⟨zp, 0, none⟩)) (by kernel_rfl) (by kernel_rfl) (by kernel_rfl) (by kernel_rfl) (fun c a w h => hQ c _ _ _ w h) (Or.inl ⟨wanted_some rfl (by kernel_rfl) f15_86 (Nat.lt_of_le_of_lt (by decide) qz15), fun w hw => by simp only [execOp, pb_15, f15_5]; rfl⟩) (hk w1 hb1) ?_
  change wpAnyH _ _ _ _ _ _ _ (a0_15.put (some 87) (.pointer (some ⟨zp, 0, none⟩))) _
  obtain ⟨a0_16, ha16⟩ : ∃ rr : Act, rr = a0_15.put (some 87) (.pointer (some ⟨zp, 0, none⟩)) := ⟨_, rfl⟩
  have qz16 : 92 < a0_16.tmps.size := by rw [ha16, sz_put]; exact qz15
  have f16_1 : a0_16.eval (.tmp 1) = .int .i64 (sk : Int) := by rw [ha16, ev_other _ _ _ _ (by decide)]; exact f15_1
  have f16_9 : a0_16.eval (.tmp 9) = .pointer (some ⟨zk, 0, none⟩) := by rw [ha16, ev_other _ _ _ _ (by decide)]; exact f15_9
  have f16_86 : a0_16.eval (.tmp 86) = .bool false := by rw [ha16, ev_other _ _ _ _ (by decide)]; exact f15_86
  have f16_87 : a0_16.eval (.tmp 87) = .pointer (some ⟨zp, 0, none⟩) := by rw [ha16]; exact ev_same _ _ _ (Nat.lt_of_le_of_lt (by decide) qz15)
  rw [← ha16] at h0 ⊢
  clear ha16
  refine wpAnyH_take (i := 16) (oi := pb_16 s) (v := .int .i64 (sk : Int)) (by kernel_rfl) (by kernel_rfl) (by kernel_rfl) (by kernel_rfl) (fun c a w h => hQ c _ _ _ w h) (Or.inl ⟨wanted_some rfl (by kernel_rfl) f16_86 (Nat.lt_of_le_of_lt (by decide) qz16), fun w hw => by simp only [execOp, pb_16, f16_1]; rfl⟩) (hk w1 hb1) ?_
  change wpAnyH _ _ _ _ _ _ _ (a0_16.put (some 88) (.int .i64 (sk : Int))) _
  obtain ⟨a0_17, ha17⟩ : ∃ rr : Act, rr = a0_16.put (some 88) (.int .i64 (sk : Int)) := ⟨_, rfl⟩
  have qz17 : 92 < a0_17.tmps.size := by rw [ha17, sz_put]; exact qz16
  have f17_9 : a0_17.eval (.tmp 9) = .pointer (some ⟨zk, 0, none⟩) := by rw [ha17, ev_other _ _ _ _ (by decide)]; exact f16_9
  have f17_86 : a0_17.eval (.tmp 86) = .bool false := by rw [ha17, ev_other _ _ _ _ (by decide)]; exact f16_86
  have f17_87 : a0_17.eval (.tmp 87) = .pointer (some ⟨zp, 0, none⟩) := by rw [ha17, ev_other _ _ _ _ (by decide)]; exact f16_87
  have f17_88 : a0_17.eval (.tmp 88) = .int .i64 (sk : Int) := by rw [ha17]; exact ev_same _ _ _ (Nat.lt_of_le_of_lt (by decide) qz16)
  rw [← ha17] at h0 ⊢
  clear ha17
  refine wpAnyH_take (i := 17) (oi := pb_17 s) (v := keyV k) (by kernel_rfl) (by kernel_rfl) (by kernel_rfl) (by kernel_rfl) (fun c a w h => hQ c _ _ _ w h) (Or.inl ⟨wanted_some rfl (by kernel_rfl) f17_86 (Nat.lt_of_le_of_lt (by decide) qz17), fun w hw => run_load rfl f17_9 hw.1.load⟩) (hk w1 hb1) ?_
  change wpAnyH _ _ _ _ _ _ _ (a0_17.put (some 89) (keyV k)) _
  obtain ⟨a0_18, ha18⟩ : ∃ rr : Act, rr = a0_17.put (some 89) (keyV k) := ⟨_, rfl⟩
  have qz18 : 92 < a0_18.tmps.size := by rw [ha18, sz_put]; exact qz17
  have f18_86 : a0_18.eval (.tmp 86) = .bool false := by rw [ha18, ev_other _ _ _ _ (by decide)]; exact f17_86
  have f18_87 : a0_18.eval (.tmp 87) = .pointer (some ⟨zp, 0, none⟩) := by rw [ha18, ev_other _ _ _ _ (by decide)]; exact f17_87
  have f18_88 : a0_18.eval (.tmp 88) = .int .i64 (sk : Int) := by rw [ha18, ev_other _ _ _ _ (by decide)]; exact f17_88
  have f18_89 : a0_18.eval (.tmp 89) = keyV k := by rw [ha18]; exact ev_same _ _ _ (Nat.lt_of_le_of_lt (by decide) qz17)
  rw [← ha18] at h0 ⊢
  clear ha18
  refine wpAnyH_ready (rs := [18]) (by kernel_rfl) (by simp) ?_
  refine AllReadyH.cons (o := pb_18 s) (by kernel_rfl) (fun KQ hKQ => ?_) AllReadyH.nil
  rw [if_pos (wanted_some rfl (by kernel_rfl) f18_86 (Nat.lt_of_le_of_lt (by decide) qz18))]
  refine step_enterE 13 #[.pointer (some ⟨zp, 0, none⟩), .int .i64 (sk : Int), keyV k] (by rw [pb_enter18, f18_87, f18_88, f18_89]) (fun V w' => V = .bool true ∧ Below W.heap.size W w') ((hc2 w1 hb1).mono (fun e w' h => ⟨_, h.1, rfl, hb1.trans (h.2.mono hb1.size)⟩)) ?_
  rintro _ w2 ⟨rfl, hb2⟩
  refine hKQ.out _ _ (hk w2 hb2) (fun _ => ?_)
  clear hKQ KQ
  change wpAnyH _ _ _ _ _ _ _ (a0_18.put (some 90) (.bool true)) _
  have h0 := h0 w2 hb2
  obtain ⟨a0_19, ha19⟩ : ∃ rr : Act, rr = a0_18.put (some 90) (.bool true) := ⟨_, rfl⟩
  have qz19 : 92 < a0_19.tmps.size := by rw [ha19, sz_put]; exact qz18
  have f19_86 : a0_19.eval (.tmp 86) = .bool false := by rw [ha19, ev_other _ _ _ _ (by decide)]; exact f18_86
  have f19_90 : a0_19.eval (.tmp 90) = .bool true := by rw [ha19]; exact ev_same _ _ _ (Nat.lt_of_le_of_lt (by decide) qz18)
  rw [← ha19] at h0 ⊢
  clear ha19
  refine wpAnyH_take (i := 19) (oi := pb_19 s) (v := .bool false) (by kernel_rfl) (by kernel_rfl) (by kernel_rfl) (by kernel_rfl) (fun c a w h => hQ c _ _ _ w h) (Or.inl ⟨wanted_some rfl (by kernel_rfl) f19_86 (Nat.lt_of_le_of_lt (by decide) qz19), fun w hw => by simp only [execOp, pb_19, f19_90]; kernel_rfl⟩) (hk w2 hb2) ?_
  change wpAnyH _ _ _ _ _ _ _ (a0_19.put (some 91) (.bool false)) _
  obtain ⟨a0_20, ha20⟩ : ∃ rr : Act, rr = a0_19.put (some 91) (.bool false) := ⟨_, rfl⟩
  have qz20 : 92 < a0_20.tmps.size := by rw [ha20, sz_put]; exact qz19
  have f20_86 : a0_20.eval (.tmp 86) = .bool false := by rw [ha20, ev_other _ _ _ _ (by decide)]; exact f19_86
  have f20_91 : a0_20.eval (.tmp 91) = .bool false := by rw [ha20]; exact ev_same _ _ _ (Nat.lt_of_le_of_lt (by decide) qz19)
  rw [← ha20] at h0 ⊢
  clear ha20
  refine wpAnyH_take (i := 20) (oi := pb_20 s) (v := .bool false) (by kernel_rfl) (by kernel_rfl) (by kernel_rfl) (by kernel_rfl) (fun c a w h => hQ c _ _ _ w h) (Or.inl ⟨wanted_none rfl, fun w hw => by simp only [execOp, pb_20, f20_86, f20_91]; rfl⟩) (hk w2 hb2) ?_
  change wpAnyH _ _ _ _ _ _ _ (a0_20.put (some 92) (.bool false)) _
  obtain ⟨a0_21, ha21⟩ : ∃ rr : Act, rr = a0_20.put (some 92) (.bool false) := ⟨_, rfl⟩
  have qz21 : 92 < a0_21.tmps.size := by rw [ha21, sz_put]; exact qz20
  rw [← ha21] at h0 ⊢
  clear ha21
  refine wpAnyH_done (by kernel_rfl) ?_ _
  exact h0
def pc_0 (s : String) : Oper := { dst := some 125, op := Op.move (Operand.tmp 13), type := 4, pos := s, after := #[], guard := none }
def pc_1 (s : String) : Oper := { dst := some 126, op := Op.move (Operand.tmp 125), type := 4, pos := s, after := #[{ on := 0, ground := Ground.data }], guard := none }
def pc_2 (s : String) : Oper := { dst := some 127, op := Op.move (Operand.tmp 8), type := 42, pos := s, after := #[{ on := 1, ground := Ground.guard }], guard := some (1, false) }
def pc_3 (s : String) : Oper := { dst := some 128, op := Op.move (Operand.tmp 14), type := 3, pos := s, after := #[{ on := 1, ground := Ground.guard }], guard := some (1, false) }
def pc_4 (s : String) : Oper := { dst := some 129, op := Op.indexAddr 42 (Operand.tmp 127) (Operand.tmp 128), type := 0, pos := s, after := #[{ on := 2, ground := Ground.data }, { on := 3, ground := Ground.data }, { on := 1, ground := Ground.guard }], guard := some (1, false) }
def pc_5 (s : String) : Oper := { dst := some 130, op := Op.load 30 (Operand.tmp 129), type := 30, pos := s, after := #[{ on := 4, ground := Ground.data }, { on := 1, ground := Ground.guard }], guard := some (1, false) }
def pc_6 (s : String) : Oper := { dst := some 131, op := Op.move (Operand.tmp 0), type := 36, pos := s, after := #[{ on := 1, ground := Ground.guard }], guard := some (1, false) }
def pc_7 (s : String) : Oper := { dst := some 132, op := Op.move (Operand.tmp 12), type := 3, pos := s, after := #[{ on := 1, ground := Ground.guard }], guard := some (1, false) }
def pc_8 (s : String) : Oper := { dst := some 133, op := Op.indexAddr 36 (Operand.tmp 131) (Operand.tmp 132), type := 0, pos := s, after := #[{ on := 6, ground := Ground.data }, { on := 7, ground := Ground.data }, { on := 1, ground := Ground.guard }], guard := some (1, false) }
def pc_9 (s : String) : Oper := { dst := some 134, op := Op.fieldAddr 41 (Operand.tmp 133) 1, type := 0, pos := s, after := #[{ on := 8, ground := Ground.data }, { on := 1, ground := Ground.guard }], guard := some (1, false) }
def pc_10 (s : String) : Oper := { dst := some 135, op := Op.load 30 (Operand.tmp 134), type := 30, pos := s, after := #[{ on := 9, ground := Ground.data }, { on := 1, ground := Ground.guard }], guard := some (1, false) }
def pc_11 (s : String) : Oper := { dst := some 136, op := Op.binOp BinOp.eql 30 (Operand.tmp 130) (Operand.tmp 135) 30, type := 4, pos := s, after := #[{ on := 5, ground := Ground.data }, { on := 10, ground := Ground.data }, { on := 1, ground := Ground.guard }], guard := some (1, false) }
def pc_12 (s : String) : Oper := { dst := some 137, op := Op.pick (Operand.tmp 126) (Operand.const (Value.bool true)) (Operand.tmp 136), type := 4, pos := s, after := #[{ on := 1, ground := Ground.data }, { on := 11, ground := Ground.data }], guard := none }
def pc_13 (s : String) : Oper := { dst := some 13, op := Op.assign (Operand.tmp 137), type := 4, pos := s, after := #[{ on := 12, ground := Ground.data }, { on := 1, ground := Ground.chain }, { on := 0, ground := Ground.phase }, { on := 1, ground := Ground.phase }, { on := 2, ground := Ground.phase }, { on := 3, ground := Ground.phase }, { on := 4, ground := Ground.phase }, { on := 5, ground := Ground.phase }, { on := 6, ground := Ground.phase }, { on := 7, ground := Ground.phase }, { on := 8, ground := Ground.phase }, { on := 9, ground := Ground.phase }, { on := 10, ground := Ground.phase }, { on := 11, ground := Ground.phase }, { on := 12, ground := Ground.phase }], guard := none }
def pc_ops (s : String) : Array Oper := #[pc_0 s, pc_1 s, pc_2 s, pc_3 s, pc_4 s, pc_5 s, pc_6 s, pc_7 s, pc_8 s, pc_9 s, pc_10 s, pc_11 s, pc_12 s, pc_13 s]
theorem pc_walk (s : String) {Q : Exit → Act → World → Prop} (hQ : ∀ c (a : Act) t v w, Q (.panic c) (a.put (some t) v) w → Q (.panic c) a w) (W : World)
    (a : Act) (hs : 137 < a.tmps.size) (e13 : a.eval (.tmp 13) = .bool true)
    (h0 :  Q .normal ((((((((((((((a.put (some 125) (.bool true)).put (some 126) (.bool true)).put (some 127) (undef)).put (some 128) (undef)).put (some 129) (undef)).put (some 130) (undef)).put (some 131) (undef)).put (some 132) (undef)).put (some 133) (undef)).put (some 134) (undef)).put (some 135) (undef)).put (some 136) (undef)).put (some 137) (.bool true)).put (some 13) (.bool true)) W.drew) :
    Code.wp Try.prog (.region 34 (pc_ops s) true) Q a W := by
  refine wp_region_held_drew (S := fun _ => True) (by kernel_rfl) trivial (fun hS => ?_)
  change wpAnyH _ _ _ _ _ _ _ _ (World.drew _)
  refine wpAnyH_take (i := 0) (oi := pc_0 s) (v := .bool true) (by kernel_rfl) (by kernel_rfl) (by kernel_rfl) (by kernel_rfl) (fun c a w h => hQ c _ _ _ w h) (Or.inl ⟨wanted_none rfl, fun w hw => by simp only [execOp, pc_0, e13]; rfl⟩) hS ?_
  change wpAnyH _ _ _ _ _ _ _ (a.put (some 125) (.bool true)) _
  obtain ⟨a0_1, ha1⟩ : ∃ rr : Act, rr = a.put (some 125) (.bool true) := ⟨_, rfl⟩
  have qz1 : 137 < a0_1.tmps.size := by rw [ha1, sz_put]; exact hs
  have f1_125 : a0_1.eval (.tmp 125) = .bool true := by rw [ha1]; exact ev_same _ _ _ (Nat.lt_of_le_of_lt (by decide) hs)
  rw [← ha1] at h0 ⊢
  clear ha1
  refine wpAnyH_take (i := 1) (oi := pc_1 s) (v := .bool true) (by kernel_rfl) (by kernel_rfl) (by kernel_rfl) (by kernel_rfl) (fun c a w h => hQ c _ _ _ w h) (Or.inl ⟨wanted_none rfl, fun w hw => by simp only [execOp, pc_1, f1_125]; rfl⟩) hS ?_
  change wpAnyH _ _ _ _ _ _ _ (a0_1.put (some 126) (.bool true)) _
  obtain ⟨a0_2, ha2⟩ : ∃ rr : Act, rr = a0_1.put (some 126) (.bool true) := ⟨_, rfl⟩
  have qz2 : 137 < a0_2.tmps.size := by rw [ha2, sz_put]; exact qz1
  have f2_126 : a0_2.eval (.tmp 126) = .bool true := by rw [ha2]; exact ev_same _ _ _ (Nat.lt_of_le_of_lt (by decide) qz1)
  rw [← ha2] at h0 ⊢
  clear ha2
  refine wpAnyH_take (i := 2) (oi := pc_2 s) (v := undef) (by kernel_rfl) (by kernel_rfl) (by kernel_rfl) (by kernel_rfl) (fun c a w h => hQ c _ _ _ w h) (Or.inr ⟨wanted_no rfl (by kernel_rfl) f2_126 (Nat.lt_of_le_of_lt (by decide) qz2), rfl⟩) hS ?_
  change wpAnyH _ _ _ _ _ _ _ (a0_2.put (some 127) (undef)) _
  obtain ⟨a0_3, ha3⟩ : ∃ rr : Act, rr = a0_2.put (some 127) (undef) := ⟨_, rfl⟩
  have qz3 : 137 < a0_3.tmps.size := by rw [ha3, sz_put]; exact qz2
  have f3_126 : a0_3.eval (.tmp 126) = .bool true := by rw [ha3, ev_other _ _ _ _ (by decide)]; exact f2_126
  rw [← ha3] at h0 ⊢
  clear ha3
  refine wpAnyH_take (i := 3) (oi := pc_3 s) (v := undef) (by kernel_rfl) (by kernel_rfl) (by kernel_rfl) (by kernel_rfl) (fun c a w h => hQ c _ _ _ w h) (Or.inr ⟨wanted_no rfl (by kernel_rfl) f3_126 (Nat.lt_of_le_of_lt (by decide) qz3), rfl⟩) hS ?_
  change wpAnyH _ _ _ _ _ _ _ (a0_3.put (some 128) (undef)) _
  obtain ⟨a0_4, ha4⟩ : ∃ rr : Act, rr = a0_3.put (some 128) (undef) := ⟨_, rfl⟩
  have qz4 : 137 < a0_4.tmps.size := by rw [ha4, sz_put]; exact qz3
  have f4_126 : a0_4.eval (.tmp 126) = .bool true := by rw [ha4, ev_other _ _ _ _ (by decide)]; exact f3_126
  rw [← ha4] at h0 ⊢
  clear ha4
  refine wpAnyH_take (i := 4) (oi := pc_4 s) (v := undef) (by kernel_rfl) (by kernel_rfl) (by kernel_rfl) (by kernel_rfl) (fun c a w h => hQ c _ _ _ w h) (Or.inr ⟨wanted_no rfl (by kernel_rfl) f4_126 (Nat.lt_of_le_of_lt (by decide) qz4), rfl⟩) hS ?_
  change wpAnyH _ _ _ _ _ _ _ (a0_4.put (some 129) (undef)) _
  obtain ⟨a0_5, ha5⟩ : ∃ rr : Act, rr = a0_4.put (some 129) (undef) := ⟨_, rfl⟩
  have qz5 : 137 < a0_5.tmps.size := by rw [ha5, sz_put]; exact qz4
  have f5_126 : a0_5.eval (.tmp 126) = .bool true := by rw [ha5, ev_other _ _ _ _ (by decide)]; exact f4_126
  rw [← ha5] at h0 ⊢
  clear ha5
  refine wpAnyH_take (i := 5) (oi := pc_5 s) (v := undef) (by kernel_rfl) (by kernel_rfl) (by kernel_rfl) (by kernel_rfl) (fun c a w h => hQ c _ _ _ w h) (Or.inr ⟨wanted_no rfl (by kernel_rfl) f5_126 (Nat.lt_of_le_of_lt (by decide) qz5), rfl⟩) hS ?_
  change wpAnyH _ _ _ _ _ _ _ (a0_5.put (some 130) (undef)) _
  obtain ⟨a0_6, ha6⟩ : ∃ rr : Act, rr = a0_5.put (some 130) (undef) := ⟨_, rfl⟩
  have qz6 : 137 < a0_6.tmps.size := by rw [ha6, sz_put]; exact qz5
  have f6_126 : a0_6.eval (.tmp 126) = .bool true := by rw [ha6, ev_other _ _ _ _ (by decide)]; exact f5_126
  rw [← ha6] at h0 ⊢
  clear ha6
  refine wpAnyH_take (i := 6) (oi := pc_6 s) (v := undef) (by kernel_rfl) (by kernel_rfl) (by kernel_rfl) (by kernel_rfl) (fun c a w h => hQ c _ _ _ w h) (Or.inr ⟨wanted_no rfl (by kernel_rfl) f6_126 (Nat.lt_of_le_of_lt (by decide) qz6), rfl⟩) hS ?_
  change wpAnyH _ _ _ _ _ _ _ (a0_6.put (some 131) (undef)) _
  obtain ⟨a0_7, ha7⟩ : ∃ rr : Act, rr = a0_6.put (some 131) (undef) := ⟨_, rfl⟩
  have qz7 : 137 < a0_7.tmps.size := by rw [ha7, sz_put]; exact qz6
  have f7_126 : a0_7.eval (.tmp 126) = .bool true := by rw [ha7, ev_other _ _ _ _ (by decide)]; exact f6_126
  rw [← ha7] at h0 ⊢
  clear ha7
  refine wpAnyH_take (i := 7) (oi := pc_7 s) (v := undef) (by kernel_rfl) (by kernel_rfl) (by kernel_rfl) (by kernel_rfl) (fun c a w h => hQ c _ _ _ w h) (Or.inr ⟨wanted_no rfl (by kernel_rfl) f7_126 (Nat.lt_of_le_of_lt (by decide) qz7), rfl⟩) hS ?_
  change wpAnyH _ _ _ _ _ _ _ (a0_7.put (some 132) (undef)) _
  obtain ⟨a0_8, ha8⟩ : ∃ rr : Act, rr = a0_7.put (some 132) (undef) := ⟨_, rfl⟩
  have qz8 : 137 < a0_8.tmps.size := by rw [ha8, sz_put]; exact qz7
  have f8_126 : a0_8.eval (.tmp 126) = .bool true := by rw [ha8, ev_other _ _ _ _ (by decide)]; exact f7_126
  rw [← ha8] at h0 ⊢
  clear ha8
  refine wpAnyH_take (i := 8) (oi := pc_8 s) (v := undef) (by kernel_rfl) (by kernel_rfl) (by kernel_rfl) (by kernel_rfl) (fun c a w h => hQ c _ _ _ w h) (Or.inr ⟨wanted_no rfl (by kernel_rfl) f8_126 (Nat.lt_of_le_of_lt (by decide) qz8), rfl⟩) hS ?_
  change wpAnyH _ _ _ _ _ _ _ (a0_8.put (some 133) (undef)) _
  obtain ⟨a0_9, ha9⟩ : ∃ rr : Act, rr = a0_8.put (some 133) (undef) := ⟨_, rfl⟩
  have qz9 : 137 < a0_9.tmps.size := by rw [ha9, sz_put]; exact qz8
  have f9_126 : a0_9.eval (.tmp 126) = .bool true := by rw [ha9, ev_other _ _ _ _ (by decide)]; exact f8_126
  rw [← ha9] at h0 ⊢
  clear ha9
  refine wpAnyH_take (i := 9) (oi := pc_9 s) (v := undef) (by kernel_rfl) (by kernel_rfl) (by kernel_rfl) (by kernel_rfl) (fun c a w h => hQ c _ _ _ w h) (Or.inr ⟨wanted_no rfl (by kernel_rfl) f9_126 (Nat.lt_of_le_of_lt (by decide) qz9), rfl⟩) hS ?_
  change wpAnyH _ _ _ _ _ _ _ (a0_9.put (some 134) (undef)) _
  obtain ⟨a0_10, ha10⟩ : ∃ rr : Act, rr = a0_9.put (some 134) (undef) := ⟨_, rfl⟩
  have qz10 : 137 < a0_10.tmps.size := by rw [ha10, sz_put]; exact qz9
  have f10_126 : a0_10.eval (.tmp 126) = .bool true := by rw [ha10, ev_other _ _ _ _ (by decide)]; exact f9_126
  rw [← ha10] at h0 ⊢
  clear ha10
  refine wpAnyH_take (i := 10) (oi := pc_10 s) (v := undef) (by kernel_rfl) (by kernel_rfl) (by kernel_rfl) (by kernel_rfl) (fun c a w h => hQ c _ _ _ w h) (Or.inr ⟨wanted_no rfl (by kernel_rfl) f10_126 (Nat.lt_of_le_of_lt (by decide) qz10), rfl⟩) hS ?_
  change wpAnyH _ _ _ _ _ _ _ (a0_10.put (some 135) (undef)) _
  obtain ⟨a0_11, ha11⟩ : ∃ rr : Act, rr = a0_10.put (some 135) (undef) := ⟨_, rfl⟩
  have qz11 : 137 < a0_11.tmps.size := by rw [ha11, sz_put]; exact qz10
  have f11_126 : a0_11.eval (.tmp 126) = .bool true := by rw [ha11, ev_other _ _ _ _ (by decide)]; exact f10_126
  rw [← ha11] at h0 ⊢
  clear ha11
  refine wpAnyH_take (i := 11) (oi := pc_11 s) (v := undef) (by kernel_rfl) (by kernel_rfl) (by kernel_rfl) (by kernel_rfl) (fun c a w h => hQ c _ _ _ w h) (Or.inr ⟨wanted_no rfl (by kernel_rfl) f11_126 (Nat.lt_of_le_of_lt (by decide) qz11), rfl⟩) hS ?_
  change wpAnyH _ _ _ _ _ _ _ (a0_11.put (some 136) (undef)) _
  obtain ⟨a0_12, ha12⟩ : ∃ rr : Act, rr = a0_11.put (some 136) (undef) := ⟨_, rfl⟩
  have qz12 : 137 < a0_12.tmps.size := by rw [ha12, sz_put]; exact qz11
  have f12_126 : a0_12.eval (.tmp 126) = .bool true := by rw [ha12, ev_other _ _ _ _ (by decide)]; exact f11_126
  have f12_136 : a0_12.eval (.tmp 136) = undef := by rw [ha12]; exact ev_same _ _ _ (Nat.lt_of_le_of_lt (by decide) qz11)
  rw [← ha12] at h0 ⊢
  clear ha12
  refine wpAnyH_take (i := 12) (oi := pc_12 s) (v := .bool true) (by kernel_rfl) (by kernel_rfl) (by kernel_rfl) (by kernel_rfl) (fun c a w h => hQ c _ _ _ w h) (Or.inl ⟨wanted_none rfl, fun w hw => by simp only [execOp, pc_12, f12_126]; rfl⟩) hS ?_
  change wpAnyH _ _ _ _ _ _ _ (a0_12.put (some 137) (.bool true)) _
  obtain ⟨a0_13, ha13⟩ : ∃ rr : Act, rr = a0_12.put (some 137) (.bool true) := ⟨_, rfl⟩
  have qz13 : 137 < a0_13.tmps.size := by rw [ha13, sz_put]; exact qz12
  have f13_137 : a0_13.eval (.tmp 137) = .bool true := by rw [ha13]; exact ev_same _ _ _ (Nat.lt_of_le_of_lt (by decide) qz12)
  rw [← ha13] at h0 ⊢
  clear ha13
  refine wpAnyH_take (i := 13) (oi := pc_13 s) (v := .bool true) (by kernel_rfl) (by kernel_rfl) (by kernel_rfl) (by kernel_rfl) (fun c a w h => hQ c _ _ _ w h) (Or.inl ⟨wanted_none rfl, fun w hw => by simp only [execOp, pc_13, f13_137]; rfl⟩) hS ?_
  change wpAnyH _ _ _ _ _ _ _ (a0_13.put (some 13) (.bool true)) _
  obtain ⟨a0_14, ha14⟩ : ∃ rr : Act, rr = a0_13.put (some 13) (.bool true) := ⟨_, rfl⟩
  have qz14 : 137 < a0_14.tmps.size := by rw [ha14, sz_put]; exact qz13
  rw [← ha14] at h0 ⊢
  clear ha14
  refine wpAnyH_done (by kernel_rfl) ?_ _
  exact h0
def pd_0 (s : String) : Oper := { dst := some 125, op := Op.move (Operand.tmp 13), type := 4, pos := s, after := #[], guard := none }
def pd_1 (s : String) : Oper := { dst := some 126, op := Op.move (Operand.tmp 125), type := 4, pos := s, after := #[{ on := 0, ground := Ground.data }], guard := none }
def pd_2 (s : String) : Oper := { dst := some 127, op := Op.move (Operand.tmp 8), type := 42, pos := s, after := #[{ on := 1, ground := Ground.guard }], guard := some (1, false) }
def pd_3 (s : String) : Oper := { dst := some 128, op := Op.move (Operand.tmp 14), type := 3, pos := s, after := #[{ on := 1, ground := Ground.guard }], guard := some (1, false) }
def pd_4 (s : String) : Oper := { dst := some 129, op := Op.indexAddr 42 (Operand.tmp 127) (Operand.tmp 128), type := 0, pos := s, after := #[{ on := 2, ground := Ground.data }, { on := 3, ground := Ground.data }, { on := 1, ground := Ground.guard }], guard := some (1, false) }
def pd_5 (s : String) : Oper := { dst := some 130, op := Op.load 30 (Operand.tmp 129), type := 30, pos := s, after := #[{ on := 4, ground := Ground.data }, { on := 1, ground := Ground.guard }], guard := some (1, false) }
def pd_6 (s : String) : Oper := { dst := some 131, op := Op.move (Operand.tmp 0), type := 36, pos := s, after := #[{ on := 1, ground := Ground.guard }], guard := some (1, false) }
def pd_7 (s : String) : Oper := { dst := some 132, op := Op.move (Operand.tmp 12), type := 3, pos := s, after := #[{ on := 1, ground := Ground.guard }], guard := some (1, false) }
def pd_8 (s : String) : Oper := { dst := some 133, op := Op.indexAddr 36 (Operand.tmp 131) (Operand.tmp 132), type := 0, pos := s, after := #[{ on := 6, ground := Ground.data }, { on := 7, ground := Ground.data }, { on := 1, ground := Ground.guard }], guard := some (1, false) }
def pd_9 (s : String) : Oper := { dst := some 134, op := Op.fieldAddr 41 (Operand.tmp 133) 1, type := 0, pos := s, after := #[{ on := 8, ground := Ground.data }, { on := 1, ground := Ground.guard }], guard := some (1, false) }
def pd_10 (s : String) : Oper := { dst := some 135, op := Op.load 30 (Operand.tmp 134), type := 30, pos := s, after := #[{ on := 9, ground := Ground.data }, { on := 1, ground := Ground.guard }], guard := some (1, false) }
def pd_11 (s : String) : Oper := { dst := some 136, op := Op.binOp BinOp.eql 30 (Operand.tmp 130) (Operand.tmp 135) 30, type := 4, pos := s, after := #[{ on := 5, ground := Ground.data }, { on := 10, ground := Ground.data }, { on := 1, ground := Ground.guard }], guard := some (1, false) }
def pd_12 (s : String) : Oper := { dst := some 137, op := Op.pick (Operand.tmp 126) (Operand.const (Value.bool true)) (Operand.tmp 136), type := 4, pos := s, after := #[{ on := 1, ground := Ground.data }, { on := 11, ground := Ground.data }], guard := none }
def pd_13 (s : String) : Oper := { dst := some 13, op := Op.assign (Operand.tmp 137), type := 4, pos := s, after := #[{ on := 12, ground := Ground.data }, { on := 1, ground := Ground.chain }, { on := 0, ground := Ground.phase }, { on := 1, ground := Ground.phase }, { on := 2, ground := Ground.phase }, { on := 3, ground := Ground.phase }, { on := 4, ground := Ground.phase }, { on := 5, ground := Ground.phase }, { on := 6, ground := Ground.phase }, { on := 7, ground := Ground.phase }, { on := 8, ground := Ground.phase }, { on := 9, ground := Ground.phase }, { on := 10, ground := Ground.phase }, { on := 11, ground := Ground.phase }, { on := 12, ground := Ground.phase }], guard := none }
def pd_ops (s : String) : Array Oper := #[pd_0 s, pd_1 s, pd_2 s, pd_3 s, pd_4 s, pd_5 s, pd_6 s, pd_7 s, pd_8 s, pd_9 s, pd_10 s, pd_11 s, pd_12 s, pd_13 s]
theorem pd_walk (s : String) {Q : Exit → Act → World → Prop} (hQ : ∀ c (a : Act) t v w, Q (.panic c) (a.put (some t) v) w → Q (.panic c) a w) (W : World) (g m cap b o n c j i : Nat) (x y : List UInt8) (hx : x.length = 32) (hy : y.length = 32) (hj : j < m) (hi : i < n) (hS0 : W.drew.rangeAt g (j * 32) (x.map u8c) ∧ W.drew.rangeAt b (o + i * 33 + 1) (y.map u8c))
    (a : Act) (hs : 137 < a.tmps.size) (e0 : a.eval (.tmp 0) = .slice (some ⟨b, o, none⟩) n c) (e8 : a.eval (.tmp 8) = .slice (some ⟨g, 0, none⟩) m cap) (e12 : a.eval (.tmp 12) = .int .i64 (i : Int)) (e13 : a.eval (.tmp 13) = .bool false) (e14 : a.eval (.tmp 14) = .int .i64 (j : Int))
    (h0 :  Q .normal ((((((((((((((a.put (some 125) (.bool false)).put (some 126) (.bool false)).put (some 127) (.slice (some ⟨g, 0, none⟩) m cap)).put (some 128) (.int .i64 (j : Int))).put (some 129) (.pointer (some ⟨g, j * 32, none⟩))).put (some 130) (keyV x)).put (some 131) (.slice (some ⟨b, o, none⟩) n c)).put (some 132) (.int .i64 (i : Int))).put (some 133) (.pointer (some ⟨b, o + i * 33, none⟩))).put (some 134) (.pointer (some ⟨b, o + i * 33 + 1, none⟩))).put (some 135) (keyV y)).put (some 136) (.bool (x == y))).put (some 137) (.bool (x == y))).put (some 13) (.bool (x == y))) W.drew) :
    Code.wp Try.prog (.region 34 (pd_ops s) true) Q a W := by
  refine wp_region_held_drew (S := fun w => w.rangeAt g (j * 32) (x.map u8c) ∧ w.rangeAt b (o + i * 33 + 1) (y.map u8c)) (by kernel_rfl) hS0 (fun hS => ?_)
  change wpAnyH _ _ _ _ _ _ _ _ (World.drew _)
  refine wpAnyH_take (i := 0) (oi := pd_0 s) (v := .bool false) (by kernel_rfl) (by kernel_rfl) (by kernel_rfl) (by kernel_rfl) (fun c a w h => hQ c _ _ _ w h) (Or.inl ⟨wanted_none rfl, fun w hw => by simp only [execOp, pd_0, e13]; rfl⟩) hS ?_
  change wpAnyH _ _ _ _ _ _ _ (a.put (some 125) (.bool false)) _
  obtain ⟨a0_1, ha1⟩ : ∃ rr : Act, rr = a.put (some 125) (.bool false) := ⟨_, rfl⟩
  have qz1 : 137 < a0_1.tmps.size := by rw [ha1, sz_put]; exact hs
  have f1_0 : a0_1.eval (.tmp 0) = .slice (some ⟨b, o, none⟩) n c := by rw [ha1, ev_other _ _ _ _ (by decide)]; exact e0
  have f1_8 : a0_1.eval (.tmp 8) = .slice (some ⟨g, 0, none⟩) m cap := by rw [ha1, ev_other _ _ _ _ (by decide)]; exact e8
  have f1_12 : a0_1.eval (.tmp 12) = .int .i64 (i : Int) := by rw [ha1, ev_other _ _ _ _ (by decide)]; exact e12
  have f1_14 : a0_1.eval (.tmp 14) = .int .i64 (j : Int) := by rw [ha1, ev_other _ _ _ _ (by decide)]; exact e14
  have f1_125 : a0_1.eval (.tmp 125) = .bool false := by rw [ha1]; exact ev_same _ _ _ (Nat.lt_of_le_of_lt (by decide) hs)
  rw [← ha1] at h0 ⊢
  clear ha1
  refine wpAnyH_take (i := 1) (oi := pd_1 s) (v := .bool false) (by kernel_rfl) (by kernel_rfl) (by kernel_rfl) (by kernel_rfl) (fun c a w h => hQ c _ _ _ w h) (Or.inl ⟨wanted_none rfl, fun w hw => by simp only [execOp, pd_1, f1_125]; rfl⟩) hS ?_
  change wpAnyH _ _ _ _ _ _ _ (a0_1.put (some 126) (.bool false)) _
  obtain ⟨a0_2, ha2⟩ : ∃ rr : Act, rr = a0_1.put (some 126) (.bool false) := ⟨_, rfl⟩
  have qz2 : 137 < a0_2.tmps.size := by rw [ha2, sz_put]; exact qz1
  have f2_0 : a0_2.eval (.tmp 0) = .slice (some ⟨b, o, none⟩) n c := by rw [ha2, ev_other _ _ _ _ (by decide)]; exact f1_0
  have f2_8 : a0_2.eval (.tmp 8) = .slice (some ⟨g, 0, none⟩) m cap := by rw [ha2, ev_other _ _ _ _ (by decide)]; exact f1_8
  have f2_12 : a0_2.eval (.tmp 12) = .int .i64 (i : Int) := by rw [ha2, ev_other _ _ _ _ (by decide)]; exact f1_12
  have f2_14 : a0_2.eval (.tmp 14) = .int .i64 (j : Int) := by rw [ha2, ev_other _ _ _ _ (by decide)]; exact f1_14
  have f2_126 : a0_2.eval (.tmp 126) = .bool false := by rw [ha2]; exact ev_same _ _ _ (Nat.lt_of_le_of_lt (by decide) qz1)
  rw [← ha2] at h0 ⊢
  clear ha2
  refine wpAnyH_take (i := 2) (oi := pd_2 s) (v := .slice (some ⟨g, 0, none⟩) m cap) (by kernel_rfl) (by kernel_rfl) (by kernel_rfl) (by kernel_rfl) (fun c a w h => hQ c _ _ _ w h) (Or.inl ⟨wanted_some rfl (by kernel_rfl) f2_126 (Nat.lt_of_le_of_lt (by decide) qz2), fun w hw => by simp only [execOp, pd_2, f2_8]; rfl⟩) hS ?_
  change wpAnyH _ _ _ _ _ _ _ (a0_2.put (some 127) (.slice (some ⟨g, 0, none⟩) m cap)) _
  obtain ⟨a0_3, ha3⟩ : ∃ rr : Act, rr = a0_2.put (some 127) (.slice (some ⟨g, 0, none⟩) m cap) := ⟨_, rfl⟩
  have qz3 : 137 < a0_3.tmps.size := by rw [ha3, sz_put]; exact qz2
  have f3_0 : a0_3.eval (.tmp 0) = .slice (some ⟨b, o, none⟩) n c := by rw [ha3, ev_other _ _ _ _ (by decide)]; exact f2_0
  have f3_12 : a0_3.eval (.tmp 12) = .int .i64 (i : Int) := by rw [ha3, ev_other _ _ _ _ (by decide)]; exact f2_12
  have f3_14 : a0_3.eval (.tmp 14) = .int .i64 (j : Int) := by rw [ha3, ev_other _ _ _ _ (by decide)]; exact f2_14
  have f3_126 : a0_3.eval (.tmp 126) = .bool false := by rw [ha3, ev_other _ _ _ _ (by decide)]; exact f2_126
  have f3_127 : a0_3.eval (.tmp 127) = .slice (some ⟨g, 0, none⟩) m cap := by rw [ha3]; exact ev_same _ _ _ (Nat.lt_of_le_of_lt (by decide) qz2)
  rw [← ha3] at h0 ⊢
  clear ha3
  refine wpAnyH_take (i := 3) (oi := pd_3 s) (v := .int .i64 (j : Int)) (by kernel_rfl) (by kernel_rfl) (by kernel_rfl) (by kernel_rfl) (fun c a w h => hQ c _ _ _ w h) (Or.inl ⟨wanted_some rfl (by kernel_rfl) f3_126 (Nat.lt_of_le_of_lt (by decide) qz3), fun w hw => by simp only [execOp, pd_3, f3_14]; rfl⟩) hS ?_
  change wpAnyH _ _ _ _ _ _ _ (a0_3.put (some 128) (.int .i64 (j : Int))) _
  obtain ⟨a0_4, ha4⟩ : ∃ rr : Act, rr = a0_3.put (some 128) (.int .i64 (j : Int)) := ⟨_, rfl⟩
  have qz4 : 137 < a0_4.tmps.size := by rw [ha4, sz_put]; exact qz3
  have f4_0 : a0_4.eval (.tmp 0) = .slice (some ⟨b, o, none⟩) n c := by rw [ha4, ev_other _ _ _ _ (by decide)]; exact f3_0
  have f4_12 : a0_4.eval (.tmp 12) = .int .i64 (i : Int) := by rw [ha4, ev_other _ _ _ _ (by decide)]; exact f3_12
  have f4_126 : a0_4.eval (.tmp 126) = .bool false := by rw [ha4, ev_other _ _ _ _ (by decide)]; exact f3_126
  have f4_127 : a0_4.eval (.tmp 127) = .slice (some ⟨g, 0, none⟩) m cap := by rw [ha4, ev_other _ _ _ _ (by decide)]; exact f3_127
  have f4_128 : a0_4.eval (.tmp 128) = .int .i64 (j : Int) := by rw [ha4]; exact ev_same _ _ _ (Nat.lt_of_le_of_lt (by decide) qz3)
  rw [← ha4] at h0 ⊢
  clear ha4
  refine wpAnyH_take (i := 4) (oi := pd_4 s) (v := .pointer (some ⟨g, j * 32, none⟩)) (by kernel_rfl) (by kernel_rfl) (by kernel_rfl) (by kernel_rfl) (fun c a w h => hQ c _ _ _ w h) (Or.inl ⟨wanted_some rfl (by kernel_rfl) f4_126 (Nat.lt_of_le_of_lt (by decide) qz4), fun w hw => run_idxQ rfl f4_127 f4_128 hj w⟩) hS ?_
  change wpAnyH _ _ _ _ _ _ _ (a0_4.put (some 129) (.pointer (some ⟨g, j * 32, none⟩))) _
  obtain ⟨a0_5, ha5⟩ : ∃ rr : Act, rr = a0_4.put (some 129) (.pointer (some ⟨g, j * 32, none⟩)) := ⟨_, rfl⟩
  have qz5 : 137 < a0_5.tmps.size := by rw [ha5, sz_put]; exact qz4
  have f5_0 : a0_5.eval (.tmp 0) = .slice (some ⟨b, o, none⟩) n c := by rw [ha5, ev_other _ _ _ _ (by decide)]; exact f4_0
  have f5_12 : a0_5.eval (.tmp 12) = .int .i64 (i : Int) := by rw [ha5, ev_other _ _ _ _ (by decide)]; exact f4_12
  have f5_126 : a0_5.eval (.tmp 126) = .bool false := by rw [ha5, ev_other _ _ _ _ (by decide)]; exact f4_126
  have f5_129 : a0_5.eval (.tmp 129) = .pointer (some ⟨g, j * 32, none⟩) := by rw [ha5]; exact ev_same _ _ _ (Nat.lt_of_le_of_lt (by decide) qz4)
  rw [← ha5] at h0 ⊢
  clear ha5
  refine wpAnyH_take (i := 5) (oi := pd_5 s) (v := keyV x) (by kernel_rfl) (by kernel_rfl) (by kernel_rfl) (by kernel_rfl) (fun c a w h => hQ c _ _ _ w h) (Or.inl ⟨wanted_some rfl (by kernel_rfl) f5_126 (Nat.lt_of_le_of_lt (by decide) qz5), fun w hw => run_load rfl f5_129 (loadAt_key hx hw.1)⟩) hS ?_
  change wpAnyH _ _ _ _ _ _ _ (a0_5.put (some 130) (keyV x)) _
  obtain ⟨a0_6, ha6⟩ : ∃ rr : Act, rr = a0_5.put (some 130) (keyV x) := ⟨_, rfl⟩
  have qz6 : 137 < a0_6.tmps.size := by rw [ha6, sz_put]; exact qz5
  have f6_0 : a0_6.eval (.tmp 0) = .slice (some ⟨b, o, none⟩) n c := by rw [ha6, ev_other _ _ _ _ (by decide)]; exact f5_0
  have f6_12 : a0_6.eval (.tmp 12) = .int .i64 (i : Int) := by rw [ha6, ev_other _ _ _ _ (by decide)]; exact f5_12
  have f6_126 : a0_6.eval (.tmp 126) = .bool false := by rw [ha6, ev_other _ _ _ _ (by decide)]; exact f5_126
  have f6_130 : a0_6.eval (.tmp 130) = keyV x := by rw [ha6]; exact ev_same _ _ _ (Nat.lt_of_le_of_lt (by decide) qz5)
  rw [← ha6] at h0 ⊢
  clear ha6
  refine wpAnyH_take (i := 6) (oi := pd_6 s) (v := .slice (some ⟨b, o, none⟩) n c) (by kernel_rfl) (by kernel_rfl) (by kernel_rfl) (by kernel_rfl) (fun c a w h => hQ c _ _ _ w h) (Or.inl ⟨wanted_some rfl (by kernel_rfl) f6_126 (Nat.lt_of_le_of_lt (by decide) qz6), fun w hw => by simp only [execOp, pd_6, f6_0]; rfl⟩) hS ?_
  change wpAnyH _ _ _ _ _ _ _ (a0_6.put (some 131) (.slice (some ⟨b, o, none⟩) n c)) _
  obtain ⟨a0_7, ha7⟩ : ∃ rr : Act, rr = a0_6.put (some 131) (.slice (some ⟨b, o, none⟩) n c) := ⟨_, rfl⟩
  have qz7 : 137 < a0_7.tmps.size := by rw [ha7, sz_put]; exact qz6
  have f7_12 : a0_7.eval (.tmp 12) = .int .i64 (i : Int) := by rw [ha7, ev_other _ _ _ _ (by decide)]; exact f6_12
  have f7_126 : a0_7.eval (.tmp 126) = .bool false := by rw [ha7, ev_other _ _ _ _ (by decide)]; exact f6_126
  have f7_130 : a0_7.eval (.tmp 130) = keyV x := by rw [ha7, ev_other _ _ _ _ (by decide)]; exact f6_130
  have f7_131 : a0_7.eval (.tmp 131) = .slice (some ⟨b, o, none⟩) n c := by rw [ha7]; exact ev_same _ _ _ (Nat.lt_of_le_of_lt (by decide) qz6)
  rw [← ha7] at h0 ⊢
  clear ha7
  refine wpAnyH_take (i := 7) (oi := pd_7 s) (v := .int .i64 (i : Int)) (by kernel_rfl) (by kernel_rfl) (by kernel_rfl) (by kernel_rfl) (fun c a w h => hQ c _ _ _ w h) (Or.inl ⟨wanted_some rfl (by kernel_rfl) f7_126 (Nat.lt_of_le_of_lt (by decide) qz7), fun w hw => by simp only [execOp, pd_7, f7_12]; rfl⟩) hS ?_
  change wpAnyH _ _ _ _ _ _ _ (a0_7.put (some 132) (.int .i64 (i : Int))) _
  obtain ⟨a0_8, ha8⟩ : ∃ rr : Act, rr = a0_7.put (some 132) (.int .i64 (i : Int)) := ⟨_, rfl⟩
  have qz8 : 137 < a0_8.tmps.size := by rw [ha8, sz_put]; exact qz7
  have f8_126 : a0_8.eval (.tmp 126) = .bool false := by rw [ha8, ev_other _ _ _ _ (by decide)]; exact f7_126
  have f8_130 : a0_8.eval (.tmp 130) = keyV x := by rw [ha8, ev_other _ _ _ _ (by decide)]; exact f7_130
  have f8_131 : a0_8.eval (.tmp 131) = .slice (some ⟨b, o, none⟩) n c := by rw [ha8, ev_other _ _ _ _ (by decide)]; exact f7_131
  have f8_132 : a0_8.eval (.tmp 132) = .int .i64 (i : Int) := by rw [ha8]; exact ev_same _ _ _ (Nat.lt_of_le_of_lt (by decide) qz7)
  rw [← ha8] at h0 ⊢
  clear ha8
  refine wpAnyH_take (i := 8) (oi := pd_8 s) (v := .pointer (some ⟨b, o + i * 33, none⟩)) (by kernel_rfl) (by kernel_rfl) (by kernel_rfl) (by kernel_rfl) (fun c a w h => hQ c _ _ _ w h) (Or.inl ⟨wanted_some rfl (by kernel_rfl) f8_126 (Nat.lt_of_le_of_lt (by decide) qz8), fun w hw => run_idxP rfl f8_131 f8_132 hi w⟩) hS ?_
  change wpAnyH _ _ _ _ _ _ _ (a0_8.put (some 133) (.pointer (some ⟨b, o + i * 33, none⟩))) _
  obtain ⟨a0_9, ha9⟩ : ∃ rr : Act, rr = a0_8.put (some 133) (.pointer (some ⟨b, o + i * 33, none⟩)) := ⟨_, rfl⟩
  have qz9 : 137 < a0_9.tmps.size := by rw [ha9, sz_put]; exact qz8
  have f9_126 : a0_9.eval (.tmp 126) = .bool false := by rw [ha9, ev_other _ _ _ _ (by decide)]; exact f8_126
  have f9_130 : a0_9.eval (.tmp 130) = keyV x := by rw [ha9, ev_other _ _ _ _ (by decide)]; exact f8_130
  have f9_133 : a0_9.eval (.tmp 133) = .pointer (some ⟨b, o + i * 33, none⟩) := by rw [ha9]; exact ev_same _ _ _ (Nat.lt_of_le_of_lt (by decide) qz8)
  rw [← ha9] at h0 ⊢
  clear ha9
  refine wpAnyH_take (i := 9) (oi := pd_9 s) (v := .pointer (some ⟨b, o + i * 33 + 1, none⟩)) (by kernel_rfl) (by kernel_rfl) (by kernel_rfl) (by kernel_rfl) (fun c a w h => hQ c _ _ _ w h) (Or.inl ⟨wanted_some rfl (by kernel_rfl) f9_126 (Nat.lt_of_le_of_lt (by decide) qz9), fun w hw => run_fldP rfl f9_133 w⟩) hS ?_
  change wpAnyH _ _ _ _ _ _ _ (a0_9.put (some 134) (.pointer (some ⟨b, o + i * 33 + 1, none⟩))) _
  obtain ⟨a0_10, ha10⟩ : ∃ rr : Act, rr = a0_9.put (some 134) (.pointer (some ⟨b, o + i * 33 + 1, none⟩)) := ⟨_, rfl⟩
  have qz10 : 137 < a0_10.tmps.size := by rw [ha10, sz_put]; exact qz9
  have f10_126 : a0_10.eval (.tmp 126) = .bool false := by rw [ha10, ev_other _ _ _ _ (by decide)]; exact f9_126
  have f10_130 : a0_10.eval (.tmp 130) = keyV x := by rw [ha10, ev_other _ _ _ _ (by decide)]; exact f9_130
  have f10_134 : a0_10.eval (.tmp 134) = .pointer (some ⟨b, o + i * 33 + 1, none⟩) := by rw [ha10]; exact ev_same _ _ _ (Nat.lt_of_le_of_lt (by decide) qz9)
  rw [← ha10] at h0 ⊢
  clear ha10
  refine wpAnyH_take (i := 10) (oi := pd_10 s) (v := keyV y) (by kernel_rfl) (by kernel_rfl) (by kernel_rfl) (by kernel_rfl) (fun c a w h => hQ c _ _ _ w h) (Or.inl ⟨wanted_some rfl (by kernel_rfl) f10_126 (Nat.lt_of_le_of_lt (by decide) qz10), fun w hw => run_load rfl f10_134 (loadAt_key hy hw.2)⟩) hS ?_
  change wpAnyH _ _ _ _ _ _ _ (a0_10.put (some 135) (keyV y)) _
  obtain ⟨a0_11, ha11⟩ : ∃ rr : Act, rr = a0_10.put (some 135) (keyV y) := ⟨_, rfl⟩
  have qz11 : 137 < a0_11.tmps.size := by rw [ha11, sz_put]; exact qz10
  have f11_126 : a0_11.eval (.tmp 126) = .bool false := by rw [ha11, ev_other _ _ _ _ (by decide)]; exact f10_126
  have f11_130 : a0_11.eval (.tmp 130) = keyV x := by rw [ha11, ev_other _ _ _ _ (by decide)]; exact f10_130
  have f11_135 : a0_11.eval (.tmp 135) = keyV y := by rw [ha11]; exact ev_same _ _ _ (Nat.lt_of_le_of_lt (by decide) qz10)
  rw [← ha11] at h0 ⊢
  clear ha11
  refine wpAnyH_take (i := 11) (oi := pd_11 s) (v := .bool (x == y)) (by kernel_rfl) (by kernel_rfl) (by kernel_rfl) (by kernel_rfl) (fun c a w h => hQ c _ _ _ w h) (Or.inl ⟨wanted_some rfl (by kernel_rfl) f11_126 (Nat.lt_of_le_of_lt (by decide) qz11), fun w hw => run_eqlQ rfl f11_130 f11_135 hx hy w⟩) hS ?_
  change wpAnyH _ _ _ _ _ _ _ (a0_11.put (some 136) (.bool (x == y))) _
  obtain ⟨a0_12, ha12⟩ : ∃ rr : Act, rr = a0_11.put (some 136) (.bool (x == y)) := ⟨_, rfl⟩
  have qz12 : 137 < a0_12.tmps.size := by rw [ha12, sz_put]; exact qz11
  have f12_126 : a0_12.eval (.tmp 126) = .bool false := by rw [ha12, ev_other _ _ _ _ (by decide)]; exact f11_126
  have f12_136 : a0_12.eval (.tmp 136) = .bool (x == y) := by rw [ha12]; exact ev_same _ _ _ (Nat.lt_of_le_of_lt (by decide) qz11)
  rw [← ha12] at h0 ⊢
  clear ha12
  refine wpAnyH_take (i := 12) (oi := pd_12 s) (v := .bool (x == y)) (by kernel_rfl) (by kernel_rfl) (by kernel_rfl) (by kernel_rfl) (fun c a w h => hQ c _ _ _ w h) (Or.inl ⟨wanted_none rfl, fun w hw => by simp only [execOp, pd_12, f12_126, f12_136]; rfl⟩) hS ?_
  change wpAnyH _ _ _ _ _ _ _ (a0_12.put (some 137) (.bool (x == y))) _
  obtain ⟨a0_13, ha13⟩ : ∃ rr : Act, rr = a0_12.put (some 137) (.bool (x == y)) := ⟨_, rfl⟩
  have qz13 : 137 < a0_13.tmps.size := by rw [ha13, sz_put]; exact qz12
  have f13_137 : a0_13.eval (.tmp 137) = .bool (x == y) := by rw [ha13]; exact ev_same _ _ _ (Nat.lt_of_le_of_lt (by decide) qz12)
  rw [← ha13] at h0 ⊢
  clear ha13
  refine wpAnyH_take (i := 13) (oi := pd_13 s) (v := .bool (x == y)) (by kernel_rfl) (by kernel_rfl) (by kernel_rfl) (by kernel_rfl) (fun c a w h => hQ c _ _ _ w h) (Or.inl ⟨wanted_none rfl, fun w hw => by simp only [execOp, pd_13, f13_137]; rfl⟩) hS ?_
  change wpAnyH _ _ _ _ _ _ _ (a0_13.put (some 13) (.bool (x == y))) _
  obtain ⟨a0_14, ha14⟩ : ∃ rr : Act, rr = a0_13.put (some 13) (.bool (x == y)) := ⟨_, rfl⟩
  have qz14 : 137 < a0_14.tmps.size := by rw [ha14, sz_put]; exact qz13
  rw [← ha14] at h0 ⊢
  clear ha14
  refine wpAnyH_done (by kernel_rfl) ?_ _
  exact h0
end Go.Proofs.Ytagnglkkmdeicaa
