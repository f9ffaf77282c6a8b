/- Arrays held against one another. -/
import Derived.Test.YtbohbkjkcpncfaaDoorSR
import Derived.Test.YtbohbkjkcpncfaaDoorSK6
import Derived.Stop.BytesEq
import Derived.ChangeKeysEq
namespace Go.Proofs.YtbohbkjkcpncfaaDoor
set_option linter.unusedVariables false
set_option linter.unusedSimpArgs false
open Go.RowKit

theorem eqItems_same (d : Nat) (cs : Array Value) (w : World) : ∀ is : List Nat, (∀ i ∈ is, ∃ x, cs[i]? = some (.int .u32 x)) → (Op.eqItems (d + 1) 32 1 cs cs is).run Tryd.prog w = .ok true w
  | [], _ => by simp [Op.eqItems]
  | i :: is, h => by
    obtain ⟨x, hx⟩ := h i (by simp)
    have ih := eqItems_same d cs w is (fun j hj => h j (by simp [hj]))
    have hp : (part 32 cs (i * 1)).run Tryd.prog w = .ok (.int .u32 x) w := by
      rw [Nat.mul_one]; simp [part, isAgg, run_underlying Tryd.underlying32, hx]
    have he : (Op.equalIn (d + 1) 32 (.int .u32 x) (.int .u32 x)).run Tryd.prog w = .ok true w := by
      rw [run_equalIn_int w d 32 .u32 .u32 _ _ Tryd.underlying32]; simp
    simp only [Op.eqItems, Sem.run_bind, hp, he, Result.andThen_ok]
    simpa using ih
theorem eql8 (x0 x1 x2 x3 x4 x5 x6 x7 : Int) (w : World) : (binOp .eql 33 (.agg (cells8 x0 x1 x2 x3 x4 x5 x6 x7)) (.agg (cells8 x0 x1 x2 x3 x4 x5 x6 x7))).run Tryd.prog w = .ok (.bool true) w := by
  obtain ⟨i, hi⟩ : ∃ i, Tryd.prog.info? 32 = some i := ⟨_, rfl⟩
  have hc : Tryd.prog.cellsOf 32 = 1 := by kernel_rfl
  rw [run_eql_struct, run_equalIn_array w 9999 _ _ Tryd.underlying33 hi, hc, eqItems_same 9998 _ w (List.range 8) ?_]
  · rfl
  · intro i hi
    rw [List.mem_range] at hi
    rcases (show i = 0 ∨ i = 1 ∨ i = 2 ∨ i = 3 ∨ i = 4 ∨ i = 5 ∨ i = 6 ∨ i = 7 by omega) with rfl | rfl | rfl | rfl | rfl | rfl | rfl | rfl <;> exact ⟨_, rfl⟩
theorem guard8 : Tryd.prog.eqGuardType Tryd.prog.depth 33 = false := by kernel_rfl
theorem run_eql8 {op : Oper} {ev : Operand → Value} {x y : Operand} {u : TypeId} {x0 x1 x2 x3 x4 x5 x6 x7 : Int} (ho : op.op = .binOp .eql 33 x y u) (hx : ev x = .agg (cells8 x0 x1 x2 x3 x4 x5 x6 x7)) (hy : ev y = .agg (cells8 x0 x1 x2 x3 x4 x5 x6 x7)) (w : World) : (execOp ev op).run Tryd.prog w = .ok (.value (.bool true)) w := by
  simp only [execOp, ho, hx, hy, Sem.run_bind, run_eqGuard_agg (P := Tryd.prog) w .eql 33 x y _ _ guard8, Result.andThen_ok, eql8, Sem.run_pure]
/-- Four arrays in memory. -/
def B4 (zs zb z7 z8 : Nat) (cs bc rc fc : Array Value) (W : World) : Prop := Blk W zs cs 33 ∧ Blk W zb bc 34 ∧ Blk W z7 rc 33 ∧ Blk W z8 fc 33
theorem B4.below {zs zb z7 z8 : Nat} {cs bc rc fc : Array Value} {W W' : World} (h : B4 zs zb z7 z8 cs bc rc fc W) (hb : Below W.heap.size W W') : B4 zs zb z7 z8 cs bc rc fc W' :=
  ⟨h.1.below hb h.1.lt, h.2.1.below hb h.2.1.lt, h.2.2.1.below hb h.2.2.1.lt, h.2.2.2.below hb h.2.2.2.lt⟩
def b13_0 (s : String) : Oper := { dst := some 49, op := Op.load 33 (Operand.tmp 3), type := 33, pos := s, after := #[], guard := none }
def b13_1 (s : String) : Oper := { dst := some 50, op := Op.load 34 (Operand.tmp 5), type := 34, pos := s, after := #[], guard := none }
def b13_2 (s : String) : Oper := { dst := some 51, op := Op.call { callee := Callee.value (Operand.func 14), args := #[Operand.tmp 49, Operand.tmp 50], argTypes := #[33, 34] }, type := 33, pos := s, after := #[{ on := 0, ground := Ground.data }, { on := 1, ground := Ground.data }], guard := none }
def b13_3 (s : String) : Oper := { dst := some 52, op := Op.load 33 (Operand.tmp 7), type := 33, pos := s, after := #[], guard := none }
def b13_4 (s : String) : Oper := { dst := some 53, op := Op.binOp BinOp.eql 33 (Operand.tmp 51) (Operand.tmp 52) 33, type := 4, pos := s, after := #[{ on := 2, ground := Ground.data }, { on := 3, ground := Ground.data }], guard := none }
def b13_5 (s : String) : Oper := { dst := some 54, op := Op.move (Operand.tmp 53), type := 4, pos := s, after := #[{ on := 4, ground := Ground.data }, { on := 2, ground := Ground.chain }], guard := none }
def b13_6 (s : String) : Oper := { dst := some 55, op := Op.call { callee := Callee.value (Operand.func 15), args := #[], argTypes := #[] }, type := 33, pos := s, after := #[{ on := 5, ground := Ground.chain }, { on := 5, ground := Ground.guard }], guard := some (5, true) }
def b13_7 (s : String) : Oper := { dst := some 56, op := Op.load 33 (Operand.tmp 8), type := 33, pos := s, after := #[{ on := 5, ground := Ground.guard }], guard := some (5, true) }
def b13_8 (s : String) : Oper := { dst := some 57, op := Op.binOp BinOp.eql 33 (Operand.tmp 55) (Operand.tmp 56) 33, type := 4, pos := s, after := #[{ on := 6, ground := Ground.data }, { on := 7, ground := Ground.data }, { on := 5, ground := Ground.guard }], guard := some (5, true) }
def b13_9 (s : String) : Oper := { dst := some 58, op := Op.pick (Operand.tmp 54) (Operand.tmp 57) (Operand.const (Value.bool false)), type := 4, pos := s, after := #[{ on := 5, ground := Ground.data }, { on := 8, ground := Ground.data }], guard := none }
def b13_10 (s : String) : Oper := { dst := some 2, op := Op.assign (Operand.tmp 58), type := 4, pos := s, after := #[{ on := 9, ground := Ground.data }, { on := 6, ground := Ground.chain }, { on := 0, ground := Ground.phase }, { on := 1, ground := Ground.phase }, { on := 2, ground := Ground.phase }, { on := 3, ground := Ground.phase }, { on := 4, ground := Ground.phase }, { on := 5, ground := Ground.phase }, { on := 6, ground := Ground.phase }, { on := 7, ground := Ground.phase }, { on := 8, ground := Ground.phase }, { on := 9, ground := Ground.phase }], guard := none }
def b13_ops (s : String) : Array Oper := #[b13_0 s, b13_1 s, b13_2 s, b13_3 s, b13_4 s, b13_5 s, b13_6 s, b13_7 s, b13_8 s, b13_9 s, b13_10 s]
theorem b13_enter2 (s : String) (a : Act) (w : World) : (execOp a.eval (b13_2 s)).run Tryd.prog w = .ok (.enter 14 #[a.eval (.tmp 49), a.eval (.tmp 50)]) w := by kernel_rfl
theorem b13_enter6 (s : String) (a : Act) (w : World) : (execOp a.eval (b13_6 s)).run Tryd.prog w = .ok (.enter 15 #[]) w := by kernel_rfl
theorem b13_walk (s : String) {Q : Exit → Act → World → Prop} (hQ : ∀ c (a : Act) t v w, Q (.panic c) (a.put (some t) v) w → Q (.panic c) a w) (W : World) (zs zb z7 z8 : Nat) (cs bc : Array Value) (x0 x1 x2 x3 x4 x5 x6 x7 y0 y1 y2 y3 y4 y5 y6 y7 : Int) (hB : B4 zs zb z7 z8 cs bc (cells8 x0 x1 x2 x3 x4 x5 x6 x7) (cells8 y0 y1 y2 y3 y4 y5 y6 y7) W) (hn : cs.size = 8) (hm : bc.size = 64) (hc : ∀ W', Below W.heap.size W W' → Calls Tryd.prog 14 #[.agg cs, .agg bc] W' fun e w' => e = .returned (.agg (cells8 x0 x1 x2 x3 x4 x5 x6 x7)) ∧ Below W'.heap.size W' w') (hc2 : ∀ W', Calls Tryd.prog 15 #[] W' fun e w' => e = .returned (.agg (cells8 y0 y1 y2 y3 y4 y5 y6 y7)) ∧ Below W'.heap.size W' w')
    (a : Act) (hs : 58 < a.tmps.size) (e3 : a.eval (.tmp 3) = .pointer (some ⟨zs, 0, none⟩)) (e5 : a.eval (.tmp 5) = .pointer (some ⟨zb, 0, none⟩)) (e7 : a.eval (.tmp 7) = .pointer (some ⟨z7, 0, none⟩)) (e8 : a.eval (.tmp 8) = .pointer (some ⟨z8, 0, none⟩))
    (h0 : ∀ w2, Below W.heap.size W w2 → Q .normal (((((((((((a.put (some 49) (.agg cs)).put (some 50) (.agg bc)).put (some 52) (.agg (cells8 x0 x1 x2 x3 x4 x5 x6 x7))).put (some 51) (.agg (cells8 x0 x1 x2 x3 x4 x5 x6 x7))).put (some 53) (.bool true)).put (some 54) (.bool true)).put (some 56) (.agg (cells8 y0 y1 y2 y3 y4 y5 y6 y7))).put (some 55) (.agg (cells8 y0 y1 y2 y3 y4 y5 y6 y7))).put (some 57) (.bool true)).put (some 58) (.bool true)).put (some 2) (.bool true)) w2) :
    Code.wp Tryd.prog (.region 13 (b13_ops s) true) Q a W := by
  have hdr : Below W.heap.size W W.drew := ⟨rfl, rfl, rfl, Nat.le_refl _, fun _ _ => rfl⟩
  refine wp_region_held_drew (S := B4 zs zb z7 z8 cs bc (cells8 x0 x1 x2 x3 x4 x5 x6 x7) (cells8 y0 y1 y2 y3 y4 y5 y6 y7)) (by kernel_rfl) hB (fun hS => ?_)
  change wpAnyH _ _ _ _ _ _ _ _ (World.drew _)
  refine wpAnyH_take (i := 0) (oi := b13_0 s) (v := .agg cs) (by kernel_rfl) (by kernel_rfl) (by kernel_rfl) (by kernel_rfl) (fun c a w h => hQ c _ _ _ w h) (Or.inl ⟨wanted_none rfl, fun w hw => run_load rfl e3 (loadAt_blk hw.1 33 _ Tryd.underlying33 rfl 8 infoS8 hn)⟩) hS ?_
  change wpAnyH _ _ _ _ _ _ _ (a.put (some 49) (.agg cs)) _
  obtain ⟨a0_1, ha1⟩ : ∃ rr : Act, rr = a.put (some 49) (.agg cs) := ⟨_, rfl⟩
  have qz1 : 58 < a0_1.tmps.size := by rw [ha1, sz_put]; exact hs
  have f1_5 : a0_1.eval (.tmp 5) = .pointer (some ⟨zb, 0, none⟩) := by rw [ha1, ev_other _ _ _ _ (by decide)]; exact e5
  have f1_7 : a0_1.eval (.tmp 7) = .pointer (some ⟨z7, 0, none⟩) := by rw [ha1, ev_other _ _ _ _ (by decide)]; exact e7
  have f1_8 : a0_1.eval (.tmp 8) = .pointer (some ⟨z8, 0, none⟩) := by rw [ha1, ev_other _ _ _ _ (by decide)]; exact e8
  have f1_49 : a0_1.eval (.tmp 49) = .agg cs := by rw [ha1]; exact ev_same _ _ _ (Nat.lt_of_le_of_lt (by decide) hs)
  rw [← ha1] at h0 ⊢
  clear ha1
  refine wpAnyH_take (i := 1) (oi := b13_1 s) (v := .agg bc) (by kernel_rfl) (by kernel_rfl) (by kernel_rfl) (by kernel_rfl) (fun c a w h => hQ c _ _ _ w h) (Or.inl ⟨wanted_none rfl, fun w hw => run_load rfl f1_5 (loadAt_blk hw.2.1 34 _ Tryd.underlying34 rfl 64 infoB64 hm)⟩) hS ?_
  change wpAnyH _ _ _ _ _ _ _ (a0_1.put (some 50) (.agg bc)) _
  obtain ⟨a0_2, ha2⟩ : ∃ rr : Act, rr = a0_1.put (some 50) (.agg bc) := ⟨_, rfl⟩
  have qz2 : 58 < a0_2.tmps.size := by rw [ha2, sz_put]; exact qz1
  have f2_7 : a0_2.eval (.tmp 7) = .pointer (some ⟨z7, 0, none⟩) := by rw [ha2, ev_other _ _ _ _ (by decide)]; exact f1_7
  have f2_8 : a0_2.eval (.tmp 8) = .pointer (some ⟨z8, 0, none⟩) := by rw [ha2, ev_other _ _ _ _ (by decide)]; exact f1_8
  have f2_49 : a0_2.eval (.tmp 49) = .agg cs := by rw [ha2, ev_other _ _ _ _ (by decide)]; exact f1_49
  have f2_50 : a0_2.eval (.tmp 50) = .agg bc := by rw [ha2]; exact ev_same _ _ _ (Nat.lt_of_le_of_lt (by decide) qz1)
  rw [← ha2] at h0 ⊢
  clear ha2
  refine wpAnyH_take (i := 3) (oi := b13_3 s) (v := .agg (cells8 x0 x1 x2 x3 x4 x5 x6 x7)) (by kernel_rfl) (by kernel_rfl) (by kernel_rfl) (by kernel_rfl) (fun c a w h => hQ c _ _ _ w h) (Or.inl ⟨wanted_none rfl, fun w hw => run_load rfl f2_7 (loadAt_blk hw.2.2.1 33 _ Tryd.underlying33 rfl 8 infoS8 rfl)⟩) hS ?_
  change wpAnyH _ _ _ _ _ _ _ (a0_2.put (some 52) (.agg (cells8 x0 x1 x2 x3 x4 x5 x6 x7))) _
  obtain ⟨a0_3, ha3⟩ : ∃ rr : Act, rr = a0_2.put (some 52) (.agg (cells8 x0 x1 x2 x3 x4 x5 x6 x7)) := ⟨_, rfl⟩
  have qz3 : 58 < a0_3.tmps.size := by rw [ha3, sz_put]; exact qz2
  have f3_8 : a0_3.eval (.tmp 8) = .pointer (some ⟨z8, 0, none⟩) := by rw [ha3, ev_other _ _ _ _ (by decide)]; exact f2_8
  have f3_49 : a0_3.eval (.tmp 49) = .agg cs := by rw [ha3, ev_other _ _ _ _ (by decide)]; exact f2_49
  have f3_50 : a0_3.eval (.tmp 50) = .agg bc := by rw [ha3, ev_other _ _ _ _ (by decide)]; exact f2_50
  have f3_52 : a0_3.eval (.tmp 52) = .agg (cells8 x0 x1 x2 x3 x4 x5 x6 x7) := by rw [ha3]; exact ev_same _ _ _ (Nat.lt_of_le_of_lt (by decide) qz2)
  rw [← ha3] at h0 ⊢
  clear ha3
  refine wpAnyH_ready (rs := [2]) (by kernel_rfl) (by simp) ?_
  refine AllReadyH.cons (o := b13_2 s) (by kernel_rfl) (fun KQ hKQ => ?_) AllReadyH.nil
  rw [if_pos (wanted_none rfl)]
  refine step_enterE 14 #[.agg cs, .agg bc] (by rw [b13_enter2, f3_49, f3_50]) (fun V w' => V = .agg (cells8 x0 x1 x2 x3 x4 x5 x6 x7) ∧ Below W.heap.size W w') ((hc W.drew hdr).mono (fun e w' h => ⟨_, h.1, rfl, hdr.trans h.2⟩)) ?_
  rintro _ w1 ⟨rfl, hb1⟩
  have hS1 := hB.below hb1
  refine hKQ.out _ _ (hS1) (fun _ => ?_)
  clear hKQ KQ
  change wpAnyH _ _ _ _ _ _ _ (a0_3.put (some 51) (.agg (cells8 x0 x1 x2 x3 x4 x5 x6 x7))) _
  obtain ⟨a0_4, ha4⟩ : ∃ rr : Act, rr = a0_3.put (some 51) (.agg (cells8 x0 x1 x2 x3 x4 x5 x6 x7)) := ⟨_, rfl⟩
  have qz4 : 58 < a0_4.tmps.size := by rw [ha4, sz_put]; exact qz3
  have f4_8 : a0_4.eval (.tmp 8) = .pointer (some ⟨z8, 0, none⟩) := by rw [ha4, ev_other _ _ _ _ (by decide)]; exact f3_8
  have f4_51 : a0_4.eval (.tmp 51) = .agg (cells8 x0 x1 x2 x3 x4 x5 x6 x7) := by rw [ha4]; exact ev_same _ _ _ (Nat.lt_of_le_of_lt (by decide) qz3)
  have f4_52 : a0_4.eval (.tmp 52) = .agg (cells8 x0 x1 x2 x3 x4 x5 x6 x7) := by rw [ha4, ev_other _ _ _ _ (by decide)]; exact f3_52
  rw [← ha4] at h0 ⊢
  clear ha4
  refine wpAnyH_take (i := 4) (oi := b13_4 s) (v := .bool true) (by kernel_rfl) (by kernel_rfl) (by kernel_rfl) (by kernel_rfl) (fun c a w h => hQ c _ _ _ w h) (Or.inl ⟨wanted_none rfl, fun w hw => run_eql8 rfl f4_51 f4_52 w⟩) hS1 ?_
  change wpAnyH _ _ _ _ _ _ _ (a0_4.put (some 53) (.bool true)) _
  obtain ⟨a0_5, ha5⟩ : ∃ rr : Act, rr = a0_4.put (some 53) (.bool true) := ⟨_, rfl⟩
  have qz5 : 58 < a0_5.tmps.size := by rw [ha5, sz_put]; exact qz4
  have f5_8 : a0_5.eval (.tmp 8) = .pointer (some ⟨z8, 0, none⟩) := by rw [ha5, ev_other _ _ _ _ (by decide)]; exact f4_8
  have f5_53 : a0_5.eval (.tmp 53) = .bool true := by rw [ha5]; exact ev_same _ _ _ (Nat.lt_of_le_of_lt (by decide) qz4)
  rw [← ha5] at h0 ⊢
  clear ha5
  refine wpAnyH_take (i := 5) (oi := b13_5 s) (v := .bool true) (by kernel_rfl) (by kernel_rfl) (by kernel_rfl) (by kernel_rfl) (fun c a w h => hQ c _ _ _ w h) (Or.inl ⟨wanted_none rfl, fun w hw => by simp only [execOp, b13_5, f5_53]; rfl⟩) hS1 ?_
  change wpAnyH _ _ _ _ _ _ _ (a0_5.put (some 54) (.bool true)) _
  obtain ⟨a0_6, ha6⟩ : ∃ rr : Act, rr = a0_5.put (some 54) (.bool true) := ⟨_, rfl⟩
  have qz6 : 58 < a0_6.tmps.size := by rw [ha6, sz_put]; exact qz5
  have f6_8 : a0_6.eval (.tmp 8) = .pointer (some ⟨z8, 0, none⟩) := by rw [ha6, ev_other _ _ _ _ (by decide)]; exact f5_8
  have f6_54 : a0_6.eval (.tmp 54) = .bool true := by rw [ha6]; exact ev_same _ _ _ (Nat.lt_of_le_of_lt (by decide) qz5)
  rw [← ha6] at h0 ⊢
  clear ha6
  refine wpAnyH_take (i := 7) (oi := b13_7 s) (v := .agg (cells8 y0 y1 y2 y3 y4 y5 y6 y7)) (by kernel_rfl) (by kernel_rfl) (by kernel_rfl) (by kernel_rfl) (fun c a w h => hQ c _ _ _ w h) (Or.inl ⟨wanted_some rfl (by kernel_rfl) f6_54 (Nat.lt_of_le_of_lt (by decide) qz6), fun w hw => run_load rfl f6_8 (loadAt_blk hw.2.2.2 33 _ Tryd.underlying33 rfl 8 infoS8 rfl)⟩) hS1 ?_
  change wpAnyH _ _ _ _ _ _ _ (a0_6.put (some 56) (.agg (cells8 y0 y1 y2 y3 y4 y5 y6 y7))) _
  obtain ⟨a0_7, ha7⟩ : ∃ rr : Act, rr = a0_6.put (some 56) (.agg (cells8 y0 y1 y2 y3 y4 y5 y6 y7)) := ⟨_, rfl⟩
  have qz7 : 58 < a0_7.tmps.size := by rw [ha7, sz_put]; exact qz6
  have f7_54 : a0_7.eval (.tmp 54) = .bool true := by rw [ha7, ev_other _ _ _ _ (by decide)]; exact f6_54
  have f7_56 : a0_7.eval (.tmp 56) = .agg (cells8 y0 y1 y2 y3 y4 y5 y6 y7) := by rw [ha7]; exact ev_same _ _ _ (Nat.lt_of_le_of_lt (by decide) qz6)
  rw [← ha7] at h0 ⊢
  clear ha7
  refine wpAnyH_ready (rs := [6]) (by kernel_rfl) (by simp) ?_
  refine AllReadyH.cons (o := b13_6 s) (by kernel_rfl) (fun KQ hKQ => ?_) AllReadyH.nil
  rw [if_pos (wanted_some rfl (by kernel_rfl) f7_54 (Nat.lt_of_le_of_lt (by decide) qz7))]
  refine step_enterE 15 #[] (by rw [b13_enter6]) (fun V w' => V = .agg (cells8 y0 y1 y2 y3 y4 y5 y6 y7) ∧ Below w1.heap.size w1 w') ((hc2 w1).mono (fun e w' h => ⟨_, h.1, rfl, h.2⟩)) ?_
  rintro _ w2 ⟨rfl, hb2⟩
  have hb2W := hb1.trans (hb2.mono hb1.size)
  have hS2 := hB.below hb2W
  refine hKQ.out _ _ (hS2) (fun _ => ?_)
  clear hKQ KQ
  change wpAnyH _ _ _ _ _ _ _ (a0_7.put (some 55) (.agg (cells8 y0 y1 y2 y3 y4 y5 y6 y7))) _
  have h0 := h0 w2 hb2W
  obtain ⟨a0_8, ha8⟩ : ∃ rr : Act, rr = a0_7.put (some 55) (.agg (cells8 y0 y1 y2 y3 y4 y5 y6 y7)) := ⟨_, rfl⟩
  have qz8 : 58 < a0_8.tmps.size := by rw [ha8, sz_put]; exact qz7
  have f8_54 : a0_8.eval (.tmp 54) = .bool true := by rw [ha8, ev_other _ _ _ _ (by decide)]; exact f7_54
  have f8_55 : a0_8.eval (.tmp 55) = .agg (cells8 y0 y1 y2 y3 y4 y5 y6 y7) := by rw [ha8]; exact ev_same _ _ _ (Nat.lt_of_le_of_lt (by decide) qz7)
  have f8_56 : a0_8.eval (.tmp 56) = .agg (cells8 y0 y1 y2 y3 y4 y5 y6 y7) := by rw [ha8, ev_other _ _ _ _ (by decide)]; exact f7_56
  rw [← ha8] at h0 ⊢
  clear ha8
  refine wpAnyH_take (i := 8) (oi := b13_8 s) (v := .bool true) (by kernel_rfl) (by kernel_rfl) (by kernel_rfl) (by kernel_rfl) (fun c a w h => hQ c _ _ _ w h) (Or.inl ⟨wanted_some rfl (by kernel_rfl) f8_54 (Nat.lt_of_le_of_lt (by decide) qz8), fun w hw => run_eql8 rfl f8_55 f8_56 w⟩) hS2 ?_
  change wpAnyH _ _ _ _ _ _ _ (a0_8.put (some 57) (.bool true)) _
  obtain ⟨a0_9, ha9⟩ : ∃ rr : Act, rr = a0_8.put (some 57) (.bool true) := ⟨_, rfl⟩
  have qz9 : 58 < a0_9.tmps.size := by rw [ha9, sz_put]; exact qz8
  have f9_54 : a0_9.eval (.tmp 54) = .bool true := by rw [ha9, ev_other _ _ _ _ (by decide)]; exact f8_54
  have f9_57 : a0_9.eval (.tmp 57) = .bool true := by rw [ha9]; exact ev_same _ _ _ (Nat.lt_of_le_of_lt (by decide) qz8)
  rw [← ha9] at h0 ⊢
  clear ha9
  refine wpAnyH_take (i := 9) (oi := b13_9 s) (v := .bool true) (by kernel_rfl) (by kernel_rfl) (by kernel_rfl) (by kernel_rfl) (fun c a w h => hQ c _ _ _ w h) (Or.inl ⟨wanted_none rfl, fun w hw => by simp only [execOp, b13_9, f9_54, f9_57]; rfl⟩) hS2 ?_
  change wpAnyH _ _ _ _ _ _ _ (a0_9.put (some 58) (.bool true)) _
  obtain ⟨a0_10, ha10⟩ : ∃ rr : Act, rr = a0_9.put (some 58) (.bool true) := ⟨_, rfl⟩
  have qz10 : 58 < a0_10.tmps.size := by rw [ha10, sz_put]; exact qz9
  have f10_58 : a0_10.eval (.tmp 58) = .bool true := by rw [ha10]; exact ev_same _ _ _ (Nat.lt_of_le_of_lt (by decide) qz9)
  rw [← ha10] at h0 ⊢
  clear ha10
  refine wpAnyH_take (i := 10) (oi := b13_10 s) (v := .bool true) (by kernel_rfl) (by kernel_rfl) (by kernel_rfl) (by kernel_rfl) (fun c a w h => hQ c _ _ _ w h) (Or.inl ⟨wanted_none rfl, fun w hw => by simp only [execOp, b13_10, f10_58]; rfl⟩) hS2 ?_
  change wpAnyH _ _ _ _ _ _ _ (a0_10.put (some 2) (.bool true)) _
  obtain ⟨a0_11, ha11⟩ : ∃ rr : Act, rr = a0_10.put (some 2) (.bool true) := ⟨_, rfl⟩
  have qz11 : 58 < a0_11.tmps.size := by rw [ha11, sz_put]; exact qz10
  rw [← ha11] at h0 ⊢
  clear ha11
  refine wpAnyH_done (by kernel_rfl) ?_ _
  exact h0
end Go.Proofs.YtbohbkjkcpncfaaDoor
