/- own: the region that holds both lists against their marks. -/
import Derived.Test.YtbnedlcldfpfdaaEX11
namespace Go.Proofs.Ytbnedlcldfpfdaa
set_option linter.unusedVariables false
set_option linter.unusedSimpArgs false
open Go.RowKit

theorem wanted_no {ops : Array Oper} {o : Oper} {a : Act} {j : Nat} {b : Bool} {t : Tmp} (hg : o.guard = some (j, b)) (hd : (ops[j]?).bind (·.dst) = some t) (he : a.eval (.tmp t) = .bool (!b)) (hz : t < a.tmps.size) : Region.wanted o (yielded ops a.tmps) = false := by
  have h1 : a.tmps[t]? = some (.bool (!b)) := by
    rw [Array.getElem?_eq_getElem hz]
    simpa [Act.eval, hz] using he
  simp [Region.wanted, hg, yielded, hd, h1]
theorem ldo_s {w : World} {b o : Nat} {v : Value} (h : w.cell? ⟨b, o, none⟩ = some v) : (Instr.loadAt 22 (.pointer (some ⟨b, o, none⟩))).run Try.prog w = .ok v w := by
  have hu := Try.underlying22
  simp [go_sem, hu, h]
theorem ldo_b {w : World} {b o : Nat} {v : Value} (h : w.cell? ⟨b, o, none⟩ = some v) : (Instr.loadAt 5 (.pointer (some ⟨b, o, none⟩))).run Try.prog w = .ok v w := by
  have hu := Try.underlying5
  simp [go_sem, hu, h]
theorem ixo_l {op : Oper} {ev : Operand → Value} {x y : Operand} {g n c j : Nat} (ho : op.op = .indexAddr 31 x y) (hx : ev x = .slice (some ⟨g, 0, none⟩) n c) (hy : ev y = .int .i64 (j : Int)) (h : (j : Int) < (n : Int)) (w : World) : (execOp ev op).run Try.prog w = .ok (.value (.pointer (some ⟨g, j, none⟩))) w := by
  have hu := Try.underlying31
  have hs : (sizeOf 22).run Try.prog w = .ok 1 w := by kernel_rfl
  simp only [execOp, ho, hx, hy]
  simp [go_sem, hu, hs, h]
theorem ixo_b {op : Oper} {ev : Operand → Value} {x y : Operand} {g n c j : Nat} (ho : op.op = .indexAddr 22 x y) (hx : ev x = .slice (some ⟨g, 0, none⟩) n c) (hy : ev y = .int .i64 (j : Int)) (h : (j : Int) < (n : Int)) (w : World) : (execOp ev op).run Try.prog w = .ok (.value (.pointer (some ⟨g, j, none⟩))) w := by
  have hu := Try.underlying22
  have hs : (sizeOf 5).run Try.prog w = .ok 1 w := by kernel_rfl
  simp only [execOp, ho, hx, hy]
  simp [go_sem, hu, hs, h]
theorem neo {op : Oper} {ev : Operand → Value} {x y : Operand} {u : TypeId} {q : Int} (ho : op.op = .binOp .neq 5 x y u) (hx : ev x = .int .u8 q) (hy : ev y = .int .u8 q) (w : World) : (execOp ev op).run Try.prog w = .ok (.value (.bool false)) w := by
  simp only [execOp, ho, hx, hy]
  simp [go_sem]
theorem lso {op : Oper} {ev : Operand → Value} {x y : Operand} {u : TypeId} {k m : Nat} {r : Bool} (hr : decide (k < m) = r) (ho : op.op = .binOp .lss 3 x y u) (hx : ev x = .int .i64 (k : Int)) (hy : ev y = .int .i64 (m : Int)) (w : World) : (execOp ev op).run Try.prog w = .ok (.value (.bool r)) w := by
  subst hr
  simp only [execOp, ho, hx, hy]
  simp [go_sem]
theorem leno {op : Oper} {ev : Operand → Value} {x : Operand} {ao : Option Addr} {n c : Nat} (ho : op.op = .call { callee := .builtin .len, args := #[x], argTypes := #[22] }) (hx : ev x = .slice ao n c) (w : World) : (execOp ev op).run Try.prog w = .ok (.value (.int .i64 n)) w := by
  have hu := Try.underlying22
  simp [execOp, ho, hx, go_sem, hu]
def oa_0 (s : String) : Oper := { dst := some 80, op := Op.move (Operand.tmp 3), type := 31, pos := s, after := #[], guard := none }
def oa_1 (s : String) : Oper := { dst := some 81, op := Op.move (Operand.tmp 9), type := 3, pos := s, after := #[], guard := none }
def oa_2 (s : String) : Oper := { dst := some 82, op := Op.indexAddr 31 (Operand.tmp 80) (Operand.tmp 81), type := 0, pos := s, after := #[{ on := 0, ground := Ground.data }, { on := 1, ground := Ground.data }], guard := none }
def oa_3 (s : String) : Oper := { dst := some 83, op := Op.load 22 (Operand.tmp 82), type := 22, pos := s, after := #[{ on := 2, ground := Ground.data }], guard := none }
def oa_4 (s : String) : Oper := { dst := some 84, op := Op.move (Operand.tmp 10), type := 3, pos := s, after := #[], guard := none }
def oa_5 (s : String) : Oper := { dst := some 85, op := Op.indexAddr 22 (Operand.tmp 83) (Operand.tmp 84), type := 0, pos := s, after := #[{ on := 3, ground := Ground.data }, { on := 4, ground := Ground.data }], guard := none }
def oa_6 (s : String) : Oper := { dst := some 86, op := Op.load 5 (Operand.tmp 85), type := 5, pos := s, after := #[{ on := 5, ground := Ground.data }], guard := none }
def oa_7 (s : String) : Oper := { dst := some 87, op := Op.move (Operand.tmp 9), type := 3, pos := s, after := #[], guard := none }
def oa_8 (s : String) : Oper := { dst := some 88, op := Op.move (Operand.tmp 10), type := 3, pos := s, after := #[], guard := none }
def oa_9 (s : String) : Oper := { dst := some 89, op := Op.call { callee := Callee.value (Operand.func 38), args := #[Operand.tmp 87, Operand.tmp 88], argTypes := #[3, 3] }, type := 5, pos := s, after := #[{ on := 7, ground := Ground.data }, { on := 8, ground := Ground.data }], guard := none }
def oa_10 (s : String) : Oper := { dst := some 90, op := Op.binOp BinOp.neq 5 (Operand.tmp 86) (Operand.tmp 89) 5, type := 4, pos := s, after := #[{ on := 6, ground := Ground.data }, { on := 9, ground := Ground.data }], guard := none }
def oa_11 (s : String) : Oper := { dst := some 91, op := Op.move (Operand.tmp 90), type := 4, pos := s, after := #[{ on := 10, ground := Ground.data }, { on := 9, ground := Ground.chain }], guard := none }
def oa_12 (s : String) : Oper := { dst := some 92, op := Op.move (Operand.tmp 10), type := 3, pos := s, after := #[{ on := 11, ground := Ground.guard }], guard := some (11, false) }
def oa_13 (s : String) : Oper := { dst := some 93, op := Op.move (Operand.tmp 0), type := 31, pos := s, after := #[{ on := 11, ground := Ground.guard }], guard := some (11, false) }
def oa_14 (s : String) : Oper := { dst := some 94, op := Op.move (Operand.tmp 9), type := 3, pos := s, after := #[{ on := 11, ground := Ground.guard }], guard := some (11, false) }
def oa_15 (s : String) : Oper := { dst := some 95, op := Op.indexAddr 31 (Operand.tmp 93) (Operand.tmp 94), type := 0, pos := s, after := #[{ on := 13, ground := Ground.data }, { on := 14, ground := Ground.data }, { on := 11, ground := Ground.guard }], guard := some (11, false) }
def oa_16 (s : String) : Oper := { dst := some 96, op := Op.load 22 (Operand.tmp 95), type := 22, pos := s, after := #[{ on := 15, ground := Ground.data }, { on := 11, ground := Ground.guard }], guard := some (11, false) }
def oa_17 (s : String) : Oper := { dst := some 97, op := Op.call { callee := Callee.builtin Builtin.len, args := #[Operand.tmp 96], argTypes := #[22] }, type := 3, pos := s, after := #[{ on := 16, ground := Ground.data }, { on := 11, ground := Ground.guard }], guard := some (11, false) }
def oa_18 (s : String) : Oper := { dst := some 98, op := Op.binOp BinOp.lss 3 (Operand.tmp 92) (Operand.tmp 97) 3, type := 4, pos := s, after := #[{ on := 12, ground := Ground.data }, { on := 17, ground := Ground.data }, { on := 11, ground := Ground.guard }], guard := some (11, false) }
def oa_19 (s : String) : Oper := { dst := some 99, op := Op.move (Operand.tmp 98), type := 4, pos := s, after := #[{ on := 18, ground := Ground.data }, { on := 11, ground := Ground.chain }, { on := 11, ground := Ground.guard }], guard := some (11, false) }
def oa_20 (s : String) : Oper := { dst := some 100, op := Op.move (Operand.tmp 0), type := 31, pos := s, after := #[{ on := 19, ground := Ground.guard }], guard := some (19, true) }
def oa_21 (s : String) : Oper := { dst := some 101, op := Op.move (Operand.tmp 9), type := 3, pos := s, after := #[{ on := 19, ground := Ground.guard }], guard := some (19, true) }
def oa_22 (s : String) : Oper := { dst := some 102, op := Op.indexAddr 31 (Operand.tmp 100) (Operand.tmp 101), type := 0, pos := s, after := #[{ on := 20, ground := Ground.data }, { on := 21, ground := Ground.data }, { on := 19, ground := Ground.guard }], guard := some (19, true) }
def oa_23 (s : String) : Oper := { dst := some 103, op := Op.load 22 (Operand.tmp 102), type := 22, pos := s, after := #[{ on := 22, ground := Ground.data }, { on := 19, ground := Ground.guard }], guard := some (19, true) }
def oa_24 (s : String) : Oper := { dst := some 104, op := Op.move (Operand.tmp 10), type := 3, pos := s, after := #[{ on := 19, ground := Ground.guard }], guard := some (19, true) }
def oa_25 (s : String) : Oper := { dst := some 105, op := Op.indexAddr 22 (Operand.tmp 103) (Operand.tmp 104), type := 0, pos := s, after := #[{ on := 23, ground := Ground.data }, { on := 24, ground := Ground.data }, { on := 19, ground := Ground.guard }], guard := some (19, true) }
def oa_26 (s : String) : Oper := { dst := some 106, op := Op.load 5 (Operand.tmp 105), type := 5, pos := s, after := #[{ on := 25, ground := Ground.data }, { on := 19, ground := Ground.guard }], guard := some (19, true) }
def oa_27 (s : String) : Oper := { dst := some 107, op := Op.move (Operand.tmp 9), type := 3, pos := s, after := #[{ on := 19, ground := Ground.guard }], guard := some (19, true) }
def oa_28 (s : String) : Oper := { dst := some 108, op := Op.move (Operand.tmp 10), type := 3, pos := s, after := #[{ on := 19, ground := Ground.guard }], guard := some (19, true) }
def oa_29 (s : String) : Oper := { dst := some 109, op := Op.call { callee := Callee.value (Operand.func 38), args := #[Operand.tmp 107, Operand.tmp 108], argTypes := #[3, 3] }, type := 5, pos := s, after := #[{ on := 27, ground := Ground.data }, { on := 28, ground := Ground.data }, { on := 19, ground := Ground.chain }, { on := 19, ground := Ground.guard }], guard := some (19, true) }
def oa_30 (s : String) : Oper := { dst := some 110, op := Op.binOp BinOp.neq 5 (Operand.tmp 106) (Operand.tmp 109) 5, type := 4, pos := s, after := #[{ on := 26, ground := Ground.data }, { on := 29, ground := Ground.data }, { on := 19, ground := Ground.guard }], guard := some (19, true) }
def oa_31 (s : String) : Oper := { dst := some 111, op := Op.pick (Operand.tmp 99) (Operand.tmp 110) (Operand.const (Value.bool false)), type := 4, pos := s, after := #[{ on := 19, ground := Ground.data }, { on := 30, ground := Ground.data }, { on := 11, ground := Ground.guard }], guard := some (11, false) }
def oa_32 (s : String) : Oper := { dst := some 112, op := Op.pick (Operand.tmp 91) (Operand.const (Value.bool true)) (Operand.tmp 111), type := 4, pos := s, after := #[{ on := 11, ground := Ground.data }, { on := 31, ground := Ground.data }], guard := none }
def oa_ops (s : String) : Array Oper := #[oa_0 s, oa_1 s, oa_2 s, oa_3 s, oa_4 s, oa_5 s, oa_6 s, oa_7 s, oa_8 s, oa_9 s, oa_10 s, oa_11 s, oa_12 s, oa_13 s, oa_14 s, oa_15 s, oa_16 s, oa_17 s, oa_18 s, oa_19 s, oa_20 s, oa_21 s, oa_22 s, oa_23 s, oa_24 s, oa_25 s, oa_26 s, oa_27 s, oa_28 s, oa_29 s, oa_30 s, oa_31 s, oa_32 s]
theorem oa_enter9 (s : String) (a : Act) (w : World) : (execOp a.eval (oa_9 s)).run Try.prog w = .ok (.enter 38 #[a.eval (.tmp 87), a.eval (.tmp 88)]) w := by kernel_rfl
theorem oa_enter29 (s : String) (a : Act) (w : World) : (execOp a.eval (oa_29 s)).run Try.prog w = .ok (.enter 38 #[a.eval (.tmp 107), a.eval (.tmp 108)]) w := by kernel_rfl
set_option maxRecDepth 20000 in
set_option maxHeartbeats 4000000 in
theorem oa_walk (s : String) {Q : Exit → Act → World → Prop} (hQ : ∀ c (a : Act) t v w, Q (.panic c) (a.put (some t) v) w → Q (.panic c) a w) (W : World) (L R b n cl c g t cg m cv d k : Nat) (g2 : Nat) (y : UInt8) (hd : (d : Int) < (b : Int)) (hn : (d : Int) < (n : Int)) (hk : (k : Int) < (t : Int)) (hm : decide (k < m) = true) (hkm : (k : Int) < (m : Int)) (hT : W.cell? ⟨L, d, none⟩ = some (.slice (some ⟨g, 0, none⟩) t cg) ∧ W.cell? ⟨R, d, none⟩ = some (.slice (some ⟨g2, 0, none⟩) m cv) ∧ W.cell? ⟨g, k, none⟩ = some (.int .u8 (y.toNat : Int)) ∧ W.cell? ⟨g2, k, none⟩ = some (.int .u8 (y.toNat : Int))) (hc : ∀ w', Calls Try.prog 38 #[.int .i64 (d : Int), .int .i64 (k : Int)] w' fun e w2 => e = .returned (.int .u8 (y.toNat : Int)) ∧ w2 = w')
    (a : Act) (hs : 112 < a.tmps.size) (e0 : a.eval (.tmp 0) = .slice (some ⟨R, 0, none⟩) n c) (e3 : a.eval (.tmp 3) = .slice (some ⟨L, 0, none⟩) b cl) (e9 : a.eval (.tmp 9) = .int .i64 (d : Int)) (e10 : a.eval (.tmp 10) = .int .i64 (k : Int))
    (h0 :  Q .normal (((((((((((((((((((((((((((((((((a.put (some 80) (.slice (some ⟨L, 0, none⟩) b cl)).put (some 81) (.int .i64 (d : Int))).put (some 82) (.pointer (some ⟨L, d, none⟩))).put (some 83) (.slice (some ⟨g, 0, none⟩) t cg)).put (some 84) (.int .i64 (k : Int))).put (some 85) (.pointer (some ⟨g, k, none⟩))).put (some 86) (.int .u8 (y.toNat : Int))).put (some 87) (.int .i64 (d : Int))).put (some 88) (.int .i64 (k : Int))).put (some 89) (.int .u8 (y.toNat : Int))).put (some 90) (.bool false)).put (some 91) (.bool false)).put (some 92) (.int .i64 (k : Int))).put (some 93) (.slice (some ⟨R, 0, none⟩) n c)).put (some 94) (.int .i64 (d : Int))).put (some 95) (.pointer (some ⟨R, d, none⟩))).put (some 96) (.slice (some ⟨g2, 0, none⟩) m cv)).put (some 97) (.int .i64 (m : Int))).put (some 98) (.bool true)).put (some 99) (.bool true)).put (some 100) (.slice (some ⟨R, 0, none⟩) n c)).put (some 101) (.int .i64 (d : Int))).put (some 102) (.pointer (some ⟨R, d, none⟩))).put (some 103) (.slice (some ⟨g2, 0, none⟩) m cv)).put (some 104) (.int .i64 (k : Int))).put (some 105) (.pointer (some ⟨g2, k, none⟩))).put (some 106) (.int .u8 (y.toNat : Int))).put (some 107) (.int .i64 (d : Int))).put (some 108) (.int .i64 (k : Int))).put (some 109) (.int .u8 (y.toNat : Int))).put (some 110) (.bool false)).put (some 111) (.bool false)).put (some 112) (.bool false)) W.drew) :
    Code.wp Try.prog (.region 24 (oa_ops s) true) Q a W := by
  refine wp_region_held_drew (S := fun W' => W'.cell? ⟨L, d, none⟩ = some (.slice (some ⟨g, 0, none⟩) t cg) ∧ W'.cell? ⟨R, d, none⟩ = some (.slice (some ⟨g2, 0, none⟩) m cv) ∧ W'.cell? ⟨g, k, none⟩ = some (.int .u8 (y.toNat : Int)) ∧ W'.cell? ⟨g2, k, none⟩ = some (.int .u8 (y.toNat : Int))) (by kernel_rfl) hT (fun hS => ?_)
  change wpAnyH _ _ _ _ _ _ _ _ (World.drew _)
  refine wpAnyH_take (i := 0) (oi := oa_0 s) (v := .slice (some ⟨L, 0, none⟩) b cl) (by kernel_rfl) (by kernel_rfl) (by kernel_rfl) (by kernel_rfl) (fun c a w h => hQ c _ _ _ w h) (Or.inl ⟨wanted_none rfl, fun w hw => by simp only [execOp, oa_0, e3]; rfl⟩) hS ?_
  change wpAnyH _ _ _ _ _ _ _ (a.put (some 80) (.slice (some ⟨L, 0, none⟩) b cl)) _
  obtain ⟨a0_1, ha1⟩ : ∃ rr : Act, rr = a.put (some 80) (.slice (some ⟨L, 0, none⟩) b cl) := ⟨_, rfl⟩
  have qz1 : 112 < a0_1.tmps.size := by rw [ha1, sz_put]; exact hs
  have f1_0 : a0_1.eval (.tmp 0) = .slice (some ⟨R, 0, none⟩) n c := by rw [ha1, ev_other _ _ _ _ (by decide)]; exact e0
  have f1_9 : a0_1.eval (.tmp 9) = .int .i64 (d : Int) := by rw [ha1, ev_other _ _ _ _ (by decide)]; exact e9
  have f1_10 : a0_1.eval (.tmp 10) = .int .i64 (k : Int) := by rw [ha1, ev_other _ _ _ _ (by decide)]; exact e10
  have f1_80 : a0_1.eval (.tmp 80) = .slice (some ⟨L, 0, none⟩) b cl := by rw [ha1]; exact ev_same _ _ _ (Nat.lt_of_le_of_lt (by decide) hs)
  rw [← ha1] at h0 ⊢
  clear ha1
  refine wpAnyH_take (i := 1) (oi := oa_1 s) (v := .int .i64 (d : Int)) (by kernel_rfl) (by kernel_rfl) (by kernel_rfl) (by kernel_rfl) (fun c a w h => hQ c _ _ _ w h) (Or.inl ⟨wanted_none rfl, fun w hw => by simp only [execOp, oa_1, f1_9]; rfl⟩) hS ?_
  change wpAnyH _ _ _ _ _ _ _ (a0_1.put (some 81) (.int .i64 (d : Int))) _
  obtain ⟨a0_2, ha2⟩ : ∃ rr : Act, rr = a0_1.put (some 81) (.int .i64 (d : Int)) := ⟨_, rfl⟩
  have qz2 : 112 < a0_2.tmps.size := by rw [ha2, sz_put]; exact qz1
  have f2_0 : a0_2.eval (.tmp 0) = .slice (some ⟨R, 0, none⟩) n c := by rw [ha2, ev_other _ _ _ _ (by decide)]; exact f1_0
  have f2_9 : a0_2.eval (.tmp 9) = .int .i64 (d : Int) := by rw [ha2, ev_other _ _ _ _ (by decide)]; exact f1_9
  have f2_10 : a0_2.eval (.tmp 10) = .int .i64 (k : Int) := by rw [ha2, ev_other _ _ _ _ (by decide)]; exact f1_10
  have f2_80 : a0_2.eval (.tmp 80) = .slice (some ⟨L, 0, none⟩) b cl := by rw [ha2, ev_other _ _ _ _ (by decide)]; exact f1_80
  have f2_81 : a0_2.eval (.tmp 81) = .int .i64 (d : Int) := by rw [ha2]; exact ev_same _ _ _ (Nat.lt_of_le_of_lt (by decide) qz1)
  rw [← ha2] at h0 ⊢
  clear ha2
  refine wpAnyH_take (i := 2) (oi := oa_2 s) (v := .pointer (some ⟨L, d, none⟩)) (by kernel_rfl) (by kernel_rfl) (by kernel_rfl) (by kernel_rfl) (fun c a w h => hQ c _ _ _ w h) (Or.inl ⟨wanted_none rfl, fun w hw => ixo_l rfl f2_80 f2_81 hd w⟩) hS ?_
  change wpAnyH _ _ _ _ _ _ _ (a0_2.put (some 82) (.pointer (some ⟨L, d, none⟩))) _
  obtain ⟨a0_3, ha3⟩ : ∃ rr : Act, rr = a0_2.put (some 82) (.pointer (some ⟨L, d, none⟩)) := ⟨_, rfl⟩
  have qz3 : 112 < a0_3.tmps.size := by rw [ha3, sz_put]; exact qz2
  have f3_0 : a0_3.eval (.tmp 0) = .slice (some ⟨R, 0, none⟩) n c := by rw [ha3, ev_other _ _ _ _ (by decide)]; exact f2_0
  have f3_9 : a0_3.eval (.tmp 9) = .int .i64 (d : Int) := by rw [ha3, ev_other _ _ _ _ (by decide)]; exact f2_9
  have f3_10 : a0_3.eval (.tmp 10) = .int .i64 (k : Int) := by rw [ha3, ev_other _ _ _ _ (by decide)]; exact f2_10
  have f3_82 : a0_3.eval (.tmp 82) = .pointer (some ⟨L, d, none⟩) := by rw [ha3]; exact ev_same _ _ _ (Nat.lt_of_le_of_lt (by decide) qz2)
  rw [← ha3] at h0 ⊢
  clear ha3
  refine wpAnyH_take (i := 3) (oi := oa_3 s) (v := .slice (some ⟨g, 0, none⟩) t cg) (by kernel_rfl) (by kernel_rfl) (by kernel_rfl) (by kernel_rfl) (fun c a w h => hQ c _ _ _ w h) (Or.inl ⟨wanted_none rfl, fun w hw => run_load rfl f3_82 (ldo_s hw.1)⟩) hS ?_
  change wpAnyH _ _ _ _ _ _ _ (a0_3.put (some 83) (.slice (some ⟨g, 0, none⟩) t cg)) _
  obtain ⟨a0_4, ha4⟩ : ∃ rr : Act, rr = a0_3.put (some 83) (.slice (some ⟨g, 0, none⟩) t cg) := ⟨_, rfl⟩
  have qz4 : 112 < a0_4.tmps.size := by rw [ha4, sz_put]; exact qz3
  have f4_0 : a0_4.eval (.tmp 0) = .slice (some ⟨R, 0, none⟩) n c := by rw [ha4, ev_other _ _ _ _ (by decide)]; exact f3_0
  have f4_9 : a0_4.eval (.tmp 9) = .int .i64 (d : Int) := by rw [ha4, ev_other _ _ _ _ (by decide)]; exact f3_9
  have f4_10 : a0_4.eval (.tmp 10) = .int .i64 (k : Int) := by rw [ha4, ev_other _ _ _ _ (by decide)]; exact f3_10
  have f4_83 : a0_4.eval (.tmp 83) = .slice (some ⟨g, 0, none⟩) t cg := by rw [ha4]; exact ev_same _ _ _ (Nat.lt_of_le_of_lt (by decide) qz3)
  rw [← ha4] at h0 ⊢
  clear ha4
  refine wpAnyH_take (i := 4) (oi := oa_4 s) (v := .int .i64 (k : Int)) (by kernel_rfl) (by kernel_rfl) (by kernel_rfl) (by kernel_rfl) (fun c a w h => hQ c _ _ _ w h) (Or.inl ⟨wanted_none rfl, fun w hw => by simp only [execOp, oa_4, f4_10]; rfl⟩) hS ?_
  change wpAnyH _ _ _ _ _ _ _ (a0_4.put (some 84) (.int .i64 (k : Int))) _
  obtain ⟨a0_5, ha5⟩ : ∃ rr : Act, rr = a0_4.put (some 84) (.int .i64 (k : Int)) := ⟨_, rfl⟩
  have qz5 : 112 < a0_5.tmps.size := by rw [ha5, sz_put]; exact qz4
  have f5_0 : a0_5.eval (.tmp 0) = .slice (some ⟨R, 0, none⟩) n c := by rw [ha5, ev_other _ _ _ _ (by decide)]; exact f4_0
  have f5_9 : a0_5.eval (.tmp 9) = .int .i64 (d : Int) := by rw [ha5, ev_other _ _ _ _ (by decide)]; exact f4_9
  have f5_10 : a0_5.eval (.tmp 10) = .int .i64 (k : Int) := by rw [ha5, ev_other _ _ _ _ (by decide)]; exact f4_10
  have f5_83 : a0_5.eval (.tmp 83) = .slice (some ⟨g, 0, none⟩) t cg := by rw [ha5, ev_other _ _ _ _ (by decide)]; exact f4_83
  have f5_84 : a0_5.eval (.tmp 84) = .int .i64 (k : Int) := by rw [ha5]; exact ev_same _ _ _ (Nat.lt_of_le_of_lt (by decide) qz4)
  rw [← ha5] at h0 ⊢
  clear ha5
  refine wpAnyH_take (i := 5) (oi := oa_5 s) (v := .pointer (some ⟨g, k, none⟩)) (by kernel_rfl) (by kernel_rfl) (by kernel_rfl) (by kernel_rfl) (fun c a w h => hQ c _ _ _ w h) (Or.inl ⟨wanted_none rfl, fun w hw => ixo_b rfl f5_83 f5_84 hk w⟩) hS ?_
  change wpAnyH _ _ _ _ _ _ _ (a0_5.put (some 85) (.pointer (some ⟨g, k, none⟩))) _
  obtain ⟨a0_6, ha6⟩ : ∃ rr : Act, rr = a0_5.put (some 85) (.pointer (some ⟨g, k, none⟩)) := ⟨_, rfl⟩
  have qz6 : 112 < a0_6.tmps.size := by rw [ha6, sz_put]; exact qz5
  have f6_0 : a0_6.eval (.tmp 0) = .slice (some ⟨R, 0, none⟩) n c := by rw [ha6, ev_other _ _ _ _ (by decide)]; exact f5_0
  have f6_9 : a0_6.eval (.tmp 9) = .int .i64 (d : Int) := by rw [ha6, ev_other _ _ _ _ (by decide)]; exact f5_9
  have f6_10 : a0_6.eval (.tmp 10) = .int .i64 (k : Int) := by rw [ha6, ev_other _ _ _ _ (by decide)]; exact f5_10
  have f6_85 : a0_6.eval (.tmp 85) = .pointer (some ⟨g, k, none⟩) := by rw [ha6]; exact ev_same _ _ _ (Nat.lt_of_le_of_lt (by decide) qz5)
  rw [← ha6] at h0 ⊢
  clear ha6
  refine wpAnyH_take (i := 6) (oi := oa_6 s) (v := .int .u8 (y.toNat : Int)) (by kernel_rfl) (by kernel_rfl) (by kernel_rfl) (by kernel_rfl) (fun c a w h => hQ c _ _ _ w h) (Or.inl ⟨wanted_none rfl, fun w hw => run_load rfl f6_85 (ldo_b hw.2.2.1)⟩) hS ?_
  change wpAnyH _ _ _ _ _ _ _ (a0_6.put (some 86) (.int .u8 (y.toNat : Int))) _
  obtain ⟨a0_7, ha7⟩ : ∃ rr : Act, rr = a0_6.put (some 86) (.int .u8 (y.toNat : Int)) := ⟨_, rfl⟩
  have qz7 : 112 < a0_7.tmps.size := by rw [ha7, sz_put]; exact qz6
  have f7_0 : a0_7.eval (.tmp 0) = .slice (some ⟨R, 0, none⟩) n c := by rw [ha7, ev_other _ _ _ _ (by decide)]; exact f6_0
  have f7_9 : a0_7.eval (.tmp 9) = .int .i64 (d : Int) := by rw [ha7, ev_other _ _ _ _ (by decide)]; exact f6_9
  have f7_10 : a0_7.eval (.tmp 10) = .int .i64 (k : Int) := by rw [ha7, ev_other _ _ _ _ (by decide)]; exact f6_10
  have f7_86 : a0_7.eval (.tmp 86) = .int .u8 (y.toNat : Int) := by rw [ha7]; exact ev_same _ _ _ (Nat.lt_of_le_of_lt (by decide) qz6)
  rw [← ha7] at h0 ⊢
  clear ha7
  refine wpAnyH_take (i := 7) (oi := oa_7 s) (v := .int .i64 (d : Int)) (by kernel_rfl) (by kernel_rfl) (by kernel_rfl) (by kernel_rfl) (fun c a w h => hQ c _ _ _ w h) (Or.inl ⟨wanted_none rfl, fun w hw => by simp only [execOp, oa_7, f7_9]; rfl⟩) hS ?_
  change wpAnyH _ _ _ _ _ _ _ (a0_7.put (some 87) (.int .i64 (d : Int))) _
  obtain ⟨a0_8, ha8⟩ : ∃ rr : Act, rr = a0_7.put (some 87) (.int .i64 (d : Int)) := ⟨_, rfl⟩
  have qz8 : 112 < a0_8.tmps.size := by rw [ha8, sz_put]; exact qz7
  have f8_0 : a0_8.eval (.tmp 0) = .slice (some ⟨R, 0, none⟩) n c := by rw [ha8, ev_other _ _ _ _ (by decide)]; exact f7_0
  have f8_9 : a0_8.eval (.tmp 9) = .int .i64 (d : Int) := by rw [ha8, ev_other _ _ _ _ (by decide)]; exact f7_9
  have f8_10 : a0_8.eval (.tmp 10) = .int .i64 (k : Int) := by rw [ha8, ev_other _ _ _ _ (by decide)]; exact f7_10
  have f8_86 : a0_8.eval (.tmp 86) = .int .u8 (y.toNat : Int) := by rw [ha8, ev_other _ _ _ _ (by decide)]; exact f7_86
  have f8_87 : a0_8.eval (.tmp 87) = .int .i64 (d : Int) := by rw [ha8]; exact ev_same _ _ _ (Nat.lt_of_le_of_lt (by decide) qz7)
  rw [← ha8] at h0 ⊢
  clear ha8
  refine wpAnyH_take (i := 8) (oi := oa_8 s) (v := .int .i64 (k : Int)) (by kernel_rfl) (by kernel_rfl) (by kernel_rfl) (by kernel_rfl) (fun c a w h => hQ c _ _ _ w h) (Or.inl ⟨wanted_none rfl, fun w hw => by simp only [execOp, oa_8, f8_10]; rfl⟩) hS ?_
  change wpAnyH _ _ _ _ _ _ _ (a0_8.put (some 88) (.int .i64 (k : Int))) _
  obtain ⟨a0_9, ha9⟩ : ∃ rr : Act, rr = a0_8.put (some 88) (.int .i64 (k : Int)) := ⟨_, rfl⟩
  have qz9 : 112 < a0_9.tmps.size := by rw [ha9, sz_put]; exact qz8
  have f9_0 : a0_9.eval (.tmp 0) = .slice (some ⟨R, 0, none⟩) n c := by rw [ha9, ev_other _ _ _ _ (by decide)]; exact f8_0
  have f9_9 : a0_9.eval (.tmp 9) = .int .i64 (d : Int) := by rw [ha9, ev_other _ _ _ _ (by decide)]; exact f8_9
  have f9_10 : a0_9.eval (.tmp 10) = .int .i64 (k : Int) := by rw [ha9, ev_other _ _ _ _ (by decide)]; exact f8_10
  have f9_86 : a0_9.eval (.tmp 86) = .int .u8 (y.toNat : Int) := by rw [ha9, ev_other _ _ _ _ (by decide)]; exact f8_86
  have f9_87 : a0_9.eval (.tmp 87) = .int .i64 (d : Int) := by rw [ha9, ev_other _ _ _ _ (by decide)]; exact f8_87
  have f9_88 : a0_9.eval (.tmp 88) = .int .i64 (k : Int) := by rw [ha9]; exact ev_same _ _ _ (Nat.lt_of_le_of_lt (by decide) qz8)
  rw [← ha9] at h0 ⊢
  clear ha9
  refine wpAnyH_ready (rs := [9]) (by kernel_rfl) (by simp) ?_
  refine AllReadyH.cons (o := oa_9 s) (by kernel_rfl) (fun KQ hKQ => ?_) AllReadyH.nil
  rw [if_pos (wanted_none rfl)]
  refine step_enterE 38 #[.int .i64 (d : Int), .int .i64 (k : Int)] (by rw [oa_enter9, f9_87, f9_88]) (fun V w' => V = .int .u8 (y.toNat : Int) ∧ w' = W.drew) ((hc W.drew).mono (fun e w' h => ⟨_, h.1, rfl, h.2⟩)) ?_
  rintro _ w1 ⟨rfl, hw1⟩
  subst hw1
  refine hKQ.out _ _ (hS) (fun _ => ?_)
  clear hKQ KQ
  change wpAnyH _ _ _ _ _ _ _ (a0_9.put (some 89) (.int .u8 (y.toNat : Int))) _
  obtain ⟨a0_10, ha10⟩ : ∃ rr : Act, rr = a0_9.put (some 89) (.int .u8 (y.toNat : Int)) := ⟨_, rfl⟩
  have qz10 : 112 < a0_10.tmps.size := by rw [ha10, sz_put]; exact qz9
  have f10_0 : a0_10.eval (.tmp 0) = .slice (some ⟨R, 0, none⟩) n c := by rw [ha10, ev_other _ _ _ _ (by decide)]; exact f9_0
  have f10_9 : a0_10.eval (.tmp 9) = .int .i64 (d : Int) := by rw [ha10, ev_other _ _ _ _ (by decide)]; exact f9_9
  have f10_10 : a0_10.eval (.tmp 10) = .int .i64 (k : Int) := by rw [ha10, ev_other _ _ _ _ (by decide)]; exact f9_10
  have f10_86 : a0_10.eval (.tmp 86) = .int .u8 (y.toNat : Int) := by rw [ha10, ev_other _ _ _ _ (by decide)]; exact f9_86
  have f10_89 : a0_10.eval (.tmp 89) = .int .u8 (y.toNat : Int) := by rw [ha10]; exact ev_same _ _ _ (Nat.lt_of_le_of_lt (by decide) qz9)
  rw [← ha10] at h0 ⊢
  clear ha10
  refine wpAnyH_take (i := 10) (oi := oa_10 s) (v := .bool false) (by kernel_rfl) (by kernel_rfl) (by kernel_rfl) (by kernel_rfl) (fun c a w h => hQ c _ _ _ w h) (Or.inl ⟨wanted_none rfl, fun w hw => neo rfl f10_86 f10_89 w⟩) hS ?_
  change wpAnyH _ _ _ _ _ _ _ (a0_10.put (some 90) (.bool false)) _
  obtain ⟨a0_11, ha11⟩ : ∃ rr : Act, rr = a0_10.put (some 90) (.bool false) := ⟨_, rfl⟩
  have qz11 : 112 < a0_11.tmps.size := by rw [ha11, sz_put]; exact qz10
  have f11_0 : a0_11.eval (.tmp 0) = .slice (some ⟨R, 0, none⟩) n c := by rw [ha11, ev_other _ _ _ _ (by decide)]; exact f10_0
  have f11_9 : a0_11.eval (.tmp 9) = .int .i64 (d : Int) := by rw [ha11, ev_other _ _ _ _ (by decide)]; exact f10_9
  have f11_10 : a0_11.eval (.tmp 10) = .int .i64 (k : Int) := by rw [ha11, ev_other _ _ _ _ (by decide)]; exact f10_10
  have f11_90 : a0_11.eval (.tmp 90) = .bool false := by rw [ha11]; exact ev_same _ _ _ (Nat.lt_of_le_of_lt (by decide) qz10)
  rw [← ha11] at h0 ⊢
  clear ha11
  refine wpAnyH_take (i := 11) (oi := oa_11 s) (v := .bool false) (by kernel_rfl) (by kernel_rfl) (by kernel_rfl) (by kernel_rfl) (fun c a w h => hQ c _ _ _ w h) (Or.inl ⟨wanted_none rfl, fun w hw => by simp only [execOp, oa_11, f11_90]; rfl⟩) hS ?_
  change wpAnyH _ _ _ _ _ _ _ (a0_11.put (some 91) (.bool false)) _
  obtain ⟨a0_12, ha12⟩ : ∃ rr : Act, rr = a0_11.put (some 91) (.bool false) := ⟨_, rfl⟩
  have qz12 : 112 < a0_12.tmps.size := by rw [ha12, sz_put]; exact qz11
  have f12_0 : a0_12.eval (.tmp 0) = .slice (some ⟨R, 0, none⟩) n c := by rw [ha12, ev_other _ _ _ _ (by decide)]; exact f11_0
  have f12_9 : a0_12.eval (.tmp 9) = .int .i64 (d : Int) := by rw [ha12, ev_other _ _ _ _ (by decide)]; exact f11_9
  have f12_10 : a0_12.eval (.tmp 10) = .int .i64 (k : Int) := by rw [ha12, ev_other _ _ _ _ (by decide)]; exact f11_10
  have f12_91 : a0_12.eval (.tmp 91) = .bool false := by rw [ha12]; exact ev_same _ _ _ (Nat.lt_of_le_of_lt (by decide) qz11)
  rw [← ha12] at h0 ⊢
  clear ha12
  refine wpAnyH_take (i := 12) (oi := oa_12 s) (v := .int .i64 (k : Int)) (by kernel_rfl) (by kernel_rfl) (by kernel_rfl) (by kernel_rfl) (fun c a w h => hQ c _ _ _ w h) (Or.inl ⟨wanted_some rfl (by kernel_rfl) f12_91 (Nat.lt_of_le_of_lt (by decide) qz12), fun w hw => by simp only [execOp, oa_12, f12_10]; rfl⟩) hS ?_
  change wpAnyH _ _ _ _ _ _ _ (a0_12.put (some 92) (.int .i64 (k : Int))) _
  obtain ⟨a0_13, ha13⟩ : ∃ rr : Act, rr = a0_12.put (some 92) (.int .i64 (k : Int)) := ⟨_, rfl⟩
  have qz13 : 112 < a0_13.tmps.size := by rw [ha13, sz_put]; exact qz12
  have f13_0 : a0_13.eval (.tmp 0) = .slice (some ⟨R, 0, none⟩) n c := by rw [ha13, ev_other _ _ _ _ (by decide)]; exact f12_0
  have f13_9 : a0_13.eval (.tmp 9) = .int .i64 (d : Int) := by rw [ha13, ev_other _ _ _ _ (by decide)]; exact f12_9
  have f13_10 : a0_13.eval (.tmp 10) = .int .i64 (k : Int) := by rw [ha13, ev_other _ _ _ _ (by decide)]; exact f12_10
  have f13_91 : a0_13.eval (.tmp 91) = .bool false := by rw [ha13, ev_other _ _ _ _ (by decide)]; exact f12_91
  have f13_92 : a0_13.eval (.tmp 92) = .int .i64 (k : Int) := by rw [ha13]; exact ev_same _ _ _ (Nat.lt_of_le_of_lt (by decide) qz12)
  rw [← ha13] at h0 ⊢
  clear ha13
  refine wpAnyH_take (i := 13) (oi := oa_13 s) (v := .slice (some ⟨R, 0, none⟩) n c) (by kernel_rfl) (by kernel_rfl) (by kernel_rfl) (by kernel_rfl) (fun c a w h => hQ c _ _ _ w h) (Or.inl ⟨wanted_some rfl (by kernel_rfl) f13_91 (Nat.lt_of_le_of_lt (by decide) qz13), fun w hw => by simp only [execOp, oa_13, f13_0]; rfl⟩) hS ?_
  change wpAnyH _ _ _ _ _ _ _ (a0_13.put (some 93) (.slice (some ⟨R, 0, none⟩) n c)) _
  obtain ⟨a0_14, ha14⟩ : ∃ rr : Act, rr = a0_13.put (some 93) (.slice (some ⟨R, 0, none⟩) n c) := ⟨_, rfl⟩
  have qz14 : 112 < a0_14.tmps.size := by rw [ha14, sz_put]; exact qz13
  have f14_0 : a0_14.eval (.tmp 0) = .slice (some ⟨R, 0, none⟩) n c := by rw [ha14, ev_other _ _ _ _ (by decide)]; exact f13_0
  have f14_9 : a0_14.eval (.tmp 9) = .int .i64 (d : Int) := by rw [ha14, ev_other _ _ _ _ (by decide)]; exact f13_9
  have f14_10 : a0_14.eval (.tmp 10) = .int .i64 (k : Int) := by rw [ha14, ev_other _ _ _ _ (by decide)]; exact f13_10
  have f14_91 : a0_14.eval (.tmp 91) = .bool false := by rw [ha14, ev_other _ _ _ _ (by decide)]; exact f13_91
  have f14_92 : a0_14.eval (.tmp 92) = .int .i64 (k : Int) := by rw [ha14, ev_other _ _ _ _ (by decide)]; exact f13_92
  have f14_93 : a0_14.eval (.tmp 93) = .slice (some ⟨R, 0, none⟩) n c := by rw [ha14]; exact ev_same _ _ _ (Nat.lt_of_le_of_lt (by decide) qz13)
  rw [← ha14] at h0 ⊢
  clear ha14
  refine wpAnyH_take (i := 14) (oi := oa_14 s) (v := .int .i64 (d : Int)) (by kernel_rfl) (by kernel_rfl) (by kernel_rfl) (by kernel_rfl) (fun c a w h => hQ c _ _ _ w h) (Or.inl ⟨wanted_some rfl (by kernel_rfl) f14_91 (Nat.lt_of_le_of_lt (by decide) qz14), fun w hw => by simp only [execOp, oa_14, f14_9]; rfl⟩) hS ?_
  change wpAnyH _ _ _ _ _ _ _ (a0_14.put (some 94) (.int .i64 (d : Int))) _
  obtain ⟨a0_15, ha15⟩ : ∃ rr : Act, rr = a0_14.put (some 94) (.int .i64 (d : Int)) := ⟨_, rfl⟩
  have qz15 : 112 < a0_15.tmps.size := by rw [ha15, sz_put]; exact qz14
  have f15_0 : a0_15.eval (.tmp 0) = .slice (some ⟨R, 0, none⟩) n c := by rw [ha15, ev_other _ _ _ _ (by decide)]; exact f14_0
  have f15_9 : a0_15.eval (.tmp 9) = .int .i64 (d : Int) := by rw [ha15, ev_other _ _ _ _ (by decide)]; exact f14_9
  have f15_10 : a0_15.eval (.tmp 10) = .int .i64 (k : Int) := by rw [ha15, ev_other _ _ _ _ (by decide)]; exact f14_10
  have f15_91 : a0_15.eval (.tmp 91) = .bool false := by rw [ha15, ev_other _ _ _ _ (by decide)]; exact f14_91
  have f15_92 : a0_15.eval (.tmp 92) = .int .i64 (k : Int) := by rw [ha15, ev_other _ _ _ _ (by decide)]; exact f14_92
  have f15_93 : a0_15.eval (.tmp 93) = .slice (some ⟨R, 0, none⟩) n c := by rw [ha15, ev_other _ _ _ _ (by decide)]; exact f14_93
  have f15_94 : a0_15.eval (.tmp 94) = .int .i64 (d : Int) := by rw [ha15]; exact ev_same _ _ _ (Nat.lt_of_le_of_lt (by decide) qz14)
  rw [← ha15] at h0 ⊢
  clear ha15
  refine wpAnyH_take (i := 15) (oi := oa_15 s) (v := .pointer (some ⟨R, d, none⟩)) (by kernel_rfl) (by kernel_rfl) (by kernel_rfl) (by kernel_rfl) (fun c a w h => hQ c _ _ _ w h) (Or.inl ⟨wanted_some rfl (by kernel_rfl) f15_91 (Nat.lt_of_le_of_lt (by decide) qz15), fun w hw => ixo_l rfl f15_93 f15_94 hn w⟩) hS ?_
  change wpAnyH _ _ _ _ _ _ _ (a0_15.put (some 95) (.pointer (some ⟨R, d, none⟩))) _
  obtain ⟨a0_16, ha16⟩ : ∃ rr : Act, rr = a0_15.put (some 95) (.pointer (some ⟨R, d, none⟩)) := ⟨_, rfl⟩
  have qz16 : 112 < a0_16.tmps.size := by rw [ha16, sz_put]; exact qz15
  have f16_0 : a0_16.eval (.tmp 0) = .slice (some ⟨R, 0, none⟩) n c := by rw [ha16, ev_other _ _ _ _ (by decide)]; exact f15_0
  have f16_9 : a0_16.eval (.tmp 9) = .int .i64 (d : Int) := by rw [ha16, ev_other _ _ _ _ (by decide)]; exact f15_9
  have f16_10 : a0_16.eval (.tmp 10) = .int .i64 (k : Int) := by rw [ha16, ev_other _ _ _ _ (by decide)]; exact f15_10
  have f16_91 : a0_16.eval (.tmp 91) = .bool false := by rw [ha16, ev_other _ _ _ _ (by decide)]; exact f15_91
  have f16_92 : a0_16.eval (.tmp 92) = .int .i64 (k : Int) := by rw [ha16, ev_other _ _ _ _ (by decide)]; exact f15_92
  have f16_95 : a0_16.eval (.tmp 95) = .pointer (some ⟨R, d, none⟩) := by rw [ha16]; exact ev_same _ _ _ (Nat.lt_of_le_of_lt (by decide) qz15)
  rw [← ha16] at h0 ⊢
  clear ha16
  refine wpAnyH_take (i := 16) (oi := oa_16 s) (v := .slice (some ⟨g2, 0, none⟩) m cv) (by kernel_rfl) (by kernel_rfl) (by kernel_rfl) (by kernel_rfl) (fun c a w h => hQ c _ _ _ w h) (Or.inl ⟨wanted_some rfl (by kernel_rfl) f16_91 (Nat.lt_of_le_of_lt (by decide) qz16), fun w hw => run_load rfl f16_95 (ldo_s hw.2.1)⟩) hS ?_
  change wpAnyH _ _ _ _ _ _ _ (a0_16.put (some 96) (.slice (some ⟨g2, 0, none⟩) m cv)) _
  obtain ⟨a0_17, ha17⟩ : ∃ rr : Act, rr = a0_16.put (some 96) (.slice (some ⟨g2, 0, none⟩) m cv) := ⟨_, rfl⟩
  have qz17 : 112 < a0_17.tmps.size := by rw [ha17, sz_put]; exact qz16
  have f17_0 : a0_17.eval (.tmp 0) = .slice (some ⟨R, 0, none⟩) n c := by rw [ha17, ev_other _ _ _ _ (by decide)]; exact f16_0
  have f17_9 : a0_17.eval (.tmp 9) = .int .i64 (d : Int) := by rw [ha17, ev_other _ _ _ _ (by decide)]; exact f16_9
  have f17_10 : a0_17.eval (.tmp 10) = .int .i64 (k : Int) := by rw [ha17, ev_other _ _ _ _ (by decide)]; exact f16_10
  have f17_91 : a0_17.eval (.tmp 91) = .bool false := by rw [ha17, ev_other _ _ _ _ (by decide)]; exact f16_91
  have f17_92 : a0_17.eval (.tmp 92) = .int .i64 (k : Int) := by rw [ha17, ev_other _ _ _ _ (by decide)]; exact f16_92
  have f17_96 : a0_17.eval (.tmp 96) = .slice (some ⟨g2, 0, none⟩) m cv := by rw [ha17]; exact ev_same _ _ _ (Nat.lt_of_le_of_lt (by decide) qz16)
  rw [← ha17] at h0 ⊢
  clear ha17
  refine wpAnyH_take (i := 17) (oi := oa_17 s) (v := .int .i64 (m : Int)) (by kernel_rfl) (by kernel_rfl) (by kernel_rfl) (by kernel_rfl) (fun c a w h => hQ c _ _ _ w h) (Or.inl ⟨wanted_some rfl (by kernel_rfl) f17_91 (Nat.lt_of_le_of_lt (by decide) qz17), fun w hw => leno rfl f17_96 w⟩) hS ?_
  change wpAnyH _ _ _ _ _ _ _ (a0_17.put (some 97) (.int .i64 (m : Int))) _
  obtain ⟨a0_18, ha18⟩ : ∃ rr : Act, rr = a0_17.put (some 97) (.int .i64 (m : Int)) := ⟨_, rfl⟩
  have qz18 : 112 < a0_18.tmps.size := by rw [ha18, sz_put]; exact qz17
  have f18_0 : a0_18.eval (.tmp 0) = .slice (some ⟨R, 0, none⟩) n c := by rw [ha18, ev_other _ _ _ _ (by decide)]; exact f17_0
  have f18_9 : a0_18.eval (.tmp 9) = .int .i64 (d : Int) := by rw [ha18, ev_other _ _ _ _ (by decide)]; exact f17_9
  have f18_10 : a0_18.eval (.tmp 10) = .int .i64 (k : Int) := by rw [ha18, ev_other _ _ _ _ (by decide)]; exact f17_10
  have f18_91 : a0_18.eval (.tmp 91) = .bool false := by rw [ha18, ev_other _ _ _ _ (by decide)]; exact f17_91
  have f18_92 : a0_18.eval (.tmp 92) = .int .i64 (k : Int) := by rw [ha18, ev_other _ _ _ _ (by decide)]; exact f17_92
  have f18_97 : a0_18.eval (.tmp 97) = .int .i64 (m : Int) := by rw [ha18]; exact ev_same _ _ _ (Nat.lt_of_le_of_lt (by decide) qz17)
  rw [← ha18] at h0 ⊢
  clear ha18
  refine wpAnyH_take (i := 18) (oi := oa_18 s) (v := .bool true) (by kernel_rfl) (by kernel_rfl) (by kernel_rfl) (by kernel_rfl) (fun c a w h => hQ c _ _ _ w h) (Or.inl ⟨wanted_some rfl (by kernel_rfl) f18_91 (Nat.lt_of_le_of_lt (by decide) qz18), fun w hw => lso hm rfl f18_92 f18_97 w⟩) hS ?_
  change wpAnyH _ _ _ _ _ _ _ (a0_18.put (some 98) (.bool true)) _
  obtain ⟨a0_19, ha19⟩ : ∃ rr : Act, rr = a0_18.put (some 98) (.bool true) := ⟨_, rfl⟩
  have qz19 : 112 < a0_19.tmps.size := by rw [ha19, sz_put]; exact qz18
  have f19_0 : a0_19.eval (.tmp 0) = .slice (some ⟨R, 0, none⟩) n c := by rw [ha19, ev_other _ _ _ _ (by decide)]; exact f18_0
  have f19_9 : a0_19.eval (.tmp 9) = .int .i64 (d : Int) := by rw [ha19, ev_other _ _ _ _ (by decide)]; exact f18_9
  have f19_10 : a0_19.eval (.tmp 10) = .int .i64 (k : Int) := by rw [ha19, ev_other _ _ _ _ (by decide)]; exact f18_10
  have f19_91 : a0_19.eval (.tmp 91) = .bool false := by rw [ha19, ev_other _ _ _ _ (by decide)]; exact f18_91
  have f19_98 : a0_19.eval (.tmp 98) = .bool true := by rw [ha19]; exact ev_same _ _ _ (Nat.lt_of_le_of_lt (by decide) qz18)
  rw [← ha19] at h0 ⊢
  clear ha19
  refine wpAnyH_take (i := 19) (oi := oa_19 s) (v := .bool true) (by kernel_rfl) (by kernel_rfl) (by kernel_rfl) (by kernel_rfl) (fun c a w h => hQ c _ _ _ w h) (Or.inl ⟨wanted_some rfl (by kernel_rfl) f19_91 (Nat.lt_of_le_of_lt (by decide) qz19), fun w hw => by simp only [execOp, oa_19, f19_98]; rfl⟩) hS ?_
  change wpAnyH _ _ _ _ _ _ _ (a0_19.put (some 99) (.bool true)) _
  obtain ⟨a0_20, ha20⟩ : ∃ rr : Act, rr = a0_19.put (some 99) (.bool true) := ⟨_, rfl⟩
  have qz20 : 112 < a0_20.tmps.size := by rw [ha20, sz_put]; exact qz19
  have f20_0 : a0_20.eval (.tmp 0) = .slice (some ⟨R, 0, none⟩) n c := by rw [ha20, ev_other _ _ _ _ (by decide)]; exact f19_0
  have f20_9 : a0_20.eval (.tmp 9) = .int .i64 (d : Int) := by rw [ha20, ev_other _ _ _ _ (by decide)]; exact f19_9
  have f20_10 : a0_20.eval (.tmp 10) = .int .i64 (k : Int) := by rw [ha20, ev_other _ _ _ _ (by decide)]; exact f19_10
  have f20_91 : a0_20.eval (.tmp 91) = .bool false := by rw [ha20, ev_other _ _ _ _ (by decide)]; exact f19_91
  have f20_99 : a0_20.eval (.tmp 99) = .bool true := by rw [ha20]; exact ev_same _ _ _ (Nat.lt_of_le_of_lt (by decide) qz19)
  rw [← ha20] at h0 ⊢
  clear ha20
  refine wpAnyH_take (i := 20) (oi := oa_20 s) (v := .slice (some ⟨R, 0, none⟩) n c) (by kernel_rfl) (by kernel_rfl) (by kernel_rfl) (by kernel_rfl) (fun c a w h => hQ c _ _ _ w h) (Or.inl ⟨wanted_some rfl (by kernel_rfl) f20_99 (Nat.lt_of_le_of_lt (by decide) qz20), fun w hw => by simp only [execOp, oa_20, f20_0]; rfl⟩) hS ?_
  change wpAnyH _ _ _ _ _ _ _ (a0_20.put (some 100) (.slice (some ⟨R, 0, none⟩) n c)) _
  obtain ⟨a0_21, ha21⟩ : ∃ rr : Act, rr = a0_20.put (some 100) (.slice (some ⟨R, 0, none⟩) n c) := ⟨_, rfl⟩
  have qz21 : 112 < a0_21.tmps.size := by rw [ha21, sz_put]; exact qz20
  have f21_9 : a0_21.eval (.tmp 9) = .int .i64 (d : Int) := by rw [ha21, ev_other _ _ _ _ (by decide)]; exact f20_9
  have f21_10 : a0_21.eval (.tmp 10) = .int .i64 (k : Int) := by rw [ha21, ev_other _ _ _ _ (by decide)]; exact f20_10
  have f21_91 : a0_21.eval (.tmp 91) = .bool false := by rw [ha21, ev_other _ _ _ _ (by decide)]; exact f20_91
  have f21_99 : a0_21.eval (.tmp 99) = .bool true := by rw [ha21, ev_other _ _ _ _ (by decide)]; exact f20_99
  have f21_100 : a0_21.eval (.tmp 100) = .slice (some ⟨R, 0, none⟩) n c := by rw [ha21]; exact ev_same _ _ _ (Nat.lt_of_le_of_lt (by decide) qz20)
  rw [← ha21] at h0 ⊢
  clear ha21
  refine wpAnyH_take (i := 21) (oi := oa_21 s) (v := .int .i64 (d : Int)) (by kernel_rfl) (by kernel_rfl) (by kernel_rfl) (by kernel_rfl) (fun c a w h => hQ c _ _ _ w h) (Or.inl ⟨wanted_some rfl (by kernel_rfl) f21_99 (Nat.lt_of_le_of_lt (by decide) qz21), fun w hw => by simp only [execOp, oa_21, f21_9]; rfl⟩) hS ?_
  change wpAnyH _ _ _ _ _ _ _ (a0_21.put (some 101) (.int .i64 (d : Int))) _
  obtain ⟨a0_22, ha22⟩ : ∃ rr : Act, rr = a0_21.put (some 101) (.int .i64 (d : Int)) := ⟨_, rfl⟩
  have qz22 : 112 < a0_22.tmps.size := by rw [ha22, sz_put]; exact qz21
  have f22_9 : a0_22.eval (.tmp 9) = .int .i64 (d : Int) := by rw [ha22, ev_other _ _ _ _ (by decide)]; exact f21_9
  have f22_10 : a0_22.eval (.tmp 10) = .int .i64 (k : Int) := by rw [ha22, ev_other _ _ _ _ (by decide)]; exact f21_10
  have f22_91 : a0_22.eval (.tmp 91) = .bool false := by rw [ha22, ev_other _ _ _ _ (by decide)]; exact f21_91
  have f22_99 : a0_22.eval (.tmp 99) = .bool true := by rw [ha22, ev_other _ _ _ _ (by decide)]; exact f21_99
  have f22_100 : a0_22.eval (.tmp 100) = .slice (some ⟨R, 0, none⟩) n c := by rw [ha22, ev_other _ _ _ _ (by decide)]; exact f21_100
  have f22_101 : a0_22.eval (.tmp 101) = .int .i64 (d : Int) := by rw [ha22]; exact ev_same _ _ _ (Nat.lt_of_le_of_lt (by decide) qz21)
  rw [← ha22] at h0 ⊢
  clear ha22
  refine wpAnyH_take (i := 22) (oi := oa_22 s) (v := .pointer (some ⟨R, d, none⟩)) (by kernel_rfl) (by kernel_rfl) (by kernel_rfl) (by kernel_rfl) (fun c a w h => hQ c _ _ _ w h) (Or.inl ⟨wanted_some rfl (by kernel_rfl) f22_99 (Nat.lt_of_le_of_lt (by decide) qz22), fun w hw => ixo_l rfl f22_100 f22_101 hn w⟩) hS ?_
  change wpAnyH _ _ _ _ _ _ _ (a0_22.put (some 102) (.pointer (some ⟨R, d, none⟩))) _
  obtain ⟨a0_23, ha23⟩ : ∃ rr : Act, rr = a0_22.put (some 102) (.pointer (some ⟨R, d, none⟩)) := ⟨_, rfl⟩
  have qz23 : 112 < a0_23.tmps.size := by rw [ha23, sz_put]; exact qz22
  have f23_9 : a0_23.eval (.tmp 9) = .int .i64 (d : Int) := by rw [ha23, ev_other _ _ _ _ (by decide)]; exact f22_9
  have f23_10 : a0_23.eval (.tmp 10) = .int .i64 (k : Int) := by rw [ha23, ev_other _ _ _ _ (by decide)]; exact f22_10
  have f23_91 : a0_23.eval (.tmp 91) = .bool false := by rw [ha23, ev_other _ _ _ _ (by decide)]; exact f22_91
  have f23_99 : a0_23.eval (.tmp 99) = .bool true := by rw [ha23, ev_other _ _ _ _ (by decide)]; exact f22_99
  have f23_102 : a0_23.eval (.tmp 102) = .pointer (some ⟨R, d, none⟩) := by rw [ha23]; exact ev_same _ _ _ (Nat.lt_of_le_of_lt (by decide) qz22)
  rw [← ha23] at h0 ⊢
  clear ha23
  refine wpAnyH_take (i := 23) (oi := oa_23 s) (v := .slice (some ⟨g2, 0, none⟩) m cv) (by kernel_rfl) (by kernel_rfl) (by kernel_rfl) (by kernel_rfl) (fun c a w h => hQ c _ _ _ w h) (Or.inl ⟨wanted_some rfl (by kernel_rfl) f23_99 (Nat.lt_of_le_of_lt (by decide) qz23), fun w hw => run_load rfl f23_102 (ldo_s hw.2.1)⟩) hS ?_
  change wpAnyH _ _ _ _ _ _ _ (a0_23.put (some 103) (.slice (some ⟨g2, 0, none⟩) m cv)) _
  obtain ⟨a0_24, ha24⟩ : ∃ rr : Act, rr = a0_23.put (some 103) (.slice (some ⟨g2, 0, none⟩) m cv) := ⟨_, rfl⟩
  have qz24 : 112 < a0_24.tmps.size := by rw [ha24, sz_put]; exact qz23
  have f24_9 : a0_24.eval (.tmp 9) = .int .i64 (d : Int) := by rw [ha24, ev_other _ _ _ _ (by decide)]; exact f23_9
  have f24_10 : a0_24.eval (.tmp 10) = .int .i64 (k : Int) := by rw [ha24, ev_other _ _ _ _ (by decide)]; exact f23_10
  have f24_91 : a0_24.eval (.tmp 91) = .bool false := by rw [ha24, ev_other _ _ _ _ (by decide)]; exact f23_91
  have f24_99 : a0_24.eval (.tmp 99) = .bool true := by rw [ha24, ev_other _ _ _ _ (by decide)]; exact f23_99
  have f24_103 : a0_24.eval (.tmp 103) = .slice (some ⟨g2, 0, none⟩) m cv := by rw [ha24]; exact ev_same _ _ _ (Nat.lt_of_le_of_lt (by decide) qz23)
  rw [← ha24] at h0 ⊢
  clear ha24
  refine wpAnyH_take (i := 24) (oi := oa_24 s) (v := .int .i64 (k : Int)) (by kernel_rfl) (by kernel_rfl) (by kernel_rfl) (by kernel_rfl) (fun c a w h => hQ c _ _ _ w h) (Or.inl ⟨wanted_some rfl (by kernel_rfl) f24_99 (Nat.lt_of_le_of_lt (by decide) qz24), fun w hw => by simp only [execOp, oa_24, f24_10]; rfl⟩) hS ?_
  change wpAnyH _ _ _ _ _ _ _ (a0_24.put (some 104) (.int .i64 (k : Int))) _
  obtain ⟨a0_25, ha25⟩ : ∃ rr : Act, rr = a0_24.put (some 104) (.int .i64 (k : Int)) := ⟨_, rfl⟩
  have qz25 : 112 < a0_25.tmps.size := by rw [ha25, sz_put]; exact qz24
  have f25_9 : a0_25.eval (.tmp 9) = .int .i64 (d : Int) := by rw [ha25, ev_other _ _ _ _ (by decide)]; exact f24_9
  have f25_10 : a0_25.eval (.tmp 10) = .int .i64 (k : Int) := by rw [ha25, ev_other _ _ _ _ (by decide)]; exact f24_10
  have f25_91 : a0_25.eval (.tmp 91) = .bool false := by rw [ha25, ev_other _ _ _ _ (by decide)]; exact f24_91
  have f25_99 : a0_25.eval (.tmp 99) = .bool true := by rw [ha25, ev_other _ _ _ _ (by decide)]; exact f24_99
  have f25_103 : a0_25.eval (.tmp 103) = .slice (some ⟨g2, 0, none⟩) m cv := by rw [ha25, ev_other _ _ _ _ (by decide)]; exact f24_103
  have f25_104 : a0_25.eval (.tmp 104) = .int .i64 (k : Int) := by rw [ha25]; exact ev_same _ _ _ (Nat.lt_of_le_of_lt (by decide) qz24)
  rw [← ha25] at h0 ⊢
  clear ha25
  refine wpAnyH_take (i := 25) (oi := oa_25 s) (v := .pointer (some ⟨g2, k, none⟩)) (by kernel_rfl) (by kernel_rfl) (by kernel_rfl) (by kernel_rfl) (fun c a w h => hQ c _ _ _ w h) (Or.inl ⟨wanted_some rfl (by kernel_rfl) f25_99 (Nat.lt_of_le_of_lt (by decide) qz25), fun w hw => ixo_b rfl f25_103 f25_104 hkm w⟩) hS ?_
  change wpAnyH _ _ _ _ _ _ _ (a0_25.put (some 105) (.pointer (some ⟨g2, k, none⟩))) _
  obtain ⟨a0_26, ha26⟩ : ∃ rr : Act, rr = a0_25.put (some 105) (.pointer (some ⟨g2, k, none⟩)) := ⟨_, rfl⟩
  have qz26 : 112 < a0_26.tmps.size := by rw [ha26, sz_put]; exact qz25
  have f26_9 : a0_26.eval (.tmp 9) = .int .i64 (d : Int) := by rw [ha26, ev_other _ _ _ _ (by decide)]; exact f25_9
  have f26_10 : a0_26.eval (.tmp 10) = .int .i64 (k : Int) := by rw [ha26, ev_other _ _ _ _ (by decide)]; exact f25_10
  have f26_91 : a0_26.eval (.tmp 91) = .bool false := by rw [ha26, ev_other _ _ _ _ (by decide)]; exact f25_91
  have f26_99 : a0_26.eval (.tmp 99) = .bool true := by rw [ha26, ev_other _ _ _ _ (by decide)]; exact f25_99
  have f26_105 : a0_26.eval (.tmp 105) = .pointer (some ⟨g2, k, none⟩) := by rw [ha26]; exact ev_same _ _ _ (Nat.lt_of_le_of_lt (by decide) qz25)
  rw [← ha26] at h0 ⊢
  clear ha26
  refine wpAnyH_take (i := 26) (oi := oa_26 s) (v := .int .u8 (y.toNat : Int)) (by kernel_rfl) (by kernel_rfl) (by kernel_rfl) (by kernel_rfl) (fun c a w h => hQ c _ _ _ w h) (Or.inl ⟨wanted_some rfl (by kernel_rfl) f26_99 (Nat.lt_of_le_of_lt (by decide) qz26), fun w hw => run_load rfl f26_105 (ldo_b hw.2.2.2)⟩) hS ?_
  change wpAnyH _ _ _ _ _ _ _ (a0_26.put (some 106) (.int .u8 (y.toNat : Int))) _
  obtain ⟨a0_27, ha27⟩ : ∃ rr : Act, rr = a0_26.put (some 106) (.int .u8 (y.toNat : Int)) := ⟨_, rfl⟩
  have qz27 : 112 < a0_27.tmps.size := by rw [ha27, sz_put]; exact qz26
  have f27_9 : a0_27.eval (.tmp 9) = .int .i64 (d : Int) := by rw [ha27, ev_other _ _ _ _ (by decide)]; exact f26_9
  have f27_10 : a0_27.eval (.tmp 10) = .int .i64 (k : Int) := by rw [ha27, ev_other _ _ _ _ (by decide)]; exact f26_10
  have f27_91 : a0_27.eval (.tmp 91) = .bool false := by rw [ha27, ev_other _ _ _ _ (by decide)]; exact f26_91
  have f27_99 : a0_27.eval (.tmp 99) = .bool true := by rw [ha27, ev_other _ _ _ _ (by decide)]; exact f26_99
  have f27_106 : a0_27.eval (.tmp 106) = .int .u8 (y.toNat : Int) := by rw [ha27]; exact ev_same _ _ _ (Nat.lt_of_le_of_lt (by decide) qz26)
  rw [← ha27] at h0 ⊢
  clear ha27
  refine wpAnyH_take (i := 27) (oi := oa_27 s) (v := .int .i64 (d : Int)) (by kernel_rfl) (by kernel_rfl) (by kernel_rfl) (by kernel_rfl) (fun c a w h => hQ c _ _ _ w h) (Or.inl ⟨wanted_some rfl (by kernel_rfl) f27_99 (Nat.lt_of_le_of_lt (by decide) qz27), fun w hw => by simp only [execOp, oa_27, f27_9]; rfl⟩) hS ?_
  change wpAnyH _ _ _ _ _ _ _ (a0_27.put (some 107) (.int .i64 (d : Int))) _
  obtain ⟨a0_28, ha28⟩ : ∃ rr : Act, rr = a0_27.put (some 107) (.int .i64 (d : Int)) := ⟨_, rfl⟩
  have qz28 : 112 < a0_28.tmps.size := by rw [ha28, sz_put]; exact qz27
  have f28_10 : a0_28.eval (.tmp 10) = .int .i64 (k : Int) := by rw [ha28, ev_other _ _ _ _ (by decide)]; exact f27_10
  have f28_91 : a0_28.eval (.tmp 91) = .bool false := by rw [ha28, ev_other _ _ _ _ (by decide)]; exact f27_91
  have f28_99 : a0_28.eval (.tmp 99) = .bool true := by rw [ha28, ev_other _ _ _ _ (by decide)]; exact f27_99
  have f28_106 : a0_28.eval (.tmp 106) = .int .u8 (y.toNat : Int) := by rw [ha28, ev_other _ _ _ _ (by decide)]; exact f27_106
  have f28_107 : a0_28.eval (.tmp 107) = .int .i64 (d : Int) := by rw [ha28]; exact ev_same _ _ _ (Nat.lt_of_le_of_lt (by decide) qz27)
  rw [← ha28] at h0 ⊢
  clear ha28
  refine wpAnyH_take (i := 28) (oi := oa_28 s) (v := .int .i64 (k : Int)) (by kernel_rfl) (by kernel_rfl) (by kernel_rfl) (by kernel_rfl) (fun c a w h => hQ c _ _ _ w h) (Or.inl ⟨wanted_some rfl (by kernel_rfl) f28_99 (Nat.lt_of_le_of_lt (by decide) qz28), fun w hw => by simp only [execOp, oa_28, f28_10]; rfl⟩) hS ?_
  change wpAnyH _ _ _ _ _ _ _ (a0_28.put (some 108) (.int .i64 (k : Int))) _
  obtain ⟨a0_29, ha29⟩ : ∃ rr : Act, rr = a0_28.put (some 108) (.int .i64 (k : Int)) := ⟨_, rfl⟩
  have qz29 : 112 < a0_29.tmps.size := by rw [ha29, sz_put]; exact qz28
  have f29_91 : a0_29.eval (.tmp 91) = .bool false := by rw [ha29, ev_other _ _ _ _ (by decide)]; exact f28_91
  have f29_99 : a0_29.eval (.tmp 99) = .bool true := by rw [ha29, ev_other _ _ _ _ (by decide)]; exact f28_99
  have f29_106 : a0_29.eval (.tmp 106) = .int .u8 (y.toNat : Int) := by rw [ha29, ev_other _ _ _ _ (by decide)]; exact f28_106
  have f29_107 : a0_29.eval (.tmp 107) = .int .i64 (d : Int) := by rw [ha29, ev_other _ _ _ _ (by decide)]; exact f28_107
  have f29_108 : a0_29.eval (.tmp 108) = .int .i64 (k : Int) := by rw [ha29]; exact ev_same _ _ _ (Nat.lt_of_le_of_lt (by decide) qz28)
  rw [← ha29] at h0 ⊢
  clear ha29
  refine wpAnyH_ready (rs := [29]) (by kernel_rfl) (by simp) ?_
  refine AllReadyH.cons (o := oa_29 s) (by kernel_rfl) (fun KQ hKQ => ?_) AllReadyH.nil
  rw [if_pos (wanted_some rfl (by kernel_rfl) f29_99 (Nat.lt_of_le_of_lt (by decide) qz29))]
  refine step_enterE 38 #[.int .i64 (d : Int), .int .i64 (k : Int)] (by rw [oa_enter29, f29_107, f29_108]) (fun V w' => V = .int .u8 (y.toNat : Int) ∧ w' = W.drew) ((hc W.drew).mono (fun e w' h => ⟨_, h.1, rfl, h.2⟩)) ?_
  rintro _ w2 ⟨rfl, hw2⟩
  subst hw2
  refine hKQ.out _ _ (hS) (fun _ => ?_)
  clear hKQ KQ
  change wpAnyH _ _ _ _ _ _ _ (a0_29.put (some 109) (.int .u8 (y.toNat : Int))) _
  obtain ⟨a0_30, ha30⟩ : ∃ rr : Act, rr = a0_29.put (some 109) (.int .u8 (y.toNat : Int)) := ⟨_, rfl⟩
  have qz30 : 112 < a0_30.tmps.size := by rw [ha30, sz_put]; exact qz29
  have f30_91 : a0_30.eval (.tmp 91) = .bool false := by rw [ha30, ev_other _ _ _ _ (by decide)]; exact f29_91
  have f30_99 : a0_30.eval (.tmp 99) = .bool true := by rw [ha30, ev_other _ _ _ _ (by decide)]; exact f29_99
  have f30_106 : a0_30.eval (.tmp 106) = .int .u8 (y.toNat : Int) := by rw [ha30, ev_other _ _ _ _ (by decide)]; exact f29_106
  have f30_109 : a0_30.eval (.tmp 109) = .int .u8 (y.toNat : Int) := by rw [ha30]; exact ev_same _ _ _ (Nat.lt_of_le_of_lt (by decide) qz29)
  rw [← ha30] at h0 ⊢
  clear ha30
  refine wpAnyH_take (i := 30) (oi := oa_30 s) (v := .bool false) (by kernel_rfl) (by kernel_rfl) (by kernel_rfl) (by kernel_rfl) (fun c a w h => hQ c _ _ _ w h) (Or.inl ⟨wanted_some rfl (by kernel_rfl) f30_99 (Nat.lt_of_le_of_lt (by decide) qz30), fun w hw => neo rfl f30_106 f30_109 w⟩) hS ?_
  change wpAnyH _ _ _ _ _ _ _ (a0_30.put (some 110) (.bool false)) _
  obtain ⟨a0_31, ha31⟩ : ∃ rr : Act, rr = a0_30.put (some 110) (.bool false) := ⟨_, rfl⟩
  have qz31 : 112 < a0_31.tmps.size := by rw [ha31, sz_put]; exact qz30
  have f31_91 : a0_31.eval (.tmp 91) = .bool false := by rw [ha31, ev_other _ _ _ _ (by decide)]; exact f30_91
  have f31_99 : a0_31.eval (.tmp 99) = .bool true := by rw [ha31, ev_other _ _ _ _ (by decide)]; exact f30_99
  have f31_110 : a0_31.eval (.tmp 110) = .bool false := by rw [ha31]; exact ev_same _ _ _ (Nat.lt_of_le_of_lt (by decide) qz30)
  rw [← ha31] at h0 ⊢
  clear ha31
  refine wpAnyH_take (i := 31) (oi := oa_31 s) (v := .bool false) (by kernel_rfl) (by kernel_rfl) (by kernel_rfl) (by kernel_rfl) (fun c a w h => hQ c _ _ _ w h) (Or.inl ⟨wanted_some rfl (by kernel_rfl) f31_91 (Nat.lt_of_le_of_lt (by decide) qz31), fun w hw => by simp only [execOp, oa_31, f31_99, f31_110]; rfl⟩) hS ?_
  change wpAnyH _ _ _ _ _ _ _ (a0_31.put (some 111) (.bool false)) _
  obtain ⟨a0_32, ha32⟩ : ∃ rr : Act, rr = a0_31.put (some 111) (.bool false) := ⟨_, rfl⟩
  have qz32 : 112 < a0_32.tmps.size := by rw [ha32, sz_put]; exact qz31
  have f32_91 : a0_32.eval (.tmp 91) = .bool false := by rw [ha32, ev_other _ _ _ _ (by decide)]; exact f31_91
  have f32_111 : a0_32.eval (.tmp 111) = .bool false := by rw [ha32]; exact ev_same _ _ _ (Nat.lt_of_le_of_lt (by decide) qz31)
  rw [← ha32] at h0 ⊢
  clear ha32
  refine wpAnyH_take (i := 32) (oi := oa_32 s) (v := .bool false) (by kernel_rfl) (by kernel_rfl) (by kernel_rfl) (by kernel_rfl) (fun c a w h => hQ c _ _ _ w h) (Or.inl ⟨wanted_none rfl, fun w hw => by simp only [execOp, oa_32, f32_91, f32_111]; rfl⟩) hS ?_
  change wpAnyH _ _ _ _ _ _ _ (a0_32.put (some 112) (.bool false)) _
  obtain ⟨a0_33, ha33⟩ : ∃ rr : Act, rr = a0_32.put (some 112) (.bool false) := ⟨_, rfl⟩
  have qz33 : 112 < a0_33.tmps.size := by rw [ha33, sz_put]; exact qz32
  rw [← ha33] at h0 ⊢
  clear ha33
  refine wpAnyH_done (by kernel_rfl) ?_ _
  exact h0
def ob_0 (s : String) : Oper := { dst := some 80, op := Op.move (Operand.tmp 3), type := 31, pos := s, after := #[], guard := none }
def ob_1 (s : String) : Oper := { dst := some 81, op := Op.move (Operand.tmp 9), type := 3, pos := s, after := #[], guard := none }
def ob_2 (s : String) : Oper := { dst := some 82, op := Op.indexAddr 31 (Operand.tmp 80) (Operand.tmp 81), type := 0, pos := s, after := #[{ on := 0, ground := Ground.data }, { on := 1, ground := Ground.data }], guard := none }
def ob_3 (s : String) : Oper := { dst := some 83, op := Op.load 22 (Operand.tmp 82), type := 22, pos := s, after := #[{ on := 2, ground := Ground.data }], guard := none }
def ob_4 (s : String) : Oper := { dst := some 84, op := Op.move (Operand.tmp 10), type := 3, pos := s, after := #[], guard := none }
def ob_5 (s : String) : Oper := { dst := some 85, op := Op.indexAddr 22 (Operand.tmp 83) (Operand.tmp 84), type := 0, pos := s, after := #[{ on := 3, ground := Ground.data }, { on := 4, ground := Ground.data }], guard := none }
def ob_6 (s : String) : Oper := { dst := some 86, op := Op.load 5 (Operand.tmp 85), type := 5, pos := s, after := #[{ on := 5, ground := Ground.data }], guard := none }
def ob_7 (s : String) : Oper := { dst := some 87, op := Op.move (Operand.tmp 9), type := 3, pos := s, after := #[], guard := none }
def ob_8 (s : String) : Oper := { dst := some 88, op := Op.move (Operand.tmp 10), type := 3, pos := s, after := #[], guard := none }
def ob_9 (s : String) : Oper := { dst := some 89, op := Op.call { callee := Callee.value (Operand.func 38), args := #[Operand.tmp 87, Operand.tmp 88], argTypes := #[3, 3] }, type := 5, pos := s, after := #[{ on := 7, ground := Ground.data }, { on := 8, ground := Ground.data }], guard := none }
def ob_10 (s : String) : Oper := { dst := some 90, op := Op.binOp BinOp.neq 5 (Operand.tmp 86) (Operand.tmp 89) 5, type := 4, pos := s, after := #[{ on := 6, ground := Ground.data }, { on := 9, ground := Ground.data }], guard := none }
def ob_11 (s : String) : Oper := { dst := some 91, op := Op.move (Operand.tmp 90), type := 4, pos := s, after := #[{ on := 10, ground := Ground.data }, { on := 9, ground := Ground.chain }], guard := none }
def ob_12 (s : String) : Oper := { dst := some 92, op := Op.move (Operand.tmp 10), type := 3, pos := s, after := #[{ on := 11, ground := Ground.guard }], guard := some (11, false) }
def ob_13 (s : String) : Oper := { dst := some 93, op := Op.move (Operand.tmp 0), type := 31, pos := s, after := #[{ on := 11, ground := Ground.guard }], guard := some (11, false) }
def ob_14 (s : String) : Oper := { dst := some 94, op := Op.move (Operand.tmp 9), type := 3, pos := s, after := #[{ on := 11, ground := Ground.guard }], guard := some (11, false) }
def ob_15 (s : String) : Oper := { dst := some 95, op := Op.indexAddr 31 (Operand.tmp 93) (Operand.tmp 94), type := 0, pos := s, after := #[{ on := 13, ground := Ground.data }, { on := 14, ground := Ground.data }, { on := 11, ground := Ground.guard }], guard := some (11, false) }
def ob_16 (s : String) : Oper := { dst := some 96, op := Op.load 22 (Operand.tmp 95), type := 22, pos := s, after := #[{ on := 15, ground := Ground.data }, { on := 11, ground := Ground.guard }], guard := some (11, false) }
def ob_17 (s : String) : Oper := { dst := some 97, op := Op.call { callee := Callee.builtin Builtin.len, args := #[Operand.tmp 96], argTypes := #[22] }, type := 3, pos := s, after := #[{ on := 16, ground := Ground.data }, { on := 11, ground := Ground.guard }], guard := some (11, false) }
def ob_18 (s : String) : Oper := { dst := some 98, op := Op.binOp BinOp.lss 3 (Operand.tmp 92) (Operand.tmp 97) 3, type := 4, pos := s, after := #[{ on := 12, ground := Ground.data }, { on := 17, ground := Ground.data }, { on := 11, ground := Ground.guard }], guard := some (11, false) }
def ob_19 (s : String) : Oper := { dst := some 99, op := Op.move (Operand.tmp 98), type := 4, pos := s, after := #[{ on := 18, ground := Ground.data }, { on := 11, ground := Ground.chain }, { on := 11, ground := Ground.guard }], guard := some (11, false) }
def ob_20 (s : String) : Oper := { dst := some 100, op := Op.move (Operand.tmp 0), type := 31, pos := s, after := #[{ on := 19, ground := Ground.guard }], guard := some (19, true) }
def ob_21 (s : String) : Oper := { dst := some 101, op := Op.move (Operand.tmp 9), type := 3, pos := s, after := #[{ on := 19, ground := Ground.guard }], guard := some (19, true) }
def ob_22 (s : String) : Oper := { dst := some 102, op := Op.indexAddr 31 (Operand.tmp 100) (Operand.tmp 101), type := 0, pos := s, after := #[{ on := 20, ground := Ground.data }, { on := 21, ground := Ground.data }, { on := 19, ground := Ground.guard }], guard := some (19, true) }
def ob_23 (s : String) : Oper := { dst := some 103, op := Op.load 22 (Operand.tmp 102), type := 22, pos := s, after := #[{ on := 22, ground := Ground.data }, { on := 19, ground := Ground.guard }], guard := some (19, true) }
def ob_24 (s : String) : Oper := { dst := some 104, op := Op.move (Operand.tmp 10), type := 3, pos := s, after := #[{ on := 19, ground := Ground.guard }], guard := some (19, true) }
def ob_25 (s : String) : Oper := { dst := some 105, op := Op.indexAddr 22 (Operand.tmp 103) (Operand.tmp 104), type := 0, pos := s, after := #[{ on := 23, ground := Ground.data }, { on := 24, ground := Ground.data }, { on := 19, ground := Ground.guard }], guard := some (19, true) }
def ob_26 (s : String) : Oper := { dst := some 106, op := Op.load 5 (Operand.tmp 105), type := 5, pos := s, after := #[{ on := 25, ground := Ground.data }, { on := 19, ground := Ground.guard }], guard := some (19, true) }
def ob_27 (s : String) : Oper := { dst := some 107, op := Op.move (Operand.tmp 9), type := 3, pos := s, after := #[{ on := 19, ground := Ground.guard }], guard := some (19, true) }
def ob_28 (s : String) : Oper := { dst := some 108, op := Op.move (Operand.tmp 10), type := 3, pos := s, after := #[{ on := 19, ground := Ground.guard }], guard := some (19, true) }
def ob_29 (s : String) : Oper := { dst := some 109, op := Op.call { callee := Callee.value (Operand.func 38), args := #[Operand.tmp 107, Operand.tmp 108], argTypes := #[3, 3] }, type := 5, pos := s, after := #[{ on := 27, ground := Ground.data }, { on := 28, ground := Ground.data }, { on := 19, ground := Ground.chain }, { on := 19, ground := Ground.guard }], guard := some (19, true) }
def ob_30 (s : String) : Oper := { dst := some 110, op := Op.binOp BinOp.neq 5 (Operand.tmp 106) (Operand.tmp 109) 5, type := 4, pos := s, after := #[{ on := 26, ground := Ground.data }, { on := 29, ground := Ground.data }, { on := 19, ground := Ground.guard }], guard := some (19, true) }
def ob_31 (s : String) : Oper := { dst := some 111, op := Op.pick (Operand.tmp 99) (Operand.tmp 110) (Operand.const (Value.bool false)), type := 4, pos := s, after := #[{ on := 19, ground := Ground.data }, { on := 30, ground := Ground.data }, { on := 11, ground := Ground.guard }], guard := some (11, false) }
def ob_32 (s : String) : Oper := { dst := some 112, op := Op.pick (Operand.tmp 91) (Operand.const (Value.bool true)) (Operand.tmp 111), type := 4, pos := s, after := #[{ on := 11, ground := Ground.data }, { on := 31, ground := Ground.data }], guard := none }
def ob_ops (s : String) : Array Oper := #[ob_0 s, ob_1 s, ob_2 s, ob_3 s, ob_4 s, ob_5 s, ob_6 s, ob_7 s, ob_8 s, ob_9 s, ob_10 s, ob_11 s, ob_12 s, ob_13 s, ob_14 s, ob_15 s, ob_16 s, ob_17 s, ob_18 s, ob_19 s, ob_20 s, ob_21 s, ob_22 s, ob_23 s, ob_24 s, ob_25 s, ob_26 s, ob_27 s, ob_28 s, ob_29 s, ob_30 s, ob_31 s, ob_32 s]
theorem ob_enter9 (s : String) (a : Act) (w : World) : (execOp a.eval (ob_9 s)).run Try.prog w = .ok (.enter 38 #[a.eval (.tmp 87), a.eval (.tmp 88)]) w := by kernel_rfl
theorem ob_enter29 (s : String) (a : Act) (w : World) : (execOp a.eval (ob_29 s)).run Try.prog w = .ok (.enter 38 #[a.eval (.tmp 107), a.eval (.tmp 108)]) w := by kernel_rfl
set_option maxRecDepth 20000 in
set_option maxHeartbeats 4000000 in
theorem ob_walk (s : String) {Q : Exit → Act → World → Prop} (hQ : ∀ c (a : Act) t v w, Q (.panic c) (a.put (some t) v) w → Q (.panic c) a w) (W : World) (L R b n cl c g t cg m cv d k : Nat) (aov : Option Addr) (y : UInt8) (hd : (d : Int) < (b : Int)) (hn : (d : Int) < (n : Int)) (hk : (k : Int) < (t : Int)) (hm : decide (k < m) = false) (hT : W.cell? ⟨L, d, none⟩ = some (.slice (some ⟨g, 0, none⟩) t cg) ∧ W.cell? ⟨R, d, none⟩ = some (.slice aov m cv) ∧ W.cell? ⟨g, k, none⟩ = some (.int .u8 (y.toNat : Int)) ∧ True) (hc : ∀ w', Calls Try.prog 38 #[.int .i64 (d : Int), .int .i64 (k : Int)] w' fun e w2 => e = .returned (.int .u8 (y.toNat : Int)) ∧ w2 = w')
    (a : Act) (hs : 112 < a.tmps.size) (e0 : a.eval (.tmp 0) = .slice (some ⟨R, 0, none⟩) n c) (e3 : a.eval (.tmp 3) = .slice (some ⟨L, 0, none⟩) b cl) (e9 : a.eval (.tmp 9) = .int .i64 (d : Int)) (e10 : a.eval (.tmp 10) = .int .i64 (k : Int))
    (h0 :  Q .normal (((((((((((((((((((((((((((((((((a.put (some 80) (.slice (some ⟨L, 0, none⟩) b cl)).put (some 81) (.int .i64 (d : Int))).put (some 82) (.pointer (some ⟨L, d, none⟩))).put (some 83) (.slice (some ⟨g, 0, none⟩) t cg)).put (some 84) (.int .i64 (k : Int))).put (some 85) (.pointer (some ⟨g, k, none⟩))).put (some 86) (.int .u8 (y.toNat : Int))).put (some 87) (.int .i64 (d : Int))).put (some 88) (.int .i64 (k : Int))).put (some 89) (.int .u8 (y.toNat : Int))).put (some 90) (.bool false)).put (some 91) (.bool false)).put (some 92) (.int .i64 (k : Int))).put (some 93) (.slice (some ⟨R, 0, none⟩) n c)).put (some 94) (.int .i64 (d : Int))).put (some 95) (.pointer (some ⟨R, d, none⟩))).put (some 96) (.slice aov m cv)).put (some 97) (.int .i64 (m : Int))).put (some 98) (.bool false)).put (some 99) (.bool false)).put (some 100) (undef)).put (some 101) (undef)).put (some 102) (undef)).put (some 103) (undef)).put (some 104) (undef)).put (some 105) (undef)).put (some 106) (undef)).put (some 107) (undef)).put (some 108) (undef)).put (some 109) (undef)).put (some 110) (undef)).put (some 111) (.bool false)).put (some 112) (.bool false)) W.drew) :
    Code.wp Try.prog (.region 24 (ob_ops s) true) Q a W := by
  refine wp_region_held_drew (S := fun W' => W'.cell? ⟨L, d, none⟩ = some (.slice (some ⟨g, 0, none⟩) t cg) ∧ W'.cell? ⟨R, d, none⟩ = some (.slice aov m cv) ∧ W'.cell? ⟨g, k, none⟩ = some (.int .u8 (y.toNat : Int)) ∧ True) (by kernel_rfl) hT (fun hS => ?_)
  change wpAnyH _ _ _ _ _ _ _ _ (World.drew _)
  refine wpAnyH_take (i := 0) (oi := ob_0 s) (v := .slice (some ⟨L, 0, none⟩) b cl) (by kernel_rfl) (by kernel_rfl) (by kernel_rfl) (by kernel_rfl) (fun c a w h => hQ c _ _ _ w h) (Or.inl ⟨wanted_none rfl, fun w hw => by simp only [execOp, ob_0, e3]; rfl⟩) hS ?_
  change wpAnyH _ _ _ _ _ _ _ (a.put (some 80) (.slice (some ⟨L, 0, none⟩) b cl)) _
  obtain ⟨a0_1, ha1⟩ : ∃ rr : Act, rr = a.put (some 80) (.slice (some ⟨L, 0, none⟩) b cl) := ⟨_, rfl⟩
  have qz1 : 112 < a0_1.tmps.size := by rw [ha1, sz_put]; exact hs
  have f1_0 : a0_1.eval (.tmp 0) = .slice (some ⟨R, 0, none⟩) n c := by rw [ha1, ev_other _ _ _ _ (by decide)]; exact e0
  have f1_9 : a0_1.eval (.tmp 9) = .int .i64 (d : Int) := by rw [ha1, ev_other _ _ _ _ (by decide)]; exact e9
  have f1_10 : a0_1.eval (.tmp 10) = .int .i64 (k : Int) := by rw [ha1, ev_other _ _ _ _ (by decide)]; exact e10
  have f1_80 : a0_1.eval (.tmp 80) = .slice (some ⟨L, 0, none⟩) b cl := by rw [ha1]; exact ev_same _ _ _ (Nat.lt_of_le_of_lt (by decide) hs)
  rw [← ha1] at h0 ⊢
  clear ha1
  refine wpAnyH_take (i := 1) (oi := ob_1 s) (v := .int .i64 (d : Int)) (by kernel_rfl) (by kernel_rfl) (by kernel_rfl) (by kernel_rfl) (fun c a w h => hQ c _ _ _ w h) (Or.inl ⟨wanted_none rfl, fun w hw => by simp only [execOp, ob_1, f1_9]; rfl⟩) hS ?_
  change wpAnyH _ _ _ _ _ _ _ (a0_1.put (some 81) (.int .i64 (d : Int))) _
  obtain ⟨a0_2, ha2⟩ : ∃ rr : Act, rr = a0_1.put (some 81) (.int .i64 (d : Int)) := ⟨_, rfl⟩
  have qz2 : 112 < a0_2.tmps.size := by rw [ha2, sz_put]; exact qz1
  have f2_0 : a0_2.eval (.tmp 0) = .slice (some ⟨R, 0, none⟩) n c := by rw [ha2, ev_other _ _ _ _ (by decide)]; exact f1_0
  have f2_9 : a0_2.eval (.tmp 9) = .int .i64 (d : Int) := by rw [ha2, ev_other _ _ _ _ (by decide)]; exact f1_9
  have f2_10 : a0_2.eval (.tmp 10) = .int .i64 (k : Int) := by rw [ha2, ev_other _ _ _ _ (by decide)]; exact f1_10
  have f2_80 : a0_2.eval (.tmp 80) = .slice (some ⟨L, 0, none⟩) b cl := by rw [ha2, ev_other _ _ _ _ (by decide)]; exact f1_80
  have f2_81 : a0_2.eval (.tmp 81) = .int .i64 (d : Int) := by rw [ha2]; exact ev_same _ _ _ (Nat.lt_of_le_of_lt (by decide) qz1)
  rw [← ha2] at h0 ⊢
  clear ha2
  refine wpAnyH_take (i := 2) (oi := ob_2 s) (v := .pointer (some ⟨L, d, none⟩)) (by kernel_rfl) (by kernel_rfl) (by kernel_rfl) (by kernel_rfl) (fun c a w h => hQ c _ _ _ w h) (Or.inl ⟨wanted_none rfl, fun w hw => ixo_l rfl f2_80 f2_81 hd w⟩) hS ?_
  change wpAnyH _ _ _ _ _ _ _ (a0_2.put (some 82) (.pointer (some ⟨L, d, none⟩))) _
  obtain ⟨a0_3, ha3⟩ : ∃ rr : Act, rr = a0_2.put (some 82) (.pointer (some ⟨L, d, none⟩)) := ⟨_, rfl⟩
  have qz3 : 112 < a0_3.tmps.size := by rw [ha3, sz_put]; exact qz2
  have f3_0 : a0_3.eval (.tmp 0) = .slice (some ⟨R, 0, none⟩) n c := by rw [ha3, ev_other _ _ _ _ (by decide)]; exact f2_0
  have f3_9 : a0_3.eval (.tmp 9) = .int .i64 (d : Int) := by rw [ha3, ev_other _ _ _ _ (by decide)]; exact f2_9
  have f3_10 : a0_3.eval (.tmp 10) = .int .i64 (k : Int) := by rw [ha3, ev_other _ _ _ _ (by decide)]; exact f2_10
  have f3_82 : a0_3.eval (.tmp 82) = .pointer (some ⟨L, d, none⟩) := by rw [ha3]; exact ev_same _ _ _ (Nat.lt_of_le_of_lt (by decide) qz2)
  rw [← ha3] at h0 ⊢
  clear ha3
  refine wpAnyH_take (i := 3) (oi := ob_3 s) (v := .slice (some ⟨g, 0, none⟩) t cg) (by kernel_rfl) (by kernel_rfl) (by kernel_rfl) (by kernel_rfl) (fun c a w h => hQ c _ _ _ w h) (Or.inl ⟨wanted_none rfl, fun w hw => run_load rfl f3_82 (ldo_s hw.1)⟩) hS ?_
  change wpAnyH _ _ _ _ _ _ _ (a0_3.put (some 83) (.slice (some ⟨g, 0, none⟩) t cg)) _
  obtain ⟨a0_4, ha4⟩ : ∃ rr : Act, rr = a0_3.put (some 83) (.slice (some ⟨g, 0, none⟩) t cg) := ⟨_, rfl⟩
  have qz4 : 112 < a0_4.tmps.size := by rw [ha4, sz_put]; exact qz3
  have f4_0 : a0_4.eval (.tmp 0) = .slice (some ⟨R, 0, none⟩) n c := by rw [ha4, ev_other _ _ _ _ (by decide)]; exact f3_0
  have f4_9 : a0_4.eval (.tmp 9) = .int .i64 (d : Int) := by rw [ha4, ev_other _ _ _ _ (by decide)]; exact f3_9
  have f4_10 : a0_4.eval (.tmp 10) = .int .i64 (k : Int) := by rw [ha4, ev_other _ _ _ _ (by decide)]; exact f3_10
  have f4_83 : a0_4.eval (.tmp 83) = .slice (some ⟨g, 0, none⟩) t cg := by rw [ha4]; exact ev_same _ _ _ (Nat.lt_of_le_of_lt (by decide) qz3)
  rw [← ha4] at h0 ⊢
  clear ha4
  refine wpAnyH_take (i := 4) (oi := ob_4 s) (v := .int .i64 (k : Int)) (by kernel_rfl) (by kernel_rfl) (by kernel_rfl) (by kernel_rfl) (fun c a w h => hQ c _ _ _ w h) (Or.inl ⟨wanted_none rfl, fun w hw => by simp only [execOp, ob_4, f4_10]; rfl⟩) hS ?_
  change wpAnyH _ _ _ _ _ _ _ (a0_4.put (some 84) (.int .i64 (k : Int))) _
  obtain ⟨a0_5, ha5⟩ : ∃ rr : Act, rr = a0_4.put (some 84) (.int .i64 (k : Int)) := ⟨_, rfl⟩
  have qz5 : 112 < a0_5.tmps.size := by rw [ha5, sz_put]; exact qz4
  have f5_0 : a0_5.eval (.tmp 0) = .slice (some ⟨R, 0, none⟩) n c := by rw [ha5, ev_other _ _ _ _ (by decide)]; exact f4_0
  have f5_9 : a0_5.eval (.tmp 9) = .int .i64 (d : Int) := by rw [ha5, ev_other _ _ _ _ (by decide)]; exact f4_9
  have f5_10 : a0_5.eval (.tmp 10) = .int .i64 (k : Int) := by rw [ha5, ev_other _ _ _ _ (by decide)]; exact f4_10
  have f5_83 : a0_5.eval (.tmp 83) = .slice (some ⟨g, 0, none⟩) t cg := by rw [ha5, ev_other _ _ _ _ (by decide)]; exact f4_83
  have f5_84 : a0_5.eval (.tmp 84) = .int .i64 (k : Int) := by rw [ha5]; exact ev_same _ _ _ (Nat.lt_of_le_of_lt (by decide) qz4)
  rw [← ha5] at h0 ⊢
  clear ha5
  refine wpAnyH_take (i := 5) (oi := ob_5 s) (v := .pointer (some ⟨g, k, none⟩)) (by kernel_rfl) (by kernel_rfl) (by kernel_rfl) (by kernel_rfl) (fun c a w h => hQ c _ _ _ w h) (Or.inl ⟨wanted_none rfl, fun w hw => ixo_b rfl f5_83 f5_84 hk w⟩) hS ?_
  change wpAnyH _ _ _ _ _ _ _ (a0_5.put (some 85) (.pointer (some ⟨g, k, none⟩))) _
  obtain ⟨a0_6, ha6⟩ : ∃ rr : Act, rr = a0_5.put (some 85) (.pointer (some ⟨g, k, none⟩)) := ⟨_, rfl⟩
  have qz6 : 112 < a0_6.tmps.size := by rw [ha6, sz_put]; exact qz5
  have f6_0 : a0_6.eval (.tmp 0) = .slice (some ⟨R, 0, none⟩) n c := by rw [ha6, ev_other _ _ _ _ (by decide)]; exact f5_0
  have f6_9 : a0_6.eval (.tmp 9) = .int .i64 (d : Int) := by rw [ha6, ev_other _ _ _ _ (by decide)]; exact f5_9
  have f6_10 : a0_6.eval (.tmp 10) = .int .i64 (k : Int) := by rw [ha6, ev_other _ _ _ _ (by decide)]; exact f5_10
  have f6_85 : a0_6.eval (.tmp 85) = .pointer (some ⟨g, k, none⟩) := by rw [ha6]; exact ev_same _ _ _ (Nat.lt_of_le_of_lt (by decide) qz5)
  rw [← ha6] at h0 ⊢
  clear ha6
  refine wpAnyH_take (i := 6) (oi := ob_6 s) (v := .int .u8 (y.toNat : Int)) (by kernel_rfl) (by kernel_rfl) (by kernel_rfl) (by kernel_rfl) (fun c a w h => hQ c _ _ _ w h) (Or.inl ⟨wanted_none rfl, fun w hw => run_load rfl f6_85 (ldo_b hw.2.2.1)⟩) hS ?_
  change wpAnyH _ _ _ _ _ _ _ (a0_6.put (some 86) (.int .u8 (y.toNat : Int))) _
  obtain ⟨a0_7, ha7⟩ : ∃ rr : Act, rr = a0_6.put (some 86) (.int .u8 (y.toNat : Int)) := ⟨_, rfl⟩
  have qz7 : 112 < a0_7.tmps.size := by rw [ha7, sz_put]; exact qz6
  have f7_0 : a0_7.eval (.tmp 0) = .slice (some ⟨R, 0, none⟩) n c := by rw [ha7, ev_other _ _ _ _ (by decide)]; exact f6_0
  have f7_9 : a0_7.eval (.tmp 9) = .int .i64 (d : Int) := by rw [ha7, ev_other _ _ _ _ (by decide)]; exact f6_9
  have f7_10 : a0_7.eval (.tmp 10) = .int .i64 (k : Int) := by rw [ha7, ev_other _ _ _ _ (by decide)]; exact f6_10
  have f7_86 : a0_7.eval (.tmp 86) = .int .u8 (y.toNat : Int) := by rw [ha7]; exact ev_same _ _ _ (Nat.lt_of_le_of_lt (by decide) qz6)
  rw [← ha7] at h0 ⊢
  clear ha7
  refine wpAnyH_take (i := 7) (oi := ob_7 s) (v := .int .i64 (d : Int)) (by kernel_rfl) (by kernel_rfl) (by kernel_rfl) (by kernel_rfl) (fun c a w h => hQ c _ _ _ w h) (Or.inl ⟨wanted_none rfl, fun w hw => by simp only [execOp, ob_7, f7_9]; rfl⟩) hS ?_
  change wpAnyH _ _ _ _ _ _ _ (a0_7.put (some 87) (.int .i64 (d : Int))) _
  obtain ⟨a0_8, ha8⟩ : ∃ rr : Act, rr = a0_7.put (some 87) (.int .i64 (d : Int)) := ⟨_, rfl⟩
  have qz8 : 112 < a0_8.tmps.size := by rw [ha8, sz_put]; exact qz7
  have f8_0 : a0_8.eval (.tmp 0) = .slice (some ⟨R, 0, none⟩) n c := by rw [ha8, ev_other _ _ _ _ (by decide)]; exact f7_0
  have f8_9 : a0_8.eval (.tmp 9) = .int .i64 (d : Int) := by rw [ha8, ev_other _ _ _ _ (by decide)]; exact f7_9
  have f8_10 : a0_8.eval (.tmp 10) = .int .i64 (k : Int) := by rw [ha8, ev_other _ _ _ _ (by decide)]; exact f7_10
  have f8_86 : a0_8.eval (.tmp 86) = .int .u8 (y.toNat : Int) := by rw [ha8, ev_other _ _ _ _ (by decide)]; exact f7_86
  have f8_87 : a0_8.eval (.tmp 87) = .int .i64 (d : Int) := by rw [ha8]; exact ev_same _ _ _ (Nat.lt_of_le_of_lt (by decide) qz7)
  rw [← ha8] at h0 ⊢
  clear ha8
  refine wpAnyH_take (i := 8) (oi := ob_8 s) (v := .int .i64 (k : Int)) (by kernel_rfl) (by kernel_rfl) (by kernel_rfl) (by kernel_rfl) (fun c a w h => hQ c _ _ _ w h) (Or.inl ⟨wanted_none rfl, fun w hw => by simp only [execOp, ob_8, f8_10]; rfl⟩) hS ?_
  change wpAnyH _ _ _ _ _ _ _ (a0_8.put (some 88) (.int .i64 (k : Int))) _
  obtain ⟨a0_9, ha9⟩ : ∃ rr : Act, rr = a0_8.put (some 88) (.int .i64 (k : Int)) := ⟨_, rfl⟩
  have qz9 : 112 < a0_9.tmps.size := by rw [ha9, sz_put]; exact qz8
  have f9_0 : a0_9.eval (.tmp 0) = .slice (some ⟨R, 0, none⟩) n c := by rw [ha9, ev_other _ _ _ _ (by decide)]; exact f8_0
  have f9_9 : a0_9.eval (.tmp 9) = .int .i64 (d : Int) := by rw [ha9, ev_other _ _ _ _ (by decide)]; exact f8_9
  have f9_10 : a0_9.eval (.tmp 10) = .int .i64 (k : Int) := by rw [ha9, ev_other _ _ _ _ (by decide)]; exact f8_10
  have f9_86 : a0_9.eval (.tmp 86) = .int .u8 (y.toNat : Int) := by rw [ha9, ev_other _ _ _ _ (by decide)]; exact f8_86
  have f9_87 : a0_9.eval (.tmp 87) = .int .i64 (d : Int) := by rw [ha9, ev_other _ _ _ _ (by decide)]; exact f8_87
  have f9_88 : a0_9.eval (.tmp 88) = .int .i64 (k : Int) := by rw [ha9]; exact ev_same _ _ _ (Nat.lt_of_le_of_lt (by decide) qz8)
  rw [← ha9] at h0 ⊢
  clear ha9
  refine wpAnyH_ready (rs := [9]) (by kernel_rfl) (by simp) ?_
  refine AllReadyH.cons (o := ob_9 s) (by kernel_rfl) (fun KQ hKQ => ?_) AllReadyH.nil
  rw [if_pos (wanted_none rfl)]
  refine step_enterE 38 #[.int .i64 (d : Int), .int .i64 (k : Int)] (by rw [ob_enter9, f9_87, f9_88]) (fun V w' => V = .int .u8 (y.toNat : Int) ∧ w' = W.drew) ((hc W.drew).mono (fun e w' h => ⟨_, h.1, rfl, h.2⟩)) ?_
  rintro _ w1 ⟨rfl, hw1⟩
  subst hw1
  refine hKQ.out _ _ (hS) (fun _ => ?_)
  clear hKQ KQ
  change wpAnyH _ _ _ _ _ _ _ (a0_9.put (some 89) (.int .u8 (y.toNat : Int))) _
  obtain ⟨a0_10, ha10⟩ : ∃ rr : Act, rr = a0_9.put (some 89) (.int .u8 (y.toNat : Int)) := ⟨_, rfl⟩
  have qz10 : 112 < a0_10.tmps.size := by rw [ha10, sz_put]; exact qz9
  have f10_0 : a0_10.eval (.tmp 0) = .slice (some ⟨R, 0, none⟩) n c := by rw [ha10, ev_other _ _ _ _ (by decide)]; exact f9_0
  have f10_9 : a0_10.eval (.tmp 9) = .int .i64 (d : Int) := by rw [ha10, ev_other _ _ _ _ (by decide)]; exact f9_9
  have f10_10 : a0_10.eval (.tmp 10) = .int .i64 (k : Int) := by rw [ha10, ev_other _ _ _ _ (by decide)]; exact f9_10
  have f10_86 : a0_10.eval (.tmp 86) = .int .u8 (y.toNat : Int) := by rw [ha10, ev_other _ _ _ _ (by decide)]; exact f9_86
  have f10_89 : a0_10.eval (.tmp 89) = .int .u8 (y.toNat : Int) := by rw [ha10]; exact ev_same _ _ _ (Nat.lt_of_le_of_lt (by decide) qz9)
  rw [← ha10] at h0 ⊢
  clear ha10
  refine wpAnyH_take (i := 10) (oi := ob_10 s) (v := .bool false) (by kernel_rfl) (by kernel_rfl) (by kernel_rfl) (by kernel_rfl) (fun c a w h => hQ c _ _ _ w h) (Or.inl ⟨wanted_none rfl, fun w hw => neo rfl f10_86 f10_89 w⟩) hS ?_
  change wpAnyH _ _ _ _ _ _ _ (a0_10.put (some 90) (.bool false)) _
  obtain ⟨a0_11, ha11⟩ : ∃ rr : Act, rr = a0_10.put (some 90) (.bool false) := ⟨_, rfl⟩
  have qz11 : 112 < a0_11.tmps.size := by rw [ha11, sz_put]; exact qz10
  have f11_0 : a0_11.eval (.tmp 0) = .slice (some ⟨R, 0, none⟩) n c := by rw [ha11, ev_other _ _ _ _ (by decide)]; exact f10_0
  have f11_9 : a0_11.eval (.tmp 9) = .int .i64 (d : Int) := by rw [ha11, ev_other _ _ _ _ (by decide)]; exact f10_9
  have f11_10 : a0_11.eval (.tmp 10) = .int .i64 (k : Int) := by rw [ha11, ev_other _ _ _ _ (by decide)]; exact f10_10
  have f11_90 : a0_11.eval (.tmp 90) = .bool false := by rw [ha11]; exact ev_same _ _ _ (Nat.lt_of_le_of_lt (by decide) qz10)
  rw [← ha11] at h0 ⊢
  clear ha11
  refine wpAnyH_take (i := 11) (oi := ob_11 s) (v := .bool false) (by kernel_rfl) (by kernel_rfl) (by kernel_rfl) (by kernel_rfl) (fun c a w h => hQ c _ _ _ w h) (Or.inl ⟨wanted_none rfl, fun w hw => by simp only [execOp, ob_11, f11_90]; rfl⟩) hS ?_
  change wpAnyH _ _ _ _ _ _ _ (a0_11.put (some 91) (.bool false)) _
  obtain ⟨a0_12, ha12⟩ : ∃ rr : Act, rr = a0_11.put (some 91) (.bool false) := ⟨_, rfl⟩
  have qz12 : 112 < a0_12.tmps.size := by rw [ha12, sz_put]; exact qz11
  have f12_0 : a0_12.eval (.tmp 0) = .slice (some ⟨R, 0, none⟩) n c := by rw [ha12, ev_other _ _ _ _ (by decide)]; exact f11_0
  have f12_9 : a0_12.eval (.tmp 9) = .int .i64 (d : Int) := by rw [ha12, ev_other _ _ _ _ (by decide)]; exact f11_9
  have f12_10 : a0_12.eval (.tmp 10) = .int .i64 (k : Int) := by rw [ha12, ev_other _ _ _ _ (by decide)]; exact f11_10
  have f12_91 : a0_12.eval (.tmp 91) = .bool false := by rw [ha12]; exact ev_same _ _ _ (Nat.lt_of_le_of_lt (by decide) qz11)
  rw [← ha12] at h0 ⊢
  clear ha12
  refine wpAnyH_take (i := 12) (oi := ob_12 s) (v := .int .i64 (k : Int)) (by kernel_rfl) (by kernel_rfl) (by kernel_rfl) (by kernel_rfl) (fun c a w h => hQ c _ _ _ w h) (Or.inl ⟨wanted_some rfl (by kernel_rfl) f12_91 (Nat.lt_of_le_of_lt (by decide) qz12), fun w hw => by simp only [execOp, ob_12, f12_10]; rfl⟩) hS ?_
  change wpAnyH _ _ _ _ _ _ _ (a0_12.put (some 92) (.int .i64 (k : Int))) _
  obtain ⟨a0_13, ha13⟩ : ∃ rr : Act, rr = a0_12.put (some 92) (.int .i64 (k : Int)) := ⟨_, rfl⟩
  have qz13 : 112 < a0_13.tmps.size := by rw [ha13, sz_put]; exact qz12
  have f13_0 : a0_13.eval (.tmp 0) = .slice (some ⟨R, 0, none⟩) n c := by rw [ha13, ev_other _ _ _ _ (by decide)]; exact f12_0
  have f13_9 : a0_13.eval (.tmp 9) = .int .i64 (d : Int) := by rw [ha13, ev_other _ _ _ _ (by decide)]; exact f12_9
  have f13_10 : a0_13.eval (.tmp 10) = .int .i64 (k : Int) := by rw [ha13, ev_other _ _ _ _ (by decide)]; exact f12_10
  have f13_91 : a0_13.eval (.tmp 91) = .bool false := by rw [ha13, ev_other _ _ _ _ (by decide)]; exact f12_91
  have f13_92 : a0_13.eval (.tmp 92) = .int .i64 (k : Int) := by rw [ha13]; exact ev_same _ _ _ (Nat.lt_of_le_of_lt (by decide) qz12)
  rw [← ha13] at h0 ⊢
  clear ha13
  refine wpAnyH_take (i := 13) (oi := ob_13 s) (v := .slice (some ⟨R, 0, none⟩) n c) (by kernel_rfl) (by kernel_rfl) (by kernel_rfl) (by kernel_rfl) (fun c a w h => hQ c _ _ _ w h) (Or.inl ⟨wanted_some rfl (by kernel_rfl) f13_91 (Nat.lt_of_le_of_lt (by decide) qz13), fun w hw => by simp only [execOp, ob_13, f13_0]; rfl⟩) hS ?_
  change wpAnyH _ _ _ _ _ _ _ (a0_13.put (some 93) (.slice (some ⟨R, 0, none⟩) n c)) _
  obtain ⟨a0_14, ha14⟩ : ∃ rr : Act, rr = a0_13.put (some 93) (.slice (some ⟨R, 0, none⟩) n c) := ⟨_, rfl⟩
  have qz14 : 112 < a0_14.tmps.size := by rw [ha14, sz_put]; exact qz13
  have f14_0 : a0_14.eval (.tmp 0) = .slice (some ⟨R, 0, none⟩) n c := by rw [ha14, ev_other _ _ _ _ (by decide)]; exact f13_0
  have f14_9 : a0_14.eval (.tmp 9) = .int .i64 (d : Int) := by rw [ha14, ev_other _ _ _ _ (by decide)]; exact f13_9
  have f14_10 : a0_14.eval (.tmp 10) = .int .i64 (k : Int) := by rw [ha14, ev_other _ _ _ _ (by decide)]; exact f13_10
  have f14_91 : a0_14.eval (.tmp 91) = .bool false := by rw [ha14, ev_other _ _ _ _ (by decide)]; exact f13_91
  have f14_92 : a0_14.eval (.tmp 92) = .int .i64 (k : Int) := by rw [ha14, ev_other _ _ _ _ (by decide)]; exact f13_92
  have f14_93 : a0_14.eval (.tmp 93) = .slice (some ⟨R, 0, none⟩) n c := by rw [ha14]; exact ev_same _ _ _ (Nat.lt_of_le_of_lt (by decide) qz13)
  rw [← ha14] at h0 ⊢
  clear ha14
  refine wpAnyH_take (i := 14) (oi := ob_14 s) (v := .int .i64 (d : Int)) (by kernel_rfl) (by kernel_rfl) (by kernel_rfl) (by kernel_rfl) (fun c a w h => hQ c _ _ _ w h) (Or.inl ⟨wanted_some rfl (by kernel_rfl) f14_91 (Nat.lt_of_le_of_lt (by decide) qz14), fun w hw => by simp only [execOp, ob_14, f14_9]; rfl⟩) hS ?_
  change wpAnyH _ _ _ _ _ _ _ (a0_14.put (some 94) (.int .i64 (d : Int))) _
  obtain ⟨a0_15, ha15⟩ : ∃ rr : Act, rr = a0_14.put (some 94) (.int .i64 (d : Int)) := ⟨_, rfl⟩
  have qz15 : 112 < a0_15.tmps.size := by rw [ha15, sz_put]; exact qz14
  have f15_0 : a0_15.eval (.tmp 0) = .slice (some ⟨R, 0, none⟩) n c := by rw [ha15, ev_other _ _ _ _ (by decide)]; exact f14_0
  have f15_9 : a0_15.eval (.tmp 9) = .int .i64 (d : Int) := by rw [ha15, ev_other _ _ _ _ (by decide)]; exact f14_9
  have f15_10 : a0_15.eval (.tmp 10) = .int .i64 (k : Int) := by rw [ha15, ev_other _ _ _ _ (by decide)]; exact f14_10
  have f15_91 : a0_15.eval (.tmp 91) = .bool false := by rw [ha15, ev_other _ _ _ _ (by decide)]; exact f14_91
  have f15_92 : a0_15.eval (.tmp 92) = .int .i64 (k : Int) := by rw [ha15, ev_other _ _ _ _ (by decide)]; exact f14_92
  have f15_93 : a0_15.eval (.tmp 93) = .slice (some ⟨R, 0, none⟩) n c := by rw [ha15, ev_other _ _ _ _ (by decide)]; exact f14_93
  have f15_94 : a0_15.eval (.tmp 94) = .int .i64 (d : Int) := by rw [ha15]; exact ev_same _ _ _ (Nat.lt_of_le_of_lt (by decide) qz14)
  rw [← ha15] at h0 ⊢
  clear ha15
  refine wpAnyH_take (i := 15) (oi := ob_15 s) (v := .pointer (some ⟨R, d, none⟩)) (by kernel_rfl) (by kernel_rfl) (by kernel_rfl) (by kernel_rfl) (fun c a w h => hQ c _ _ _ w h) (Or.inl ⟨wanted_some rfl (by kernel_rfl) f15_91 (Nat.lt_of_le_of_lt (by decide) qz15), fun w hw => ixo_l rfl f15_93 f15_94 hn w⟩) hS ?_
  change wpAnyH _ _ _ _ _ _ _ (a0_15.put (some 95) (.pointer (some ⟨R, d, none⟩))) _
  obtain ⟨a0_16, ha16⟩ : ∃ rr : Act, rr = a0_15.put (some 95) (.pointer (some ⟨R, d, none⟩)) := ⟨_, rfl⟩
  have qz16 : 112 < a0_16.tmps.size := by rw [ha16, sz_put]; exact qz15
  have f16_0 : a0_16.eval (.tmp 0) = .slice (some ⟨R, 0, none⟩) n c := by rw [ha16, ev_other _ _ _ _ (by decide)]; exact f15_0
  have f16_9 : a0_16.eval (.tmp 9) = .int .i64 (d : Int) := by rw [ha16, ev_other _ _ _ _ (by decide)]; exact f15_9
  have f16_10 : a0_16.eval (.tmp 10) = .int .i64 (k : Int) := by rw [ha16, ev_other _ _ _ _ (by decide)]; exact f15_10
  have f16_91 : a0_16.eval (.tmp 91) = .bool false := by rw [ha16, ev_other _ _ _ _ (by decide)]; exact f15_91
  have f16_92 : a0_16.eval (.tmp 92) = .int .i64 (k : Int) := by rw [ha16, ev_other _ _ _ _ (by decide)]; exact f15_92
  have f16_95 : a0_16.eval (.tmp 95) = .pointer (some ⟨R, d, none⟩) := by rw [ha16]; exact ev_same _ _ _ (Nat.lt_of_le_of_lt (by decide) qz15)
  rw [← ha16] at h0 ⊢
  clear ha16
  refine wpAnyH_take (i := 16) (oi := ob_16 s) (v := .slice aov m cv) (by kernel_rfl) (by kernel_rfl) (by kernel_rfl) (by kernel_rfl) (fun c a w h => hQ c _ _ _ w h) (Or.inl ⟨wanted_some rfl (by kernel_rfl) f16_91 (Nat.lt_of_le_of_lt (by decide) qz16), fun w hw => run_load rfl f16_95 (ldo_s hw.2.1)⟩) hS ?_
  change wpAnyH _ _ _ _ _ _ _ (a0_16.put (some 96) (.slice aov m cv)) _
  obtain ⟨a0_17, ha17⟩ : ∃ rr : Act, rr = a0_16.put (some 96) (.slice aov m cv) := ⟨_, rfl⟩
  have qz17 : 112 < a0_17.tmps.size := by rw [ha17, sz_put]; exact qz16
  have f17_0 : a0_17.eval (.tmp 0) = .slice (some ⟨R, 0, none⟩) n c := by rw [ha17, ev_other _ _ _ _ (by decide)]; exact f16_0
  have f17_9 : a0_17.eval (.tmp 9) = .int .i64 (d : Int) := by rw [ha17, ev_other _ _ _ _ (by decide)]; exact f16_9
  have f17_10 : a0_17.eval (.tmp 10) = .int .i64 (k : Int) := by rw [ha17, ev_other _ _ _ _ (by decide)]; exact f16_10
  have f17_91 : a0_17.eval (.tmp 91) = .bool false := by rw [ha17, ev_other _ _ _ _ (by decide)]; exact f16_91
  have f17_92 : a0_17.eval (.tmp 92) = .int .i64 (k : Int) := by rw [ha17, ev_other _ _ _ _ (by decide)]; exact f16_92
  have f17_96 : a0_17.eval (.tmp 96) = .slice aov m cv := by rw [ha17]; exact ev_same _ _ _ (Nat.lt_of_le_of_lt (by decide) qz16)
  rw [← ha17] at h0 ⊢
  clear ha17
  refine wpAnyH_take (i := 17) (oi := ob_17 s) (v := .int .i64 (m : Int)) (by kernel_rfl) (by kernel_rfl) (by kernel_rfl) (by kernel_rfl) (fun c a w h => hQ c _ _ _ w h) (Or.inl ⟨wanted_some rfl (by kernel_rfl) f17_91 (Nat.lt_of_le_of_lt (by decide) qz17), fun w hw => leno rfl f17_96 w⟩) hS ?_
  change wpAnyH _ _ _ _ _ _ _ (a0_17.put (some 97) (.int .i64 (m : Int))) _
  obtain ⟨a0_18, ha18⟩ : ∃ rr : Act, rr = a0_17.put (some 97) (.int .i64 (m : Int)) := ⟨_, rfl⟩
  have qz18 : 112 < a0_18.tmps.size := by rw [ha18, sz_put]; exact qz17
  have f18_0 : a0_18.eval (.tmp 0) = .slice (some ⟨R, 0, none⟩) n c := by rw [ha18, ev_other _ _ _ _ (by decide)]; exact f17_0
  have f18_9 : a0_18.eval (.tmp 9) = .int .i64 (d : Int) := by rw [ha18, ev_other _ _ _ _ (by decide)]; exact f17_9
  have f18_10 : a0_18.eval (.tmp 10) = .int .i64 (k : Int) := by rw [ha18, ev_other _ _ _ _ (by decide)]; exact f17_10
  have f18_91 : a0_18.eval (.tmp 91) = .bool false := by rw [ha18, ev_other _ _ _ _ (by decide)]; exact f17_91
  have f18_92 : a0_18.eval (.tmp 92) = .int .i64 (k : Int) := by rw [ha18, ev_other _ _ _ _ (by decide)]; exact f17_92
  have f18_97 : a0_18.eval (.tmp 97) = .int .i64 (m : Int) := by rw [ha18]; exact ev_same _ _ _ (Nat.lt_of_le_of_lt (by decide) qz17)
  rw [← ha18] at h0 ⊢
  clear ha18
  refine wpAnyH_take (i := 18) (oi := ob_18 s) (v := .bool false) (by kernel_rfl) (by kernel_rfl) (by kernel_rfl) (by kernel_rfl) (fun c a w h => hQ c _ _ _ w h) (Or.inl ⟨wanted_some rfl (by kernel_rfl) f18_91 (Nat.lt_of_le_of_lt (by decide) qz18), fun w hw => lso hm rfl f18_92 f18_97 w⟩) hS ?_
  change wpAnyH _ _ _ _ _ _ _ (a0_18.put (some 98) (.bool false)) _
  obtain ⟨a0_19, ha19⟩ : ∃ rr : Act, rr = a0_18.put (some 98) (.bool false) := ⟨_, rfl⟩
  have qz19 : 112 < a0_19.tmps.size := by rw [ha19, sz_put]; exact qz18
  have f19_0 : a0_19.eval (.tmp 0) = .slice (some ⟨R, 0, none⟩) n c := by rw [ha19, ev_other _ _ _ _ (by decide)]; exact f18_0
  have f19_9 : a0_19.eval (.tmp 9) = .int .i64 (d : Int) := by rw [ha19, ev_other _ _ _ _ (by decide)]; exact f18_9
  have f19_10 : a0_19.eval (.tmp 10) = .int .i64 (k : Int) := by rw [ha19, ev_other _ _ _ _ (by decide)]; exact f18_10
  have f19_91 : a0_19.eval (.tmp 91) = .bool false := by rw [ha19, ev_other _ _ _ _ (by decide)]; exact f18_91
  have f19_98 : a0_19.eval (.tmp 98) = .bool false := by rw [ha19]; exact ev_same _ _ _ (Nat.lt_of_le_of_lt (by decide) qz18)
  rw [← ha19] at h0 ⊢
  clear ha19
  refine wpAnyH_take (i := 19) (oi := ob_19 s) (v := .bool false) (by kernel_rfl) (by kernel_rfl) (by kernel_rfl) (by kernel_rfl) (fun c a w h => hQ c _ _ _ w h) (Or.inl ⟨wanted_some rfl (by kernel_rfl) f19_91 (Nat.lt_of_le_of_lt (by decide) qz19), fun w hw => by simp only [execOp, ob_19, f19_98]; rfl⟩) hS ?_
  change wpAnyH _ _ _ _ _ _ _ (a0_19.put (some 99) (.bool false)) _
  obtain ⟨a0_20, ha20⟩ : ∃ rr : Act, rr = a0_19.put (some 99) (.bool false) := ⟨_, rfl⟩
  have qz20 : 112 < a0_20.tmps.size := by rw [ha20, sz_put]; exact qz19
  have f20_0 : a0_20.eval (.tmp 0) = .slice (some ⟨R, 0, none⟩) n c := by rw [ha20, ev_other _ _ _ _ (by decide)]; exact f19_0
  have f20_9 : a0_20.eval (.tmp 9) = .int .i64 (d : Int) := by rw [ha20, ev_other _ _ _ _ (by decide)]; exact f19_9
  have f20_10 : a0_20.eval (.tmp 10) = .int .i64 (k : Int) := by rw [ha20, ev_other _ _ _ _ (by decide)]; exact f19_10
  have f20_91 : a0_20.eval (.tmp 91) = .bool false := by rw [ha20, ev_other _ _ _ _ (by decide)]; exact f19_91
  have f20_99 : a0_20.eval (.tmp 99) = .bool false := by rw [ha20]; exact ev_same _ _ _ (Nat.lt_of_le_of_lt (by decide) qz19)
  rw [← ha20] at h0 ⊢
  clear ha20
  refine wpAnyH_take (i := 20) (oi := ob_20 s) (v := undef) (by kernel_rfl) (by kernel_rfl) (by kernel_rfl) (by kernel_rfl) (fun c a w h => hQ c _ _ _ w h) (Or.inr ⟨wanted_no rfl (by kernel_rfl) f20_99 (Nat.lt_of_le_of_lt (by decide) qz20), rfl⟩) hS ?_
  change wpAnyH _ _ _ _ _ _ _ (a0_20.put (some 100) (undef)) _
  obtain ⟨a0_21, ha21⟩ : ∃ rr : Act, rr = a0_20.put (some 100) (undef) := ⟨_, rfl⟩
  have qz21 : 112 < a0_21.tmps.size := by rw [ha21, sz_put]; exact qz20
  have f21_9 : a0_21.eval (.tmp 9) = .int .i64 (d : Int) := by rw [ha21, ev_other _ _ _ _ (by decide)]; exact f20_9
  have f21_10 : a0_21.eval (.tmp 10) = .int .i64 (k : Int) := by rw [ha21, ev_other _ _ _ _ (by decide)]; exact f20_10
  have f21_91 : a0_21.eval (.tmp 91) = .bool false := by rw [ha21, ev_other _ _ _ _ (by decide)]; exact f20_91
  have f21_99 : a0_21.eval (.tmp 99) = .bool false := by rw [ha21, ev_other _ _ _ _ (by decide)]; exact f20_99
  have f21_100 : a0_21.eval (.tmp 100) = undef := by rw [ha21]; exact ev_same _ _ _ (Nat.lt_of_le_of_lt (by decide) qz20)
  rw [← ha21] at h0 ⊢
  clear ha21
  refine wpAnyH_take (i := 21) (oi := ob_21 s) (v := undef) (by kernel_rfl) (by kernel_rfl) (by kernel_rfl) (by kernel_rfl) (fun c a w h => hQ c _ _ _ w h) (Or.inr ⟨wanted_no rfl (by kernel_rfl) f21_99 (Nat.lt_of_le_of_lt (by decide) qz21), rfl⟩) hS ?_
  change wpAnyH _ _ _ _ _ _ _ (a0_21.put (some 101) (undef)) _
  obtain ⟨a0_22, ha22⟩ : ∃ rr : Act, rr = a0_21.put (some 101) (undef) := ⟨_, rfl⟩
  have qz22 : 112 < a0_22.tmps.size := by rw [ha22, sz_put]; exact qz21
  have f22_9 : a0_22.eval (.tmp 9) = .int .i64 (d : Int) := by rw [ha22, ev_other _ _ _ _ (by decide)]; exact f21_9
  have f22_10 : a0_22.eval (.tmp 10) = .int .i64 (k : Int) := by rw [ha22, ev_other _ _ _ _ (by decide)]; exact f21_10
  have f22_91 : a0_22.eval (.tmp 91) = .bool false := by rw [ha22, ev_other _ _ _ _ (by decide)]; exact f21_91
  have f22_99 : a0_22.eval (.tmp 99) = .bool false := by rw [ha22, ev_other _ _ _ _ (by decide)]; exact f21_99
  have f22_100 : a0_22.eval (.tmp 100) = undef := by rw [ha22, ev_other _ _ _ _ (by decide)]; exact f21_100
  have f22_101 : a0_22.eval (.tmp 101) = undef := by rw [ha22]; exact ev_same _ _ _ (Nat.lt_of_le_of_lt (by decide) qz21)
  rw [← ha22] at h0 ⊢
  clear ha22
  refine wpAnyH_take (i := 22) (oi := ob_22 s) (v := undef) (by kernel_rfl) (by kernel_rfl) (by kernel_rfl) (by kernel_rfl) (fun c a w h => hQ c _ _ _ w h) (Or.inr ⟨wanted_no rfl (by kernel_rfl) f22_99 (Nat.lt_of_le_of_lt (by decide) qz22), rfl⟩) hS ?_
  change wpAnyH _ _ _ _ _ _ _ (a0_22.put (some 102) (undef)) _
  obtain ⟨a0_23, ha23⟩ : ∃ rr : Act, rr = a0_22.put (some 102) (undef) := ⟨_, rfl⟩
  have qz23 : 112 < a0_23.tmps.size := by rw [ha23, sz_put]; exact qz22
  have f23_9 : a0_23.eval (.tmp 9) = .int .i64 (d : Int) := by rw [ha23, ev_other _ _ _ _ (by decide)]; exact f22_9
  have f23_10 : a0_23.eval (.tmp 10) = .int .i64 (k : Int) := by rw [ha23, ev_other _ _ _ _ (by decide)]; exact f22_10
  have f23_91 : a0_23.eval (.tmp 91) = .bool false := by rw [ha23, ev_other _ _ _ _ (by decide)]; exact f22_91
  have f23_99 : a0_23.eval (.tmp 99) = .bool false := by rw [ha23, ev_other _ _ _ _ (by decide)]; exact f22_99
  have f23_102 : a0_23.eval (.tmp 102) = undef := by rw [ha23]; exact ev_same _ _ _ (Nat.lt_of_le_of_lt (by decide) qz22)
  rw [← ha23] at h0 ⊢
  clear ha23
  refine wpAnyH_take (i := 23) (oi := ob_23 s) (v := undef) (by kernel_rfl) (by kernel_rfl) (by kernel_rfl) (by kernel_rfl) (fun c a w h => hQ c _ _ _ w h) (Or.inr ⟨wanted_no rfl (by kernel_rfl) f23_99 (Nat.lt_of_le_of_lt (by decide) qz23), rfl⟩) hS ?_
  change wpAnyH _ _ _ _ _ _ _ (a0_23.put (some 103) (undef)) _
  obtain ⟨a0_24, ha24⟩ : ∃ rr : Act, rr = a0_23.put (some 103) (undef) := ⟨_, rfl⟩
  have qz24 : 112 < a0_24.tmps.size := by rw [ha24, sz_put]; exact qz23
  have f24_9 : a0_24.eval (.tmp 9) = .int .i64 (d : Int) := by rw [ha24, ev_other _ _ _ _ (by decide)]; exact f23_9
  have f24_10 : a0_24.eval (.tmp 10) = .int .i64 (k : Int) := by rw [ha24, ev_other _ _ _ _ (by decide)]; exact f23_10
  have f24_91 : a0_24.eval (.tmp 91) = .bool false := by rw [ha24, ev_other _ _ _ _ (by decide)]; exact f23_91
  have f24_99 : a0_24.eval (.tmp 99) = .bool false := by rw [ha24, ev_other _ _ _ _ (by decide)]; exact f23_99
  have f24_103 : a0_24.eval (.tmp 103) = undef := by rw [ha24]; exact ev_same _ _ _ (Nat.lt_of_le_of_lt (by decide) qz23)
  rw [← ha24] at h0 ⊢
  clear ha24
  refine wpAnyH_take (i := 24) (oi := ob_24 s) (v := undef) (by kernel_rfl) (by kernel_rfl) (by kernel_rfl) (by kernel_rfl) (fun c a w h => hQ c _ _ _ w h) (Or.inr ⟨wanted_no rfl (by kernel_rfl) f24_99 (Nat.lt_of_le_of_lt (by decide) qz24), rfl⟩) hS ?_
  change wpAnyH _ _ _ _ _ _ _ (a0_24.put (some 104) (undef)) _
  obtain ⟨a0_25, ha25⟩ : ∃ rr : Act, rr = a0_24.put (some 104) (undef) := ⟨_, rfl⟩
  have qz25 : 112 < a0_25.tmps.size := by rw [ha25, sz_put]; exact qz24
  have f25_9 : a0_25.eval (.tmp 9) = .int .i64 (d : Int) := by rw [ha25, ev_other _ _ _ _ (by decide)]; exact f24_9
  have f25_10 : a0_25.eval (.tmp 10) = .int .i64 (k : Int) := by rw [ha25, ev_other _ _ _ _ (by decide)]; exact f24_10
  have f25_91 : a0_25.eval (.tmp 91) = .bool false := by rw [ha25, ev_other _ _ _ _ (by decide)]; exact f24_91
  have f25_99 : a0_25.eval (.tmp 99) = .bool false := by rw [ha25, ev_other _ _ _ _ (by decide)]; exact f24_99
  have f25_103 : a0_25.eval (.tmp 103) = undef := by rw [ha25, ev_other _ _ _ _ (by decide)]; exact f24_103
  have f25_104 : a0_25.eval (.tmp 104) = undef := by rw [ha25]; exact ev_same _ _ _ (Nat.lt_of_le_of_lt (by decide) qz24)
  rw [← ha25] at h0 ⊢
  clear ha25
  refine wpAnyH_take (i := 25) (oi := ob_25 s) (v := undef) (by kernel_rfl) (by kernel_rfl) (by kernel_rfl) (by kernel_rfl) (fun c a w h => hQ c _ _ _ w h) (Or.inr ⟨wanted_no rfl (by kernel_rfl) f25_99 (Nat.lt_of_le_of_lt (by decide) qz25), rfl⟩) hS ?_
  change wpAnyH _ _ _ _ _ _ _ (a0_25.put (some 105) (undef)) _
  obtain ⟨a0_26, ha26⟩ : ∃ rr : Act, rr = a0_25.put (some 105) (undef) := ⟨_, rfl⟩
  have qz26 : 112 < a0_26.tmps.size := by rw [ha26, sz_put]; exact qz25
  have f26_9 : a0_26.eval (.tmp 9) = .int .i64 (d : Int) := by rw [ha26, ev_other _ _ _ _ (by decide)]; exact f25_9
  have f26_10 : a0_26.eval (.tmp 10) = .int .i64 (k : Int) := by rw [ha26, ev_other _ _ _ _ (by decide)]; exact f25_10
  have f26_91 : a0_26.eval (.tmp 91) = .bool false := by rw [ha26, ev_other _ _ _ _ (by decide)]; exact f25_91
  have f26_99 : a0_26.eval (.tmp 99) = .bool false := by rw [ha26, ev_other _ _ _ _ (by decide)]; exact f25_99
  have f26_105 : a0_26.eval (.tmp 105) = undef := by rw [ha26]; exact ev_same _ _ _ (Nat.lt_of_le_of_lt (by decide) qz25)
  rw [← ha26] at h0 ⊢
  clear ha26
  refine wpAnyH_take (i := 26) (oi := ob_26 s) (v := undef) (by kernel_rfl) (by kernel_rfl) (by kernel_rfl) (by kernel_rfl) (fun c a w h => hQ c _ _ _ w h) (Or.inr ⟨wanted_no rfl (by kernel_rfl) f26_99 (Nat.lt_of_le_of_lt (by decide) qz26), rfl⟩) hS ?_
  change wpAnyH _ _ _ _ _ _ _ (a0_26.put (some 106) (undef)) _
  obtain ⟨a0_27, ha27⟩ : ∃ rr : Act, rr = a0_26.put (some 106) (undef) := ⟨_, rfl⟩
  have qz27 : 112 < a0_27.tmps.size := by rw [ha27, sz_put]; exact qz26
  have f27_9 : a0_27.eval (.tmp 9) = .int .i64 (d : Int) := by rw [ha27, ev_other _ _ _ _ (by decide)]; exact f26_9
  have f27_10 : a0_27.eval (.tmp 10) = .int .i64 (k : Int) := by rw [ha27, ev_other _ _ _ _ (by decide)]; exact f26_10
  have f27_91 : a0_27.eval (.tmp 91) = .bool false := by rw [ha27, ev_other _ _ _ _ (by decide)]; exact f26_91
  have f27_99 : a0_27.eval (.tmp 99) = .bool false := by rw [ha27, ev_other _ _ _ _ (by decide)]; exact f26_99
  have f27_106 : a0_27.eval (.tmp 106) = undef := by rw [ha27]; exact ev_same _ _ _ (Nat.lt_of_le_of_lt (by decide) qz26)
  rw [← ha27] at h0 ⊢
  clear ha27
  refine wpAnyH_take (i := 27) (oi := ob_27 s) (v := undef) (by kernel_rfl) (by kernel_rfl) (by kernel_rfl) (by kernel_rfl) (fun c a w h => hQ c _ _ _ w h) (Or.inr ⟨wanted_no rfl (by kernel_rfl) f27_99 (Nat.lt_of_le_of_lt (by decide) qz27), rfl⟩) hS ?_
  change wpAnyH _ _ _ _ _ _ _ (a0_27.put (some 107) (undef)) _
  obtain ⟨a0_28, ha28⟩ : ∃ rr : Act, rr = a0_27.put (some 107) (undef) := ⟨_, rfl⟩
  have qz28 : 112 < a0_28.tmps.size := by rw [ha28, sz_put]; exact qz27
  have f28_10 : a0_28.eval (.tmp 10) = .int .i64 (k : Int) := by rw [ha28, ev_other _ _ _ _ (by decide)]; exact f27_10
  have f28_91 : a0_28.eval (.tmp 91) = .bool false := by rw [ha28, ev_other _ _ _ _ (by decide)]; exact f27_91
  have f28_99 : a0_28.eval (.tmp 99) = .bool false := by rw [ha28, ev_other _ _ _ _ (by decide)]; exact f27_99
  have f28_106 : a0_28.eval (.tmp 106) = undef := by rw [ha28, ev_other _ _ _ _ (by decide)]; exact f27_106
  have f28_107 : a0_28.eval (.tmp 107) = undef := by rw [ha28]; exact ev_same _ _ _ (Nat.lt_of_le_of_lt (by decide) qz27)
  rw [← ha28] at h0 ⊢
  clear ha28
  refine wpAnyH_take (i := 28) (oi := ob_28 s) (v := undef) (by kernel_rfl) (by kernel_rfl) (by kernel_rfl) (by kernel_rfl) (fun c a w h => hQ c _ _ _ w h) (Or.inr ⟨wanted_no rfl (by kernel_rfl) f28_99 (Nat.lt_of_le_of_lt (by decide) qz28), rfl⟩) hS ?_
  change wpAnyH _ _ _ _ _ _ _ (a0_28.put (some 108) (undef)) _
  obtain ⟨a0_29, ha29⟩ : ∃ rr : Act, rr = a0_28.put (some 108) (undef) := ⟨_, rfl⟩
  have qz29 : 112 < a0_29.tmps.size := by rw [ha29, sz_put]; exact qz28
  have f29_91 : a0_29.eval (.tmp 91) = .bool false := by rw [ha29, ev_other _ _ _ _ (by decide)]; exact f28_91
  have f29_99 : a0_29.eval (.tmp 99) = .bool false := by rw [ha29, ev_other _ _ _ _ (by decide)]; exact f28_99
  have f29_106 : a0_29.eval (.tmp 106) = undef := by rw [ha29, ev_other _ _ _ _ (by decide)]; exact f28_106
  have f29_107 : a0_29.eval (.tmp 107) = undef := by rw [ha29, ev_other _ _ _ _ (by decide)]; exact f28_107
  have f29_108 : a0_29.eval (.tmp 108) = undef := by rw [ha29]; exact ev_same _ _ _ (Nat.lt_of_le_of_lt (by decide) qz28)
  rw [← ha29] at h0 ⊢
  clear ha29
  refine wpAnyH_take (i := 29) (oi := ob_29 s) (v := undef) (by kernel_rfl) (by kernel_rfl) (by kernel_rfl) (by kernel_rfl) (fun c a w h => hQ c _ _ _ w h) (Or.inr ⟨wanted_no rfl (by kernel_rfl) f29_99 (Nat.lt_of_le_of_lt (by decide) qz29), rfl⟩) hS ?_
  change wpAnyH _ _ _ _ _ _ _ (a0_29.put (some 109) (undef)) _
  obtain ⟨a0_30, ha30⟩ : ∃ rr : Act, rr = a0_29.put (some 109) (undef) := ⟨_, rfl⟩
  have qz30 : 112 < a0_30.tmps.size := by rw [ha30, sz_put]; exact qz29
  have f30_91 : a0_30.eval (.tmp 91) = .bool false := by rw [ha30, ev_other _ _ _ _ (by decide)]; exact f29_91
  have f30_99 : a0_30.eval (.tmp 99) = .bool false := by rw [ha30, ev_other _ _ _ _ (by decide)]; exact f29_99
  have f30_106 : a0_30.eval (.tmp 106) = undef := by rw [ha30, ev_other _ _ _ _ (by decide)]; exact f29_106
  have f30_109 : a0_30.eval (.tmp 109) = undef := by rw [ha30]; exact ev_same _ _ _ (Nat.lt_of_le_of_lt (by decide) qz29)
  rw [← ha30] at h0 ⊢
  clear ha30
  refine wpAnyH_take (i := 30) (oi := ob_30 s) (v := undef) (by kernel_rfl) (by kernel_rfl) (by kernel_rfl) (by kernel_rfl) (fun c a w h => hQ c _ _ _ w h) (Or.inr ⟨wanted_no rfl (by kernel_rfl) f30_99 (Nat.lt_of_le_of_lt (by decide) qz30), rfl⟩) hS ?_
  change wpAnyH _ _ _ _ _ _ _ (a0_30.put (some 110) (undef)) _
  obtain ⟨a0_31, ha31⟩ : ∃ rr : Act, rr = a0_30.put (some 110) (undef) := ⟨_, rfl⟩
  have qz31 : 112 < a0_31.tmps.size := by rw [ha31, sz_put]; exact qz30
  have f31_91 : a0_31.eval (.tmp 91) = .bool false := by rw [ha31, ev_other _ _ _ _ (by decide)]; exact f30_91
  have f31_99 : a0_31.eval (.tmp 99) = .bool false := by rw [ha31, ev_other _ _ _ _ (by decide)]; exact f30_99
  have f31_110 : a0_31.eval (.tmp 110) = undef := by rw [ha31]; exact ev_same _ _ _ (Nat.lt_of_le_of_lt (by decide) qz30)
  rw [← ha31] at h0 ⊢
  clear ha31
  refine wpAnyH_take (i := 31) (oi := ob_31 s) (v := .bool false) (by kernel_rfl) (by kernel_rfl) (by kernel_rfl) (by kernel_rfl) (fun c a w h => hQ c _ _ _ w h) (Or.inl ⟨wanted_some rfl (by kernel_rfl) f31_91 (Nat.lt_of_le_of_lt (by decide) qz31), fun w hw => by simp only [execOp, ob_31, f31_99, f31_110]; rfl⟩) hS ?_
  change wpAnyH _ _ _ _ _ _ _ (a0_31.put (some 111) (.bool false)) _
  obtain ⟨a0_32, ha32⟩ : ∃ rr : Act, rr = a0_31.put (some 111) (.bool false) := ⟨_, rfl⟩
  have qz32 : 112 < a0_32.tmps.size := by rw [ha32, sz_put]; exact qz31
  have f32_91 : a0_32.eval (.tmp 91) = .bool false := by rw [ha32, ev_other _ _ _ _ (by decide)]; exact f31_91
  have f32_111 : a0_32.eval (.tmp 111) = .bool false := by rw [ha32]; exact ev_same _ _ _ (Nat.lt_of_le_of_lt (by decide) qz31)
  rw [← ha32] at h0 ⊢
  clear ha32
  refine wpAnyH_take (i := 32) (oi := ob_32 s) (v := .bool false) (by kernel_rfl) (by kernel_rfl) (by kernel_rfl) (by kernel_rfl) (fun c a w h => hQ c _ _ _ w h) (Or.inl ⟨wanted_none rfl, fun w hw => by simp only [execOp, ob_32, f32_91, f32_111]; rfl⟩) hS ?_
  change wpAnyH _ _ _ _ _ _ _ (a0_32.put (some 112) (.bool false)) _
  obtain ⟨a0_33, ha33⟩ : ∃ rr : Act, rr = a0_32.put (some 112) (.bool false) := ⟨_, rfl⟩
  have qz33 : 112 < a0_33.tmps.size := by rw [ha33, sz_put]; exact qz32
  rw [← ha33] at h0 ⊢
  clear ha33
  refine wpAnyH_done (by kernel_rfl) ?_ _
  exact h0
end Go.Proofs.Ytbnedlcldfpfdaa
