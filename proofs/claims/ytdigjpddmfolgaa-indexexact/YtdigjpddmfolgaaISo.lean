/- changes: the drawn regions. -/
import Derived.Test.YtdigjpddmfolgaaISn
import Derived.Test.YtdigjpddmfolgaaIRn
namespace Go.Proofs.Ytdigjpddmfolgaa
set_option linter.unusedVariables false
set_option linter.unusedSimpArgs false
namespace TX
set_option maxRecDepth 100000
set_option maxHeartbeats 8000000
open Go.RowKit Go.Sort

theorem wanted_no {ops : Array Oper} {o : Oper} {a : Act} {j : Nat} {b : Bool} {t : Tmp} (hg : o.guard = some (j, b)) (hd : (ops[j]?).bind (·.dst) = some t) (he : a.eval (.tmp t) = .bool (!b)) (hz : t < a.tmps.size) : Region.wanted o (yielded ops a.tmps) = false := wanted_noQ hg hd he hz
theorem wanted_some {ops : Array Oper} {o : Oper} {a : Act} {j : Nat} {b : Bool} {t : Tmp} (hg : o.guard = some (j, b)) (hd : (ops[j]?).bind (·.dst) = some t) (he : a.eval (.tmp t) = .bool b) (hz : t < a.tmps.size) : Region.wanted o (yielded ops a.tmps) = true := by
  have h1 : a.tmps[t]? = some (.bool b) := by
    rw [Array.getElem?_eq_getElem hz]
    simpa [Act.eval, hz] using he
  simp [Region.wanted, hg, yielded, hd, h1]
theorem fS2 (z : Nat) (w : World) : (Instr.fieldAt SPT (.pointer (some ⟨z, 0, none⟩)) 2).run Try.prog w = .ok (.pointer (some ⟨z, 2, none⟩)) w := by kernel_rfl
theorem fS3 (z : Nat) (w : World) : (Instr.fieldAt SPT (.pointer (some ⟨z, 0, none⟩)) 3).run Try.prog w = .ok (.pointer (some ⟨z, 3, none⟩)) w := by kernel_rfl
theorem fS4 (z : Nat) (w : World) : (Instr.fieldAt SPT (.pointer (some ⟨z, 0, none⟩)) 4).run Try.prog w = .ok (.pointer (some ⟨z, 35, none⟩)) w := by kernel_rfl
theorem fS5 (z : Nat) (w : World) : (Instr.fieldAt SPT (.pointer (some ⟨z, 0, none⟩)) 5).run Try.prog w = .ok (.pointer (some ⟨z, 39, none⟩)) w := by kernel_rfl
theorem fS6 (z : Nat) (w : World) : (Instr.fieldAt SPT (.pointer (some ⟨z, 0, none⟩)) 6).run Try.prog w = .ok (.pointer (some ⟨z, 40, none⟩)) w := by kernel_rfl
theorem fS7 (z : Nat) (w : World) : (Instr.fieldAt SPT (.pointer (some ⟨z, 0, none⟩)) 7).run Try.prog w = .ok (.pointer (some ⟨z, 42, none⟩)) w := by kernel_rfl
theorem load_bl {w : World} {b o : Nat} {v : Value} (h : w.cell? ⟨b, o, none⟩ = some v) : (Instr.loadAt 4 (.pointer (some ⟨b, o, none⟩))).run Try.prog w = .ok v w := by
  have hu := Try.underlying4
  simp [go_sem, h, hu]
theorem load_u32 {w : World} {b o : Nat} {v : Value} (h : w.cell? ⟨b, o, none⟩ = some v) : (Instr.loadAt 35 (.pointer (some ⟨b, o, none⟩))).run Try.prog w = .ok v w := by
  have hu := Try.underlying35
  simp [go_sem, h, hu]
theorem run_notB {op : Oper} {ev : Operand → Value} {x : Operand} {b : Bool} (ho : op.op = .unOp .not 4 x) (hx : ev x = .bool b) (w : World) : (execOp ev op).run Try.prog w = .ok (.value (.bool (!b))) w := by
  simp only [execOp, ho, hx]
  cases b <;> kernel_rfl
theorem run_eqBB {op : Oper} {ev : Operand → Value} {x y : Operand} {u : TypeId} {b : Bool} (ho : op.op = .binOp .eql 4 x y u) (hx : ev x = .bool b) (hy : ev y = .bool b) (w : World) : (execOp ev op).run Try.prog w = .ok (.value (.bool true)) w := by
  simp only [execOp, ho, hx, hy]
  cases b <;> simp [go_sem, Try.underlying4]
def cp_0 (s : String) : Oper := { dst := some 15, op := Op.move (Operand.tmp 0), type := 24, pos := s, after := #[], guard := none }
def cp_1 (s : String) : Oper := { dst := some 16, op := Op.fieldAddr 39 (Operand.tmp 5) 3, type := 0, pos := s, after := #[], guard := none }
def cp_2 (s : String) : Oper := { dst := some 17, op := Op.load 32 (Operand.tmp 16), type := 32, pos := s, after := #[{ on := 1, ground := Ground.data }], guard := none }
def cp_3 (s : String) : Oper := { dst := some 18, op := Op.fieldAddr 39 (Operand.tmp 5) 4, type := 0, pos := s, after := #[], guard := none }
def cp_4 (s : String) : Oper := { dst := some 19, op := Op.load 37 (Operand.tmp 18), type := 37, pos := s, after := #[{ on := 3, ground := Ground.data }], guard := none }
def cp_5 (s : String) : Oper := { dst := some 20, op := Op.call { callee := Callee.value (Operand.func 13), args := #[Operand.tmp 15, Operand.tmp 17, Operand.tmp 19], argTypes := #[24, 32, 37] }, type := 4, pos := s, after := #[{ on := 0, ground := Ground.data }, { on := 2, ground := Ground.data }, { on := 4, ground := Ground.data }], guard := none }
def cp_6 (s : String) : Oper := { dst := some 21, op := Op.fieldAddr 39 (Operand.tmp 5) 2, type := 0, pos := s, after := #[], guard := none }
def cp_7 (s : String) : Oper := { dst := some 22, op := Op.load 4 (Operand.tmp 21), type := 4, pos := s, after := #[{ on := 6, ground := Ground.data }], guard := none }
def cp_8 (s : String) : Oper := { dst := some 23, op := Op.unOp UnOp.not 4 (Operand.tmp 22), type := 4, pos := s, after := #[{ on := 7, ground := Ground.data }], guard := none }
def cp_9 (s : String) : Oper := { dst := some 24, op := Op.move (Operand.tmp 23), type := 4, pos := s, after := #[{ on := 8, ground := Ground.data }, { on := 5, ground := Ground.chain }], guard := none }
def cp_10 (s : String) : Oper := { dst := some 25, op := Op.move (Operand.tmp 1), type := 27, pos := s, after := #[{ on := 9, ground := Ground.guard }], guard := some (9, true) }
def cp_11 (s : String) : Oper := { dst := some 26, op := Op.fieldAddr 39 (Operand.tmp 5) 3, type := 0, pos := s, after := #[{ on := 9, ground := Ground.guard }], guard := some (9, true) }
def cp_12 (s : String) : Oper := { dst := some 27, op := Op.load 32 (Operand.tmp 26), type := 32, pos := s, after := #[{ on := 11, ground := Ground.data }, { on := 9, ground := Ground.guard }], guard := some (9, true) }
def cp_13 (s : String) : Oper := { dst := some 28, op := Op.fieldAddr 39 (Operand.tmp 5) 4, type := 0, pos := s, after := #[{ on := 9, ground := Ground.guard }], guard := some (9, true) }
def cp_14 (s : String) : Oper := { dst := some 29, op := Op.load 37 (Operand.tmp 28), type := 37, pos := s, after := #[{ on := 13, ground := Ground.data }, { on := 9, ground := Ground.guard }], guard := some (9, true) }
def cp_15 (s : String) : Oper := { dst := some 30, op := Op.call { callee := Callee.value (Operand.func 28), args := #[Operand.tmp 25, Operand.tmp 27, Operand.tmp 29], argTypes := #[27, 32, 37] }, type := 4, pos := s, after := #[{ on := 10, ground := Ground.data }, { on := 12, ground := Ground.data }, { on := 14, ground := Ground.data }, { on := 9, ground := Ground.chain }, { on := 9, ground := Ground.guard }], guard := some (9, true) }
def cp_16 (s : String) : Oper := { dst := some 31, op := Op.pick (Operand.tmp 24) (Operand.tmp 30) (Operand.const (Value.bool false)), type := 4, pos := s, after := #[{ on := 9, ground := Ground.data }, { on := 15, ground := Ground.data }], guard := none }
def cp_17 (s : String) : Oper := { dst := some 32, op := Op.binOp BinOp.eql 4 (Operand.tmp 20) (Operand.tmp 31) 4, type := 4, pos := s, after := #[{ on := 5, ground := Ground.data }, { on := 16, ground := Ground.data }], guard := none }
def cp_18 (s : String) : Oper := { dst := some 6, op := Op.assign (Operand.tmp 32), type := 4, pos := s, after := #[{ on := 17, ground := Ground.data }, { on := 15, ground := Ground.chain }, { on := 0, ground := Ground.phase }, { on := 1, ground := Ground.phase }, { on := 2, ground := Ground.phase }, { on := 3, ground := Ground.phase }, { on := 4, ground := Ground.phase }, { on := 5, ground := Ground.phase }, { on := 6, ground := Ground.phase }, { on := 7, ground := Ground.phase }, { on := 8, ground := Ground.phase }, { on := 9, ground := Ground.phase }, { on := 10, ground := Ground.phase }, { on := 11, ground := Ground.phase }, { on := 12, ground := Ground.phase }, { on := 13, ground := Ground.phase }, { on := 14, ground := Ground.phase }, { on := 15, ground := Ground.phase }, { on := 16, ground := Ground.phase }, { on := 17, ground := Ground.phase }], guard := none }
def cp_ops (s : String) : Array Oper := #[cp_0 s, cp_1 s, cp_2 s, cp_3 s, cp_4 s, cp_5 s, cp_6 s, cp_7 s, cp_8 s, cp_9 s, cp_10 s, cp_11 s, cp_12 s, cp_13 s, cp_14 s, cp_15 s, cp_16 s, cp_17 s, cp_18 s]
theorem cp_enter5 (s : String) (a : Act) (w : World) : (execOp a.eval (cp_5 s)).run Try.prog w = .ok (.enter 13 #[a.eval (.tmp 15), a.eval (.tmp 17), a.eval (.tmp 19)]) w := by kernel_rfl
theorem cp_enter15 (s : String) (a : Act) (w : World) : (execOp a.eval (cp_15 s)).run Try.prog w = .ok (.enter 28 #[a.eval (.tmp 25), a.eval (.tmp 27), a.eval (.tmp 29)]) w := by kernel_rfl
theorem cp_walk (s : String) {Q : Exit → Act → World → Prop} (hQ : ∀ c (a : Act) t v w, Q (.panic c) (a.put (some t) v) w → Q (.panic c) a w) (W : World) (q kb : Nat) (pv : Value) (s0 : SP) (b : Bool) (M1 : World → Prop) (M2 : World → World → Prop) (hno : s0.no = false) (hS0 : SPB W.drew kb s0) (hc1 : Calls Try.prog 13 #[pv, kV s0.key, eV s0.ent] W.drew fun e w' => e = .returned (.bool b) ∧ M1 w') (hk1 : ∀ w2, M1 w2 → SPB w2 kb s0) (hc2 : ∀ w2, M1 w2 → Calls Try.prog 28 #[.pointer (some ⟨q, 0, none⟩), kV s0.key, eV s0.ent] w2 fun e w' => e = .returned (.bool b) ∧ M2 w2 w') (hk2 : ∀ w2 w3, M1 w2 → M2 w2 w3 → SPB w3 kb s0)
    (a : Act) (hs : 32 < a.tmps.size) (e0 : a.eval (.tmp 0) = pv) (e1 : a.eval (.tmp 1) = .pointer (some ⟨q, 0, none⟩)) (e5 : a.eval (.tmp 5) = .pointer (some ⟨kb, 0, none⟩))
    (h0 : ∀ w2, M1 w2 → ∀ w3, M2 w2 w3 → Q .normal (((((((((((((((((((a.put (some 15) (pv)).put (some 16) (.pointer (some ⟨kb, 3, none⟩))).put (some 17) (kV s0.key)).put (some 18) (.pointer (some ⟨kb, 35, none⟩))).put (some 19) (eV s0.ent)).put (some 21) (.pointer (some ⟨kb, 2, none⟩))).put (some 22) (.bool s0.no)).put (some 23) (.bool (!s0.no))).put (some 20) (.bool b)).put (some 24) (.bool true)).put (some 25) (.pointer (some ⟨q, 0, none⟩))).put (some 26) (.pointer (some ⟨kb, 3, none⟩))).put (some 27) (kV s0.key)).put (some 28) (.pointer (some ⟨kb, 35, none⟩))).put (some 29) (eV s0.ent)).put (some 30) (.bool b)).put (some 31) (.bool b)).put (some 32) (.bool true)).put (some 6) (.bool true)) w3) :
    Code.wp Try.prog (.region 3 (cp_ops s) true) Q a W := by
  refine wp_region_held_drew (S := fun w => SPB w kb s0) (by kernel_rfl) hS0 (fun hS => ?_)
  change wpAnyH _ _ _ _ _ _ _ _ (World.drew _)
  refine wpAnyH_take (i := 0) (oi := cp_0 s) (v := pv) (by kernel_rfl) (by kernel_rfl) (by kernel_rfl) (by kernel_rfl) (fun c a w h => hQ c _ _ _ w h) (Or.inl ⟨wanted_none rfl, fun w hw => by simp only [execOp, cp_0, e0]; rfl⟩) hS ?_
  change wpAnyH _ _ _ _ _ _ _ (a.put (some 15) (pv)) _
  obtain ⟨a0_1, ha1⟩ : ∃ rr : Act, rr = a.put (some 15) (pv) := ⟨_, rfl⟩
  have qz1 : 32 < a0_1.tmps.size := by rw [ha1, sz_put]; exact hs
  have f1_1 : a0_1.eval (.tmp 1) = .pointer (some ⟨q, 0, none⟩) := by rw [ha1, ev_other _ _ _ _ (by decide)]; exact e1
  have f1_5 : a0_1.eval (.tmp 5) = .pointer (some ⟨kb, 0, none⟩) := by rw [ha1, ev_other _ _ _ _ (by decide)]; exact e5
  have f1_15 : a0_1.eval (.tmp 15) = pv := by rw [ha1]; exact ev_same _ _ _ (Nat.lt_of_le_of_lt (by decide) hs)
  rw [← ha1] at h0 ⊢
  clear ha1
  refine wpAnyH_take (i := 1) (oi := cp_1 s) (v := .pointer (some ⟨kb, 3, none⟩)) (by kernel_rfl) (by kernel_rfl) (by kernel_rfl) (by kernel_rfl) (fun c a w h => hQ c _ _ _ w h) (Or.inl ⟨wanted_none rfl, fun w hw => fld SPT kb 0 3 3 (fS3 kb) rfl f1_5 w⟩) hS ?_
  change wpAnyH _ _ _ _ _ _ _ (a0_1.put (some 16) (.pointer (some ⟨kb, 3, none⟩))) _
  obtain ⟨a0_2, ha2⟩ : ∃ rr : Act, rr = a0_1.put (some 16) (.pointer (some ⟨kb, 3, none⟩)) := ⟨_, rfl⟩
  have qz2 : 32 < a0_2.tmps.size := by rw [ha2, sz_put]; exact qz1
  have f2_1 : a0_2.eval (.tmp 1) = .pointer (some ⟨q, 0, none⟩) := by rw [ha2, ev_other _ _ _ _ (by decide)]; exact f1_1
  have f2_5 : a0_2.eval (.tmp 5) = .pointer (some ⟨kb, 0, none⟩) := by rw [ha2, ev_other _ _ _ _ (by decide)]; exact f1_5
  have f2_15 : a0_2.eval (.tmp 15) = pv := by rw [ha2, ev_other _ _ _ _ (by decide)]; exact f1_15
  have f2_16 : a0_2.eval (.tmp 16) = .pointer (some ⟨kb, 3, none⟩) := by rw [ha2]; exact ev_same _ _ _ (Nat.lt_of_le_of_lt (by decide) qz1)
  rw [← ha2] at h0 ⊢
  clear ha2
  refine wpAnyH_take (i := 2) (oi := cp_2 s) (v := kV s0.key) (by kernel_rfl) (by kernel_rfl) (by kernel_rfl) (by kernel_rfl) (fun c a w h => hQ c _ _ _ w h) (Or.inl ⟨wanted_none rfl, fun w hw => run_loadO rfl f2_16 (run_ldK hw.key)⟩) hS ?_
  change wpAnyH _ _ _ _ _ _ _ (a0_2.put (some 17) (kV s0.key)) _
  obtain ⟨a0_3, ha3⟩ : ∃ rr : Act, rr = a0_2.put (some 17) (kV s0.key) := ⟨_, rfl⟩
  have qz3 : 32 < a0_3.tmps.size := by rw [ha3, sz_put]; exact qz2
  have f3_1 : a0_3.eval (.tmp 1) = .pointer (some ⟨q, 0, none⟩) := by rw [ha3, ev_other _ _ _ _ (by decide)]; exact f2_1
  have f3_5 : a0_3.eval (.tmp 5) = .pointer (some ⟨kb, 0, none⟩) := by rw [ha3, ev_other _ _ _ _ (by decide)]; exact f2_5
  have f3_15 : a0_3.eval (.tmp 15) = pv := by rw [ha3, ev_other _ _ _ _ (by decide)]; exact f2_15
  have f3_17 : a0_3.eval (.tmp 17) = kV s0.key := by rw [ha3]; exact ev_same _ _ _ (Nat.lt_of_le_of_lt (by decide) qz2)
  rw [← ha3] at h0 ⊢
  clear ha3
  refine wpAnyH_take (i := 3) (oi := cp_3 s) (v := .pointer (some ⟨kb, 35, none⟩)) (by kernel_rfl) (by kernel_rfl) (by kernel_rfl) (by kernel_rfl) (fun c a w h => hQ c _ _ _ w h) (Or.inl ⟨wanted_none rfl, fun w hw => fld SPT kb 0 4 35 (fS4 kb) rfl f3_5 w⟩) hS ?_
  change wpAnyH _ _ _ _ _ _ _ (a0_3.put (some 18) (.pointer (some ⟨kb, 35, none⟩))) _
  obtain ⟨a0_4, ha4⟩ : ∃ rr : Act, rr = a0_3.put (some 18) (.pointer (some ⟨kb, 35, none⟩)) := ⟨_, rfl⟩
  have qz4 : 32 < a0_4.tmps.size := by rw [ha4, sz_put]; exact qz3
  have f4_1 : a0_4.eval (.tmp 1) = .pointer (some ⟨q, 0, none⟩) := by rw [ha4, ev_other _ _ _ _ (by decide)]; exact f3_1
  have f4_5 : a0_4.eval (.tmp 5) = .pointer (some ⟨kb, 0, none⟩) := by rw [ha4, ev_other _ _ _ _ (by decide)]; exact f3_5
  have f4_15 : a0_4.eval (.tmp 15) = pv := by rw [ha4, ev_other _ _ _ _ (by decide)]; exact f3_15
  have f4_17 : a0_4.eval (.tmp 17) = kV s0.key := by rw [ha4, ev_other _ _ _ _ (by decide)]; exact f3_17
  have f4_18 : a0_4.eval (.tmp 18) = .pointer (some ⟨kb, 35, none⟩) := by rw [ha4]; exact ev_same _ _ _ (Nat.lt_of_le_of_lt (by decide) qz3)
  rw [← ha4] at h0 ⊢
  clear ha4
  refine wpAnyH_take (i := 4) (oi := cp_4 s) (v := eV s0.ent) (by kernel_rfl) (by kernel_rfl) (by kernel_rfl) (by kernel_rfl) (fun c a w h => hQ c _ _ _ w h) (Or.inl ⟨wanted_none rfl, fun w hw => run_loadO rfl f4_18 (run_ldE hw.ent)⟩) hS ?_
  change wpAnyH _ _ _ _ _ _ _ (a0_4.put (some 19) (eV s0.ent)) _
  obtain ⟨a0_5, ha5⟩ : ∃ rr : Act, rr = a0_4.put (some 19) (eV s0.ent) := ⟨_, rfl⟩
  have qz5 : 32 < a0_5.tmps.size := by rw [ha5, sz_put]; exact qz4
  have f5_1 : a0_5.eval (.tmp 1) = .pointer (some ⟨q, 0, none⟩) := by rw [ha5, ev_other _ _ _ _ (by decide)]; exact f4_1
  have f5_5 : a0_5.eval (.tmp 5) = .pointer (some ⟨kb, 0, none⟩) := by rw [ha5, ev_other _ _ _ _ (by decide)]; exact f4_5
  have f5_15 : a0_5.eval (.tmp 15) = pv := by rw [ha5, ev_other _ _ _ _ (by decide)]; exact f4_15
  have f5_17 : a0_5.eval (.tmp 17) = kV s0.key := by rw [ha5, ev_other _ _ _ _ (by decide)]; exact f4_17
  have f5_19 : a0_5.eval (.tmp 19) = eV s0.ent := by rw [ha5]; exact ev_same _ _ _ (Nat.lt_of_le_of_lt (by decide) qz4)
  rw [← ha5] at h0 ⊢
  clear ha5
  refine wpAnyH_take (i := 6) (oi := cp_6 s) (v := .pointer (some ⟨kb, 2, none⟩)) (by kernel_rfl) (by kernel_rfl) (by kernel_rfl) (by kernel_rfl) (fun c a w h => hQ c _ _ _ w h) (Or.inl ⟨wanted_none rfl, fun w hw => fld SPT kb 0 2 2 (fS2 kb) rfl f5_5 w⟩) hS ?_
  change wpAnyH _ _ _ _ _ _ _ (a0_5.put (some 21) (.pointer (some ⟨kb, 2, none⟩))) _
  obtain ⟨a0_6, ha6⟩ : ∃ rr : Act, rr = a0_5.put (some 21) (.pointer (some ⟨kb, 2, none⟩)) := ⟨_, rfl⟩
  have qz6 : 32 < a0_6.tmps.size := by rw [ha6, sz_put]; exact qz5
  have f6_1 : a0_6.eval (.tmp 1) = .pointer (some ⟨q, 0, none⟩) := by rw [ha6, ev_other _ _ _ _ (by decide)]; exact f5_1
  have f6_5 : a0_6.eval (.tmp 5) = .pointer (some ⟨kb, 0, none⟩) := by rw [ha6, ev_other _ _ _ _ (by decide)]; exact f5_5
  have f6_15 : a0_6.eval (.tmp 15) = pv := by rw [ha6, ev_other _ _ _ _ (by decide)]; exact f5_15
  have f6_17 : a0_6.eval (.tmp 17) = kV s0.key := by rw [ha6, ev_other _ _ _ _ (by decide)]; exact f5_17
  have f6_19 : a0_6.eval (.tmp 19) = eV s0.ent := by rw [ha6, ev_other _ _ _ _ (by decide)]; exact f5_19
  have f6_21 : a0_6.eval (.tmp 21) = .pointer (some ⟨kb, 2, none⟩) := by rw [ha6]; exact ev_same _ _ _ (Nat.lt_of_le_of_lt (by decide) qz5)
  rw [← ha6] at h0 ⊢
  clear ha6
  refine wpAnyH_take (i := 7) (oi := cp_7 s) (v := .bool s0.no) (by kernel_rfl) (by kernel_rfl) (by kernel_rfl) (by kernel_rfl) (fun c a w h => hQ c _ _ _ w h) (Or.inl ⟨wanted_none rfl, fun w hw => run_loadO rfl f6_21 (load_bl hw.no)⟩) hS ?_
  change wpAnyH _ _ _ _ _ _ _ (a0_6.put (some 22) (.bool s0.no)) _
  obtain ⟨a0_7, ha7⟩ : ∃ rr : Act, rr = a0_6.put (some 22) (.bool s0.no) := ⟨_, rfl⟩
  have qz7 : 32 < a0_7.tmps.size := by rw [ha7, sz_put]; exact qz6
  have f7_1 : a0_7.eval (.tmp 1) = .pointer (some ⟨q, 0, none⟩) := by rw [ha7, ev_other _ _ _ _ (by decide)]; exact f6_1
  have f7_5 : a0_7.eval (.tmp 5) = .pointer (some ⟨kb, 0, none⟩) := by rw [ha7, ev_other _ _ _ _ (by decide)]; exact f6_5
  have f7_15 : a0_7.eval (.tmp 15) = pv := by rw [ha7, ev_other _ _ _ _ (by decide)]; exact f6_15
  have f7_17 : a0_7.eval (.tmp 17) = kV s0.key := by rw [ha7, ev_other _ _ _ _ (by decide)]; exact f6_17
  have f7_19 : a0_7.eval (.tmp 19) = eV s0.ent := by rw [ha7, ev_other _ _ _ _ (by decide)]; exact f6_19
  have f7_22 : a0_7.eval (.tmp 22) = .bool s0.no := by rw [ha7]; exact ev_same _ _ _ (Nat.lt_of_le_of_lt (by decide) qz6)
  rw [← ha7] at h0 ⊢
  clear ha7
  refine wpAnyH_take (i := 8) (oi := cp_8 s) (v := .bool (!s0.no)) (by kernel_rfl) (by kernel_rfl) (by kernel_rfl) (by kernel_rfl) (fun c a w h => hQ c _ _ _ w h) (Or.inl ⟨wanted_none rfl, fun w hw => run_notB rfl f7_22 w⟩) hS ?_
  change wpAnyH _ _ _ _ _ _ _ (a0_7.put (some 23) (.bool (!s0.no))) _
  obtain ⟨a0_8, ha8⟩ : ∃ rr : Act, rr = a0_7.put (some 23) (.bool (!s0.no)) := ⟨_, rfl⟩
  have qz8 : 32 < a0_8.tmps.size := by rw [ha8, sz_put]; exact qz7
  have f8_1 : a0_8.eval (.tmp 1) = .pointer (some ⟨q, 0, none⟩) := by rw [ha8, ev_other _ _ _ _ (by decide)]; exact f7_1
  have f8_5 : a0_8.eval (.tmp 5) = .pointer (some ⟨kb, 0, none⟩) := by rw [ha8, ev_other _ _ _ _ (by decide)]; exact f7_5
  have f8_15 : a0_8.eval (.tmp 15) = pv := by rw [ha8, ev_other _ _ _ _ (by decide)]; exact f7_15
  have f8_17 : a0_8.eval (.tmp 17) = kV s0.key := by rw [ha8, ev_other _ _ _ _ (by decide)]; exact f7_17
  have f8_19 : a0_8.eval (.tmp 19) = eV s0.ent := by rw [ha8, ev_other _ _ _ _ (by decide)]; exact f7_19
  have f8_23 : a0_8.eval (.tmp 23) = .bool (!s0.no) := by rw [ha8]; exact ev_same _ _ _ (Nat.lt_of_le_of_lt (by decide) qz7)
  rw [← ha8] at h0 ⊢
  clear ha8
  refine wpAnyH_ready (rs := [5]) (by kernel_rfl) (by simp) ?_
  refine AllReadyH.cons (o := cp_5 s) (by kernel_rfl) (fun KQ hKQ => ?_) AllReadyH.nil
  rw [if_pos (wanted_none rfl)]
  refine step_enterE 13 #[pv, kV s0.key, eV s0.ent] (by rw [cp_enter5, f8_15, f8_17, f8_19]) (fun V w' => V = .bool b ∧ M1 w') (hc1.mono (fun e w' ⟨h1, h2⟩ => ⟨_, h1, rfl, h2⟩)) ?_
  rintro _ w2 ⟨rfl, hM1⟩
  refine hKQ.out _ _ (hk1 w2 hM1) (fun _ => ?_)
  clear hKQ KQ
  change wpAnyH _ _ _ _ _ _ _ (a0_8.put (some 20) (.bool b)) _
  have h0 := h0 w2 hM1
  obtain ⟨a0_9, ha9⟩ : ∃ rr : Act, rr = a0_8.put (some 20) (.bool b) := ⟨_, rfl⟩
  have qz9 : 32 < a0_9.tmps.size := by rw [ha9, sz_put]; exact qz8
  have f9_1 : a0_9.eval (.tmp 1) = .pointer (some ⟨q, 0, none⟩) := by rw [ha9, ev_other _ _ _ _ (by decide)]; exact f8_1
  have f9_5 : a0_9.eval (.tmp 5) = .pointer (some ⟨kb, 0, none⟩) := by rw [ha9, ev_other _ _ _ _ (by decide)]; exact f8_5
  have f9_20 : a0_9.eval (.tmp 20) = .bool b := by rw [ha9]; exact ev_same _ _ _ (Nat.lt_of_le_of_lt (by decide) qz8)
  have f9_23 : a0_9.eval (.tmp 23) = .bool (!s0.no) := by rw [ha9, ev_other _ _ _ _ (by decide)]; exact f8_23
  rw [← ha9] at h0 ⊢
  clear ha9
  refine wpAnyH_take (i := 9) (oi := cp_9 s) (v := .bool true) (by kernel_rfl) (by kernel_rfl) (by kernel_rfl) (by kernel_rfl) (fun c a w h => hQ c _ _ _ w h) (Or.inl ⟨wanted_none rfl, fun w hw => by simp only [execOp, cp_9, f9_23, hno]; rfl⟩) (hk1 w2 hM1) ?_
  change wpAnyH _ _ _ _ _ _ _ (a0_9.put (some 24) (.bool true)) _
  obtain ⟨a0_10, ha10⟩ : ∃ rr : Act, rr = a0_9.put (some 24) (.bool true) := ⟨_, rfl⟩
  have qz10 : 32 < a0_10.tmps.size := by rw [ha10, sz_put]; exact qz9
  have f10_1 : a0_10.eval (.tmp 1) = .pointer (some ⟨q, 0, none⟩) := by rw [ha10, ev_other _ _ _ _ (by decide)]; exact f9_1
  have f10_5 : a0_10.eval (.tmp 5) = .pointer (some ⟨kb, 0, none⟩) := by rw [ha10, ev_other _ _ _ _ (by decide)]; exact f9_5
  have f10_20 : a0_10.eval (.tmp 20) = .bool b := by rw [ha10, ev_other _ _ _ _ (by decide)]; exact f9_20
  have f10_24 : a0_10.eval (.tmp 24) = .bool true := by rw [ha10]; exact ev_same _ _ _ (Nat.lt_of_le_of_lt (by decide) qz9)
  rw [← ha10] at h0 ⊢
  clear ha10
  refine wpAnyH_take (i := 10) (oi := cp_10 s) (v := .pointer (some ⟨q, 0, none⟩)) (by kernel_rfl) (by kernel_rfl) (by kernel_rfl) (by kernel_rfl) (fun c a w h => hQ c _ _ _ w h) (Or.inl ⟨wanted_some rfl (by kernel_rfl) f10_24 (Nat.lt_of_le_of_lt (by decide) qz10), fun w hw => by simp only [execOp, cp_10, f10_1]; rfl⟩) (hk1 w2 hM1) ?_
  change wpAnyH _ _ _ _ _ _ _ (a0_10.put (some 25) (.pointer (some ⟨q, 0, none⟩))) _
  obtain ⟨a0_11, ha11⟩ : ∃ rr : Act, rr = a0_10.put (some 25) (.pointer (some ⟨q, 0, none⟩)) := ⟨_, rfl⟩
  have qz11 : 32 < a0_11.tmps.size := by rw [ha11, sz_put]; exact qz10
  have f11_5 : a0_11.eval (.tmp 5) = .pointer (some ⟨kb, 0, none⟩) := by rw [ha11, ev_other _ _ _ _ (by decide)]; exact f10_5
  have f11_20 : a0_11.eval (.tmp 20) = .bool b := by rw [ha11, ev_other _ _ _ _ (by decide)]; exact f10_20
  have f11_24 : a0_11.eval (.tmp 24) = .bool true := by rw [ha11, ev_other _ _ _ _ (by decide)]; exact f10_24
  have f11_25 : a0_11.eval (.tmp 25) = .pointer (some ⟨q, 0, none⟩) := by rw [ha11]; exact ev_same _ _ _ (Nat.lt_of_le_of_lt (by decide) qz10)
  rw [← ha11] at h0 ⊢
  clear ha11
  refine wpAnyH_take (i := 11) (oi := cp_11 s) (v := .pointer (some ⟨kb, 3, none⟩)) (by kernel_rfl) (by kernel_rfl) (by kernel_rfl) (by kernel_rfl) (fun c a w h => hQ c _ _ _ w h) (Or.inl ⟨wanted_some rfl (by kernel_rfl) f11_24 (Nat.lt_of_le_of_lt (by decide) qz11), fun w hw => fld SPT kb 0 3 3 (fS3 kb) rfl f11_5 w⟩) (hk1 w2 hM1) ?_
  change wpAnyH _ _ _ _ _ _ _ (a0_11.put (some 26) (.pointer (some ⟨kb, 3, none⟩))) _
  obtain ⟨a0_12, ha12⟩ : ∃ rr : Act, rr = a0_11.put (some 26) (.pointer (some ⟨kb, 3, none⟩)) := ⟨_, rfl⟩
  have qz12 : 32 < a0_12.tmps.size := by rw [ha12, sz_put]; exact qz11
  have f12_5 : a0_12.eval (.tmp 5) = .pointer (some ⟨kb, 0, none⟩) := by rw [ha12, ev_other _ _ _ _ (by decide)]; exact f11_5
  have f12_20 : a0_12.eval (.tmp 20) = .bool b := by rw [ha12, ev_other _ _ _ _ (by decide)]; exact f11_20
  have f12_24 : a0_12.eval (.tmp 24) = .bool true := by rw [ha12, ev_other _ _ _ _ (by decide)]; exact f11_24
  have f12_25 : a0_12.eval (.tmp 25) = .pointer (some ⟨q, 0, none⟩) := by rw [ha12, ev_other _ _ _ _ (by decide)]; exact f11_25
  have f12_26 : a0_12.eval (.tmp 26) = .pointer (some ⟨kb, 3, none⟩) := by rw [ha12]; exact ev_same _ _ _ (Nat.lt_of_le_of_lt (by decide) qz11)
  rw [← ha12] at h0 ⊢
  clear ha12
  refine wpAnyH_take (i := 12) (oi := cp_12 s) (v := kV s0.key) (by kernel_rfl) (by kernel_rfl) (by kernel_rfl) (by kernel_rfl) (fun c a w h => hQ c _ _ _ w h) (Or.inl ⟨wanted_some rfl (by kernel_rfl) f12_24 (Nat.lt_of_le_of_lt (by decide) qz12), fun w hw => run_loadO rfl f12_26 (run_ldK hw.key)⟩) (hk1 w2 hM1) ?_
  change wpAnyH _ _ _ _ _ _ _ (a0_12.put (some 27) (kV s0.key)) _
  obtain ⟨a0_13, ha13⟩ : ∃ rr : Act, rr = a0_12.put (some 27) (kV s0.key) := ⟨_, rfl⟩
  have qz13 : 32 < a0_13.tmps.size := by rw [ha13, sz_put]; exact qz12
  have f13_5 : a0_13.eval (.tmp 5) = .pointer (some ⟨kb, 0, none⟩) := by rw [ha13, ev_other _ _ _ _ (by decide)]; exact f12_5
  have f13_20 : a0_13.eval (.tmp 20) = .bool b := by rw [ha13, ev_other _ _ _ _ (by decide)]; exact f12_20
  have f13_24 : a0_13.eval (.tmp 24) = .bool true := by rw [ha13, ev_other _ _ _ _ (by decide)]; exact f12_24
  have f13_25 : a0_13.eval (.tmp 25) = .pointer (some ⟨q, 0, none⟩) := by rw [ha13, ev_other _ _ _ _ (by decide)]; exact f12_25
  have f13_27 : a0_13.eval (.tmp 27) = kV s0.key := by rw [ha13]; exact ev_same _ _ _ (Nat.lt_of_le_of_lt (by decide) qz12)
  rw [← ha13] at h0 ⊢
  clear ha13
  refine wpAnyH_take (i := 13) (oi := cp_13 s) (v := .pointer (some ⟨kb, 35, none⟩)) (by kernel_rfl) (by kernel_rfl) (by kernel_rfl) (by kernel_rfl) (fun c a w h => hQ c _ _ _ w h) (Or.inl ⟨wanted_some rfl (by kernel_rfl) f13_24 (Nat.lt_of_le_of_lt (by decide) qz13), fun w hw => fld SPT kb 0 4 35 (fS4 kb) rfl f13_5 w⟩) (hk1 w2 hM1) ?_
  change wpAnyH _ _ _ _ _ _ _ (a0_13.put (some 28) (.pointer (some ⟨kb, 35, none⟩))) _
  obtain ⟨a0_14, ha14⟩ : ∃ rr : Act, rr = a0_13.put (some 28) (.pointer (some ⟨kb, 35, none⟩)) := ⟨_, rfl⟩
  have qz14 : 32 < a0_14.tmps.size := by rw [ha14, sz_put]; exact qz13
  have f14_20 : a0_14.eval (.tmp 20) = .bool b := by rw [ha14, ev_other _ _ _ _ (by decide)]; exact f13_20
  have f14_24 : a0_14.eval (.tmp 24) = .bool true := by rw [ha14, ev_other _ _ _ _ (by decide)]; exact f13_24
  have f14_25 : a0_14.eval (.tmp 25) = .pointer (some ⟨q, 0, none⟩) := by rw [ha14, ev_other _ _ _ _ (by decide)]; exact f13_25
  have f14_27 : a0_14.eval (.tmp 27) = kV s0.key := by rw [ha14, ev_other _ _ _ _ (by decide)]; exact f13_27
  have f14_28 : a0_14.eval (.tmp 28) = .pointer (some ⟨kb, 35, none⟩) := by rw [ha14]; exact ev_same _ _ _ (Nat.lt_of_le_of_lt (by decide) qz13)
  rw [← ha14] at h0 ⊢
  clear ha14
  refine wpAnyH_take (i := 14) (oi := cp_14 s) (v := eV s0.ent) (by kernel_rfl) (by kernel_rfl) (by kernel_rfl) (by kernel_rfl) (fun c a w h => hQ c _ _ _ w h) (Or.inl ⟨wanted_some rfl (by kernel_rfl) f14_24 (Nat.lt_of_le_of_lt (by decide) qz14), fun w hw => run_loadO rfl f14_28 (run_ldE hw.ent)⟩) (hk1 w2 hM1) ?_
  change wpAnyH _ _ _ _ _ _ _ (a0_14.put (some 29) (eV s0.ent)) _
  obtain ⟨a0_15, ha15⟩ : ∃ rr : Act, rr = a0_14.put (some 29) (eV s0.ent) := ⟨_, rfl⟩
  have qz15 : 32 < a0_15.tmps.size := by rw [ha15, sz_put]; exact qz14
  have f15_20 : a0_15.eval (.tmp 20) = .bool b := by rw [ha15, ev_other _ _ _ _ (by decide)]; exact f14_20
  have f15_24 : a0_15.eval (.tmp 24) = .bool true := by rw [ha15, ev_other _ _ _ _ (by decide)]; exact f14_24
  have f15_25 : a0_15.eval (.tmp 25) = .pointer (some ⟨q, 0, none⟩) := by rw [ha15, ev_other _ _ _ _ (by decide)]; exact f14_25
  have f15_27 : a0_15.eval (.tmp 27) = kV s0.key := by rw [ha15, ev_other _ _ _ _ (by decide)]; exact f14_27
  have f15_29 : a0_15.eval (.tmp 29) = eV s0.ent := by rw [ha15]; exact ev_same _ _ _ (Nat.lt_of_le_of_lt (by decide) qz14)
  rw [← ha15] at h0 ⊢
  clear ha15
  refine wpAnyH_ready (rs := [15]) (by kernel_rfl) (by simp) ?_
  refine AllReadyH.cons (o := cp_15 s) (by kernel_rfl) (fun KQ hKQ => ?_) AllReadyH.nil
  rw [if_pos (wanted_some rfl (by kernel_rfl) f15_24 (Nat.lt_of_le_of_lt (by decide) qz15))]
  refine step_enterE 28 #[.pointer (some ⟨q, 0, none⟩), kV s0.key, eV s0.ent] (by rw [cp_enter15, f15_25, f15_27, f15_29]) (fun V w' => V = .bool b ∧ M2 w2 w') ((hc2 w2 hM1).mono (fun e w' ⟨h1, h2⟩ => ⟨_, h1, rfl, h2⟩)) ?_
  rintro _ w3 ⟨rfl, hM2⟩
  refine hKQ.out _ _ (hk2 w2 w3 hM1 hM2) (fun _ => ?_)
  clear hKQ KQ
  change wpAnyH _ _ _ _ _ _ _ (a0_15.put (some 30) (.bool b)) _
  have h0 := h0 w3 hM2
  obtain ⟨a0_16, ha16⟩ : ∃ rr : Act, rr = a0_15.put (some 30) (.bool b) := ⟨_, rfl⟩
  have qz16 : 32 < a0_16.tmps.size := by rw [ha16, sz_put]; exact qz15
  have f16_20 : a0_16.eval (.tmp 20) = .bool b := by rw [ha16, ev_other _ _ _ _ (by decide)]; exact f15_20
  have f16_24 : a0_16.eval (.tmp 24) = .bool true := by rw [ha16, ev_other _ _ _ _ (by decide)]; exact f15_24
  have f16_30 : a0_16.eval (.tmp 30) = .bool b := by rw [ha16]; exact ev_same _ _ _ (Nat.lt_of_le_of_lt (by decide) qz15)
  rw [← ha16] at h0 ⊢
  clear ha16
  refine wpAnyH_take (i := 16) (oi := cp_16 s) (v := .bool b) (by kernel_rfl) (by kernel_rfl) (by kernel_rfl) (by kernel_rfl) (fun c a w h => hQ c _ _ _ w h) (Or.inl ⟨wanted_none rfl, fun w hw => by simp only [execOp, cp_16, f16_24, f16_30]; rfl⟩) (hk2 w2 w3 hM1 hM2) ?_
  change wpAnyH _ _ _ _ _ _ _ (a0_16.put (some 31) (.bool b)) _
  obtain ⟨a0_17, ha17⟩ : ∃ rr : Act, rr = a0_16.put (some 31) (.bool b) := ⟨_, rfl⟩
  have qz17 : 32 < a0_17.tmps.size := by rw [ha17, sz_put]; exact qz16
  have f17_20 : a0_17.eval (.tmp 20) = .bool b := by rw [ha17, ev_other _ _ _ _ (by decide)]; exact f16_20
  have f17_31 : a0_17.eval (.tmp 31) = .bool b := by rw [ha17]; exact ev_same _ _ _ (Nat.lt_of_le_of_lt (by decide) qz16)
  rw [← ha17] at h0 ⊢
  clear ha17
  refine wpAnyH_take (i := 17) (oi := cp_17 s) (v := .bool true) (by kernel_rfl) (by kernel_rfl) (by kernel_rfl) (by kernel_rfl) (fun c a w h => hQ c _ _ _ w h) (Or.inl ⟨wanted_none rfl, fun w hw => run_eqBB rfl f17_20 f17_31 w⟩) (hk2 w2 w3 hM1 hM2) ?_
  change wpAnyH _ _ _ _ _ _ _ (a0_17.put (some 32) (.bool true)) _
  obtain ⟨a0_18, ha18⟩ : ∃ rr : Act, rr = a0_17.put (some 32) (.bool true) := ⟨_, rfl⟩
  have qz18 : 32 < a0_18.tmps.size := by rw [ha18, sz_put]; exact qz17
  have f18_32 : a0_18.eval (.tmp 32) = .bool true := by rw [ha18]; exact ev_same _ _ _ (Nat.lt_of_le_of_lt (by decide) qz17)
  rw [← ha18] at h0 ⊢
  clear ha18
  refine wpAnyH_take (i := 18) (oi := cp_18 s) (v := .bool true) (by kernel_rfl) (by kernel_rfl) (by kernel_rfl) (by kernel_rfl) (fun c a w h => hQ c _ _ _ w h) (Or.inl ⟨wanted_none rfl, fun w hw => by simp only [execOp, cp_18, f18_32]; rfl⟩) (hk2 w2 w3 hM1 hM2) ?_
  change wpAnyH _ _ _ _ _ _ _ (a0_18.put (some 6) (.bool true)) _
  obtain ⟨a0_19, ha19⟩ : ∃ rr : Act, rr = a0_18.put (some 6) (.bool true) := ⟨_, rfl⟩
  have qz19 : 32 < a0_19.tmps.size := by rw [ha19, sz_put]; exact qz18
  rw [← ha19] at h0 ⊢
  clear ha19
  refine wpAnyH_done (by kernel_rfl) ?_ _
  exact h0
def cn_0 (s : String) : Oper := { dst := some 15, op := Op.move (Operand.tmp 0), type := 24, pos := s, after := #[], guard := none }
def cn_1 (s : String) : Oper := { dst := some 16, op := Op.fieldAddr 39 (Operand.tmp 5) 3, type := 0, pos := s, after := #[], guard := none }
def cn_2 (s : String) : Oper := { dst := some 17, op := Op.load 32 (Operand.tmp 16), type := 32, pos := s, after := #[{ on := 1, ground := Ground.data }], guard := none }
def cn_3 (s : String) : Oper := { dst := some 18, op := Op.fieldAddr 39 (Operand.tmp 5) 4, type := 0, pos := s, after := #[], guard := none }
def cn_4 (s : String) : Oper := { dst := some 19, op := Op.load 37 (Operand.tmp 18), type := 37, pos := s, after := #[{ on := 3, ground := Ground.data }], guard := none }
def cn_5 (s : String) : Oper := { dst := some 20, op := Op.call { callee := Callee.value (Operand.func 13), args := #[Operand.tmp 15, Operand.tmp 17, Operand.tmp 19], argTypes := #[24, 32, 37] }, type := 4, pos := s, after := #[{ on := 0, ground := Ground.data }, { on := 2, ground := Ground.data }, { on := 4, ground := Ground.data }], guard := none }
def cn_6 (s : String) : Oper := { dst := some 21, op := Op.fieldAddr 39 (Operand.tmp 5) 2, type := 0, pos := s, after := #[], guard := none }
def cn_7 (s : String) : Oper := { dst := some 22, op := Op.load 4 (Operand.tmp 21), type := 4, pos := s, after := #[{ on := 6, ground := Ground.data }], guard := none }
def cn_8 (s : String) : Oper := { dst := some 23, op := Op.unOp UnOp.not 4 (Operand.tmp 22), type := 4, pos := s, after := #[{ on := 7, ground := Ground.data }], guard := none }
def cn_9 (s : String) : Oper := { dst := some 24, op := Op.move (Operand.tmp 23), type := 4, pos := s, after := #[{ on := 8, ground := Ground.data }, { on := 5, ground := Ground.chain }], guard := none }
def cn_10 (s : String) : Oper := { dst := some 25, op := Op.move (Operand.tmp 1), type := 27, pos := s, after := #[{ on := 9, ground := Ground.guard }], guard := some (9, true) }
def cn_11 (s : String) : Oper := { dst := some 26, op := Op.fieldAddr 39 (Operand.tmp 5) 3, type := 0, pos := s, after := #[{ on := 9, ground := Ground.guard }], guard := some (9, true) }
def cn_12 (s : String) : Oper := { dst := some 27, op := Op.load 32 (Operand.tmp 26), type := 32, pos := s, after := #[{ on := 11, ground := Ground.data }, { on := 9, ground := Ground.guard }], guard := some (9, true) }
def cn_13 (s : String) : Oper := { dst := some 28, op := Op.fieldAddr 39 (Operand.tmp 5) 4, type := 0, pos := s, after := #[{ on := 9, ground := Ground.guard }], guard := some (9, true) }
def cn_14 (s : String) : Oper := { dst := some 29, op := Op.load 37 (Operand.tmp 28), type := 37, pos := s, after := #[{ on := 13, ground := Ground.data }, { on := 9, ground := Ground.guard }], guard := some (9, true) }
def cn_15 (s : String) : Oper := { dst := some 30, op := Op.call { callee := Callee.value (Operand.func 28), args := #[Operand.tmp 25, Operand.tmp 27, Operand.tmp 29], argTypes := #[27, 32, 37] }, type := 4, pos := s, after := #[{ on := 10, ground := Ground.data }, { on := 12, ground := Ground.data }, { on := 14, ground := Ground.data }, { on := 9, ground := Ground.chain }, { on := 9, ground := Ground.guard }], guard := some (9, true) }
def cn_16 (s : String) : Oper := { dst := some 31, op := Op.pick (Operand.tmp 24) (Operand.tmp 30) (Operand.const (Value.bool false)), type := 4, pos := s, after := #[{ on := 9, ground := Ground.data }, { on := 15, ground := Ground.data }], guard := none }
def cn_17 (s : String) : Oper := { dst := some 32, op := Op.binOp BinOp.eql 4 (Operand.tmp 20) (Operand.tmp 31) 4, type := 4, pos := s, after := #[{ on := 5, ground := Ground.data }, { on := 16, ground := Ground.data }], guard := none }
def cn_18 (s : String) : Oper := { dst := some 6, op := Op.assign (Operand.tmp 32), type := 4, pos := s, after := #[{ on := 17, ground := Ground.data }, { on := 15, ground := Ground.chain }, { on := 0, ground := Ground.phase }, { on := 1, ground := Ground.phase }, { on := 2, ground := Ground.phase }, { on := 3, ground := Ground.phase }, { on := 4, ground := Ground.phase }, { on := 5, ground := Ground.phase }, { on := 6, ground := Ground.phase }, { on := 7, ground := Ground.phase }, { on := 8, ground := Ground.phase }, { on := 9, ground := Ground.phase }, { on := 10, ground := Ground.phase }, { on := 11, ground := Ground.phase }, { on := 12, ground := Ground.phase }, { on := 13, ground := Ground.phase }, { on := 14, ground := Ground.phase }, { on := 15, ground := Ground.phase }, { on := 16, ground := Ground.phase }, { on := 17, ground := Ground.phase }], guard := none }
def cn_ops (s : String) : Array Oper := #[cn_0 s, cn_1 s, cn_2 s, cn_3 s, cn_4 s, cn_5 s, cn_6 s, cn_7 s, cn_8 s, cn_9 s, cn_10 s, cn_11 s, cn_12 s, cn_13 s, cn_14 s, cn_15 s, cn_16 s, cn_17 s, cn_18 s]
theorem cn_enter5 (s : String) (a : Act) (w : World) : (execOp a.eval (cn_5 s)).run Try.prog w = .ok (.enter 13 #[a.eval (.tmp 15), a.eval (.tmp 17), a.eval (.tmp 19)]) w := by kernel_rfl
theorem cn_enter15 (s : String) (a : Act) (w : World) : (execOp a.eval (cn_15 s)).run Try.prog w = .ok (.enter 28 #[a.eval (.tmp 25), a.eval (.tmp 27), a.eval (.tmp 29)]) w := by kernel_rfl
theorem cn_walk (s : String) {Q : Exit → Act → World → Prop} (hQ : ∀ c (a : Act) t v w, Q (.panic c) (a.put (some t) v) w → Q (.panic c) a w) (W : World) (q kb : Nat) (pv : Value) (s0 : SP) (b : Bool) (M1 : World → Prop) (M2 : World → World → Prop) (hno : s0.no = true) (hS0 : SPB W.drew kb s0) (hc1 : Calls Try.prog 13 #[pv, kV s0.key, eV s0.ent] W.drew fun e w' => e = .returned (.bool false) ∧ M1 w') (hk1 : ∀ w2, M1 w2 → SPB w2 kb s0)
    (a : Act) (hs : 32 < a.tmps.size) (e0 : a.eval (.tmp 0) = pv) (e1 : a.eval (.tmp 1) = .pointer (some ⟨q, 0, none⟩)) (e5 : a.eval (.tmp 5) = .pointer (some ⟨kb, 0, none⟩))
    (h0 : ∀ w2, M1 w2 → Q .normal (((((((((((((((((((a.put (some 15) (pv)).put (some 16) (.pointer (some ⟨kb, 3, none⟩))).put (some 17) (kV s0.key)).put (some 18) (.pointer (some ⟨kb, 35, none⟩))).put (some 19) (eV s0.ent)).put (some 21) (.pointer (some ⟨kb, 2, none⟩))).put (some 22) (.bool s0.no)).put (some 23) (.bool (!s0.no))).put (some 20) (.bool false)).put (some 24) (.bool false)).put (some 25) (undef)).put (some 26) (undef)).put (some 27) (undef)).put (some 28) (undef)).put (some 29) (undef)).put (some 30) (undef)).put (some 31) (.bool false)).put (some 32) (.bool true)).put (some 6) (.bool true)) w2) :
    Code.wp Try.prog (.region 3 (cn_ops s) true) Q a W := by
  refine wp_region_held_drew (S := fun w => SPB w kb s0) (by kernel_rfl) hS0 (fun hS => ?_)
  change wpAnyH _ _ _ _ _ _ _ _ (World.drew _)
  refine wpAnyH_take (i := 0) (oi := cn_0 s) (v := pv) (by kernel_rfl) (by kernel_rfl) (by kernel_rfl) (by kernel_rfl) (fun c a w h => hQ c _ _ _ w h) (Or.inl ⟨wanted_none rfl, fun w hw => by simp only [execOp, cn_0, e0]; rfl⟩) hS ?_
  change wpAnyH _ _ _ _ _ _ _ (a.put (some 15) (pv)) _
  obtain ⟨a0_1, ha1⟩ : ∃ rr : Act, rr = a.put (some 15) (pv) := ⟨_, rfl⟩
  have qz1 : 32 < a0_1.tmps.size := by rw [ha1, sz_put]; exact hs
  have f1_5 : a0_1.eval (.tmp 5) = .pointer (some ⟨kb, 0, none⟩) := by rw [ha1, ev_other _ _ _ _ (by decide)]; exact e5
  have f1_15 : a0_1.eval (.tmp 15) = pv := by rw [ha1]; exact ev_same _ _ _ (Nat.lt_of_le_of_lt (by decide) hs)
  rw [← ha1] at h0 ⊢
  clear ha1
  refine wpAnyH_take (i := 1) (oi := cn_1 s) (v := .pointer (some ⟨kb, 3, none⟩)) (by kernel_rfl) (by kernel_rfl) (by kernel_rfl) (by kernel_rfl) (fun c a w h => hQ c _ _ _ w h) (Or.inl ⟨wanted_none rfl, fun w hw => fld SPT kb 0 3 3 (fS3 kb) rfl f1_5 w⟩) hS ?_
  change wpAnyH _ _ _ _ _ _ _ (a0_1.put (some 16) (.pointer (some ⟨kb, 3, none⟩))) _
  obtain ⟨a0_2, ha2⟩ : ∃ rr : Act, rr = a0_1.put (some 16) (.pointer (some ⟨kb, 3, none⟩)) := ⟨_, rfl⟩
  have qz2 : 32 < a0_2.tmps.size := by rw [ha2, sz_put]; exact qz1
  have f2_5 : a0_2.eval (.tmp 5) = .pointer (some ⟨kb, 0, none⟩) := by rw [ha2, ev_other _ _ _ _ (by decide)]; exact f1_5
  have f2_15 : a0_2.eval (.tmp 15) = pv := by rw [ha2, ev_other _ _ _ _ (by decide)]; exact f1_15
  have f2_16 : a0_2.eval (.tmp 16) = .pointer (some ⟨kb, 3, none⟩) := by rw [ha2]; exact ev_same _ _ _ (Nat.lt_of_le_of_lt (by decide) qz1)
  rw [← ha2] at h0 ⊢
  clear ha2
  refine wpAnyH_take (i := 2) (oi := cn_2 s) (v := kV s0.key) (by kernel_rfl) (by kernel_rfl) (by kernel_rfl) (by kernel_rfl) (fun c a w h => hQ c _ _ _ w h) (Or.inl ⟨wanted_none rfl, fun w hw => run_loadO rfl f2_16 (run_ldK hw.key)⟩) hS ?_
  change wpAnyH _ _ _ _ _ _ _ (a0_2.put (some 17) (kV s0.key)) _
  obtain ⟨a0_3, ha3⟩ : ∃ rr : Act, rr = a0_2.put (some 17) (kV s0.key) := ⟨_, rfl⟩
  have qz3 : 32 < a0_3.tmps.size := by rw [ha3, sz_put]; exact qz2
  have f3_5 : a0_3.eval (.tmp 5) = .pointer (some ⟨kb, 0, none⟩) := by rw [ha3, ev_other _ _ _ _ (by decide)]; exact f2_5
  have f3_15 : a0_3.eval (.tmp 15) = pv := by rw [ha3, ev_other _ _ _ _ (by decide)]; exact f2_15
  have f3_17 : a0_3.eval (.tmp 17) = kV s0.key := by rw [ha3]; exact ev_same _ _ _ (Nat.lt_of_le_of_lt (by decide) qz2)
  rw [← ha3] at h0 ⊢
  clear ha3
  refine wpAnyH_take (i := 3) (oi := cn_3 s) (v := .pointer (some ⟨kb, 35, none⟩)) (by kernel_rfl) (by kernel_rfl) (by kernel_rfl) (by kernel_rfl) (fun c a w h => hQ c _ _ _ w h) (Or.inl ⟨wanted_none rfl, fun w hw => fld SPT kb 0 4 35 (fS4 kb) rfl f3_5 w⟩) hS ?_
  change wpAnyH _ _ _ _ _ _ _ (a0_3.put (some 18) (.pointer (some ⟨kb, 35, none⟩))) _
  obtain ⟨a0_4, ha4⟩ : ∃ rr : Act, rr = a0_3.put (some 18) (.pointer (some ⟨kb, 35, none⟩)) := ⟨_, rfl⟩
  have qz4 : 32 < a0_4.tmps.size := by rw [ha4, sz_put]; exact qz3
  have f4_5 : a0_4.eval (.tmp 5) = .pointer (some ⟨kb, 0, none⟩) := by rw [ha4, ev_other _ _ _ _ (by decide)]; exact f3_5
  have f4_15 : a0_4.eval (.tmp 15) = pv := by rw [ha4, ev_other _ _ _ _ (by decide)]; exact f3_15
  have f4_17 : a0_4.eval (.tmp 17) = kV s0.key := by rw [ha4, ev_other _ _ _ _ (by decide)]; exact f3_17
  have f4_18 : a0_4.eval (.tmp 18) = .pointer (some ⟨kb, 35, none⟩) := by rw [ha4]; exact ev_same _ _ _ (Nat.lt_of_le_of_lt (by decide) qz3)
  rw [← ha4] at h0 ⊢
  clear ha4
  refine wpAnyH_take (i := 4) (oi := cn_4 s) (v := eV s0.ent) (by kernel_rfl) (by kernel_rfl) (by kernel_rfl) (by kernel_rfl) (fun c a w h => hQ c _ _ _ w h) (Or.inl ⟨wanted_none rfl, fun w hw => run_loadO rfl f4_18 (run_ldE hw.ent)⟩) hS ?_
  change wpAnyH _ _ _ _ _ _ _ (a0_4.put (some 19) (eV s0.ent)) _
  obtain ⟨a0_5, ha5⟩ : ∃ rr : Act, rr = a0_4.put (some 19) (eV s0.ent) := ⟨_, rfl⟩
  have qz5 : 32 < a0_5.tmps.size := by rw [ha5, sz_put]; exact qz4
  have f5_5 : a0_5.eval (.tmp 5) = .pointer (some ⟨kb, 0, none⟩) := by rw [ha5, ev_other _ _ _ _ (by decide)]; exact f4_5
  have f5_15 : a0_5.eval (.tmp 15) = pv := by rw [ha5, ev_other _ _ _ _ (by decide)]; exact f4_15
  have f5_17 : a0_5.eval (.tmp 17) = kV s0.key := by rw [ha5, ev_other _ _ _ _ (by decide)]; exact f4_17
  have f5_19 : a0_5.eval (.tmp 19) = eV s0.ent := by rw [ha5]; exact ev_same _ _ _ (Nat.lt_of_le_of_lt (by decide) qz4)
  rw [← ha5] at h0 ⊢
  clear ha5
  refine wpAnyH_take (i := 6) (oi := cn_6 s) (v := .pointer (some ⟨kb, 2, none⟩)) (by kernel_rfl) (by kernel_rfl) (by kernel_rfl) (by kernel_rfl) (fun c a w h => hQ c _ _ _ w h) (Or.inl ⟨wanted_none rfl, fun w hw => fld SPT kb 0 2 2 (fS2 kb) rfl f5_5 w⟩) hS ?_
  change wpAnyH _ _ _ _ _ _ _ (a0_5.put (some 21) (.pointer (some ⟨kb, 2, none⟩))) _
  obtain ⟨a0_6, ha6⟩ : ∃ rr : Act, rr = a0_5.put (some 21) (.pointer (some ⟨kb, 2, none⟩)) := ⟨_, rfl⟩
  have qz6 : 32 < a0_6.tmps.size := by rw [ha6, sz_put]; exact qz5
  have f6_15 : a0_6.eval (.tmp 15) = pv := by rw [ha6, ev_other _ _ _ _ (by decide)]; exact f5_15
  have f6_17 : a0_6.eval (.tmp 17) = kV s0.key := by rw [ha6, ev_other _ _ _ _ (by decide)]; exact f5_17
  have f6_19 : a0_6.eval (.tmp 19) = eV s0.ent := by rw [ha6, ev_other _ _ _ _ (by decide)]; exact f5_19
  have f6_21 : a0_6.eval (.tmp 21) = .pointer (some ⟨kb, 2, none⟩) := by rw [ha6]; exact ev_same _ _ _ (Nat.lt_of_le_of_lt (by decide) qz5)
  rw [← ha6] at h0 ⊢
  clear ha6
  refine wpAnyH_take (i := 7) (oi := cn_7 s) (v := .bool s0.no) (by kernel_rfl) (by kernel_rfl) (by kernel_rfl) (by kernel_rfl) (fun c a w h => hQ c _ _ _ w h) (Or.inl ⟨wanted_none rfl, fun w hw => run_loadO rfl f6_21 (load_bl hw.no)⟩) hS ?_
  change wpAnyH _ _ _ _ _ _ _ (a0_6.put (some 22) (.bool s0.no)) _
  obtain ⟨a0_7, ha7⟩ : ∃ rr : Act, rr = a0_6.put (some 22) (.bool s0.no) := ⟨_, rfl⟩
  have qz7 : 32 < a0_7.tmps.size := by rw [ha7, sz_put]; exact qz6
  have f7_15 : a0_7.eval (.tmp 15) = pv := by rw [ha7, ev_other _ _ _ _ (by decide)]; exact f6_15
  have f7_17 : a0_7.eval (.tmp 17) = kV s0.key := by rw [ha7, ev_other _ _ _ _ (by decide)]; exact f6_17
  have f7_19 : a0_7.eval (.tmp 19) = eV s0.ent := by rw [ha7, ev_other _ _ _ _ (by decide)]; exact f6_19
  have f7_22 : a0_7.eval (.tmp 22) = .bool s0.no := by rw [ha7]; exact ev_same _ _ _ (Nat.lt_of_le_of_lt (by decide) qz6)
  rw [← ha7] at h0 ⊢
  clear ha7
  refine wpAnyH_take (i := 8) (oi := cn_8 s) (v := .bool (!s0.no)) (by kernel_rfl) (by kernel_rfl) (by kernel_rfl) (by kernel_rfl) (fun c a w h => hQ c _ _ _ w h) (Or.inl ⟨wanted_none rfl, fun w hw => run_notB rfl f7_22 w⟩) hS ?_
  change wpAnyH _ _ _ _ _ _ _ (a0_7.put (some 23) (.bool (!s0.no))) _
  obtain ⟨a0_8, ha8⟩ : ∃ rr : Act, rr = a0_7.put (some 23) (.bool (!s0.no)) := ⟨_, rfl⟩
  have qz8 : 32 < a0_8.tmps.size := by rw [ha8, sz_put]; exact qz7
  have f8_15 : a0_8.eval (.tmp 15) = pv := by rw [ha8, ev_other _ _ _ _ (by decide)]; exact f7_15
  have f8_17 : a0_8.eval (.tmp 17) = kV s0.key := by rw [ha8, ev_other _ _ _ _ (by decide)]; exact f7_17
  have f8_19 : a0_8.eval (.tmp 19) = eV s0.ent := by rw [ha8, ev_other _ _ _ _ (by decide)]; exact f7_19
  have f8_23 : a0_8.eval (.tmp 23) = .bool (!s0.no) := by rw [ha8]; exact ev_same _ _ _ (Nat.lt_of_le_of_lt (by decide) qz7)
  rw [← ha8] at h0 ⊢
  clear ha8
  refine wpAnyH_ready (rs := [5]) (by kernel_rfl) (by simp) ?_
  refine AllReadyH.cons (o := cn_5 s) (by kernel_rfl) (fun KQ hKQ => ?_) AllReadyH.nil
  rw [if_pos (wanted_none rfl)]
  refine step_enterE 13 #[pv, kV s0.key, eV s0.ent] (by rw [cn_enter5, f8_15, f8_17, f8_19]) (fun V w' => V = .bool false ∧ M1 w') (hc1.mono (fun e w' ⟨h1, h2⟩ => ⟨_, h1, rfl, h2⟩)) ?_
  rintro _ w2 ⟨rfl, hM1⟩
  refine hKQ.out _ _ (hk1 w2 hM1) (fun _ => ?_)
  clear hKQ KQ
  change wpAnyH _ _ _ _ _ _ _ (a0_8.put (some 20) (.bool false)) _
  have h0 := h0 w2 hM1
  obtain ⟨a0_9, ha9⟩ : ∃ rr : Act, rr = a0_8.put (some 20) (.bool false) := ⟨_, rfl⟩
  have qz9 : 32 < a0_9.tmps.size := by rw [ha9, sz_put]; exact qz8
  have f9_20 : a0_9.eval (.tmp 20) = .bool false := by rw [ha9]; exact ev_same _ _ _ (Nat.lt_of_le_of_lt (by decide) qz8)
  have f9_23 : a0_9.eval (.tmp 23) = .bool (!s0.no) := by rw [ha9, ev_other _ _ _ _ (by decide)]; exact f8_23
  rw [← ha9] at h0 ⊢
  clear ha9
  refine wpAnyH_take (i := 9) (oi := cn_9 s) (v := .bool false) (by kernel_rfl) (by kernel_rfl) (by kernel_rfl) (by kernel_rfl) (fun c a w h => hQ c _ _ _ w h) (Or.inl ⟨wanted_none rfl, fun w hw => by simp only [execOp, cn_9, f9_23, hno]; rfl⟩) (hk1 w2 hM1) ?_
  change wpAnyH _ _ _ _ _ _ _ (a0_9.put (some 24) (.bool false)) _
  obtain ⟨a0_10, ha10⟩ : ∃ rr : Act, rr = a0_9.put (some 24) (.bool false) := ⟨_, rfl⟩
  have qz10 : 32 < a0_10.tmps.size := by rw [ha10, sz_put]; exact qz9
  have f10_20 : a0_10.eval (.tmp 20) = .bool false := by rw [ha10, ev_other _ _ _ _ (by decide)]; exact f9_20
  have f10_24 : a0_10.eval (.tmp 24) = .bool false := by rw [ha10]; exact ev_same _ _ _ (Nat.lt_of_le_of_lt (by decide) qz9)
  rw [← ha10] at h0 ⊢
  clear ha10
  refine wpAnyH_take (i := 10) (oi := cn_10 s) (v := undef) (by kernel_rfl) (by kernel_rfl) (by kernel_rfl) (by kernel_rfl) (fun c a w h => hQ c _ _ _ w h) (Or.inr ⟨wanted_no rfl (by kernel_rfl) f10_24 (Nat.lt_of_le_of_lt (by decide) qz10), rfl⟩) (hk1 w2 hM1) ?_
  change wpAnyH _ _ _ _ _ _ _ (a0_10.put (some 25) (undef)) _
  obtain ⟨a0_11, ha11⟩ : ∃ rr : Act, rr = a0_10.put (some 25) (undef) := ⟨_, rfl⟩
  have qz11 : 32 < a0_11.tmps.size := by rw [ha11, sz_put]; exact qz10
  have f11_20 : a0_11.eval (.tmp 20) = .bool false := by rw [ha11, ev_other _ _ _ _ (by decide)]; exact f10_20
  have f11_24 : a0_11.eval (.tmp 24) = .bool false := by rw [ha11, ev_other _ _ _ _ (by decide)]; exact f10_24
  rw [← ha11] at h0 ⊢
  clear ha11
  refine wpAnyH_take (i := 11) (oi := cn_11 s) (v := undef) (by kernel_rfl) (by kernel_rfl) (by kernel_rfl) (by kernel_rfl) (fun c a w h => hQ c _ _ _ w h) (Or.inr ⟨wanted_no rfl (by kernel_rfl) f11_24 (Nat.lt_of_le_of_lt (by decide) qz11), rfl⟩) (hk1 w2 hM1) ?_
  change wpAnyH _ _ _ _ _ _ _ (a0_11.put (some 26) (undef)) _
  obtain ⟨a0_12, ha12⟩ : ∃ rr : Act, rr = a0_11.put (some 26) (undef) := ⟨_, rfl⟩
  have qz12 : 32 < a0_12.tmps.size := by rw [ha12, sz_put]; exact qz11
  have f12_20 : a0_12.eval (.tmp 20) = .bool false := by rw [ha12, ev_other _ _ _ _ (by decide)]; exact f11_20
  have f12_24 : a0_12.eval (.tmp 24) = .bool false := by rw [ha12, ev_other _ _ _ _ (by decide)]; exact f11_24
  rw [← ha12] at h0 ⊢
  clear ha12
  refine wpAnyH_take (i := 12) (oi := cn_12 s) (v := undef) (by kernel_rfl) (by kernel_rfl) (by kernel_rfl) (by kernel_rfl) (fun c a w h => hQ c _ _ _ w h) (Or.inr ⟨wanted_no rfl (by kernel_rfl) f12_24 (Nat.lt_of_le_of_lt (by decide) qz12), rfl⟩) (hk1 w2 hM1) ?_
  change wpAnyH _ _ _ _ _ _ _ (a0_12.put (some 27) (undef)) _
  obtain ⟨a0_13, ha13⟩ : ∃ rr : Act, rr = a0_12.put (some 27) (undef) := ⟨_, rfl⟩
  have qz13 : 32 < a0_13.tmps.size := by rw [ha13, sz_put]; exact qz12
  have f13_20 : a0_13.eval (.tmp 20) = .bool false := by rw [ha13, ev_other _ _ _ _ (by decide)]; exact f12_20
  have f13_24 : a0_13.eval (.tmp 24) = .bool false := by rw [ha13, ev_other _ _ _ _ (by decide)]; exact f12_24
  rw [← ha13] at h0 ⊢
  clear ha13
  refine wpAnyH_take (i := 13) (oi := cn_13 s) (v := undef) (by kernel_rfl) (by kernel_rfl) (by kernel_rfl) (by kernel_rfl) (fun c a w h => hQ c _ _ _ w h) (Or.inr ⟨wanted_no rfl (by kernel_rfl) f13_24 (Nat.lt_of_le_of_lt (by decide) qz13), rfl⟩) (hk1 w2 hM1) ?_
  change wpAnyH _ _ _ _ _ _ _ (a0_13.put (some 28) (undef)) _
  obtain ⟨a0_14, ha14⟩ : ∃ rr : Act, rr = a0_13.put (some 28) (undef) := ⟨_, rfl⟩
  have qz14 : 32 < a0_14.tmps.size := by rw [ha14, sz_put]; exact qz13
  have f14_20 : a0_14.eval (.tmp 20) = .bool false := by rw [ha14, ev_other _ _ _ _ (by decide)]; exact f13_20
  have f14_24 : a0_14.eval (.tmp 24) = .bool false := by rw [ha14, ev_other _ _ _ _ (by decide)]; exact f13_24
  rw [← ha14] at h0 ⊢
  clear ha14
  refine wpAnyH_take (i := 14) (oi := cn_14 s) (v := undef) (by kernel_rfl) (by kernel_rfl) (by kernel_rfl) (by kernel_rfl) (fun c a w h => hQ c _ _ _ w h) (Or.inr ⟨wanted_no rfl (by kernel_rfl) f14_24 (Nat.lt_of_le_of_lt (by decide) qz14), rfl⟩) (hk1 w2 hM1) ?_
  change wpAnyH _ _ _ _ _ _ _ (a0_14.put (some 29) (undef)) _
  obtain ⟨a0_15, ha15⟩ : ∃ rr : Act, rr = a0_14.put (some 29) (undef) := ⟨_, rfl⟩
  have qz15 : 32 < a0_15.tmps.size := by rw [ha15, sz_put]; exact qz14
  have f15_20 : a0_15.eval (.tmp 20) = .bool false := by rw [ha15, ev_other _ _ _ _ (by decide)]; exact f14_20
  have f15_24 : a0_15.eval (.tmp 24) = .bool false := by rw [ha15, ev_other _ _ _ _ (by decide)]; exact f14_24
  rw [← ha15] at h0 ⊢
  clear ha15
  refine wpAnyH_take (i := 15) (oi := cn_15 s) (v := undef) (by kernel_rfl) (by kernel_rfl) (by kernel_rfl) (by kernel_rfl) (fun c a w h => hQ c _ _ _ w h) (Or.inr ⟨wanted_no rfl (by kernel_rfl) f15_24 (Nat.lt_of_le_of_lt (by decide) qz15), rfl⟩) (hk1 w2 hM1) ?_
  change wpAnyH _ _ _ _ _ _ _ (a0_15.put (some 30) (undef)) _
  obtain ⟨a0_16, ha16⟩ : ∃ rr : Act, rr = a0_15.put (some 30) (undef) := ⟨_, rfl⟩
  have qz16 : 32 < a0_16.tmps.size := by rw [ha16, sz_put]; exact qz15
  have f16_20 : a0_16.eval (.tmp 20) = .bool false := by rw [ha16, ev_other _ _ _ _ (by decide)]; exact f15_20
  have f16_24 : a0_16.eval (.tmp 24) = .bool false := by rw [ha16, ev_other _ _ _ _ (by decide)]; exact f15_24
  have f16_30 : a0_16.eval (.tmp 30) = undef := by rw [ha16]; exact ev_same _ _ _ (Nat.lt_of_le_of_lt (by decide) qz15)
  rw [← ha16] at h0 ⊢
  clear ha16
  refine wpAnyH_take (i := 16) (oi := cn_16 s) (v := .bool false) (by kernel_rfl) (by kernel_rfl) (by kernel_rfl) (by kernel_rfl) (fun c a w h => hQ c _ _ _ w h) (Or.inl ⟨wanted_none rfl, fun w hw => by simp only [execOp, cn_16, f16_24]; rfl⟩) (hk1 w2 hM1) ?_
  change wpAnyH _ _ _ _ _ _ _ (a0_16.put (some 31) (.bool false)) _
  obtain ⟨a0_17, ha17⟩ : ∃ rr : Act, rr = a0_16.put (some 31) (.bool false) := ⟨_, rfl⟩
  have qz17 : 32 < a0_17.tmps.size := by rw [ha17, sz_put]; exact qz16
  have f17_20 : a0_17.eval (.tmp 20) = .bool false := by rw [ha17, ev_other _ _ _ _ (by decide)]; exact f16_20
  have f17_31 : a0_17.eval (.tmp 31) = .bool false := by rw [ha17]; exact ev_same _ _ _ (Nat.lt_of_le_of_lt (by decide) qz16)
  rw [← ha17] at h0 ⊢
  clear ha17
  refine wpAnyH_take (i := 17) (oi := cn_17 s) (v := .bool true) (by kernel_rfl) (by kernel_rfl) (by kernel_rfl) (by kernel_rfl) (fun c a w h => hQ c _ _ _ w h) (Or.inl ⟨wanted_none rfl, fun w hw => run_eqBB rfl f17_20 f17_31 w⟩) (hk1 w2 hM1) ?_
  change wpAnyH _ _ _ _ _ _ _ (a0_17.put (some 32) (.bool true)) _
  obtain ⟨a0_18, ha18⟩ : ∃ rr : Act, rr = a0_17.put (some 32) (.bool true) := ⟨_, rfl⟩
  have qz18 : 32 < a0_18.tmps.size := by rw [ha18, sz_put]; exact qz17
  have f18_32 : a0_18.eval (.tmp 32) = .bool true := by rw [ha18]; exact ev_same _ _ _ (Nat.lt_of_le_of_lt (by decide) qz17)
  rw [← ha18] at h0 ⊢
  clear ha18
  refine wpAnyH_take (i := 18) (oi := cn_18 s) (v := .bool true) (by kernel_rfl) (by kernel_rfl) (by kernel_rfl) (by kernel_rfl) (fun c a w h => hQ c _ _ _ w h) (Or.inl ⟨wanted_none rfl, fun w hw => by simp only [execOp, cn_18, f18_32]; rfl⟩) (hk1 w2 hM1) ?_
  change wpAnyH _ _ _ _ _ _ _ (a0_18.put (some 6) (.bool true)) _
  obtain ⟨a0_19, ha19⟩ : ∃ rr : Act, rr = a0_18.put (some 6) (.bool true) := ⟨_, rfl⟩
  have qz19 : 32 < a0_19.tmps.size := by rw [ha19, sz_put]; exact qz18
  rw [← ha19] at h0 ⊢
  clear ha19
  refine wpAnyH_done (by kernel_rfl) ?_ _
  exact h0
def cm_0 (s : String) : Oper := { dst := some 35, op := Op.move (Operand.tmp 0), type := 24, pos := s, after := #[], guard := none }
def cm_1 (s : String) : Oper := { dst := some 36, op := Op.fieldAddr 39 (Operand.tmp 5) 3, type := 0, pos := s, after := #[], guard := none }
def cm_2 (s : String) : Oper := { dst := some 37, op := Op.load 32 (Operand.tmp 36), type := 32, pos := s, after := #[{ on := 1, ground := Ground.data }], guard := none }
def cm_3 (s : String) : Oper := { dst := some 38, op := Op.fieldAddr 39 (Operand.tmp 5) 5, type := 0, pos := s, after := #[], guard := none }
def cm_4 (s : String) : Oper := { dst := some 39, op := Op.load 35 (Operand.tmp 38), type := 35, pos := s, after := #[{ on := 3, ground := Ground.data }], guard := none }
def cm_5 (s : String) : Oper := { dst := some 40, op := Op.call { callee := Callee.value (Operand.func 29), args := #[Operand.tmp 35, Operand.tmp 37, Operand.tmp 39], argTypes := #[24, 32, 35] }, type := 4, pos := s, after := #[{ on := 0, ground := Ground.data }, { on := 2, ground := Ground.data }, { on := 4, ground := Ground.data }], guard := none }
def cm_6 (s : String) : Oper := { dst := some 41, op := Op.move (Operand.tmp 1), type := 27, pos := s, after := #[], guard := none }
def cm_7 (s : String) : Oper := { dst := some 42, op := Op.fieldAddr 39 (Operand.tmp 5) 3, type := 0, pos := s, after := #[], guard := none }
def cm_8 (s : String) : Oper := { dst := some 43, op := Op.load 32 (Operand.tmp 42), type := 32, pos := s, after := #[{ on := 7, ground := Ground.data }], guard := none }
def cm_9 (s : String) : Oper := { dst := some 44, op := Op.fieldAddr 39 (Operand.tmp 5) 5, type := 0, pos := s, after := #[], guard := none }
def cm_10 (s : String) : Oper := { dst := some 45, op := Op.load 35 (Operand.tmp 44), type := 35, pos := s, after := #[{ on := 9, ground := Ground.data }], guard := none }
def cm_11 (s : String) : Oper := { dst := some 46, op := Op.call { callee := Callee.value (Operand.func 30), args := #[Operand.tmp 41, Operand.tmp 43, Operand.tmp 45], argTypes := #[27, 32, 35] }, type := 4, pos := s, after := #[{ on := 6, ground := Ground.data }, { on := 8, ground := Ground.data }, { on := 10, ground := Ground.data }, { on := 5, ground := Ground.chain }], guard := none }
def cm_12 (s : String) : Oper := { dst := some 47, op := Op.binOp BinOp.eql 4 (Operand.tmp 40) (Operand.tmp 46) 4, type := 4, pos := s, after := #[{ on := 5, ground := Ground.data }, { on := 11, ground := Ground.data }], guard := none }
def cm_13 (s : String) : Oper := { dst := some 6, op := Op.assign (Operand.tmp 47), type := 4, pos := s, after := #[{ on := 12, ground := Ground.data }, { on := 11, ground := Ground.chain }, { on := 0, ground := Ground.phase }, { on := 1, ground := Ground.phase }, { on := 2, ground := Ground.phase }, { on := 3, ground := Ground.phase }, { on := 4, ground := Ground.phase }, { on := 5, ground := Ground.phase }, { on := 6, ground := Ground.phase }, { on := 7, ground := Ground.phase }, { on := 8, ground := Ground.phase }, { on := 9, ground := Ground.phase }, { on := 10, ground := Ground.phase }, { on := 11, ground := Ground.phase }, { on := 12, ground := Ground.phase }], guard := none }
def cm_ops (s : String) : Array Oper := #[cm_0 s, cm_1 s, cm_2 s, cm_3 s, cm_4 s, cm_5 s, cm_6 s, cm_7 s, cm_8 s, cm_9 s, cm_10 s, cm_11 s, cm_12 s, cm_13 s]
theorem cm_enter5 (s : String) (a : Act) (w : World) : (execOp a.eval (cm_5 s)).run Try.prog w = .ok (.enter 29 #[a.eval (.tmp 35), a.eval (.tmp 37), a.eval (.tmp 39)]) w := by kernel_rfl
theorem cm_enter11 (s : String) (a : Act) (w : World) : (execOp a.eval (cm_11 s)).run Try.prog w = .ok (.enter 30 #[a.eval (.tmp 41), a.eval (.tmp 43), a.eval (.tmp 45)]) w := by kernel_rfl
theorem cm_walk (s : String) {Q : Exit → Act → World → Prop} (hQ : ∀ c (a : Act) t v w, Q (.panic c) (a.put (some t) v) w → Q (.panic c) a w) (W : World) (q kb : Nat) (pv : Value) (s0 : SP) (b : Bool) (M1 : World → Prop) (M2 : World → World → Prop) (hS0 : SPB W.drew kb s0) (hc1 : Calls Try.prog 29 #[pv, kV s0.key, .int .u32 s0.ep] W.drew fun e w' => e = .returned (.bool b) ∧ M1 w') (hk1 : ∀ w2, M1 w2 → SPB w2 kb s0) (hc2 : ∀ w2, M1 w2 → Calls Try.prog 30 #[.pointer (some ⟨q, 0, none⟩), kV s0.key, .int .u32 s0.ep] w2 fun e w' => e = .returned (.bool b) ∧ M2 w2 w') (hk2 : ∀ w2 w3, M1 w2 → M2 w2 w3 → SPB w3 kb s0)
    (a : Act) (hs : 47 < a.tmps.size) (e0 : a.eval (.tmp 0) = pv) (e1 : a.eval (.tmp 1) = .pointer (some ⟨q, 0, none⟩)) (e5 : a.eval (.tmp 5) = .pointer (some ⟨kb, 0, none⟩))
    (h0 : ∀ w2, M1 w2 → ∀ w3, M2 w2 w3 → Q .normal ((((((((((((((a.put (some 35) (pv)).put (some 36) (.pointer (some ⟨kb, 3, none⟩))).put (some 37) (kV s0.key)).put (some 38) (.pointer (some ⟨kb, 39, none⟩))).put (some 39) (.int .u32 s0.ep)).put (some 41) (.pointer (some ⟨q, 0, none⟩))).put (some 42) (.pointer (some ⟨kb, 3, none⟩))).put (some 43) (kV s0.key)).put (some 44) (.pointer (some ⟨kb, 39, none⟩))).put (some 45) (.int .u32 s0.ep)).put (some 40) (.bool b)).put (some 46) (.bool b)).put (some 47) (.bool true)).put (some 6) (.bool true)) w3) :
    Code.wp Try.prog (.region 5 (cm_ops s) true) Q a W := by
  refine wp_region_held_drew (S := fun w => SPB w kb s0) (by kernel_rfl) hS0 (fun hS => ?_)
  change wpAnyH _ _ _ _ _ _ _ _ (World.drew _)
  refine wpAnyH_take (i := 0) (oi := cm_0 s) (v := pv) (by kernel_rfl) (by kernel_rfl) (by kernel_rfl) (by kernel_rfl) (fun c a w h => hQ c _ _ _ w h) (Or.inl ⟨wanted_none rfl, fun w hw => by simp only [execOp, cm_0, e0]; rfl⟩) hS ?_
  change wpAnyH _ _ _ _ _ _ _ (a.put (some 35) (pv)) _
  obtain ⟨a0_1, ha1⟩ : ∃ rr : Act, rr = a.put (some 35) (pv) := ⟨_, rfl⟩
  have qz1 : 47 < a0_1.tmps.size := by rw [ha1, sz_put]; exact hs
  have f1_1 : a0_1.eval (.tmp 1) = .pointer (some ⟨q, 0, none⟩) := by rw [ha1, ev_other _ _ _ _ (by decide)]; exact e1
  have f1_5 : a0_1.eval (.tmp 5) = .pointer (some ⟨kb, 0, none⟩) := by rw [ha1, ev_other _ _ _ _ (by decide)]; exact e5
  have f1_35 : a0_1.eval (.tmp 35) = pv := by rw [ha1]; exact ev_same _ _ _ (Nat.lt_of_le_of_lt (by decide) hs)
  rw [← ha1] at h0 ⊢
  clear ha1
  refine wpAnyH_take (i := 1) (oi := cm_1 s) (v := .pointer (some ⟨kb, 3, none⟩)) (by kernel_rfl) (by kernel_rfl) (by kernel_rfl) (by kernel_rfl) (fun c a w h => hQ c _ _ _ w h) (Or.inl ⟨wanted_none rfl, fun w hw => fld SPT kb 0 3 3 (fS3 kb) rfl f1_5 w⟩) hS ?_
  change wpAnyH _ _ _ _ _ _ _ (a0_1.put (some 36) (.pointer (some ⟨kb, 3, none⟩))) _
  obtain ⟨a0_2, ha2⟩ : ∃ rr : Act, rr = a0_1.put (some 36) (.pointer (some ⟨kb, 3, none⟩)) := ⟨_, rfl⟩
  have qz2 : 47 < a0_2.tmps.size := by rw [ha2, sz_put]; exact qz1
  have f2_1 : a0_2.eval (.tmp 1) = .pointer (some ⟨q, 0, none⟩) := by rw [ha2, ev_other _ _ _ _ (by decide)]; exact f1_1
  have f2_5 : a0_2.eval (.tmp 5) = .pointer (some ⟨kb, 0, none⟩) := by rw [ha2, ev_other _ _ _ _ (by decide)]; exact f1_5
  have f2_35 : a0_2.eval (.tmp 35) = pv := by rw [ha2, ev_other _ _ _ _ (by decide)]; exact f1_35
  have f2_36 : a0_2.eval (.tmp 36) = .pointer (some ⟨kb, 3, none⟩) := by rw [ha2]; exact ev_same _ _ _ (Nat.lt_of_le_of_lt (by decide) qz1)
  rw [← ha2] at h0 ⊢
  clear ha2
  refine wpAnyH_take (i := 2) (oi := cm_2 s) (v := kV s0.key) (by kernel_rfl) (by kernel_rfl) (by kernel_rfl) (by kernel_rfl) (fun c a w h => hQ c _ _ _ w h) (Or.inl ⟨wanted_none rfl, fun w hw => run_loadO rfl f2_36 (run_ldK hw.key)⟩) hS ?_
  change wpAnyH _ _ _ _ _ _ _ (a0_2.put (some 37) (kV s0.key)) _
  obtain ⟨a0_3, ha3⟩ : ∃ rr : Act, rr = a0_2.put (some 37) (kV s0.key) := ⟨_, rfl⟩
  have qz3 : 47 < a0_3.tmps.size := by rw [ha3, sz_put]; exact qz2
  have f3_1 : a0_3.eval (.tmp 1) = .pointer (some ⟨q, 0, none⟩) := by rw [ha3, ev_other _ _ _ _ (by decide)]; exact f2_1
  have f3_5 : a0_3.eval (.tmp 5) = .pointer (some ⟨kb, 0, none⟩) := by rw [ha3, ev_other _ _ _ _ (by decide)]; exact f2_5
  have f3_35 : a0_3.eval (.tmp 35) = pv := by rw [ha3, ev_other _ _ _ _ (by decide)]; exact f2_35
  have f3_37 : a0_3.eval (.tmp 37) = kV s0.key := by rw [ha3]; exact ev_same _ _ _ (Nat.lt_of_le_of_lt (by decide) qz2)
  rw [← ha3] at h0 ⊢
  clear ha3
  refine wpAnyH_take (i := 3) (oi := cm_3 s) (v := .pointer (some ⟨kb, 39, none⟩)) (by kernel_rfl) (by kernel_rfl) (by kernel_rfl) (by kernel_rfl) (fun c a w h => hQ c _ _ _ w h) (Or.inl ⟨wanted_none rfl, fun w hw => fld SPT kb 0 5 39 (fS5 kb) rfl f3_5 w⟩) hS ?_
  change wpAnyH _ _ _ _ _ _ _ (a0_3.put (some 38) (.pointer (some ⟨kb, 39, none⟩))) _
  obtain ⟨a0_4, ha4⟩ : ∃ rr : Act, rr = a0_3.put (some 38) (.pointer (some ⟨kb, 39, none⟩)) := ⟨_, rfl⟩
  have qz4 : 47 < a0_4.tmps.size := by rw [ha4, sz_put]; exact qz3
  have f4_1 : a0_4.eval (.tmp 1) = .pointer (some ⟨q, 0, none⟩) := by rw [ha4, ev_other _ _ _ _ (by decide)]; exact f3_1
  have f4_5 : a0_4.eval (.tmp 5) = .pointer (some ⟨kb, 0, none⟩) := by rw [ha4, ev_other _ _ _ _ (by decide)]; exact f3_5
  have f4_35 : a0_4.eval (.tmp 35) = pv := by rw [ha4, ev_other _ _ _ _ (by decide)]; exact f3_35
  have f4_37 : a0_4.eval (.tmp 37) = kV s0.key := by rw [ha4, ev_other _ _ _ _ (by decide)]; exact f3_37
  have f4_38 : a0_4.eval (.tmp 38) = .pointer (some ⟨kb, 39, none⟩) := by rw [ha4]; exact ev_same _ _ _ (Nat.lt_of_le_of_lt (by decide) qz3)
  rw [← ha4] at h0 ⊢
  clear ha4
  refine wpAnyH_take (i := 4) (oi := cm_4 s) (v := .int .u32 s0.ep) (by kernel_rfl) (by kernel_rfl) (by kernel_rfl) (by kernel_rfl) (fun c a w h => hQ c _ _ _ w h) (Or.inl ⟨wanted_none rfl, fun w hw => run_loadO rfl f4_38 (load_u32 hw.ep)⟩) hS ?_
  change wpAnyH _ _ _ _ _ _ _ (a0_4.put (some 39) (.int .u32 s0.ep)) _
  obtain ⟨a0_5, ha5⟩ : ∃ rr : Act, rr = a0_4.put (some 39) (.int .u32 s0.ep) := ⟨_, rfl⟩
  have qz5 : 47 < a0_5.tmps.size := by rw [ha5, sz_put]; exact qz4
  have f5_1 : a0_5.eval (.tmp 1) = .pointer (some ⟨q, 0, none⟩) := by rw [ha5, ev_other _ _ _ _ (by decide)]; exact f4_1
  have f5_5 : a0_5.eval (.tmp 5) = .pointer (some ⟨kb, 0, none⟩) := by rw [ha5, ev_other _ _ _ _ (by decide)]; exact f4_5
  have f5_35 : a0_5.eval (.tmp 35) = pv := by rw [ha5, ev_other _ _ _ _ (by decide)]; exact f4_35
  have f5_37 : a0_5.eval (.tmp 37) = kV s0.key := by rw [ha5, ev_other _ _ _ _ (by decide)]; exact f4_37
  have f5_39 : a0_5.eval (.tmp 39) = .int .u32 s0.ep := by rw [ha5]; exact ev_same _ _ _ (Nat.lt_of_le_of_lt (by decide) qz4)
  rw [← ha5] at h0 ⊢
  clear ha5
  refine wpAnyH_take (i := 6) (oi := cm_6 s) (v := .pointer (some ⟨q, 0, none⟩)) (by kernel_rfl) (by kernel_rfl) (by kernel_rfl) (by kernel_rfl) (fun c a w h => hQ c _ _ _ w h) (Or.inl ⟨wanted_none rfl, fun w hw => by simp only [execOp, cm_6, f5_1]; rfl⟩) hS ?_
  change wpAnyH _ _ _ _ _ _ _ (a0_5.put (some 41) (.pointer (some ⟨q, 0, none⟩))) _
  obtain ⟨a0_6, ha6⟩ : ∃ rr : Act, rr = a0_5.put (some 41) (.pointer (some ⟨q, 0, none⟩)) := ⟨_, rfl⟩
  have qz6 : 47 < a0_6.tmps.size := by rw [ha6, sz_put]; exact qz5
  have f6_5 : a0_6.eval (.tmp 5) = .pointer (some ⟨kb, 0, none⟩) := by rw [ha6, ev_other _ _ _ _ (by decide)]; exact f5_5
  have f6_35 : a0_6.eval (.tmp 35) = pv := by rw [ha6, ev_other _ _ _ _ (by decide)]; exact f5_35
  have f6_37 : a0_6.eval (.tmp 37) = kV s0.key := by rw [ha6, ev_other _ _ _ _ (by decide)]; exact f5_37
  have f6_39 : a0_6.eval (.tmp 39) = .int .u32 s0.ep := by rw [ha6, ev_other _ _ _ _ (by decide)]; exact f5_39
  have f6_41 : a0_6.eval (.tmp 41) = .pointer (some ⟨q, 0, none⟩) := by rw [ha6]; exact ev_same _ _ _ (Nat.lt_of_le_of_lt (by decide) qz5)
  rw [← ha6] at h0 ⊢
  clear ha6
  refine wpAnyH_take (i := 7) (oi := cm_7 s) (v := .pointer (some ⟨kb, 3, none⟩)) (by kernel_rfl) (by kernel_rfl) (by kernel_rfl) (by kernel_rfl) (fun c a w h => hQ c _ _ _ w h) (Or.inl ⟨wanted_none rfl, fun w hw => fld SPT kb 0 3 3 (fS3 kb) rfl f6_5 w⟩) hS ?_
  change wpAnyH _ _ _ _ _ _ _ (a0_6.put (some 42) (.pointer (some ⟨kb, 3, none⟩))) _
  obtain ⟨a0_7, ha7⟩ : ∃ rr : Act, rr = a0_6.put (some 42) (.pointer (some ⟨kb, 3, none⟩)) := ⟨_, rfl⟩
  have qz7 : 47 < a0_7.tmps.size := by rw [ha7, sz_put]; exact qz6
  have f7_5 : a0_7.eval (.tmp 5) = .pointer (some ⟨kb, 0, none⟩) := by rw [ha7, ev_other _ _ _ _ (by decide)]; exact f6_5
  have f7_35 : a0_7.eval (.tmp 35) = pv := by rw [ha7, ev_other _ _ _ _ (by decide)]; exact f6_35
  have f7_37 : a0_7.eval (.tmp 37) = kV s0.key := by rw [ha7, ev_other _ _ _ _ (by decide)]; exact f6_37
  have f7_39 : a0_7.eval (.tmp 39) = .int .u32 s0.ep := by rw [ha7, ev_other _ _ _ _ (by decide)]; exact f6_39
  have f7_41 : a0_7.eval (.tmp 41) = .pointer (some ⟨q, 0, none⟩) := by rw [ha7, ev_other _ _ _ _ (by decide)]; exact f6_41
  have f7_42 : a0_7.eval (.tmp 42) = .pointer (some ⟨kb, 3, none⟩) := by rw [ha7]; exact ev_same _ _ _ (Nat.lt_of_le_of_lt (by decide) qz6)
  rw [← ha7] at h0 ⊢
  clear ha7
  refine wpAnyH_take (i := 8) (oi := cm_8 s) (v := kV s0.key) (by kernel_rfl) (by kernel_rfl) (by kernel_rfl) (by kernel_rfl) (fun c a w h => hQ c _ _ _ w h) (Or.inl ⟨wanted_none rfl, fun w hw => run_loadO rfl f7_42 (run_ldK hw.key)⟩) hS ?_
  change wpAnyH _ _ _ _ _ _ _ (a0_7.put (some 43) (kV s0.key)) _
  obtain ⟨a0_8, ha8⟩ : ∃ rr : Act, rr = a0_7.put (some 43) (kV s0.key) := ⟨_, rfl⟩
  have qz8 : 47 < a0_8.tmps.size := by rw [ha8, sz_put]; exact qz7
  have f8_5 : a0_8.eval (.tmp 5) = .pointer (some ⟨kb, 0, none⟩) := by rw [ha8, ev_other _ _ _ _ (by decide)]; exact f7_5
  have f8_35 : a0_8.eval (.tmp 35) = pv := by rw [ha8, ev_other _ _ _ _ (by decide)]; exact f7_35
  have f8_37 : a0_8.eval (.tmp 37) = kV s0.key := by rw [ha8, ev_other _ _ _ _ (by decide)]; exact f7_37
  have f8_39 : a0_8.eval (.tmp 39) = .int .u32 s0.ep := by rw [ha8, ev_other _ _ _ _ (by decide)]; exact f7_39
  have f8_41 : a0_8.eval (.tmp 41) = .pointer (some ⟨q, 0, none⟩) := by rw [ha8, ev_other _ _ _ _ (by decide)]; exact f7_41
  have f8_43 : a0_8.eval (.tmp 43) = kV s0.key := by rw [ha8]; exact ev_same _ _ _ (Nat.lt_of_le_of_lt (by decide) qz7)
  rw [← ha8] at h0 ⊢
  clear ha8
  refine wpAnyH_take (i := 9) (oi := cm_9 s) (v := .pointer (some ⟨kb, 39, none⟩)) (by kernel_rfl) (by kernel_rfl) (by kernel_rfl) (by kernel_rfl) (fun c a w h => hQ c _ _ _ w h) (Or.inl ⟨wanted_none rfl, fun w hw => fld SPT kb 0 5 39 (fS5 kb) rfl f8_5 w⟩) hS ?_
  change wpAnyH _ _ _ _ _ _ _ (a0_8.put (some 44) (.pointer (some ⟨kb, 39, none⟩))) _
  obtain ⟨a0_9, ha9⟩ : ∃ rr : Act, rr = a0_8.put (some 44) (.pointer (some ⟨kb, 39, none⟩)) := ⟨_, rfl⟩
  have qz9 : 47 < a0_9.tmps.size := by rw [ha9, sz_put]; exact qz8
  have f9_35 : a0_9.eval (.tmp 35) = pv := by rw [ha9, ev_other _ _ _ _ (by decide)]; exact f8_35
  have f9_37 : a0_9.eval (.tmp 37) = kV s0.key := by rw [ha9, ev_other _ _ _ _ (by decide)]; exact f8_37
  have f9_39 : a0_9.eval (.tmp 39) = .int .u32 s0.ep := by rw [ha9, ev_other _ _ _ _ (by decide)]; exact f8_39
  have f9_41 : a0_9.eval (.tmp 41) = .pointer (some ⟨q, 0, none⟩) := by rw [ha9, ev_other _ _ _ _ (by decide)]; exact f8_41
  have f9_43 : a0_9.eval (.tmp 43) = kV s0.key := by rw [ha9, ev_other _ _ _ _ (by decide)]; exact f8_43
  have f9_44 : a0_9.eval (.tmp 44) = .pointer (some ⟨kb, 39, none⟩) := by rw [ha9]; exact ev_same _ _ _ (Nat.lt_of_le_of_lt (by decide) qz8)
  rw [← ha9] at h0 ⊢
  clear ha9
  refine wpAnyH_take (i := 10) (oi := cm_10 s) (v := .int .u32 s0.ep) (by kernel_rfl) (by kernel_rfl) (by kernel_rfl) (by kernel_rfl) (fun c a w h => hQ c _ _ _ w h) (Or.inl ⟨wanted_none rfl, fun w hw => run_loadO rfl f9_44 (load_u32 hw.ep)⟩) hS ?_
  change wpAnyH _ _ _ _ _ _ _ (a0_9.put (some 45) (.int .u32 s0.ep)) _
  obtain ⟨a0_10, ha10⟩ : ∃ rr : Act, rr = a0_9.put (some 45) (.int .u32 s0.ep) := ⟨_, rfl⟩
  have qz10 : 47 < a0_10.tmps.size := by rw [ha10, sz_put]; exact qz9
  have f10_35 : a0_10.eval (.tmp 35) = pv := by rw [ha10, ev_other _ _ _ _ (by decide)]; exact f9_35
  have f10_37 : a0_10.eval (.tmp 37) = kV s0.key := by rw [ha10, ev_other _ _ _ _ (by decide)]; exact f9_37
  have f10_39 : a0_10.eval (.tmp 39) = .int .u32 s0.ep := by rw [ha10, ev_other _ _ _ _ (by decide)]; exact f9_39
  have f10_41 : a0_10.eval (.tmp 41) = .pointer (some ⟨q, 0, none⟩) := by rw [ha10, ev_other _ _ _ _ (by decide)]; exact f9_41
  have f10_43 : a0_10.eval (.tmp 43) = kV s0.key := by rw [ha10, ev_other _ _ _ _ (by decide)]; exact f9_43
  have f10_45 : a0_10.eval (.tmp 45) = .int .u32 s0.ep := by rw [ha10]; exact ev_same _ _ _ (Nat.lt_of_le_of_lt (by decide) qz9)
  rw [← ha10] at h0 ⊢
  clear ha10
  refine wpAnyH_ready (rs := [5]) (by kernel_rfl) (by simp) ?_
  refine AllReadyH.cons (o := cm_5 s) (by kernel_rfl) (fun KQ hKQ => ?_) AllReadyH.nil
  rw [if_pos (wanted_none rfl)]
  refine step_enterE 29 #[pv, kV s0.key, .int .u32 s0.ep] (by rw [cm_enter5, f10_35, f10_37, f10_39]) (fun V w' => V = .bool b ∧ M1 w') (hc1.mono (fun e w' ⟨h1, h2⟩ => ⟨_, h1, rfl, h2⟩)) ?_
  rintro _ w2 ⟨rfl, hM1⟩
  refine hKQ.out _ _ (hk1 w2 hM1) (fun _ => ?_)
  clear hKQ KQ
  change wpAnyH _ _ _ _ _ _ _ (a0_10.put (some 40) (.bool b)) _
  have h0 := h0 w2 hM1
  obtain ⟨a0_11, ha11⟩ : ∃ rr : Act, rr = a0_10.put (some 40) (.bool b) := ⟨_, rfl⟩
  have qz11 : 47 < a0_11.tmps.size := by rw [ha11, sz_put]; exact qz10
  have f11_40 : a0_11.eval (.tmp 40) = .bool b := by rw [ha11]; exact ev_same _ _ _ (Nat.lt_of_le_of_lt (by decide) qz10)
  have f11_41 : a0_11.eval (.tmp 41) = .pointer (some ⟨q, 0, none⟩) := by rw [ha11, ev_other _ _ _ _ (by decide)]; exact f10_41
  have f11_43 : a0_11.eval (.tmp 43) = kV s0.key := by rw [ha11, ev_other _ _ _ _ (by decide)]; exact f10_43
  have f11_45 : a0_11.eval (.tmp 45) = .int .u32 s0.ep := by rw [ha11, ev_other _ _ _ _ (by decide)]; exact f10_45
  rw [← ha11] at h0 ⊢
  clear ha11
  refine wpAnyH_ready (rs := [11]) (by kernel_rfl) (by simp) ?_
  refine AllReadyH.cons (o := cm_11 s) (by kernel_rfl) (fun KQ hKQ => ?_) AllReadyH.nil
  rw [if_pos (wanted_none rfl)]
  refine step_enterE 30 #[.pointer (some ⟨q, 0, none⟩), kV s0.key, .int .u32 s0.ep] (by rw [cm_enter11, f11_41, f11_43, f11_45]) (fun V w' => V = .bool b ∧ M2 w2 w') ((hc2 w2 hM1).mono (fun e w' ⟨h1, h2⟩ => ⟨_, h1, rfl, h2⟩)) ?_
  rintro _ w3 ⟨rfl, hM2⟩
  refine hKQ.out _ _ (hk2 w2 w3 hM1 hM2) (fun _ => ?_)
  clear hKQ KQ
  change wpAnyH _ _ _ _ _ _ _ (a0_11.put (some 46) (.bool b)) _
  have h0 := h0 w3 hM2
  obtain ⟨a0_12, ha12⟩ : ∃ rr : Act, rr = a0_11.put (some 46) (.bool b) := ⟨_, rfl⟩
  have qz12 : 47 < a0_12.tmps.size := by rw [ha12, sz_put]; exact qz11
  have f12_40 : a0_12.eval (.tmp 40) = .bool b := by rw [ha12, ev_other _ _ _ _ (by decide)]; exact f11_40
  have f12_46 : a0_12.eval (.tmp 46) = .bool b := by rw [ha12]; exact ev_same _ _ _ (Nat.lt_of_le_of_lt (by decide) qz11)
  rw [← ha12] at h0 ⊢
  clear ha12
  refine wpAnyH_take (i := 12) (oi := cm_12 s) (v := .bool true) (by kernel_rfl) (by kernel_rfl) (by kernel_rfl) (by kernel_rfl) (fun c a w h => hQ c _ _ _ w h) (Or.inl ⟨wanted_none rfl, fun w hw => run_eqBB rfl f12_40 f12_46 w⟩) (hk2 w2 w3 hM1 hM2) ?_
  change wpAnyH _ _ _ _ _ _ _ (a0_12.put (some 47) (.bool true)) _
  obtain ⟨a0_13, ha13⟩ : ∃ rr : Act, rr = a0_12.put (some 47) (.bool true) := ⟨_, rfl⟩
  have qz13 : 47 < a0_13.tmps.size := by rw [ha13, sz_put]; exact qz12
  have f13_47 : a0_13.eval (.tmp 47) = .bool true := by rw [ha13]; exact ev_same _ _ _ (Nat.lt_of_le_of_lt (by decide) qz12)
  rw [← ha13] at h0 ⊢
  clear ha13
  refine wpAnyH_take (i := 13) (oi := cm_13 s) (v := .bool true) (by kernel_rfl) (by kernel_rfl) (by kernel_rfl) (by kernel_rfl) (fun c a w h => hQ c _ _ _ w h) (Or.inl ⟨wanted_none rfl, fun w hw => by simp only [execOp, cm_13, f13_47]; rfl⟩) (hk2 w2 w3 hM1 hM2) ?_
  change wpAnyH _ _ _ _ _ _ _ (a0_13.put (some 6) (.bool true)) _
  obtain ⟨a0_14, ha14⟩ : ∃ rr : Act, rr = a0_13.put (some 6) (.bool true) := ⟨_, rfl⟩
  have qz14 : 47 < a0_14.tmps.size := by rw [ha14, sz_put]; exact qz13
  rw [← ha14] at h0 ⊢
  clear ha14
  refine wpAnyH_done (by kernel_rfl) ?_ _
  exact h0
def cv_0 (s : String) : Oper := { dst := some 50, op := Op.move (Operand.tmp 0), type := 24, pos := s, after := #[], guard := none }
def cv_1 (s : String) : Oper := { dst := some 51, op := Op.fieldAddr 39 (Operand.tmp 5) 3, type := 0, pos := s, after := #[], guard := none }
def cv_2 (s : String) : Oper := { dst := some 52, op := Op.load 32 (Operand.tmp 51), type := 32, pos := s, after := #[{ on := 1, ground := Ground.data }], guard := none }
def cv_3 (s : String) : Oper := { dst := some 53, op := Op.fieldAddr 39 (Operand.tmp 5) 6, type := 0, pos := s, after := #[], guard := none }
def cv_4 (s : String) : Oper := { dst := some 54, op := Op.load 34 (Operand.tmp 53), type := 34, pos := s, after := #[{ on := 3, ground := Ground.data }], guard := none }
def cv_5 (s : String) : Oper := { dst := some 55, op := Op.fieldAddr 39 (Operand.tmp 5) 7, type := 0, pos := s, after := #[], guard := none }
def cv_6 (s : String) : Oper := { dst := some 56, op := Op.load 34 (Operand.tmp 55), type := 34, pos := s, after := #[{ on := 5, ground := Ground.data }], guard := none }
def cv_7 (s : String) : Oper := { dst := some 57, op := Op.call { callee := Callee.value (Operand.func 31), args := #[Operand.tmp 50, Operand.tmp 52, Operand.tmp 54, Operand.tmp 56], argTypes := #[24, 32, 34, 34] }, type := 4, pos := s, after := #[{ on := 0, ground := Ground.data }, { on := 2, ground := Ground.data }, { on := 4, ground := Ground.data }, { on := 6, ground := Ground.data }], guard := none }
def cv_8 (s : String) : Oper := { dst := some 58, op := Op.move (Operand.tmp 1), type := 27, pos := s, after := #[], guard := none }
def cv_9 (s : String) : Oper := { dst := some 59, op := Op.fieldAddr 39 (Operand.tmp 5) 3, type := 0, pos := s, after := #[], guard := none }
def cv_10 (s : String) : Oper := { dst := some 60, op := Op.load 32 (Operand.tmp 59), type := 32, pos := s, after := #[{ on := 9, ground := Ground.data }], guard := none }
def cv_11 (s : String) : Oper := { dst := some 61, op := Op.fieldAddr 39 (Operand.tmp 5) 6, type := 0, pos := s, after := #[], guard := none }
def cv_12 (s : String) : Oper := { dst := some 62, op := Op.load 34 (Operand.tmp 61), type := 34, pos := s, after := #[{ on := 11, ground := Ground.data }], guard := none }
def cv_13 (s : String) : Oper := { dst := some 63, op := Op.fieldAddr 39 (Operand.tmp 5) 7, type := 0, pos := s, after := #[], guard := none }
def cv_14 (s : String) : Oper := { dst := some 64, op := Op.load 34 (Operand.tmp 63), type := 34, pos := s, after := #[{ on := 13, ground := Ground.data }], guard := none }
def cv_15 (s : String) : Oper := { dst := some 65, op := Op.call { callee := Callee.value (Operand.func 32), args := #[Operand.tmp 58, Operand.tmp 60, Operand.tmp 62, Operand.tmp 64], argTypes := #[27, 32, 34, 34] }, type := 4, pos := s, after := #[{ on := 8, ground := Ground.data }, { on := 10, ground := Ground.data }, { on := 12, ground := Ground.data }, { on := 14, ground := Ground.data }, { on := 7, ground := Ground.chain }], guard := none }
def cv_16 (s : String) : Oper := { dst := some 66, op := Op.binOp BinOp.eql 4 (Operand.tmp 57) (Operand.tmp 65) 4, type := 4, pos := s, after := #[{ on := 7, ground := Ground.data }, { on := 15, ground := Ground.data }], guard := none }
def cv_17 (s : String) : Oper := { dst := some 6, op := Op.assign (Operand.tmp 66), type := 4, pos := s, after := #[{ on := 16, ground := Ground.data }, { on := 15, ground := Ground.chain }, { on := 0, ground := Ground.phase }, { on := 1, ground := Ground.phase }, { on := 2, ground := Ground.phase }, { on := 3, ground := Ground.phase }, { on := 4, ground := Ground.phase }, { on := 5, ground := Ground.phase }, { on := 6, ground := Ground.phase }, { on := 7, ground := Ground.phase }, { on := 8, ground := Ground.phase }, { on := 9, ground := Ground.phase }, { on := 10, ground := Ground.phase }, { on := 11, ground := Ground.phase }, { on := 12, ground := Ground.phase }, { on := 13, ground := Ground.phase }, { on := 14, ground := Ground.phase }, { on := 15, ground := Ground.phase }, { on := 16, ground := Ground.phase }], guard := none }
def cv_ops (s : String) : Array Oper := #[cv_0 s, cv_1 s, cv_2 s, cv_3 s, cv_4 s, cv_5 s, cv_6 s, cv_7 s, cv_8 s, cv_9 s, cv_10 s, cv_11 s, cv_12 s, cv_13 s, cv_14 s, cv_15 s, cv_16 s, cv_17 s]
theorem cv_enter7 (s : String) (a : Act) (w : World) : (execOp a.eval (cv_7 s)).run Try.prog w = .ok (.enter 31 #[a.eval (.tmp 50), a.eval (.tmp 52), a.eval (.tmp 54), a.eval (.tmp 56)]) w := by kernel_rfl
theorem cv_enter15 (s : String) (a : Act) (w : World) : (execOp a.eval (cv_15 s)).run Try.prog w = .ok (.enter 32 #[a.eval (.tmp 58), a.eval (.tmp 60), a.eval (.tmp 62), a.eval (.tmp 64)]) w := by kernel_rfl
theorem cv_walk (s : String) {Q : Exit → Act → World → Prop} (hQ : ∀ c (a : Act) t v w, Q (.panic c) (a.put (some t) v) w → Q (.panic c) a w) (W : World) (q kb : Nat) (pv : Value) (s0 : SP) (b : Bool) (M1 : World → Prop) (M2 : World → World → Prop) (hS0 : SPB W.drew kb s0) (hc1 : Calls Try.prog 31 #[pv, kV s0.key, plV s0.fr, plV s0.to] W.drew fun e w' => e = .returned (.bool b) ∧ M1 w') (hk1 : ∀ w2, M1 w2 → SPB w2 kb s0) (hc2 : ∀ w2, M1 w2 → Calls Try.prog 32 #[.pointer (some ⟨q, 0, none⟩), kV s0.key, plV s0.fr, plV s0.to] w2 fun e w' => e = .returned (.bool b) ∧ M2 w2 w') (hk2 : ∀ w2 w3, M1 w2 → M2 w2 w3 → SPB w3 kb s0)
    (a : Act) (hs : 66 < a.tmps.size) (e0 : a.eval (.tmp 0) = pv) (e1 : a.eval (.tmp 1) = .pointer (some ⟨q, 0, none⟩)) (e5 : a.eval (.tmp 5) = .pointer (some ⟨kb, 0, none⟩))
    (h0 : ∀ w2, M1 w2 → ∀ w3, M2 w2 w3 → Q .normal ((((((((((((((((((a.put (some 50) (pv)).put (some 51) (.pointer (some ⟨kb, 3, none⟩))).put (some 52) (kV s0.key)).put (some 53) (.pointer (some ⟨kb, 40, none⟩))).put (some 54) (plV s0.fr)).put (some 55) (.pointer (some ⟨kb, 42, none⟩))).put (some 56) (plV s0.to)).put (some 58) (.pointer (some ⟨q, 0, none⟩))).put (some 59) (.pointer (some ⟨kb, 3, none⟩))).put (some 60) (kV s0.key)).put (some 61) (.pointer (some ⟨kb, 40, none⟩))).put (some 62) (plV s0.fr)).put (some 63) (.pointer (some ⟨kb, 42, none⟩))).put (some 64) (plV s0.to)).put (some 57) (.bool b)).put (some 65) (.bool b)).put (some 66) (.bool true)).put (some 6) (.bool true)) w3) :
    Code.wp Try.prog (.region 7 (cv_ops s) true) Q a W := by
  refine wp_region_held_drew (S := fun w => SPB w kb s0) (by kernel_rfl) hS0 (fun hS => ?_)
  change wpAnyH _ _ _ _ _ _ _ _ (World.drew _)
  refine wpAnyH_take (i := 0) (oi := cv_0 s) (v := pv) (by kernel_rfl) (by kernel_rfl) (by kernel_rfl) (by kernel_rfl) (fun c a w h => hQ c _ _ _ w h) (Or.inl ⟨wanted_none rfl, fun w hw => by simp only [execOp, cv_0, e0]; rfl⟩) hS ?_
  change wpAnyH _ _ _ _ _ _ _ (a.put (some 50) (pv)) _
  obtain ⟨a0_1, ha1⟩ : ∃ rr : Act, rr = a.put (some 50) (pv) := ⟨_, rfl⟩
  have qz1 : 66 < a0_1.tmps.size := by rw [ha1, sz_put]; exact hs
  have f1_1 : a0_1.eval (.tmp 1) = .pointer (some ⟨q, 0, none⟩) := by rw [ha1, ev_other _ _ _ _ (by decide)]; exact e1
  have f1_5 : a0_1.eval (.tmp 5) = .pointer (some ⟨kb, 0, none⟩) := by rw [ha1, ev_other _ _ _ _ (by decide)]; exact e5
  have f1_50 : a0_1.eval (.tmp 50) = pv := by rw [ha1]; exact ev_same _ _ _ (Nat.lt_of_le_of_lt (by decide) hs)
  rw [← ha1] at h0 ⊢
  clear ha1
  refine wpAnyH_take (i := 1) (oi := cv_1 s) (v := .pointer (some ⟨kb, 3, none⟩)) (by kernel_rfl) (by kernel_rfl) (by kernel_rfl) (by kernel_rfl) (fun c a w h => hQ c _ _ _ w h) (Or.inl ⟨wanted_none rfl, fun w hw => fld SPT kb 0 3 3 (fS3 kb) rfl f1_5 w⟩) hS ?_
  change wpAnyH _ _ _ _ _ _ _ (a0_1.put (some 51) (.pointer (some ⟨kb, 3, none⟩))) _
  obtain ⟨a0_2, ha2⟩ : ∃ rr : Act, rr = a0_1.put (some 51) (.pointer (some ⟨kb, 3, none⟩)) := ⟨_, rfl⟩
  have qz2 : 66 < a0_2.tmps.size := by rw [ha2, sz_put]; exact qz1
  have f2_1 : a0_2.eval (.tmp 1) = .pointer (some ⟨q, 0, none⟩) := by rw [ha2, ev_other _ _ _ _ (by decide)]; exact f1_1
  have f2_5 : a0_2.eval (.tmp 5) = .pointer (some ⟨kb, 0, none⟩) := by rw [ha2, ev_other _ _ _ _ (by decide)]; exact f1_5
  have f2_50 : a0_2.eval (.tmp 50) = pv := by rw [ha2, ev_other _ _ _ _ (by decide)]; exact f1_50
  have f2_51 : a0_2.eval (.tmp 51) = .pointer (some ⟨kb, 3, none⟩) := by rw [ha2]; exact ev_same _ _ _ (Nat.lt_of_le_of_lt (by decide) qz1)
  rw [← ha2] at h0 ⊢
  clear ha2
  refine wpAnyH_take (i := 2) (oi := cv_2 s) (v := kV s0.key) (by kernel_rfl) (by kernel_rfl) (by kernel_rfl) (by kernel_rfl) (fun c a w h => hQ c _ _ _ w h) (Or.inl ⟨wanted_none rfl, fun w hw => run_loadO rfl f2_51 (run_ldK hw.key)⟩) hS ?_
  change wpAnyH _ _ _ _ _ _ _ (a0_2.put (some 52) (kV s0.key)) _
  obtain ⟨a0_3, ha3⟩ : ∃ rr : Act, rr = a0_2.put (some 52) (kV s0.key) := ⟨_, rfl⟩
  have qz3 : 66 < a0_3.tmps.size := by rw [ha3, sz_put]; exact qz2
  have f3_1 : a0_3.eval (.tmp 1) = .pointer (some ⟨q, 0, none⟩) := by rw [ha3, ev_other _ _ _ _ (by decide)]; exact f2_1
  have f3_5 : a0_3.eval (.tmp 5) = .pointer (some ⟨kb, 0, none⟩) := by rw [ha3, ev_other _ _ _ _ (by decide)]; exact f2_5
  have f3_50 : a0_3.eval (.tmp 50) = pv := by rw [ha3, ev_other _ _ _ _ (by decide)]; exact f2_50
  have f3_52 : a0_3.eval (.tmp 52) = kV s0.key := by rw [ha3]; exact ev_same _ _ _ (Nat.lt_of_le_of_lt (by decide) qz2)
  rw [← ha3] at h0 ⊢
  clear ha3
  refine wpAnyH_take (i := 3) (oi := cv_3 s) (v := .pointer (some ⟨kb, 40, none⟩)) (by kernel_rfl) (by kernel_rfl) (by kernel_rfl) (by kernel_rfl) (fun c a w h => hQ c _ _ _ w h) (Or.inl ⟨wanted_none rfl, fun w hw => fld SPT kb 0 6 40 (fS6 kb) rfl f3_5 w⟩) hS ?_
  change wpAnyH _ _ _ _ _ _ _ (a0_3.put (some 53) (.pointer (some ⟨kb, 40, none⟩))) _
  obtain ⟨a0_4, ha4⟩ : ∃ rr : Act, rr = a0_3.put (some 53) (.pointer (some ⟨kb, 40, none⟩)) := ⟨_, rfl⟩
  have qz4 : 66 < a0_4.tmps.size := by rw [ha4, sz_put]; exact qz3
  have f4_1 : a0_4.eval (.tmp 1) = .pointer (some ⟨q, 0, none⟩) := by rw [ha4, ev_other _ _ _ _ (by decide)]; exact f3_1
  have f4_5 : a0_4.eval (.tmp 5) = .pointer (some ⟨kb, 0, none⟩) := by rw [ha4, ev_other _ _ _ _ (by decide)]; exact f3_5
  have f4_50 : a0_4.eval (.tmp 50) = pv := by rw [ha4, ev_other _ _ _ _ (by decide)]; exact f3_50
  have f4_52 : a0_4.eval (.tmp 52) = kV s0.key := by rw [ha4, ev_other _ _ _ _ (by decide)]; exact f3_52
  have f4_53 : a0_4.eval (.tmp 53) = .pointer (some ⟨kb, 40, none⟩) := by rw [ha4]; exact ev_same _ _ _ (Nat.lt_of_le_of_lt (by decide) qz3)
  rw [← ha4] at h0 ⊢
  clear ha4
  refine wpAnyH_take (i := 4) (oi := cv_4 s) (v := plV s0.fr) (by kernel_rfl) (by kernel_rfl) (by kernel_rfl) (by kernel_rfl) (fun c a w h => hQ c _ _ _ w h) (Or.inl ⟨wanted_none rfl, fun w hw => run_loadO rfl f4_53 (run_ldP hw.fr)⟩) hS ?_
  change wpAnyH _ _ _ _ _ _ _ (a0_4.put (some 54) (plV s0.fr)) _
  obtain ⟨a0_5, ha5⟩ : ∃ rr : Act, rr = a0_4.put (some 54) (plV s0.fr) := ⟨_, rfl⟩
  have qz5 : 66 < a0_5.tmps.size := by rw [ha5, sz_put]; exact qz4
  have f5_1 : a0_5.eval (.tmp 1) = .pointer (some ⟨q, 0, none⟩) := by rw [ha5, ev_other _ _ _ _ (by decide)]; exact f4_1
  have f5_5 : a0_5.eval (.tmp 5) = .pointer (some ⟨kb, 0, none⟩) := by rw [ha5, ev_other _ _ _ _ (by decide)]; exact f4_5
  have f5_50 : a0_5.eval (.tmp 50) = pv := by rw [ha5, ev_other _ _ _ _ (by decide)]; exact f4_50
  have f5_52 : a0_5.eval (.tmp 52) = kV s0.key := by rw [ha5, ev_other _ _ _ _ (by decide)]; exact f4_52
  have f5_54 : a0_5.eval (.tmp 54) = plV s0.fr := by rw [ha5]; exact ev_same _ _ _ (Nat.lt_of_le_of_lt (by decide) qz4)
  rw [← ha5] at h0 ⊢
  clear ha5
  refine wpAnyH_take (i := 5) (oi := cv_5 s) (v := .pointer (some ⟨kb, 42, none⟩)) (by kernel_rfl) (by kernel_rfl) (by kernel_rfl) (by kernel_rfl) (fun c a w h => hQ c _ _ _ w h) (Or.inl ⟨wanted_none rfl, fun w hw => fld SPT kb 0 7 42 (fS7 kb) rfl f5_5 w⟩) hS ?_
  change wpAnyH _ _ _ _ _ _ _ (a0_5.put (some 55) (.pointer (some ⟨kb, 42, none⟩))) _
  obtain ⟨a0_6, ha6⟩ : ∃ rr : Act, rr = a0_5.put (some 55) (.pointer (some ⟨kb, 42, none⟩)) := ⟨_, rfl⟩
  have qz6 : 66 < a0_6.tmps.size := by rw [ha6, sz_put]; exact qz5
  have f6_1 : a0_6.eval (.tmp 1) = .pointer (some ⟨q, 0, none⟩) := by rw [ha6, ev_other _ _ _ _ (by decide)]; exact f5_1
  have f6_5 : a0_6.eval (.tmp 5) = .pointer (some ⟨kb, 0, none⟩) := by rw [ha6, ev_other _ _ _ _ (by decide)]; exact f5_5
  have f6_50 : a0_6.eval (.tmp 50) = pv := by rw [ha6, ev_other _ _ _ _ (by decide)]; exact f5_50
  have f6_52 : a0_6.eval (.tmp 52) = kV s0.key := by rw [ha6, ev_other _ _ _ _ (by decide)]; exact f5_52
  have f6_54 : a0_6.eval (.tmp 54) = plV s0.fr := by rw [ha6, ev_other _ _ _ _ (by decide)]; exact f5_54
  have f6_55 : a0_6.eval (.tmp 55) = .pointer (some ⟨kb, 42, none⟩) := by rw [ha6]; exact ev_same _ _ _ (Nat.lt_of_le_of_lt (by decide) qz5)
  rw [← ha6] at h0 ⊢
  clear ha6
  refine wpAnyH_take (i := 6) (oi := cv_6 s) (v := plV s0.to) (by kernel_rfl) (by kernel_rfl) (by kernel_rfl) (by kernel_rfl) (fun c a w h => hQ c _ _ _ w h) (Or.inl ⟨wanted_none rfl, fun w hw => run_loadO rfl f6_55 (run_ldP hw.to)⟩) hS ?_
  change wpAnyH _ _ _ _ _ _ _ (a0_6.put (some 56) (plV s0.to)) _
  obtain ⟨a0_7, ha7⟩ : ∃ rr : Act, rr = a0_6.put (some 56) (plV s0.to) := ⟨_, rfl⟩
  have qz7 : 66 < a0_7.tmps.size := by rw [ha7, sz_put]; exact qz6
  have f7_1 : a0_7.eval (.tmp 1) = .pointer (some ⟨q, 0, none⟩) := by rw [ha7, ev_other _ _ _ _ (by decide)]; exact f6_1
  have f7_5 : a0_7.eval (.tmp 5) = .pointer (some ⟨kb, 0, none⟩) := by rw [ha7, ev_other _ _ _ _ (by decide)]; exact f6_5
  have f7_50 : a0_7.eval (.tmp 50) = pv := by rw [ha7, ev_other _ _ _ _ (by decide)]; exact f6_50
  have f7_52 : a0_7.eval (.tmp 52) = kV s0.key := by rw [ha7, ev_other _ _ _ _ (by decide)]; exact f6_52
  have f7_54 : a0_7.eval (.tmp 54) = plV s0.fr := by rw [ha7, ev_other _ _ _ _ (by decide)]; exact f6_54
  have f7_56 : a0_7.eval (.tmp 56) = plV s0.to := by rw [ha7]; exact ev_same _ _ _ (Nat.lt_of_le_of_lt (by decide) qz6)
  rw [← ha7] at h0 ⊢
  clear ha7
  refine wpAnyH_take (i := 8) (oi := cv_8 s) (v := .pointer (some ⟨q, 0, none⟩)) (by kernel_rfl) (by kernel_rfl) (by kernel_rfl) (by kernel_rfl) (fun c a w h => hQ c _ _ _ w h) (Or.inl ⟨wanted_none rfl, fun w hw => by simp only [execOp, cv_8, f7_1]; rfl⟩) hS ?_
  change wpAnyH _ _ _ _ _ _ _ (a0_7.put (some 58) (.pointer (some ⟨q, 0, none⟩))) _
  obtain ⟨a0_8, ha8⟩ : ∃ rr : Act, rr = a0_7.put (some 58) (.pointer (some ⟨q, 0, none⟩)) := ⟨_, rfl⟩
  have qz8 : 66 < a0_8.tmps.size := by rw [ha8, sz_put]; exact qz7
  have f8_5 : a0_8.eval (.tmp 5) = .pointer (some ⟨kb, 0, none⟩) := by rw [ha8, ev_other _ _ _ _ (by decide)]; exact f7_5
  have f8_50 : a0_8.eval (.tmp 50) = pv := by rw [ha8, ev_other _ _ _ _ (by decide)]; exact f7_50
  have f8_52 : a0_8.eval (.tmp 52) = kV s0.key := by rw [ha8, ev_other _ _ _ _ (by decide)]; exact f7_52
  have f8_54 : a0_8.eval (.tmp 54) = plV s0.fr := by rw [ha8, ev_other _ _ _ _ (by decide)]; exact f7_54
  have f8_56 : a0_8.eval (.tmp 56) = plV s0.to := by rw [ha8, ev_other _ _ _ _ (by decide)]; exact f7_56
  have f8_58 : a0_8.eval (.tmp 58) = .pointer (some ⟨q, 0, none⟩) := by rw [ha8]; exact ev_same _ _ _ (Nat.lt_of_le_of_lt (by decide) qz7)
  rw [← ha8] at h0 ⊢
  clear ha8
  refine wpAnyH_take (i := 9) (oi := cv_9 s) (v := .pointer (some ⟨kb, 3, none⟩)) (by kernel_rfl) (by kernel_rfl) (by kernel_rfl) (by kernel_rfl) (fun c a w h => hQ c _ _ _ w h) (Or.inl ⟨wanted_none rfl, fun w hw => fld SPT kb 0 3 3 (fS3 kb) rfl f8_5 w⟩) hS ?_
  change wpAnyH _ _ _ _ _ _ _ (a0_8.put (some 59) (.pointer (some ⟨kb, 3, none⟩))) _
  obtain ⟨a0_9, ha9⟩ : ∃ rr : Act, rr = a0_8.put (some 59) (.pointer (some ⟨kb, 3, none⟩)) := ⟨_, rfl⟩
  have qz9 : 66 < a0_9.tmps.size := by rw [ha9, sz_put]; exact qz8
  have f9_5 : a0_9.eval (.tmp 5) = .pointer (some ⟨kb, 0, none⟩) := by rw [ha9, ev_other _ _ _ _ (by decide)]; exact f8_5
  have f9_50 : a0_9.eval (.tmp 50) = pv := by rw [ha9, ev_other _ _ _ _ (by decide)]; exact f8_50
  have f9_52 : a0_9.eval (.tmp 52) = kV s0.key := by rw [ha9, ev_other _ _ _ _ (by decide)]; exact f8_52
  have f9_54 : a0_9.eval (.tmp 54) = plV s0.fr := by rw [ha9, ev_other _ _ _ _ (by decide)]; exact f8_54
  have f9_56 : a0_9.eval (.tmp 56) = plV s0.to := by rw [ha9, ev_other _ _ _ _ (by decide)]; exact f8_56
  have f9_58 : a0_9.eval (.tmp 58) = .pointer (some ⟨q, 0, none⟩) := by rw [ha9, ev_other _ _ _ _ (by decide)]; exact f8_58
  have f9_59 : a0_9.eval (.tmp 59) = .pointer (some ⟨kb, 3, none⟩) := by rw [ha9]; exact ev_same _ _ _ (Nat.lt_of_le_of_lt (by decide) qz8)
  rw [← ha9] at h0 ⊢
  clear ha9
  refine wpAnyH_take (i := 10) (oi := cv_10 s) (v := kV s0.key) (by kernel_rfl) (by kernel_rfl) (by kernel_rfl) (by kernel_rfl) (fun c a w h => hQ c _ _ _ w h) (Or.inl ⟨wanted_none rfl, fun w hw => run_loadO rfl f9_59 (run_ldK hw.key)⟩) hS ?_
  change wpAnyH _ _ _ _ _ _ _ (a0_9.put (some 60) (kV s0.key)) _
  obtain ⟨a0_10, ha10⟩ : ∃ rr : Act, rr = a0_9.put (some 60) (kV s0.key) := ⟨_, rfl⟩
  have qz10 : 66 < a0_10.tmps.size := by rw [ha10, sz_put]; exact qz9
  have f10_5 : a0_10.eval (.tmp 5) = .pointer (some ⟨kb, 0, none⟩) := by rw [ha10, ev_other _ _ _ _ (by decide)]; exact f9_5
  have f10_50 : a0_10.eval (.tmp 50) = pv := by rw [ha10, ev_other _ _ _ _ (by decide)]; exact f9_50
  have f10_52 : a0_10.eval (.tmp 52) = kV s0.key := by rw [ha10, ev_other _ _ _ _ (by decide)]; exact f9_52
  have f10_54 : a0_10.eval (.tmp 54) = plV s0.fr := by rw [ha10, ev_other _ _ _ _ (by decide)]; exact f9_54
  have f10_56 : a0_10.eval (.tmp 56) = plV s0.to := by rw [ha10, ev_other _ _ _ _ (by decide)]; exact f9_56
  have f10_58 : a0_10.eval (.tmp 58) = .pointer (some ⟨q, 0, none⟩) := by rw [ha10, ev_other _ _ _ _ (by decide)]; exact f9_58
  have f10_60 : a0_10.eval (.tmp 60) = kV s0.key := by rw [ha10]; exact ev_same _ _ _ (Nat.lt_of_le_of_lt (by decide) qz9)
  rw [← ha10] at h0 ⊢
  clear ha10
  refine wpAnyH_take (i := 11) (oi := cv_11 s) (v := .pointer (some ⟨kb, 40, none⟩)) (by kernel_rfl) (by kernel_rfl) (by kernel_rfl) (by kernel_rfl) (fun c a w h => hQ c _ _ _ w h) (Or.inl ⟨wanted_none rfl, fun w hw => fld SPT kb 0 6 40 (fS6 kb) rfl f10_5 w⟩) hS ?_
  change wpAnyH _ _ _ _ _ _ _ (a0_10.put (some 61) (.pointer (some ⟨kb, 40, none⟩))) _
  obtain ⟨a0_11, ha11⟩ : ∃ rr : Act, rr = a0_10.put (some 61) (.pointer (some ⟨kb, 40, none⟩)) := ⟨_, rfl⟩
  have qz11 : 66 < a0_11.tmps.size := by rw [ha11, sz_put]; exact qz10
  have f11_5 : a0_11.eval (.tmp 5) = .pointer (some ⟨kb, 0, none⟩) := by rw [ha11, ev_other _ _ _ _ (by decide)]; exact f10_5
  have f11_50 : a0_11.eval (.tmp 50) = pv := by rw [ha11, ev_other _ _ _ _ (by decide)]; exact f10_50
  have f11_52 : a0_11.eval (.tmp 52) = kV s0.key := by rw [ha11, ev_other _ _ _ _ (by decide)]; exact f10_52
  have f11_54 : a0_11.eval (.tmp 54) = plV s0.fr := by rw [ha11, ev_other _ _ _ _ (by decide)]; exact f10_54
  have f11_56 : a0_11.eval (.tmp 56) = plV s0.to := by rw [ha11, ev_other _ _ _ _ (by decide)]; exact f10_56
  have f11_58 : a0_11.eval (.tmp 58) = .pointer (some ⟨q, 0, none⟩) := by rw [ha11, ev_other _ _ _ _ (by decide)]; exact f10_58
  have f11_60 : a0_11.eval (.tmp 60) = kV s0.key := by rw [ha11, ev_other _ _ _ _ (by decide)]; exact f10_60
  have f11_61 : a0_11.eval (.tmp 61) = .pointer (some ⟨kb, 40, none⟩) := by rw [ha11]; exact ev_same _ _ _ (Nat.lt_of_le_of_lt (by decide) qz10)
  rw [← ha11] at h0 ⊢
  clear ha11
  refine wpAnyH_take (i := 12) (oi := cv_12 s) (v := plV s0.fr) (by kernel_rfl) (by kernel_rfl) (by kernel_rfl) (by kernel_rfl) (fun c a w h => hQ c _ _ _ w h) (Or.inl ⟨wanted_none rfl, fun w hw => run_loadO rfl f11_61 (run_ldP hw.fr)⟩) hS ?_
  change wpAnyH _ _ _ _ _ _ _ (a0_11.put (some 62) (plV s0.fr)) _
  obtain ⟨a0_12, ha12⟩ : ∃ rr : Act, rr = a0_11.put (some 62) (plV s0.fr) := ⟨_, rfl⟩
  have qz12 : 66 < a0_12.tmps.size := by rw [ha12, sz_put]; exact qz11
  have f12_5 : a0_12.eval (.tmp 5) = .pointer (some ⟨kb, 0, none⟩) := by rw [ha12, ev_other _ _ _ _ (by decide)]; exact f11_5
  have f12_50 : a0_12.eval (.tmp 50) = pv := by rw [ha12, ev_other _ _ _ _ (by decide)]; exact f11_50
  have f12_52 : a0_12.eval (.tmp 52) = kV s0.key := by rw [ha12, ev_other _ _ _ _ (by decide)]; exact f11_52
  have f12_54 : a0_12.eval (.tmp 54) = plV s0.fr := by rw [ha12, ev_other _ _ _ _ (by decide)]; exact f11_54
  have f12_56 : a0_12.eval (.tmp 56) = plV s0.to := by rw [ha12, ev_other _ _ _ _ (by decide)]; exact f11_56
  have f12_58 : a0_12.eval (.tmp 58) = .pointer (some ⟨q, 0, none⟩) := by rw [ha12, ev_other _ _ _ _ (by decide)]; exact f11_58
  have f12_60 : a0_12.eval (.tmp 60) = kV s0.key := by rw [ha12, ev_other _ _ _ _ (by decide)]; exact f11_60
  have f12_62 : a0_12.eval (.tmp 62) = plV s0.fr := by rw [ha12]; exact ev_same _ _ _ (Nat.lt_of_le_of_lt (by decide) qz11)
  rw [← ha12] at h0 ⊢
  clear ha12
  refine wpAnyH_take (i := 13) (oi := cv_13 s) (v := .pointer (some ⟨kb, 42, none⟩)) (by kernel_rfl) (by kernel_rfl) (by kernel_rfl) (by kernel_rfl) (fun c a w h => hQ c _ _ _ w h) (Or.inl ⟨wanted_none rfl, fun w hw => fld SPT kb 0 7 42 (fS7 kb) rfl f12_5 w⟩) hS ?_
  change wpAnyH _ _ _ _ _ _ _ (a0_12.put (some 63) (.pointer (some ⟨kb, 42, none⟩))) _
  obtain ⟨a0_13, ha13⟩ : ∃ rr : Act, rr = a0_12.put (some 63) (.pointer (some ⟨kb, 42, none⟩)) := ⟨_, rfl⟩
  have qz13 : 66 < a0_13.tmps.size := by rw [ha13, sz_put]; exact qz12
  have f13_50 : a0_13.eval (.tmp 50) = pv := by rw [ha13, ev_other _ _ _ _ (by decide)]; exact f12_50
  have f13_52 : a0_13.eval (.tmp 52) = kV s0.key := by rw [ha13, ev_other _ _ _ _ (by decide)]; exact f12_52
  have f13_54 : a0_13.eval (.tmp 54) = plV s0.fr := by rw [ha13, ev_other _ _ _ _ (by decide)]; exact f12_54
  have f13_56 : a0_13.eval (.tmp 56) = plV s0.to := by rw [ha13, ev_other _ _ _ _ (by decide)]; exact f12_56
  have f13_58 : a0_13.eval (.tmp 58) = .pointer (some ⟨q, 0, none⟩) := by rw [ha13, ev_other _ _ _ _ (by decide)]; exact f12_58
  have f13_60 : a0_13.eval (.tmp 60) = kV s0.key := by rw [ha13, ev_other _ _ _ _ (by decide)]; exact f12_60
  have f13_62 : a0_13.eval (.tmp 62) = plV s0.fr := by rw [ha13, ev_other _ _ _ _ (by decide)]; exact f12_62
  have f13_63 : a0_13.eval (.tmp 63) = .pointer (some ⟨kb, 42, none⟩) := by rw [ha13]; exact ev_same _ _ _ (Nat.lt_of_le_of_lt (by decide) qz12)
  rw [← ha13] at h0 ⊢
  clear ha13
  refine wpAnyH_take (i := 14) (oi := cv_14 s) (v := plV s0.to) (by kernel_rfl) (by kernel_rfl) (by kernel_rfl) (by kernel_rfl) (fun c a w h => hQ c _ _ _ w h) (Or.inl ⟨wanted_none rfl, fun w hw => run_loadO rfl f13_63 (run_ldP hw.to)⟩) hS ?_
  change wpAnyH _ _ _ _ _ _ _ (a0_13.put (some 64) (plV s0.to)) _
  obtain ⟨a0_14, ha14⟩ : ∃ rr : Act, rr = a0_13.put (some 64) (plV s0.to) := ⟨_, rfl⟩
  have qz14 : 66 < a0_14.tmps.size := by rw [ha14, sz_put]; exact qz13
  have f14_50 : a0_14.eval (.tmp 50) = pv := by rw [ha14, ev_other _ _ _ _ (by decide)]; exact f13_50
  have f14_52 : a0_14.eval (.tmp 52) = kV s0.key := by rw [ha14, ev_other _ _ _ _ (by decide)]; exact f13_52
  have f14_54 : a0_14.eval (.tmp 54) = plV s0.fr := by rw [ha14, ev_other _ _ _ _ (by decide)]; exact f13_54
  have f14_56 : a0_14.eval (.tmp 56) = plV s0.to := by rw [ha14, ev_other _ _ _ _ (by decide)]; exact f13_56
  have f14_58 : a0_14.eval (.tmp 58) = .pointer (some ⟨q, 0, none⟩) := by rw [ha14, ev_other _ _ _ _ (by decide)]; exact f13_58
  have f14_60 : a0_14.eval (.tmp 60) = kV s0.key := by rw [ha14, ev_other _ _ _ _ (by decide)]; exact f13_60
  have f14_62 : a0_14.eval (.tmp 62) = plV s0.fr := by rw [ha14, ev_other _ _ _ _ (by decide)]; exact f13_62
  have f14_64 : a0_14.eval (.tmp 64) = plV s0.to := by rw [ha14]; exact ev_same _ _ _ (Nat.lt_of_le_of_lt (by decide) qz13)
  rw [← ha14] at h0 ⊢
  clear ha14
  refine wpAnyH_ready (rs := [7]) (by kernel_rfl) (by simp) ?_
  refine AllReadyH.cons (o := cv_7 s) (by kernel_rfl) (fun KQ hKQ => ?_) AllReadyH.nil
  rw [if_pos (wanted_none rfl)]
  refine step_enterE 31 #[pv, kV s0.key, plV s0.fr, plV s0.to] (by rw [cv_enter7, f14_50, f14_52, f14_54, f14_56]) (fun V w' => V = .bool b ∧ M1 w') (hc1.mono (fun e w' ⟨h1, h2⟩ => ⟨_, h1, rfl, h2⟩)) ?_
  rintro _ w2 ⟨rfl, hM1⟩
  refine hKQ.out _ _ (hk1 w2 hM1) (fun _ => ?_)
  clear hKQ KQ
  change wpAnyH _ _ _ _ _ _ _ (a0_14.put (some 57) (.bool b)) _
  have h0 := h0 w2 hM1
  obtain ⟨a0_15, ha15⟩ : ∃ rr : Act, rr = a0_14.put (some 57) (.bool b) := ⟨_, rfl⟩
  have qz15 : 66 < a0_15.tmps.size := by rw [ha15, sz_put]; exact qz14
  have f15_57 : a0_15.eval (.tmp 57) = .bool b := by rw [ha15]; exact ev_same _ _ _ (Nat.lt_of_le_of_lt (by decide) qz14)
  have f15_58 : a0_15.eval (.tmp 58) = .pointer (some ⟨q, 0, none⟩) := by rw [ha15, ev_other _ _ _ _ (by decide)]; exact f14_58
  have f15_60 : a0_15.eval (.tmp 60) = kV s0.key := by rw [ha15, ev_other _ _ _ _ (by decide)]; exact f14_60
  have f15_62 : a0_15.eval (.tmp 62) = plV s0.fr := by rw [ha15, ev_other _ _ _ _ (by decide)]; exact f14_62
  have f15_64 : a0_15.eval (.tmp 64) = plV s0.to := by rw [ha15, ev_other _ _ _ _ (by decide)]; exact f14_64
  rw [← ha15] at h0 ⊢
  clear ha15
  refine wpAnyH_ready (rs := [15]) (by kernel_rfl) (by simp) ?_
  refine AllReadyH.cons (o := cv_15 s) (by kernel_rfl) (fun KQ hKQ => ?_) AllReadyH.nil
  rw [if_pos (wanted_none rfl)]
  refine step_enterE 32 #[.pointer (some ⟨q, 0, none⟩), kV s0.key, plV s0.fr, plV s0.to] (by rw [cv_enter15, f15_58, f15_60, f15_62, f15_64]) (fun V w' => V = .bool b ∧ M2 w2 w') ((hc2 w2 hM1).mono (fun e w' ⟨h1, h2⟩ => ⟨_, h1, rfl, h2⟩)) ?_
  rintro _ w3 ⟨rfl, hM2⟩
  refine hKQ.out _ _ (hk2 w2 w3 hM1 hM2) (fun _ => ?_)
  clear hKQ KQ
  change wpAnyH _ _ _ _ _ _ _ (a0_15.put (some 65) (.bool b)) _
  have h0 := h0 w3 hM2
  obtain ⟨a0_16, ha16⟩ : ∃ rr : Act, rr = a0_15.put (some 65) (.bool b) := ⟨_, rfl⟩
  have qz16 : 66 < a0_16.tmps.size := by rw [ha16, sz_put]; exact qz15
  have f16_57 : a0_16.eval (.tmp 57) = .bool b := by rw [ha16, ev_other _ _ _ _ (by decide)]; exact f15_57
  have f16_65 : a0_16.eval (.tmp 65) = .bool b := by rw [ha16]; exact ev_same _ _ _ (Nat.lt_of_le_of_lt (by decide) qz15)
  rw [← ha16] at h0 ⊢
  clear ha16
  refine wpAnyH_take (i := 16) (oi := cv_16 s) (v := .bool true) (by kernel_rfl) (by kernel_rfl) (by kernel_rfl) (by kernel_rfl) (fun c a w h => hQ c _ _ _ w h) (Or.inl ⟨wanted_none rfl, fun w hw => run_eqBB rfl f16_57 f16_65 w⟩) (hk2 w2 w3 hM1 hM2) ?_
  change wpAnyH _ _ _ _ _ _ _ (a0_16.put (some 66) (.bool true)) _
  obtain ⟨a0_17, ha17⟩ : ∃ rr : Act, rr = a0_16.put (some 66) (.bool true) := ⟨_, rfl⟩
  have qz17 : 66 < a0_17.tmps.size := by rw [ha17, sz_put]; exact qz16
  have f17_66 : a0_17.eval (.tmp 66) = .bool true := by rw [ha17]; exact ev_same _ _ _ (Nat.lt_of_le_of_lt (by decide) qz16)
  rw [← ha17] at h0 ⊢
  clear ha17
  refine wpAnyH_take (i := 17) (oi := cv_17 s) (v := .bool true) (by kernel_rfl) (by kernel_rfl) (by kernel_rfl) (by kernel_rfl) (fun c a w h => hQ c _ _ _ w h) (Or.inl ⟨wanted_none rfl, fun w hw => by simp only [execOp, cv_17, f17_66]; rfl⟩) (hk2 w2 w3 hM1 hM2) ?_
  change wpAnyH _ _ _ _ _ _ _ (a0_17.put (some 6) (.bool true)) _
  obtain ⟨a0_18, ha18⟩ : ∃ rr : Act, rr = a0_17.put (some 6) (.bool true) := ⟨_, rfl⟩
  have qz18 : 66 < a0_18.tmps.size := by rw [ha18, sz_put]; exact qz17
  rw [← ha18] at h0 ⊢
  clear ha18
  refine wpAnyH_done (by kernel_rfl) ?_ _
  exact h0
end TX
end Go.Proofs.Ytdigjpddmfolgaa

/- changes: walked. -/
namespace Go.Proofs.Ytdigjpddmfolgaa
set_option linter.unusedVariables false
set_option linter.unusedSimpArgs false
namespace TX
open Go.RowKit Go.Sort
set_option maxRecDepth 100000
set_option maxHeartbeats 16000000

/-- What a step leaves of an index and of the document's. -/
structure ChN (w w' : World) (x : Nat) (L : List Tab) (q : Nat) (f : KY → Option EN) (P n : Nat) : Prop where
  ex : ∃ L', IxL w' x 16 L' f P ∧ ∀ b, IxB x L' b → IxB x L b ∨ w.heap.size ≤ b
  rx : RxA w' q f n
  fr : Frm w w' (fun b => IxB x L b ∨ b = q)
section
variable {w w1 w2 : World} {x P P' q n n' : Nat} {L : List Tab} {f f' : KY → Option EN}
theorem IxN.keep (h : IxL w x 16 L f P) (hn : IxN w w1 x L f' P') {b : Nat} {cs : Array Value} {t : TypeId} (hb : Blk w b cs t) (h0 : t ≠ IT) (h1 : t ≠ TT) (h2 : t ≠ ST) : Blk w1 b cs t := (hn.fr.block b hb.lt (h.notB hb h0 h1 h2)).trans hb
theorem RxA.keepIx (hr : RxA w q f n) (h : IxL w x 16 L f P) (hn : IxN w w1 x L f' P') : RxA w1 q f n := by
  obtain ⟨V, ⟨v, h1, h2⟩, h3⟩ := hr
  exact ⟨V, ⟨v, IxN.keep h hn h1 (by decide) (by decide) (by decide), h2.same (fun b e => by obtain ⟨cs, hc⟩ := h2.blk e; exact (IxN.keep h hn hc (by decide) (by decide) (by decide)).trans hc.symm)⟩, h3⟩
theorem RxA.blk (hr : RxA w q f n) : ∃ v, Blk w q #[v] RIT := by obtain ⟨V, ⟨v, h1, h2⟩, h3⟩ := hr; exact ⟨v, h1⟩
theorem RxN.keep (hr : RxA w q f n) (hn : RxN w w1 q f' n') {b : Nat} {cs : Array Value} {t : TypeId} (hb : Blk w b cs t) (ht : t ≠ RIT) : Blk w1 b cs t := hb.grown hn.fr (fun e => by
  obtain ⟨v, h1⟩ := hr.blk
  rw [← Option.some.inj e] at h1
  exact blk_ne hb h1 ht rfl)
theorem ChN.mk' (hr : RxA w1 q f n) (hn : IxN w w1 x L f' P') (hr2 : RxN w1 w2 q f' n') : ChN w w2 x L q f' P' n' := by
  obtain ⟨L', h1, h2⟩ := hn.ex
  obtain ⟨v, hq⟩ := hr.blk
  refine ⟨⟨L', h1.same (fun b hb => hr2.fr.block b (h1.lt hb) (fun e => h1.notB hq (by decide) (by decide) (by decide) (by rw [← Option.some.inj e]; exact hb))), h2⟩, hr2.ex, ?_⟩
  refine ⟨hr2.fr.os.trans hn.fr.os, hr2.fr.tape.trans hn.fr.tape, hr2.fr.output.trans hn.fr.output, Nat.le_trans hn.fr.size hr2.fr.size, fun b hb hne => ?_⟩
  have := hn.fr.size
  exact (hr2.fr.block b (by omega) (fun e => hne (.inr (Option.some.inj e)))).trans (hn.fr.block b hb (fun e => hne (.inl e)))
theorem RxN.nBelow (h : RxN w w1 q f n) (hb : Below w1.heap.size w1 w2) : RxN w w2 q f n := ⟨h.ex.below hb, grownBy_trans h.fr (grownBy_of_below hb _)⟩
theorem IxN.nBelow (h : IxN w w1 x L f P) (hb : Below w1.heap.size w1 w2) : IxN w w2 x L f P := by
  obtain ⟨L', h1, h2⟩ := h.ex
  exact ⟨⟨L', h1.below hb, h2⟩, h.fr.below hb⟩
theorem RxN.more (h : RxN w w1 q f n) (hm : n ≤ n') : RxN w w1 q f n' := ⟨h.ex.more hm, h.fr⟩
end
theorem changes_ix (w : World) {x P q n0 : Nat} {L : List Tab} {f : KY → Option EN} (s : SP) (hx : IxL w x 16 L f P) (hP : P < 1099511627776) (hr : RxA w q f n0) (hn : n0 ≤ 1099511627776) (hno : s.no = false) : Calls Try.prog 10 #[.pointer (some ⟨x, 0, none⟩), .pointer (some ⟨q, 0, none⟩), spV s] w fun e w' => e = .returned (.bool true) ∧ ∃ f', ChN w w' x L q f' (P + 1) (n0 + 1) := by
  have HX0 := hide hx
  have HP := hide hP
  have HR0 := hide hr
  have HN0 := hide hn
  have HNO := hide hno
  clear hx hP hr hn hno
  go_enter Try.func10, Try.ntmps10
  go_upto_region 1 with fail
  refine name_world (fun W => Below w.heap.size w W ∧ SPB W w.heap.size s) ⟨below_alloc w _, Blk.made w _ _⟩ ?_
  rintro W ⟨hB, hS⟩
  obtain ⟨kb, hkb⟩ : ∃ kb, kb = w.heap.size := ⟨_, rfl⟩
  rw [← hkb] at hS ⊢
  have HB := hide hB
  have HS := hide hS
  have HKB := hide hkb
  have HX := hide (HX0.out.below hB)
  have HR := hide (HR0.out.below hB)
  obtain ⟨kd, hkd⟩ : ∃ kd, kd = s.kd := ⟨_, rfl⟩
  have ck : W.cell? ⟨kb, 0, none⟩ = some (.int .i64 kd) := by rw [hkd]; exact hS.kd
  have HZE : Hid (∀ w5 : World, EB (w5.alloc (.cells (eA eZ) ET)) w5.heap.size eZ) := hide (fun w5 => EB.made w5 eZ)
  have hbd : Below W.heap.size W W.drew := (Below.refl _ _).drew
  have HBD := hide (HB.out.trans (hbd.mono HB.out.size))
  have HSD : Hid (SPB W.drew kb s) := hide (Blk.below hS hbd hS.lt)
  have HXD := hide (HX.out.below hbd)
  have HRD := hide (HR.out.below hbd)
  clear hB hS hkb hkd hbd
  by_cases h3 : kd = 3
  · subst h3
    go_upto_region 3 with fail
    refine wp_norm (cp_walk _ (fun _ _ _ _ _ h => h) W q kb (.pointer (some ⟨x, 0, none⟩)) s (!(f s.key).isSome) (fun w2 => IxN W.drew w2 x L (putF f s.key s.ent) (P + 1)) (fun w2 w3 => RxN w2 w3 q (putF f s.key s.ent) (n0 + 1)) HNO.out HSD.out (put_ixw HXD.out HP.out s.key s.ent) (fun w2 h => IxN.keep HXD.out h HSD.out (by decide) (by decide) (by decide)) (fun w2 h => rput_any w2 (HRD.out.keepIx HXD.out h) (by have := HN0.out; omega) s.key s.ent) (fun w2 w3 h h3 => RxN.keep (HRD.out.keepIx HXD.out h) h3 (IxN.keep HXD.out h HSD.out (by decide) (by decide) (by decide)) (by decide)) _ ?_ ?_ ?_ ?_ ?_)
    any_goals rfl
    · exact Nat.lt_of_sub_pos (by exact Nat.succ_pos _)
    rintro w2 hn2 w3 hn3
    have HC : Hid (ChN w w3 x L q (putF f s.key s.ent) (P + 1) (n0 + 1)) := hide (ChN.mk' (HRD.out.keepIx HXD.out hn2) (IxN.from HBD.out hn2) (hn3.more (by omega)))
    clear hn2 hn3 ck
    simp only [Act.put, List.setIfInBounds_toArray, List.set_cons_zero, List.set_cons_succ, Exit.then]
    go_wp2
    go_ret
    exact ⟨rfl, _, HC.out⟩
  · have b3 : (kd == 3) = false := by simpa using h3
    by_cases h4 : kd = 4
    · subst h4
      go_upto_region 5 with fail
      refine wp_norm (cm_walk _ (fun _ _ _ _ _ h => h) W q kb (.pointer (some ⟨x, 0, none⟩)) s (markB f s.key s.ep) (fun w2 => IxN W.drew w2 x L (markF f s.key s.ep) (P + 1)) (fun w2 w3 => RxN w2 w3 q (markF f s.key s.ep) n0) HSD.out (mark_ix HXD.out HP.out s.key s.ep) (fun w2 h => IxN.keep HXD.out h HSD.out (by decide) (by decide) (by decide)) (fun w2 h => rmark_any w2 (HRD.out.keepIx HXD.out h) (by have := HN0.out; omega) s.key s.ep) (fun w2 w3 h h3 => RxN.keep (HRD.out.keepIx HXD.out h) h3 (IxN.keep HXD.out h HSD.out (by decide) (by decide) (by decide)) (by decide)) _ ?_ ?_ ?_ ?_ ?_)
      any_goals rfl
      · exact Nat.lt_of_sub_pos (by exact Nat.succ_pos _)
      rintro w2 hn2 w3 hn3
      have HC : Hid (ChN w w3 x L q (markF f s.key s.ep) (P + 1) (n0 + 1)) := hide (ChN.mk' (HRD.out.keepIx HXD.out hn2) (IxN.from HBD.out hn2) (hn3.more (by omega)))
      clear hn2 hn3 ck
      simp only [Act.put, List.setIfInBounds_toArray, List.set_cons_zero, List.set_cons_succ, Exit.then]
      go_wp2
      go_ret
      exact ⟨rfl, _, HC.out⟩
    · have b4 : (kd == 4) = false := by simpa using h4
      by_cases h5 : kd = 5
      · subst h5
        go_upto_region 7 with fail
        refine wp_norm (cv_walk _ (fun _ _ _ _ _ h => h) W q kb (.pointer (some ⟨x, 0, none⟩)) s (moveB f s.key s.fr) (fun w2 => IxN W.drew w2 x L (moveF f s.key s.fr s.to) (P + 1)) (fun w2 w3 => RxN w2 w3 q (moveF f s.key s.fr s.to) n0) HSD.out (move_ix HXD.out HP.out s.key s.fr s.to) (fun w2 h => IxN.keep HXD.out h HSD.out (by decide) (by decide) (by decide)) (fun w2 h => rmove_any w2 (HRD.out.keepIx HXD.out h) (by have := HN0.out; omega) s.key s.fr s.to) (fun w2 w3 h h3 => RxN.keep (HRD.out.keepIx HXD.out h) h3 (IxN.keep HXD.out h HSD.out (by decide) (by decide) (by decide)) (by decide)) _ ?_ ?_ ?_ ?_ ?_)
        any_goals rfl
        · exact Nat.lt_of_sub_pos (by exact Nat.succ_pos _)
        rintro w2 hn2 w3 hn3
        have HC : Hid (ChN w w3 x L q (moveF f s.key s.fr s.to) (P + 1) (n0 + 1)) := hide (ChN.mk' (HRD.out.keepIx HXD.out hn2) (IxN.from HBD.out hn2) (hn3.more (by omega)))
        clear hn2 hn3 ck
        simp only [Act.put, List.setIfInBounds_toArray, List.set_cons_zero, List.set_cons_succ, Exit.then]
        go_wp2
        go_ret
        exact ⟨rfl, _, HC.out⟩
      · have b5 : (kd == 5) = false := by simpa using h5
        by_cases h6 : kd = 6
        · subst h6
          have hz0 := zero_E
          obtain ⟨k, hk⟩ : ∃ k, k = s.key := ⟨_, rfl⟩
          have HKey : Hid (W.rangeAt kb 3 (kC k)) := hide (by rw [hk]; exact HS.out.key)
          have HKE := hide hk
          obtain ⟨u, hu⟩ : ∃ u, u = (f k).getD eZ := ⟨_, rfl⟩
          obtain ⟨bo, hbo⟩ : ∃ bo, bo = (f k).isSome := ⟨_, rfl⟩
          have HEQ : Hid (∀ (op : Oper) (ev : Operand → Value) (x y : Operand) (t : TypeId) (w9 : World), op.op = .binOp .eql ET x y t → ev x = eV u → ev y = eV u → (execOp ev op).run Try.prog w9 = .ok (.value (.bool true)) w9) := hide (fun op ev x y t w9 h1 h2 h3 => by rw [run_eqlE h1 h2 h3 w9, eqE_self])
          have HG : Hid (Calls Try.prog 16 #[.pointer (some ⟨x, 0, none⟩), kV k] W fun e w' => e = .returned (.tuple #[eV u, .bool bo]) ∧ IxN W w' x L (upd f k none) P) := hide (by rw [hu, hbo]; exact del_ix HX.out k)
          have HRG : Hid (∀ W2, RxA W2 q f n0 → Calls Try.prog 33 #[.pointer (some ⟨q, 0, none⟩), kV k] W2 fun e w' => e = .returned (.tuple #[eV u, .bool bo]) ∧ RxN W2 w' q (upd f k none) n0) := hide (fun W2 h => by rw [hu, hbo]; exact rdel_any W2 h (by have := HN0.out; omega) k)
          clear hu hbo hk
          go_upto_region 10 with (first | ((with_reducible refine wpList_ldK ?_ (.tmp 71) ?_ kb 3 ?_ k HKey.out ?_); rfl; rfl; rfl) | (go_at_call 16; (with_reducible refine HG.out.mono ?_); rintro e w2 ⟨rfl, hn2⟩; have HN2 := hide hn2; have HE2 := hide (HZE.out w2); clear hn2) | ((with_reducible refine wpList_stEB ?_ (.tmp 7) (.tmp 74) ?_ w2.heap.size ?_ eZ u ?_ HE2.out ?_); rfl; rfl; rfl; rfl; intro w3 h3 hg3))
          have hb3 : Below w2.heap.size w2 w3 := below_grownBy (grownBy_trans (World.grownBy_alloc w2 _ _) hg3.out) (Nat.le_refl _) (Nat.le_refl _)
          have HI3 := hide (HN2.out.nBelow hb3)
          have HK3 : Hid (w3.rangeAt kb 3 (kC k)) := hide (by rw [HKE.out]; exact SPB.key (IxN.keep HX.out HI3.out HS.out (by decide) (by decide) (by decide)))
          have HR3 := hide (HR.out.keepIx HX.out HI3.out)
          obtain ⟨eb, heb⟩ : ∃ eb, eb = w2.heap.size := ⟨_, rfl⟩
          rw [← heb] at h3 ⊢
          have HU3 := hide h3.out
          have HRG3 := hide (HRG.out w3 HR3.out)
          clear hb3 h3 hg3 heb HG HRG HKey ck
          go_upto_region 11 with (first | ((with_reducible refine wpList_ldK ?_ (.tmp 78) ?_ kb 3 ?_ k HK3.out ?_); rfl; rfl; rfl) | (go_at_call 33; (with_reducible refine HRG3.out.mono ?_); rintro e w4 ⟨rfl, hn4⟩; have HN4 := hide hn4; have HU4 : Hid (EB w4 eb u) := hide (RxN.keep HR3.out hn4 HU3.out (by decide)); have HE4 := hide (HZE.out w4); clear hn4) | ((with_reducible refine wpList_stEB ?_ (.tmp 9) (.tmp 81) ?_ w4.heap.size ?_ eZ u ?_ HE4.out ?_); rfl; rfl; rfl; rfl; intro w5 h5 hg5))
          have hb5 : Below w4.heap.size w4 w5 := below_grownBy (grownBy_trans (World.grownBy_alloc w4 _ _) hg5.out) (Nat.le_refl _) (Nat.le_refl _)
          have HN5 := hide (HN4.out.nBelow hb5)
          have HU5 := hide (HU4.out.below hb5)
          have HV5 := hide h5.out
          clear hb5 h5 hg5 HN4 HU4 HE4 HK3 HRG3 HU3
          cases bo with
          | true =>
            go_wp2_with (first | ((with_reducible refine wpList_ldE ?_ (.tmp 7) ?_ eb 0 ?_ u HU5.out.rng ?_); rfl; rfl; rfl) | ((with_reducible refine wpList_ldE ?_ (.tmp 9) ?_ w4.heap.size 0 ?_ u HV5.out.rng ?_); rfl; rfl; rfl) | ((with_reducible refine wpList_valW (.bool true) ?_ (HEQ.out _ _ (.tmp 83) (.tmp 84) ET _ ?_ ?_ ?_) ?_); rfl; rfl; rfl; rfl))
            go_ret
            have hm := ChN.mk' HR3.out (IxN.from HB.out HI3.out) (HN5.out.more (Nat.le_succ n0))
            obtain ⟨L', hl, hb⟩ := hm.ex
            exact ⟨rfl, _, ⟨L', hl.more (Nat.le_succ P), hb⟩, hm.rx, hm.fr⟩
          | false =>
            go_wp2_with (first | ((with_reducible refine wpList_ldE ?_ (.tmp 7) ?_ eb 0 ?_ u HU5.out.rng ?_); rfl; rfl; rfl) | ((with_reducible refine wpList_ldE ?_ (.tmp 9) ?_ w4.heap.size 0 ?_ u HV5.out.rng ?_); rfl; rfl; rfl) | ((with_reducible refine wpList_valW (.bool true) ?_ (HEQ.out _ _ (.tmp 83) (.tmp 84) ET _ ?_ ?_ ?_) ?_); rfl; rfl; rfl; rfl))
            go_ret
            have hm := ChN.mk' HR3.out (IxN.from HB.out HI3.out) (HN5.out.more (Nat.le_succ n0))
            obtain ⟨L', hl, hb⟩ := hm.ex
            exact ⟨rfl, _, ⟨L', hl.more (Nat.le_succ P), hb⟩, hm.rx, hm.fr⟩
        · have b6 : (kd == 6) = false := by simpa using h6
          go_wp2
          go_ret
          exact ⟨rfl, _, ChN.mk' HR.out (IxN.from HB.out ((HX.out.more (Nat.le_succ P)).asN)) ((HR.out.more (Nat.le_succ n0)).nBelow (Below.refl _ _))⟩
theorem changes_nil (w : World) {q n0 : Nat} (s : SP) (hr : RxA w q (fun _ => none) n0) (hn : n0 ≤ 1099511627776) (hno : s.no = true) : Calls Try.prog 10 #[.pointer none, .pointer (some ⟨q, 0, none⟩), spV s] w fun e w' => e = .returned (.bool true) ∧ w.grownBy w' (some q) := by
  have HR0 := hide hr
  have HN0 := hide hn
  have HNO := hide hno
  clear hr hn hno
  go_enter Try.func10, Try.ntmps10
  go_upto_region 1 with fail
  refine name_world (fun W => Below w.heap.size w W ∧ SPB W w.heap.size s) ⟨below_alloc w _, Blk.made w _ _⟩ ?_
  rintro W ⟨hB, hS⟩
  obtain ⟨kb, hkb⟩ : ∃ kb, kb = w.heap.size := ⟨_, rfl⟩
  rw [← hkb] at hS ⊢
  have HB := hide hB
  have HS := hide hS
  have HKB := hide hkb
  have HR := hide (HR0.out.below hB)
  obtain ⟨kd, hkd⟩ : ∃ kd, kd = s.kd := ⟨_, rfl⟩
  have ck : W.cell? ⟨kb, 0, none⟩ = some (.int .i64 kd) := by rw [hkd]; exact hS.kd
  have HZE : Hid (∀ w5 : World, EB (w5.alloc (.cells (eA eZ) ET)) w5.heap.size eZ) := hide (fun w5 => EB.made w5 eZ)
  have hbd : Below W.heap.size W W.drew := (Below.refl _ _).drew
  have HBD := hide (HB.out.trans (hbd.mono HB.out.size))
  have HSD : Hid (SPB W.drew kb s) := hide (Blk.below hS hbd hS.lt)
  have HRD := hide (HR.out.below hbd)
  clear hB hS hkb hkd hbd
  by_cases h3 : kd = 3
  · subst h3
    go_upto_region 3 with fail
    refine wp_norm (cn_walk _ (fun _ _ _ _ _ h => h) W q kb (.pointer none) s false (fun w2 => Below W.drew.heap.size W.drew w2) (fun _ _ => True) HNO.out HSD.out (put_nil W.drew s.key s.ent) (fun w2 h => Blk.below HSD.out h (Blk.lt HSD.out)) _ ?_ ?_ ?_ ?_ ?_)
    any_goals rfl
    · exact Nat.lt_of_sub_pos (by exact Nat.succ_pos _)
    rintro w2 hb2
    have HG := hide (grownBy_of_below hb2 (some q))
    clear hb2 ck
    simp only [Act.put, List.setIfInBounds_toArray, List.set_cons_zero, List.set_cons_succ, Exit.then]
    go_wp2
    go_ret
    exact ⟨rfl, grownBy_trans (grownBy_of_below HBD.out _) HG.out⟩
  · have b3 : (kd == 3) = false := by simpa using h3
    by_cases h4 : kd = 4
    · subst h4
      go_upto_region 5 with fail
      refine wp_norm (cm_walk _ (fun _ _ _ _ _ h => h) W q kb (.pointer none) s (false) (fun w2 => Below W.drew.heap.size W.drew w2) (fun w2 w3 => RxN w2 w3 q (markF (fun _ => none) s.key s.ep) n0) HSD.out (mark_nil W.drew s.key s.ep) (fun w2 h => Blk.below HSD.out h (Blk.lt HSD.out)) (fun w2 h => rmark_any w2 (HRD.out.below h) (by have := HN0.out; omega) s.key s.ep) (fun w2 w3 h h3 => RxN.keep (HRD.out.below h) h3 (Blk.below HSD.out h (Blk.lt HSD.out)) (by decide)) _ ?_ ?_ ?_ ?_ ?_)
      any_goals rfl
      · exact Nat.lt_of_sub_pos (by exact Nat.succ_pos _)
      rintro w2 hb2 w3 hn3
      have HG := hide (grownBy_trans (grownBy_of_below hb2 (some q)) hn3.fr)
      clear hb2 hn3 ck
      simp only [Act.put, List.setIfInBounds_toArray, List.set_cons_zero, List.set_cons_succ, Exit.then]
      go_wp2
      go_ret
      exact ⟨rfl, grownBy_trans (grownBy_of_below HBD.out _) HG.out⟩
    · have b4 : (kd == 4) = false := by simpa using h4
      by_cases h5 : kd = 5
      · subst h5
        go_upto_region 7 with fail
        refine wp_norm (cv_walk _ (fun _ _ _ _ _ h => h) W q kb (.pointer none) s (false) (fun w2 => Below W.drew.heap.size W.drew w2) (fun w2 w3 => RxN w2 w3 q (moveF (fun _ => none) s.key s.fr s.to) n0) HSD.out (move_nil W.drew s.key s.fr s.to) (fun w2 h => Blk.below HSD.out h (Blk.lt HSD.out)) (fun w2 h => rmove_any w2 (HRD.out.below h) (by have := HN0.out; omega) s.key s.fr s.to) (fun w2 w3 h h3 => RxN.keep (HRD.out.below h) h3 (Blk.below HSD.out h (Blk.lt HSD.out)) (by decide)) _ ?_ ?_ ?_ ?_ ?_)
        any_goals rfl
        · exact Nat.lt_of_sub_pos (by exact Nat.succ_pos _)
        rintro w2 hb2 w3 hn3
        have HG := hide (grownBy_trans (grownBy_of_below hb2 (some q)) hn3.fr)
        clear hb2 hn3 ck
        simp only [Act.put, List.setIfInBounds_toArray, List.set_cons_zero, List.set_cons_succ, Exit.then]
        go_wp2
        go_ret
        exact ⟨rfl, grownBy_trans (grownBy_of_below HBD.out _) HG.out⟩
      · have b5 : (kd == 5) = false := by simpa using h5
        by_cases h6 : kd = 6
        · subst h6
          have hz0 := zero_E
          obtain ⟨k, hk⟩ : ∃ k, k = s.key := ⟨_, rfl⟩
          have HKey : Hid (W.rangeAt kb 3 (kC k)) := hide (by rw [hk]; exact HS.out.key)
          have HKE := hide hk
          obtain ⟨u, hu⟩ : ∃ u, u = ((fun _ => none) k).getD eZ := ⟨_, rfl⟩
          obtain ⟨bo, hbo⟩ : ∃ bo, bo = ((fun _ => none) k).isSome := ⟨_, rfl⟩
          have HEQ : Hid (∀ (op : Oper) (ev : Operand → Value) (x y : Operand) (t : TypeId) (w9 : World), op.op = .binOp .eql ET x y t → ev x = eV u → ev y = eV u → (execOp ev op).run Try.prog w9 = .ok (.value (.bool true)) w9) := hide (fun op ev x y t w9 h1 h2 h3 => by rw [run_eqlE h1 h2 h3 w9, eqE_self])
          have HG : Hid (Calls Try.prog 16 #[.pointer none, kV k] W fun e w' => e = .returned (.tuple #[eV u, .bool bo]) ∧ Below W.heap.size W w') := hide (by rw [hu, hbo]; exact del_nil W k)
          have HRG : Hid (∀ W2, RxA W2 q (fun _ => none) n0 → Calls Try.prog 33 #[.pointer (some ⟨q, 0, none⟩), kV k] W2 fun e w' => e = .returned (.tuple #[eV u, .bool bo]) ∧ RxN W2 w' q (upd (fun _ => none) k none) n0) := hide (fun W2 h => by rw [hu, hbo]; exact rdel_any W2 h (by have := HN0.out; omega) k)
          clear hu hbo hk
          go_upto_region 10 with (first | ((with_reducible refine wpList_ldK ?_ (.tmp 71) ?_ kb 3 ?_ k HKey.out ?_); rfl; rfl; rfl) | (go_at_call 16; (with_reducible refine HG.out.mono ?_); rintro e w2 ⟨rfl, hb⟩; have HB2 := hide hb; have HE2 := hide (HZE.out w2); clear hb) | ((with_reducible refine wpList_stEB ?_ (.tmp 7) (.tmp 74) ?_ w2.heap.size ?_ eZ u ?_ HE2.out ?_); rfl; rfl; rfl; rfl; intro w3 h3 hg3))
          have hb3 : Below w2.heap.size w2 w3 := below_grownBy (grownBy_trans (World.grownBy_alloc w2 _ _) hg3.out) (Nat.le_refl _) (Nat.le_refl _)
          have HI3 := hide (HB2.out.trans (hb3.mono HB2.out.size))
          have HK3 := hide (range_bel HKey.out HI3.out)
          have HR3 := hide (HR.out.below HI3.out)
          obtain ⟨eb, heb⟩ : ∃ eb, eb = w2.heap.size := ⟨_, rfl⟩
          rw [← heb] at h3 ⊢
          have HU3 := hide h3.out
          have HRG3 := hide (HRG.out w3 HR3.out)
          clear hb3 h3 hg3 heb HG HRG HKey ck
          go_upto_region 11 with (first | ((with_reducible refine wpList_ldK ?_ (.tmp 78) ?_ kb 3 ?_ k HK3.out ?_); rfl; rfl; rfl) | (go_at_call 33; (with_reducible refine HRG3.out.mono ?_); rintro e w4 ⟨rfl, hn4⟩; have HN4 := hide hn4; have HU4 : Hid (EB w4 eb u) := hide (RxN.keep HR3.out hn4 HU3.out (by decide)); have HE4 := hide (HZE.out w4); clear hn4) | ((with_reducible refine wpList_stEB ?_ (.tmp 9) (.tmp 81) ?_ w4.heap.size ?_ eZ u ?_ HE4.out ?_); rfl; rfl; rfl; rfl; intro w5 h5 hg5))
          have hb5 : Below w4.heap.size w4 w5 := below_grownBy (grownBy_trans (World.grownBy_alloc w4 _ _) hg5.out) (Nat.le_refl _) (Nat.le_refl _)
          have HN5 := hide (HN4.out.nBelow hb5)
          have HU5 := hide (HU4.out.below hb5)
          have HV5 := hide h5.out
          clear hb5 h5 hg5 HN4 HU4 HE4 HK3 HRG3 HU3
          cases bo with
          | true =>
            go_wp2_with (first | ((with_reducible refine wpList_ldE ?_ (.tmp 7) ?_ eb 0 ?_ u HU5.out.rng ?_); rfl; rfl; rfl) | ((with_reducible refine wpList_ldE ?_ (.tmp 9) ?_ w4.heap.size 0 ?_ u HV5.out.rng ?_); rfl; rfl; rfl) | ((with_reducible refine wpList_valW (.bool true) ?_ (HEQ.out _ _ (.tmp 83) (.tmp 84) ET _ ?_ ?_ ?_) ?_); rfl; rfl; rfl; rfl))
            go_ret
            exact ⟨rfl, grownBy_trans (grownBy_of_below HB.out _) (grownBy_trans (grownBy_of_below HI3.out _) HN5.out.fr)⟩
          | false =>
            go_wp2_with (first | ((with_reducible refine wpList_ldE ?_ (.tmp 7) ?_ eb 0 ?_ u HU5.out.rng ?_); rfl; rfl; rfl) | ((with_reducible refine wpList_ldE ?_ (.tmp 9) ?_ w4.heap.size 0 ?_ u HV5.out.rng ?_); rfl; rfl; rfl) | ((with_reducible refine wpList_valW (.bool true) ?_ (HEQ.out _ _ (.tmp 83) (.tmp 84) ET _ ?_ ?_ ?_) ?_); rfl; rfl; rfl; rfl))
            go_ret
            exact ⟨rfl, grownBy_trans (grownBy_of_below HB.out _) (grownBy_trans (grownBy_of_below HI3.out _) HN5.out.fr)⟩
        · have b6 : (kd == 6) = false := by simpa using h6
          go_wp2
          go_ret
          exact ⟨rfl, grownBy_of_below HB.out _⟩
end TX
end Go.Proofs.Ytdigjpddmfolgaa
