/- IndexExact: the drawn regions. -/
import Derived.Test.YtdigjpddmfolgaaISo
namespace Go.Proofs.Ytdigjpddmfolgaa
set_option linter.unusedVariables false
set_option linter.unusedSimpArgs false
namespace TX
set_option maxRecDepth 100000
set_option maxHeartbeats 8000000
open Go.RowKit Go.Sort

abbrev PAT : TypeId := 26
abbrev RAT : TypeId := 29
abbrev XPT : TypeId := 24
abbrev QPT : TypeId := 27
abbrev KPLT : TypeId := 30
theorem szXP (w : World) : (sizeOf XPT).run Try.prog w = .ok 1 w := by kernel_rfl
theorem szQP (w : World) : (sizeOf QPT).run Try.prog w = .ok 1 w := by kernel_rfl
theorem run_ixP {op : Oper} {ev : Operand → Value} {x y : Operand} {g j : Nat} (ho : op.op = .indexAddr PAT x y) (hx : ev x = .pointer (some ⟨g, 0, none⟩)) (hy : ev y = .int .i64 (j : Int)) (h : j < 2) (w : World) : (execOp ev op).run Try.prog w = .ok (.value (.pointer (some ⟨g, j, none⟩))) w := by
  have hu := Try.underlying26
  have hs := szXP
  have h1 : (j : Int) < 2 := by omega
  simp only [execOp, ho, hx, hy]
  simp [go_sem, hu, hs, h1]
theorem run_ixR {op : Oper} {ev : Operand → Value} {x y : Operand} {g j : Nat} (ho : op.op = .indexAddr RAT x y) (hx : ev x = .pointer (some ⟨g, 0, none⟩)) (hy : ev y = .int .i64 (j : Int)) (h : j < 2) (w : World) : (execOp ev op).run Try.prog w = .ok (.value (.pointer (some ⟨g, j, none⟩))) w := by
  have hu := Try.underlying29
  have hs := szQP
  have h1 : (j : Int) < 2 := by omega
  simp only [execOp, ho, hx, hy]
  simp [go_sem, hu, hs, h1]
theorem load_xp {w : World} {b o : Nat} {v : Value} (h : w.cell? ⟨b, o, none⟩ = some v) : (Instr.loadAt XPT (.pointer (some ⟨b, o, none⟩))).run Try.prog w = .ok v w := by
  have hu := Try.underlying24
  simp [go_sem, h, hu]
theorem load_qp {w : World} {b o : Nat} {v : Value} (h : w.cell? ⟨b, o, none⟩ = some v) : (Instr.loadAt QPT (.pointer (some ⟨b, o, none⟩))).run Try.prog w = .ok v w := by
  have hu := Try.underlying27
  simp [go_sem, h, hu]
theorem run_stX {op : Oper} {ev : Operand → Value} {x y : Operand} {b o q : Nat} {v : Value} {w : World} (ho : op.op = .store XPT x y) (hx : ev x = .pointer (some ⟨b, o, none⟩)) (hy : ev y = .pointer (some ⟨q, 0, none⟩)) (hc : w.cell? ⟨b, o, none⟩ = some v) (hf : w.frozen? ⟨b, o, none⟩ = false) : (execOp ev op).run Try.prog w = .ok .skip (w.setCell ⟨b, o, none⟩ (.pointer (some ⟨q, 0, none⟩))) := by
  have hu := Try.underlying24
  simp only [execOp, ho, hx, hy]
  simp [go_sem, hu, hc, hf]
theorem run_stQ {op : Oper} {ev : Operand → Value} {x y : Operand} {b o q : Nat} {v : Value} {w : World} (ho : op.op = .store QPT x y) (hx : ev x = .pointer (some ⟨b, o, none⟩)) (hy : ev y = .pointer (some ⟨q, 0, none⟩)) (hc : w.cell? ⟨b, o, none⟩ = some v) (hf : w.frozen? ⟨b, o, none⟩ = false) : (execOp ev op).run Try.prog w = .ok .skip (w.setCell ⟨b, o, none⟩ (.pointer (some ⟨q, 0, none⟩))) := by
  have hu := Try.underlying27
  simp only [execOp, ho, hx, hy]
  simp [go_sem, hu, hc, hf]
theorem run_bsKP {op : Oper} {ev : Operand → Value} {x : Operand} {lb : Nat} {ao : Option Addr} {n c : Nat} {w : World} (ho : op.op = .buildSlice KPLT 1 #[(0, x)]) (hx : ev x = .agg #[itV lb, .slice ao n c]) : (execOp ev op).run Try.prog w = .ok (.value (.slice (some ⟨w.heap.size, 0, none⟩) 1 1)) (w.alloc (.cells #[itV lb, .slice ao n c] KPT)) := by
  simp only [execOp, ho]
  simp only [List.map_toArray, List.map_cons, List.map_nil, hx]
  kernel_rfl
theorem run_appKP {op : Oper} {ev : Operand → Value} {x y : Operand} {u v r : Value} {w w' : World} (ho : op.op = .call { callee := .builtin .append, args := #[x, y], argTypes := #[KPLT, KPLT] }) (hx : ev x = u) (hy : ev y = v) (hty : op.type = KPLT) (h : (Builtin.append_ #[KPLT, KPLT] KPLT #[u, v]).run Try.prog w = .ok r w') : (execOp ev op).run Try.prog w = .ok (.value r) w' := by
  unfold execOp
  simp only [ho, resolve, invoke, builtin, Sem.run_bind, Sem.run_pure, Result.andThen_ok, List.map_toArray, List.map_cons, List.map_nil, hx, hy, hty, h]
theorem run_alKP {op : Oper} {ev : Operand → Value} {w : World} (ho : op.op = .alloc KPT) : (execOp ev op).run Try.prog w = .ok (.value (.pointer (some ⟨w.heap.size, 0, none⟩))) (w.alloc (.cells #[.nilFunc, .slice none 0 0] KPT)) := by
  simp only [execOp, ho]
  kernel_rfl
theorem run_stKP {op : Oper} {ev : Operand → Value} {x y : Operand} {z lb : Nat} {ao : Option Addr} {n c : Nat} {w : World} (ho : op.op = .store KPT x y) (hx : ev x = .pointer (some ⟨z, 0, none⟩)) (hy : ev y = .agg #[itV lb, .slice ao n c]) (hb : Blk w z #[.nilFunc, .slice none 0 0] KPT) : (execOp ev op).run Try.prog w = .ok .skip (w.setCells z 0 [itV lb, .slice ao n c]) := by
  have hst := run_storeAt_mid (P := Try.prog) w z 0 KPT #[itV lb, .slice ao n c] (there_row hb 0 _ (by simp)) (by kernel_rfl) (by simp [itV, Value.oneCell'])
  simp only [execOp, ho, hx, hy, Sem.run_bind, hst, Result.andThen_ok, Sem.run_pure]
def lw_0 (s : String) : Oper := { dst := some 52, op := Op.move (Operand.tmp 8), type := 3, pos := s, after := #[], guard := none }
def lw_1 (s : String) : Oper := { dst := some 53, op := Op.move (Operand.tmp 8), type := 3, pos := s, after := #[{ on := 5, ground := Ground.gcOnly Departure.lateStores }], guard := none }
def lw_2 (s : String) : Oper := { dst := some 54, op := Op.call { callee := Callee.value (Operand.func 6), args := #[], argTypes := #[] }, type := 24, pos := s, after := #[], guard := none }
def lw_3 (s : String) : Oper := { dst := some 55, op := Op.call { callee := Callee.value (Operand.func 7), args := #[], argTypes := #[] }, type := 27, pos := s, after := #[{ on := 2, ground := Ground.chain }], guard := none }
def lw_4 (s : String) : Oper := { dst := some 56, op := Op.indexAddr 26 (Operand.tmp 3) (Operand.tmp 52), type := 0, pos := s, after := #[{ on := 0, ground := Ground.data }, { on := 0, ground := Ground.phase }, { on := 1, ground := Ground.textOnly Departure.lateStores }, { on := 2, ground := Ground.phase }, { on := 3, ground := Ground.textOnly Departure.lateStoresUnsure }], guard := none }
def lw_5 (s : String) : Oper := { dst := none, op := Op.store 24 (Operand.tmp 56) (Operand.tmp 54), type := 0, pos := s, after := #[{ on := 4, ground := Ground.data }, { on := 2, ground := Ground.data }, { on := 3, ground := Ground.chain }, { on := 0, ground := Ground.phase }, { on := 1, ground := Ground.textOnly Departure.lateStores }, { on := 2, ground := Ground.phase }, { on := 3, ground := Ground.textOnly Departure.lateStoresUnsure }], guard := none }
def lw_6 (s : String) : Oper := { dst := some 57, op := Op.indexAddr 29 (Operand.tmp 4) (Operand.tmp 53), type := 0, pos := s, after := #[{ on := 1, ground := Ground.data }, { on := 0, ground := Ground.phase }, { on := 1, ground := Ground.phase }, { on := 2, ground := Ground.phase }, { on := 3, ground := Ground.phase }, { on := 4, ground := Ground.phase }, { on := 5, ground := Ground.phase }], guard := none }
def lw_7 (s : String) : Oper := { dst := none, op := Op.store 27 (Operand.tmp 57) (Operand.tmp 55), type := 0, pos := s, after := #[{ on := 6, ground := Ground.data }, { on := 3, ground := Ground.data }, { on := 5, ground := Ground.chain }, { on := 0, ground := Ground.phase }, { on := 1, ground := Ground.phase }, { on := 2, ground := Ground.phase }, { on := 3, ground := Ground.phase }, { on := 4, ground := Ground.phase }, { on := 5, ground := Ground.phase }], guard := none }
def lw_ops (s : String) : Array Oper := #[lw_0 s, lw_1 s, lw_2 s, lw_3 s, lw_4 s, lw_5 s, lw_6 s, lw_7 s]
theorem lw_enter2 (s : String) (a : Act) (w : World) : (execOp a.eval (lw_2 s)).run Try.prog w = .ok (.enter 6 #[]) w := by kernel_rfl
theorem lw_enter3 (s : String) (a : Act) (w : World) : (execOp a.eval (lw_3 s)).run Try.prog w = .ok (.enter 7 #[]) w := by kernel_rfl
theorem lw_walk (s : String) {Q : Exit → Act → World → Prop} (hQ : ∀ c (a : Act) t v w, Q (.panic c) (a.put (some t) v) w → Q (.panic c) a w) (W : World) (pb rb j : Nat) (hj : j < 2) (A B : Array Value) (a0 b0 : Value) (hA : A[j]? = some a0) (hB : B[j]? = some b0) (hne : pb ≠ rb) (M1 : Nat → World → Prop) (M2 : World → Nat → World → Prop) (hc1 : Calls Try.prog 6 #[] W.drew fun e w' => ∃ x, e = .returned (.pointer (some ⟨x, 0, none⟩)) ∧ M1 x w') (hc2 : ∀ x w2, M1 x w2 → Calls Try.prog 7 #[] w2 fun e w' => ∃ q, e = .returned (.pointer (some ⟨q, 0, none⟩)) ∧ M2 w2 q w') (hk : ∀ x w2 q w3, M1 x w2 → M2 w2 q w3 → Blk w3 pb A PAT ∧ Blk w3 rb B RAT)
    (a : Act) (hs : 57 < a.tmps.size) (e3 : a.eval (.tmp 3) = .pointer (some ⟨pb, 0, none⟩)) (e4 : a.eval (.tmp 4) = .pointer (some ⟨rb, 0, none⟩)) (e8 : a.eval (.tmp 8) = .int .i64 (j : Int))
    (h0 : ∀ x w2, M1 x w2 → ∀ q w3, M2 w2 q w3 → Q .normal ((((((a.put (some 52) (.int .i64 (j : Int))).put (some 53) (.int .i64 (j : Int))).put (some 54) (.pointer (some ⟨x, 0, none⟩))).put (some 56) (.pointer (some ⟨pb, j, none⟩))).put (some 55) (.pointer (some ⟨q, 0, none⟩))).put (some 57) (.pointer (some ⟨rb, j, none⟩))) ((w3.setCell ⟨pb, j, none⟩ (.pointer (some ⟨x, 0, none⟩))).setCell ⟨rb, j, none⟩ (.pointer (some ⟨q, 0, none⟩)))) :
    Code.wp Try.prog (.region 15 (lw_ops s) true) Q a W := by
  refine wp_region_held_drew (S := fun _ => True) (by kernel_rfl) trivial (fun hS => ?_)
  change wpAnyH _ _ _ _ _ _ _ _ (World.drew _)
  refine wpAnyH_take (i := 0) (oi := lw_0 s) (v := .int .i64 (j : Int)) (by kernel_rfl) (by kernel_rfl) (by kernel_rfl) (by kernel_rfl) (fun c a w h => hQ c _ _ _ w h) (Or.inl ⟨wanted_none rfl, fun w hw => by simp only [execOp, lw_0, e8]; rfl⟩) hS ?_
  change wpAnyH _ _ _ _ _ _ _ (a.put (some 52) (.int .i64 (j : Int))) _
  obtain ⟨a0_1, ha1⟩ : ∃ rr : Act, rr = a.put (some 52) (.int .i64 (j : Int)) := ⟨_, rfl⟩
  have qz1 : 57 < a0_1.tmps.size := by rw [ha1, sz_put]; exact hs
  have f1_3 : a0_1.eval (.tmp 3) = .pointer (some ⟨pb, 0, none⟩) := by rw [ha1, ev_other _ _ _ _ (by decide)]; exact e3
  have f1_4 : a0_1.eval (.tmp 4) = .pointer (some ⟨rb, 0, none⟩) := by rw [ha1, ev_other _ _ _ _ (by decide)]; exact e4
  have f1_8 : a0_1.eval (.tmp 8) = .int .i64 (j : Int) := by rw [ha1, ev_other _ _ _ _ (by decide)]; exact e8
  have f1_52 : a0_1.eval (.tmp 52) = .int .i64 (j : Int) := by rw [ha1]; exact ev_same _ _ _ (Nat.lt_of_le_of_lt (by decide) hs)
  rw [← ha1] at h0 ⊢
  clear ha1
  refine wpAnyH_take (i := 1) (oi := lw_1 s) (v := .int .i64 (j : Int)) (by kernel_rfl) (by kernel_rfl) (by kernel_rfl) (by kernel_rfl) (fun c a w h => hQ c _ _ _ w h) (Or.inl ⟨wanted_none rfl, fun w hw => by simp only [execOp, lw_1, f1_8]; rfl⟩) hS ?_
  change wpAnyH _ _ _ _ _ _ _ (a0_1.put (some 53) (.int .i64 (j : Int))) _
  obtain ⟨a0_2, ha2⟩ : ∃ rr : Act, rr = a0_1.put (some 53) (.int .i64 (j : Int)) := ⟨_, rfl⟩
  have qz2 : 57 < a0_2.tmps.size := by rw [ha2, sz_put]; exact qz1
  have f2_3 : a0_2.eval (.tmp 3) = .pointer (some ⟨pb, 0, none⟩) := by rw [ha2, ev_other _ _ _ _ (by decide)]; exact f1_3
  have f2_4 : a0_2.eval (.tmp 4) = .pointer (some ⟨rb, 0, none⟩) := by rw [ha2, ev_other _ _ _ _ (by decide)]; exact f1_4
  have f2_52 : a0_2.eval (.tmp 52) = .int .i64 (j : Int) := by rw [ha2, ev_other _ _ _ _ (by decide)]; exact f1_52
  have f2_53 : a0_2.eval (.tmp 53) = .int .i64 (j : Int) := by rw [ha2]; exact ev_same _ _ _ (Nat.lt_of_le_of_lt (by decide) qz1)
  rw [← ha2] at h0 ⊢
  clear ha2
  refine wpAnyH_ready (rs := [2]) (by kernel_rfl) (by simp) ?_
  refine AllReadyH.cons (o := lw_2 s) (by kernel_rfl) (fun KQ hKQ => ?_) AllReadyH.nil
  rw [if_pos (wanted_none rfl)]
  refine step_enterE 6 #[] (by rw [lw_enter2]) (fun V w' => ∃ x, V = .pointer (some ⟨x, 0, none⟩) ∧ M1 x w') (hc1.mono (fun e w' ⟨x, h1, h2⟩ => ⟨_, h1, x, rfl, h2⟩)) ?_
  rintro _ w2 ⟨x, rfl, hM1⟩
  refine hKQ.out _ _ (trivial) (fun _ => ?_)
  clear hKQ KQ
  change wpAnyH _ _ _ _ _ _ _ (a0_2.put (some 54) (.pointer (some ⟨x, 0, none⟩))) _
  have h0 := h0 x w2 hM1
  obtain ⟨a0_3, ha3⟩ : ∃ rr : Act, rr = a0_2.put (some 54) (.pointer (some ⟨x, 0, none⟩)) := ⟨_, rfl⟩
  have qz3 : 57 < a0_3.tmps.size := by rw [ha3, sz_put]; exact qz2
  have f3_3 : a0_3.eval (.tmp 3) = .pointer (some ⟨pb, 0, none⟩) := by rw [ha3, ev_other _ _ _ _ (by decide)]; exact f2_3
  have f3_4 : a0_3.eval (.tmp 4) = .pointer (some ⟨rb, 0, none⟩) := by rw [ha3, ev_other _ _ _ _ (by decide)]; exact f2_4
  have f3_52 : a0_3.eval (.tmp 52) = .int .i64 (j : Int) := by rw [ha3, ev_other _ _ _ _ (by decide)]; exact f2_52
  have f3_53 : a0_3.eval (.tmp 53) = .int .i64 (j : Int) := by rw [ha3, ev_other _ _ _ _ (by decide)]; exact f2_53
  have f3_54 : a0_3.eval (.tmp 54) = .pointer (some ⟨x, 0, none⟩) := by rw [ha3]; exact ev_same _ _ _ (Nat.lt_of_le_of_lt (by decide) qz2)
  rw [← ha3] at h0 ⊢
  clear ha3
  refine wpAnyH_take (i := 4) (oi := lw_4 s) (v := .pointer (some ⟨pb, j, none⟩)) (by kernel_rfl) (by kernel_rfl) (by kernel_rfl) (by kernel_rfl) (fun c a w h => hQ c _ _ _ w h) (Or.inl ⟨wanted_none rfl, fun w hw => run_ixP rfl f3_3 f3_52 hj w⟩) hS ?_
  change wpAnyH _ _ _ _ _ _ _ (a0_3.put (some 56) (.pointer (some ⟨pb, j, none⟩))) _
  obtain ⟨a0_4, ha4⟩ : ∃ rr : Act, rr = a0_3.put (some 56) (.pointer (some ⟨pb, j, none⟩)) := ⟨_, rfl⟩
  have qz4 : 57 < a0_4.tmps.size := by rw [ha4, sz_put]; exact qz3
  have f4_4 : a0_4.eval (.tmp 4) = .pointer (some ⟨rb, 0, none⟩) := by rw [ha4, ev_other _ _ _ _ (by decide)]; exact f3_4
  have f4_53 : a0_4.eval (.tmp 53) = .int .i64 (j : Int) := by rw [ha4, ev_other _ _ _ _ (by decide)]; exact f3_53
  have f4_54 : a0_4.eval (.tmp 54) = .pointer (some ⟨x, 0, none⟩) := by rw [ha4, ev_other _ _ _ _ (by decide)]; exact f3_54
  have f4_56 : a0_4.eval (.tmp 56) = .pointer (some ⟨pb, j, none⟩) := by rw [ha4]; exact ev_same _ _ _ (Nat.lt_of_le_of_lt (by decide) qz3)
  rw [← ha4] at h0 ⊢
  clear ha4
  refine wpAnyH_ready (rs := [3]) (by kernel_rfl) (by simp) ?_
  refine AllReadyH.cons (o := lw_3 s) (by kernel_rfl) (fun KQ hKQ => ?_) AllReadyH.nil
  rw [if_pos (wanted_none rfl)]
  refine step_enterE 7 #[] (by rw [lw_enter3]) (fun V w' => ∃ q, V = .pointer (some ⟨q, 0, none⟩) ∧ M2 w2 q w') ((hc2 x w2 hM1).mono (fun e w' ⟨q, h1, h2⟩ => ⟨_, h1, q, rfl, h2⟩)) ?_
  rintro _ w3 ⟨q, rfl, hM2⟩
  refine hKQ.out _ _ (trivial) (fun _ => ?_)
  clear hKQ KQ
  change wpAnyH _ _ _ _ _ _ _ (a0_4.put (some 55) (.pointer (some ⟨q, 0, none⟩))) _
  have h0 := h0 q w3 hM2
  obtain ⟨a0_5, ha5⟩ : ∃ rr : Act, rr = a0_4.put (some 55) (.pointer (some ⟨q, 0, none⟩)) := ⟨_, rfl⟩
  have qz5 : 57 < a0_5.tmps.size := by rw [ha5, sz_put]; exact qz4
  have f5_4 : a0_5.eval (.tmp 4) = .pointer (some ⟨rb, 0, none⟩) := by rw [ha5, ev_other _ _ _ _ (by decide)]; exact f4_4
  have f5_53 : a0_5.eval (.tmp 53) = .int .i64 (j : Int) := by rw [ha5, ev_other _ _ _ _ (by decide)]; exact f4_53
  have f5_54 : a0_5.eval (.tmp 54) = .pointer (some ⟨x, 0, none⟩) := by rw [ha5, ev_other _ _ _ _ (by decide)]; exact f4_54
  have f5_55 : a0_5.eval (.tmp 55) = .pointer (some ⟨q, 0, none⟩) := by rw [ha5]; exact ev_same _ _ _ (Nat.lt_of_le_of_lt (by decide) qz4)
  have f5_56 : a0_5.eval (.tmp 56) = .pointer (some ⟨pb, j, none⟩) := by rw [ha5, ev_other _ _ _ _ (by decide)]; exact f4_56
  rw [← ha5] at h0 ⊢
  clear ha5
  refine wpAnyH_ready (rs := [5]) (by kernel_rfl) (by simp) ?_
  refine AllReadyH.cons (o := lw_5 s) (by kernel_rfl) (fun KQ hKQ => ?_) AllReadyH.nil
  rw [if_pos (wanted_none rfl)]
  refine step_skipE (w3.setCell ⟨pb, j, none⟩ (.pointer (some ⟨x, 0, none⟩))) (run_stX rfl f5_56 f5_54 (by rw [(hk x w2 q w3 hM1 hM2).1.cell]; exact hA) (Blk.frozen (hk x w2 q w3 hM1 hM2).1 j)) ?_
  refine hKQ.out _ _ (trivial) (fun _ => ?_)
  clear hKQ KQ
  change wpAnyH _ _ _ _ _ _ _ a0_5 _
  refine wpAnyH_take (i := 6) (oi := lw_6 s) (v := .pointer (some ⟨rb, j, none⟩)) (by kernel_rfl) (by kernel_rfl) (by kernel_rfl) (by kernel_rfl) (fun c a w h => hQ c _ _ _ w h) (Or.inl ⟨wanted_none rfl, fun w hw => run_ixR rfl f5_4 f5_53 hj w⟩) hS ?_
  change wpAnyH _ _ _ _ _ _ _ (a0_5.put (some 57) (.pointer (some ⟨rb, j, none⟩))) _
  obtain ⟨a0_7, ha7⟩ : ∃ rr : Act, rr = a0_5.put (some 57) (.pointer (some ⟨rb, j, none⟩)) := ⟨_, rfl⟩
  have qz7 : 57 < a0_7.tmps.size := by rw [ha7, sz_put]; exact qz5
  have f7_55 : a0_7.eval (.tmp 55) = .pointer (some ⟨q, 0, none⟩) := by rw [ha7, ev_other _ _ _ _ (by decide)]; exact f5_55
  have f7_57 : a0_7.eval (.tmp 57) = .pointer (some ⟨rb, j, none⟩) := by rw [ha7]; exact ev_same _ _ _ (Nat.lt_of_le_of_lt (by decide) qz5)
  rw [← ha7] at h0 ⊢
  clear ha7
  refine wpAnyH_ready (rs := [7]) (by kernel_rfl) (by simp) ?_
  refine AllReadyH.cons (o := lw_7 s) (by kernel_rfl) (fun KQ hKQ => ?_) AllReadyH.nil
  rw [if_pos (wanted_none rfl)]
  refine step_skipE ((w3.setCell ⟨pb, j, none⟩ (.pointer (some ⟨x, 0, none⟩))).setCell ⟨rb, j, none⟩ (.pointer (some ⟨q, 0, none⟩))) (run_stQ rfl f7_57 f7_55 (by rw [(Blk.grown (hk x w2 q w3 hM1 hM2).2 (grownBy_set w3 pb j _) (fun e => hne (Option.some.inj e).symm)).cell]; exact hB) (Blk.frozen (Blk.grown (hk x w2 q w3 hM1 hM2).2 (grownBy_set w3 pb j _) (fun e => hne (Option.some.inj e).symm)) j)) ?_
  refine hKQ.out _ _ (trivial) (fun _ => ?_)
  clear hKQ KQ
  refine wpAnyH_done (by kernel_rfl) ?_ _
  exact h0
def lk_0 (s : String) : Oper := { dst := some 67, op := Op.move (Operand.tmp 5), type := 30, pos := s, after := #[], guard := none }
def lk_1 (s : String) : Oper := { dst := some 68, op := Op.move (Operand.tmp 9), type := 24, pos := s, after := #[], guard := none }
def lk_2 (s : String) : Oper := { dst := some 69, op := Op.call { callee := Callee.value (Operand.func 8), args := #[Operand.tmp 68], argTypes := #[24] }, type := 41, pos := s, after := #[{ on := 1, ground := Ground.data }], guard := none }
def lk_3 (s : String) : Oper := { dst := some 70, op := Op.move (Operand.tmp 10), type := 27, pos := s, after := #[], guard := none }
def lk_4 (s : String) : Oper := { dst := some 71, op := Op.nilCheck (Operand.tmp 70), type := 0, pos := s, after := #[{ on := 3, ground := Ground.data }], guard := none }
def lk_5 (s : String) : Oper := { dst := some 72, op := Op.fieldAddr 45 (Operand.tmp 71) 0, type := 0, pos := s, after := #[{ on := 4, ground := Ground.data }], guard := none }
def lk_6 (s : String) : Oper := { dst := some 73, op := Op.load 43 (Operand.tmp 72), type := 43, pos := s, after := #[{ on := 5, ground := Ground.data }], guard := none }
def lk_7 (s : String) : Oper := { dst := some 74, op := Op.build 47 #[(0, Operand.tmp 69), (1, Operand.tmp 73)], type := 47, pos := s, after := #[{ on := 2, ground := Ground.data }, { on := 6, ground := Ground.data }], guard := none }
def lk_8 (s : String) : Oper := { dst := some 75, op := Op.buildSlice 30 1 #[(0, Operand.tmp 74)], type := 30, pos := s, after := #[{ on := 7, ground := Ground.data }], guard := none }
def lk_9 (s : String) : Oper := { dst := some 76, op := Op.call { callee := Callee.builtin Builtin.append, args := #[Operand.tmp 67, Operand.tmp 75], argTypes := #[30, 30] }, type := 30, pos := s, after := #[{ on := 0, ground := Ground.data }, { on := 8, ground := Ground.data }, { on := 2, ground := Ground.chain }], guard := none }
def lk_10 (s : String) : Oper := { dst := some 5, op := Op.assign (Operand.tmp 76), type := 30, pos := s, after := #[{ on := 9, ground := Ground.data }, { on := 9, ground := Ground.chain }, { on := 0, ground := Ground.phase }, { on := 1, ground := Ground.phase }, { on := 2, ground := Ground.phase }, { on := 3, ground := Ground.phase }, { on := 4, ground := Ground.phase }, { on := 5, ground := Ground.phase }, { on := 6, ground := Ground.phase }, { on := 7, ground := Ground.phase }, { on := 8, ground := Ground.phase }, { on := 9, ground := Ground.phase }], guard := none }
def lk_ops (s : String) : Array Oper := #[lk_0 s, lk_1 s, lk_2 s, lk_3 s, lk_4 s, lk_5 s, lk_6 s, lk_7 s, lk_8 s, lk_9 s, lk_10 s]
theorem lk_enter2 (s : String) (a : Act) (w : World) : (execOp a.eval (lk_2 s)).run Try.prog w = .ok (.enter 8 #[a.eval (.tmp 68)]) w := by kernel_rfl
theorem lk_walk (s : String) {Q : Exit → Act → World → Prop} (hQ : ∀ c (a : Act) t v w, Q (.panic c) (a.put (some t) v) w → Q (.panic c) a w) (W : World) (q n c : Nat) (ao : Option Addr) (pv kv : Value) (M1 : Nat → World → Prop) (M3 : Nat → World → Value → World → Prop) (hS0 : W.drew.cell? ⟨q, 0, none⟩ = some (.slice ao n c)) (hc1 : Calls Try.prog 8 #[pv] W.drew fun e w' => ∃ lb, e = .returned (itV lb) ∧ M1 lb w') (hk1 : ∀ lb w2, M1 lb w2 → w2.cell? ⟨q, 0, none⟩ = some (.slice ao n c) ∧ (w2.alloc (.cells #[itV lb, .slice ao n c] KPT)).cell? ⟨q, 0, none⟩ = some (.slice ao n c)) (happ : ∀ lb w2, M1 lb w2 → ∃ v5 w5, (Builtin.append_ #[KPLT, KPLT] KPLT #[kv, .slice (some ⟨w2.heap.size, 0, none⟩) 1 1]).run Try.prog (w2.alloc (.cells #[itV lb, .slice ao n c] KPT)) = .ok v5 w5 ∧ M3 lb w2 v5 w5 ∧ w5.cell? ⟨q, 0, none⟩ = some (.slice ao n c))
    (a : Act) (hs : 76 < a.tmps.size) (e5 : a.eval (.tmp 5) = kv) (e9 : a.eval (.tmp 9) = pv) (e10 : a.eval (.tmp 10) = .pointer (some ⟨q, 0, none⟩))
    (h0 : ∀ lb w2, M1 lb w2 → ∀ v5 w5, M3 lb w2 v5 w5 → Q .normal (((((((((((a.put (some 67) (kv)).put (some 68) (pv)).put (some 70) (.pointer (some ⟨q, 0, none⟩))).put (some 71) (.pointer (some ⟨q, 0, none⟩))).put (some 72) (.pointer (some ⟨q, 0, none⟩))).put (some 73) (.slice ao n c)).put (some 69) (itV lb)).put (some 74) (.agg #[itV lb, .slice ao n c])).put (some 75) (.slice (some ⟨w2.heap.size, 0, none⟩) 1 1)).put (some 76) (v5)).put (some 5) (v5)) w5) :
    Code.wp Try.prog (.region 18 (lk_ops s) true) Q a W := by
  refine wp_region_held_drew (S := fun w => w.cell? ⟨q, 0, none⟩ = some (.slice ao n c)) (by kernel_rfl) hS0 (fun hS => ?_)
  change wpAnyH _ _ _ _ _ _ _ _ (World.drew _)
  refine wpAnyH_take (i := 0) (oi := lk_0 s) (v := kv) (by kernel_rfl) (by kernel_rfl) (by kernel_rfl) (by kernel_rfl) (fun c a w h => hQ c _ _ _ w h) (Or.inl ⟨wanted_none rfl, fun w hw => by simp only [execOp, lk_0, e5]; rfl⟩) hS ?_
  change wpAnyH _ _ _ _ _ _ _ (a.put (some 67) (kv)) _
  obtain ⟨a0_1, ha1⟩ : ∃ rr : Act, rr = a.put (some 67) (kv) := ⟨_, rfl⟩
  have qz1 : 76 < a0_1.tmps.size := by rw [ha1, sz_put]; exact hs
  have f1_9 : a0_1.eval (.tmp 9) = pv := by rw [ha1, ev_other _ _ _ _ (by decide)]; exact e9
  have f1_10 : a0_1.eval (.tmp 10) = .pointer (some ⟨q, 0, none⟩) := by rw [ha1, ev_other _ _ _ _ (by decide)]; exact e10
  have f1_67 : a0_1.eval (.tmp 67) = kv := by rw [ha1]; exact ev_same _ _ _ (Nat.lt_of_le_of_lt (by decide) hs)
  rw [← ha1] at h0 ⊢
  clear ha1
  refine wpAnyH_take (i := 1) (oi := lk_1 s) (v := pv) (by kernel_rfl) (by kernel_rfl) (by kernel_rfl) (by kernel_rfl) (fun c a w h => hQ c _ _ _ w h) (Or.inl ⟨wanted_none rfl, fun w hw => by simp only [execOp, lk_1, f1_9]; rfl⟩) hS ?_
  change wpAnyH _ _ _ _ _ _ _ (a0_1.put (some 68) (pv)) _
  obtain ⟨a0_2, ha2⟩ : ∃ rr : Act, rr = a0_1.put (some 68) (pv) := ⟨_, rfl⟩
  have qz2 : 76 < a0_2.tmps.size := by rw [ha2, sz_put]; exact qz1
  have f2_10 : a0_2.eval (.tmp 10) = .pointer (some ⟨q, 0, none⟩) := by rw [ha2, ev_other _ _ _ _ (by decide)]; exact f1_10
  have f2_67 : a0_2.eval (.tmp 67) = kv := by rw [ha2, ev_other _ _ _ _ (by decide)]; exact f1_67
  have f2_68 : a0_2.eval (.tmp 68) = pv := by rw [ha2]; exact ev_same _ _ _ (Nat.lt_of_le_of_lt (by decide) qz1)
  rw [← ha2] at h0 ⊢
  clear ha2
  refine wpAnyH_take (i := 3) (oi := lk_3 s) (v := .pointer (some ⟨q, 0, none⟩)) (by kernel_rfl) (by kernel_rfl) (by kernel_rfl) (by kernel_rfl) (fun c a w h => hQ c _ _ _ w h) (Or.inl ⟨wanted_none rfl, fun w hw => by simp only [execOp, lk_3, f2_10]; rfl⟩) hS ?_
  change wpAnyH _ _ _ _ _ _ _ (a0_2.put (some 70) (.pointer (some ⟨q, 0, none⟩))) _
  obtain ⟨a0_3, ha3⟩ : ∃ rr : Act, rr = a0_2.put (some 70) (.pointer (some ⟨q, 0, none⟩)) := ⟨_, rfl⟩
  have qz3 : 76 < a0_3.tmps.size := by rw [ha3, sz_put]; exact qz2
  have f3_67 : a0_3.eval (.tmp 67) = kv := by rw [ha3, ev_other _ _ _ _ (by decide)]; exact f2_67
  have f3_68 : a0_3.eval (.tmp 68) = pv := by rw [ha3, ev_other _ _ _ _ (by decide)]; exact f2_68
  have f3_70 : a0_3.eval (.tmp 70) = .pointer (some ⟨q, 0, none⟩) := by rw [ha3]; exact ev_same _ _ _ (Nat.lt_of_le_of_lt (by decide) qz2)
  rw [← ha3] at h0 ⊢
  clear ha3
  refine wpAnyH_take (i := 4) (oi := lk_4 s) (v := .pointer (some ⟨q, 0, none⟩)) (by kernel_rfl) (by kernel_rfl) (by kernel_rfl) (by kernel_rfl) (fun c a w h => hQ c _ _ _ w h) (Or.inl ⟨wanted_none rfl, fun w hw => by simp only [execOp, lk_4, f3_70]; rfl⟩) hS ?_
  change wpAnyH _ _ _ _ _ _ _ (a0_3.put (some 71) (.pointer (some ⟨q, 0, none⟩))) _
  obtain ⟨a0_4, ha4⟩ : ∃ rr : Act, rr = a0_3.put (some 71) (.pointer (some ⟨q, 0, none⟩)) := ⟨_, rfl⟩
  have qz4 : 76 < a0_4.tmps.size := by rw [ha4, sz_put]; exact qz3
  have f4_67 : a0_4.eval (.tmp 67) = kv := by rw [ha4, ev_other _ _ _ _ (by decide)]; exact f3_67
  have f4_68 : a0_4.eval (.tmp 68) = pv := by rw [ha4, ev_other _ _ _ _ (by decide)]; exact f3_68
  have f4_71 : a0_4.eval (.tmp 71) = .pointer (some ⟨q, 0, none⟩) := by rw [ha4]; exact ev_same _ _ _ (Nat.lt_of_le_of_lt (by decide) qz3)
  rw [← ha4] at h0 ⊢
  clear ha4
  refine wpAnyH_take (i := 5) (oi := lk_5 s) (v := .pointer (some ⟨q, 0, none⟩)) (by kernel_rfl) (by kernel_rfl) (by kernel_rfl) (by kernel_rfl) (fun c a w h => hQ c _ _ _ w h) (Or.inl ⟨wanted_none rfl, fun w hw => by simp only [execOp, lk_5, f4_71]; rfl⟩) hS ?_
  change wpAnyH _ _ _ _ _ _ _ (a0_4.put (some 72) (.pointer (some ⟨q, 0, none⟩))) _
  obtain ⟨a0_5, ha5⟩ : ∃ rr : Act, rr = a0_4.put (some 72) (.pointer (some ⟨q, 0, none⟩)) := ⟨_, rfl⟩
  have qz5 : 76 < a0_5.tmps.size := by rw [ha5, sz_put]; exact qz4
  have f5_67 : a0_5.eval (.tmp 67) = kv := by rw [ha5, ev_other _ _ _ _ (by decide)]; exact f4_67
  have f5_68 : a0_5.eval (.tmp 68) = pv := by rw [ha5, ev_other _ _ _ _ (by decide)]; exact f4_68
  have f5_72 : a0_5.eval (.tmp 72) = .pointer (some ⟨q, 0, none⟩) := by rw [ha5]; exact ev_same _ _ _ (Nat.lt_of_le_of_lt (by decide) qz4)
  rw [← ha5] at h0 ⊢
  clear ha5
  refine wpAnyH_take (i := 6) (oi := lk_6 s) (v := .slice ao n c) (by kernel_rfl) (by kernel_rfl) (by kernel_rfl) (by kernel_rfl) (fun c a w h => hQ c _ _ _ w h) (Or.inl ⟨wanted_none rfl, fun w hw => run_loadO rfl f5_72 (load_kl hw)⟩) hS ?_
  change wpAnyH _ _ _ _ _ _ _ (a0_5.put (some 73) (.slice ao n c)) _
  obtain ⟨a0_6, ha6⟩ : ∃ rr : Act, rr = a0_5.put (some 73) (.slice ao n c) := ⟨_, rfl⟩
  have qz6 : 76 < a0_6.tmps.size := by rw [ha6, sz_put]; exact qz5
  have f6_67 : a0_6.eval (.tmp 67) = kv := by rw [ha6, ev_other _ _ _ _ (by decide)]; exact f5_67
  have f6_68 : a0_6.eval (.tmp 68) = pv := by rw [ha6, ev_other _ _ _ _ (by decide)]; exact f5_68
  have f6_73 : a0_6.eval (.tmp 73) = .slice ao n c := by rw [ha6]; exact ev_same _ _ _ (Nat.lt_of_le_of_lt (by decide) qz5)
  rw [← ha6] at h0 ⊢
  clear ha6
  refine wpAnyH_ready (rs := [2]) (by kernel_rfl) (by simp) ?_
  refine AllReadyH.cons (o := lk_2 s) (by kernel_rfl) (fun KQ hKQ => ?_) AllReadyH.nil
  rw [if_pos (wanted_none rfl)]
  refine step_enterE 8 #[pv] (by rw [lk_enter2, f6_68]) (fun V w' => ∃ lb, V = itV lb ∧ M1 lb w') (hc1.mono (fun e w' ⟨lb, h1, h2⟩ => ⟨_, h1, lb, rfl, h2⟩)) ?_
  rintro _ w2 ⟨lb, rfl, hM1⟩
  refine hKQ.out _ _ ((hk1 lb w2 hM1).1) (fun _ => ?_)
  clear hKQ KQ
  change wpAnyH _ _ _ _ _ _ _ (a0_6.put (some 69) (itV lb)) _
  have h0 := h0 lb w2 hM1
  obtain ⟨a0_7, ha7⟩ : ∃ rr : Act, rr = a0_6.put (some 69) (itV lb) := ⟨_, rfl⟩
  have qz7 : 76 < a0_7.tmps.size := by rw [ha7, sz_put]; exact qz6
  have f7_67 : a0_7.eval (.tmp 67) = kv := by rw [ha7, ev_other _ _ _ _ (by decide)]; exact f6_67
  have f7_69 : a0_7.eval (.tmp 69) = itV lb := by rw [ha7]; exact ev_same _ _ _ (Nat.lt_of_le_of_lt (by decide) qz6)
  have f7_73 : a0_7.eval (.tmp 73) = .slice ao n c := by rw [ha7, ev_other _ _ _ _ (by decide)]; exact f6_73
  rw [← ha7] at h0 ⊢
  clear ha7
  refine wpAnyH_take (i := 7) (oi := lk_7 s) (v := .agg #[itV lb, .slice ao n c]) (by kernel_rfl) (by kernel_rfl) (by kernel_rfl) (by kernel_rfl) (fun c a w h => hQ c _ _ _ w h) (Or.inl ⟨wanted_none rfl, fun w hw => run_bdKP rfl f7_69 f7_73 w⟩) (hk1 lb w2 hM1).1 ?_
  change wpAnyH _ _ _ _ _ _ _ (a0_7.put (some 74) (.agg #[itV lb, .slice ao n c])) _
  obtain ⟨a0_8, ha8⟩ : ∃ rr : Act, rr = a0_7.put (some 74) (.agg #[itV lb, .slice ao n c]) := ⟨_, rfl⟩
  have qz8 : 76 < a0_8.tmps.size := by rw [ha8, sz_put]; exact qz7
  have f8_67 : a0_8.eval (.tmp 67) = kv := by rw [ha8, ev_other _ _ _ _ (by decide)]; exact f7_67
  have f8_74 : a0_8.eval (.tmp 74) = .agg #[itV lb, .slice ao n c] := by rw [ha8]; exact ev_same _ _ _ (Nat.lt_of_le_of_lt (by decide) qz7)
  rw [← ha8] at h0 ⊢
  clear ha8
  refine wpAnyH_ready (rs := [8]) (by kernel_rfl) (by simp) ?_
  refine AllReadyH.cons (o := lk_8 s) (by kernel_rfl) (fun KQ hKQ => ?_) AllReadyH.nil
  rw [if_pos (wanted_none rfl)]
  refine step_runE (.slice (some ⟨w2.heap.size, 0, none⟩) 1 1) ((w2.alloc (.cells #[itV lb, .slice ao n c] KPT))) (run_bsKP rfl f8_74) ?_
  refine hKQ.out _ _ ((hk1 lb w2 hM1).2) (fun _ => ?_)
  clear hKQ KQ
  change wpAnyH _ _ _ _ _ _ _ (a0_8.put (some 75) (.slice (some ⟨w2.heap.size, 0, none⟩) 1 1)) _
  obtain ⟨a0_9, ha9⟩ : ∃ rr : Act, rr = a0_8.put (some 75) (.slice (some ⟨w2.heap.size, 0, none⟩) 1 1) := ⟨_, rfl⟩
  have qz9 : 76 < a0_9.tmps.size := by rw [ha9, sz_put]; exact qz8
  have f9_67 : a0_9.eval (.tmp 67) = kv := by rw [ha9, ev_other _ _ _ _ (by decide)]; exact f8_67
  have f9_75 : a0_9.eval (.tmp 75) = .slice (some ⟨w2.heap.size, 0, none⟩) 1 1 := by rw [ha9]; exact ev_same _ _ _ (Nat.lt_of_le_of_lt (by decide) qz8)
  rw [← ha9] at h0 ⊢
  clear ha9
  refine wpAnyH_ready (rs := [9]) (by kernel_rfl) (by simp) ?_
  refine AllReadyH.cons (o := lk_9 s) (by kernel_rfl) (fun KQ hKQ => ?_) AllReadyH.nil
  rw [if_pos (wanted_none rfl)]
  obtain ⟨v5, w5, hrun, hM3, hS5⟩ := happ lb w2 hM1
  refine step_runE (v5) (w5) (run_appKP rfl f9_67 f9_75 rfl hrun) ?_
  refine hKQ.out _ _ (hS5) (fun _ => ?_)
  clear hKQ KQ
  change wpAnyH _ _ _ _ _ _ _ (a0_9.put (some 76) (v5)) _
  have h0 := h0 v5 w5 hM3
  obtain ⟨a0_10, ha10⟩ : ∃ rr : Act, rr = a0_9.put (some 76) (v5) := ⟨_, rfl⟩
  have qz10 : 76 < a0_10.tmps.size := by rw [ha10, sz_put]; exact qz9
  have f10_76 : a0_10.eval (.tmp 76) = v5 := by rw [ha10]; exact ev_same _ _ _ (Nat.lt_of_le_of_lt (by decide) qz9)
  rw [← ha10] at h0 ⊢
  clear ha10
  refine wpAnyH_take (i := 10) (oi := lk_10 s) (v := v5) (by kernel_rfl) (by kernel_rfl) (by kernel_rfl) (by kernel_rfl) (fun c a w h => hQ c _ _ _ w h) (Or.inl ⟨wanted_none rfl, fun w hw => by simp only [execOp, lk_10, f10_76]; rfl⟩) hS5 ?_
  change wpAnyH _ _ _ _ _ _ _ (a0_10.put (some 5) (v5)) _
  obtain ⟨a0_11, ha11⟩ : ∃ rr : Act, rr = a0_10.put (some 5) (v5) := ⟨_, rfl⟩
  have qz11 : 76 < a0_11.tmps.size := by rw [ha11, sz_put]; exact qz10
  rw [← ha11] at h0 ⊢
  clear ha11
  refine wpAnyH_done (by kernel_rfl) ?_ _
  exact h0
def le_0 (s : String) : Oper := { dst := some 105, op := Op.move (Operand.tmp 12), type := 3, pos := s, after := #[], guard := none }
def le_1 (s : String) : Oper := { dst := some 106, op := Op.indexAddr 26 (Operand.tmp 3) (Operand.tmp 105), type := 0, pos := s, after := #[{ on := 0, ground := Ground.data }], guard := none }
def le_2 (s : String) : Oper := { dst := some 107, op := Op.load 24 (Operand.tmp 106), type := 24, pos := s, after := #[{ on := 1, ground := Ground.data }], guard := none }
def le_3 (s : String) : Oper := { dst := some 108, op := Op.call { callee := Callee.value (Operand.func 8), args := #[Operand.tmp 107], argTypes := #[24] }, type := 41, pos := s, after := #[{ on := 2, ground := Ground.data }], guard := none }
def le_4 (s : String) : Oper := { dst := some 109, op := Op.move (Operand.tmp 12), type := 3, pos := s, after := #[], guard := none }
def le_5 (s : String) : Oper := { dst := some 110, op := Op.indexAddr 29 (Operand.tmp 4) (Operand.tmp 109), type := 0, pos := s, after := #[{ on := 4, ground := Ground.data }], guard := none }
def le_6 (s : String) : Oper := { dst := some 111, op := Op.load 27 (Operand.tmp 110), type := 27, pos := s, after := #[{ on := 5, ground := Ground.data }], guard := none }
def le_7 (s : String) : Oper := { dst := some 112, op := Op.nilCheck (Operand.tmp 111), type := 0, pos := s, after := #[{ on := 6, ground := Ground.data }], guard := none }
def le_8 (s : String) : Oper := { dst := some 113, op := Op.fieldAddr 45 (Operand.tmp 112) 0, type := 0, pos := s, after := #[{ on := 7, ground := Ground.data }], guard := none }
def le_9 (s : String) : Oper := { dst := some 114, op := Op.load 43 (Operand.tmp 113), type := 43, pos := s, after := #[{ on := 8, ground := Ground.data }], guard := none }
def le_10 (s : String) : Oper := { dst := some 115, op := Op.build 47 #[(0, Operand.tmp 108), (1, Operand.tmp 114)], type := 47, pos := s, after := #[{ on := 3, ground := Ground.data }, { on := 9, ground := Ground.data }], guard := none }
def le_11 (s : String) : Oper := { dst := some 13, op := Op.alloc 47, type := 0, pos := s, after := #[], guard := none }
def le_12 (s : String) : Oper := { dst := none, op := Op.store 47 (Operand.tmp 13) (Operand.tmp 115), type := 0, pos := s, after := #[{ on := 11, ground := Ground.data }, { on := 10, ground := Ground.data }, { on := 3, ground := Ground.chain }, { on := 0, ground := Ground.phase }, { on := 1, ground := Ground.phase }, { on := 2, ground := Ground.phase }, { on := 3, ground := Ground.phase }, { on := 4, ground := Ground.phase }, { on := 5, ground := Ground.phase }, { on := 6, ground := Ground.phase }, { on := 7, ground := Ground.phase }, { on := 8, ground := Ground.phase }, { on := 9, ground := Ground.phase }, { on := 10, ground := Ground.phase }, { on := 11, ground := Ground.phase }], guard := none }
def le_ops (s : String) : Array Oper := #[le_0 s, le_1 s, le_2 s, le_3 s, le_4 s, le_5 s, le_6 s, le_7 s, le_8 s, le_9 s, le_10 s, le_11 s, le_12 s]
theorem le_enter3 (s : String) (a : Act) (w : World) : (execOp a.eval (le_3 s)).run Try.prog w = .ok (.enter 8 #[a.eval (.tmp 107)]) w := by kernel_rfl
theorem le_walk (s : String) {Q : Exit → Act → World → Prop} (hQ : ∀ c (a : Act) t v w, Q (.panic c) (a.put (some t) v) w → Q (.panic c) a w) (W : World) (pb rb q n c j : Nat) (hj : j < 2) (ao : Option Addr) (pv : Value) (M1 : Nat → World → Prop) (M2 : Nat → World → Prop) (hS0 : W.drew.cell? ⟨pb, j, none⟩ = some pv ∧ W.drew.cell? ⟨rb, j, none⟩ = some (.pointer (some ⟨q, 0, none⟩)) ∧ W.drew.cell? ⟨q, 0, none⟩ = some (.slice ao n c)) (hSA : (W.drew.alloc (.cells #[.nilFunc, .slice none 0 0] KPT)).cell? ⟨pb, j, none⟩ = some pv ∧ (W.drew.alloc (.cells #[.nilFunc, .slice none 0 0] KPT)).cell? ⟨rb, j, none⟩ = some (.pointer (some ⟨q, 0, none⟩)) ∧ (W.drew.alloc (.cells #[.nilFunc, .slice none 0 0] KPT)).cell? ⟨q, 0, none⟩ = some (.slice ao n c)) (hc1 : Calls Try.prog 8 #[pv] W.drew fun e w' => ∃ lb, e = .returned (itV lb) ∧ M1 lb w') (hc2 : Calls Try.prog 8 #[pv] (W.drew.alloc (.cells #[.nilFunc, .slice none 0 0] KPT)) fun e w' => ∃ lb, e = .returned (itV lb) ∧ M2 lb w') (hk1 : ∀ lb w2, M1 lb w2 → (w2.cell? ⟨pb, j, none⟩ = some pv ∧ w2.cell? ⟨rb, j, none⟩ = some (.pointer (some ⟨q, 0, none⟩)) ∧ w2.cell? ⟨q, 0, none⟩ = some (.slice ao n c)) ∧ ((w2.alloc (.cells #[.nilFunc, .slice none 0 0] KPT)).cell? ⟨pb, j, none⟩ = some pv ∧ (w2.alloc (.cells #[.nilFunc, .slice none 0 0] KPT)).cell? ⟨rb, j, none⟩ = some (.pointer (some ⟨q, 0, none⟩)) ∧ (w2.alloc (.cells #[.nilFunc, .slice none 0 0] KPT)).cell? ⟨q, 0, none⟩ = some (.slice ao n c))) (hk2 : ∀ lb w2, M2 lb w2 → (w2.cell? ⟨pb, j, none⟩ = some pv ∧ w2.cell? ⟨rb, j, none⟩ = some (.pointer (some ⟨q, 0, none⟩)) ∧ w2.cell? ⟨q, 0, none⟩ = some (.slice ao n c)) ∧ Blk w2 W.drew.heap.size #[.nilFunc, .slice none 0 0] KPT) (hf1 : ∀ lb w2, M1 lb w2 → ((w2.alloc (.cells #[.nilFunc, .slice none 0 0] KPT)).setCells w2.heap.size 0 [itV lb, .slice ao n c]).cell? ⟨pb, j, none⟩ = some pv ∧ ((w2.alloc (.cells #[.nilFunc, .slice none 0 0] KPT)).setCells w2.heap.size 0 [itV lb, .slice ao n c]).cell? ⟨rb, j, none⟩ = some (.pointer (some ⟨q, 0, none⟩)) ∧ ((w2.alloc (.cells #[.nilFunc, .slice none 0 0] KPT)).setCells w2.heap.size 0 [itV lb, .slice ao n c]).cell? ⟨q, 0, none⟩ = some (.slice ao n c)) (hf2 : ∀ lb w2, M2 lb w2 → (w2.setCells W.drew.heap.size 0 [itV lb, .slice ao n c]).cell? ⟨pb, j, none⟩ = some pv ∧ (w2.setCells W.drew.heap.size 0 [itV lb, .slice ao n c]).cell? ⟨rb, j, none⟩ = some (.pointer (some ⟨q, 0, none⟩)) ∧ (w2.setCells W.drew.heap.size 0 [itV lb, .slice ao n c]).cell? ⟨q, 0, none⟩ = some (.slice ao n c))
    (a : Act) (hs : 115 < a.tmps.size) (e3 : a.eval (.tmp 3) = .pointer (some ⟨pb, 0, none⟩)) (e4 : a.eval (.tmp 4) = .pointer (some ⟨rb, 0, none⟩)) (e12 : a.eval (.tmp 12) = .int .i64 (j : Int))
    (h0 : ∀ lb w2, M1 lb w2 → Q .normal ((((((((((((a.put (some 105) (.int .i64 (j : Int))).put (some 106) (.pointer (some ⟨pb, j, none⟩))).put (some 107) (pv)).put (some 109) (.int .i64 (j : Int))).put (some 110) (.pointer (some ⟨rb, j, none⟩))).put (some 111) (.pointer (some ⟨q, 0, none⟩))).put (some 112) (.pointer (some ⟨q, 0, none⟩))).put (some 113) (.pointer (some ⟨q, 0, none⟩))).put (some 114) (.slice ao n c)).put (some 108) (itV lb)).put (some 115) (.agg #[itV lb, .slice ao n c])).put (some 13) (.pointer (some ⟨w2.heap.size, 0, none⟩))) ((w2.alloc (.cells #[.nilFunc, .slice none 0 0] KPT)).setCells w2.heap.size 0 [itV lb, .slice ao n c])) (h1 : ∀ lb w2, M2 lb w2 → Q .normal ((((((((((((a.put (some 105) (.int .i64 (j : Int))).put (some 106) (.pointer (some ⟨pb, j, none⟩))).put (some 107) (pv)).put (some 109) (.int .i64 (j : Int))).put (some 110) (.pointer (some ⟨rb, j, none⟩))).put (some 111) (.pointer (some ⟨q, 0, none⟩))).put (some 112) (.pointer (some ⟨q, 0, none⟩))).put (some 113) (.pointer (some ⟨q, 0, none⟩))).put (some 114) (.slice ao n c)).put (some 13) (.pointer (some ⟨W.drew.heap.size, 0, none⟩))).put (some 108) (itV lb)).put (some 115) (.agg #[itV lb, .slice ao n c])) (w2.setCells W.drew.heap.size 0 [itV lb, .slice ao n c])) :
    Code.wp Try.prog (.region 29 (le_ops s) true) Q a W := by
  refine wp_region_held_drew (S := fun w => w.cell? ⟨pb, j, none⟩ = some pv ∧ w.cell? ⟨rb, j, none⟩ = some (.pointer (some ⟨q, 0, none⟩)) ∧ w.cell? ⟨q, 0, none⟩ = some (.slice ao n c)) (by kernel_rfl) hS0 (fun hS => ?_)
  change wpAnyH _ _ _ _ _ _ _ _ (World.drew _)
  refine wpAnyH_take (i := 0) (oi := le_0 s) (v := .int .i64 (j : Int)) (by kernel_rfl) (by kernel_rfl) (by kernel_rfl) (by kernel_rfl) (fun c a w h => hQ c _ _ _ w h) (Or.inl ⟨wanted_none rfl, fun w hw => by simp only [execOp, le_0, e12]; rfl⟩) hS ?_
  change wpAnyH _ _ _ _ _ _ _ (a.put (some 105) (.int .i64 (j : Int))) _
  obtain ⟨a0_1, ha1⟩ : ∃ rr : Act, rr = a.put (some 105) (.int .i64 (j : Int)) := ⟨_, rfl⟩
  have qz1 : 115 < a0_1.tmps.size := by rw [ha1, sz_put]; exact hs
  have f1_3 : a0_1.eval (.tmp 3) = .pointer (some ⟨pb, 0, none⟩) := by rw [ha1, ev_other _ _ _ _ (by decide)]; exact e3
  have f1_4 : a0_1.eval (.tmp 4) = .pointer (some ⟨rb, 0, none⟩) := by rw [ha1, ev_other _ _ _ _ (by decide)]; exact e4
  have f1_12 : a0_1.eval (.tmp 12) = .int .i64 (j : Int) := by rw [ha1, ev_other _ _ _ _ (by decide)]; exact e12
  have f1_105 : a0_1.eval (.tmp 105) = .int .i64 (j : Int) := by rw [ha1]; exact ev_same _ _ _ (Nat.lt_of_le_of_lt (by decide) hs)
  rw [← ha1] at h0 h1 ⊢
  clear ha1
  refine wpAnyH_take (i := 1) (oi := le_1 s) (v := .pointer (some ⟨pb, j, none⟩)) (by kernel_rfl) (by kernel_rfl) (by kernel_rfl) (by kernel_rfl) (fun c a w h => hQ c _ _ _ w h) (Or.inl ⟨wanted_none rfl, fun w hw => run_ixP rfl f1_3 f1_105 hj w⟩) hS ?_
  change wpAnyH _ _ _ _ _ _ _ (a0_1.put (some 106) (.pointer (some ⟨pb, j, none⟩))) _
  obtain ⟨a0_2, ha2⟩ : ∃ rr : Act, rr = a0_1.put (some 106) (.pointer (some ⟨pb, j, none⟩)) := ⟨_, rfl⟩
  have qz2 : 115 < a0_2.tmps.size := by rw [ha2, sz_put]; exact qz1
  have f2_4 : a0_2.eval (.tmp 4) = .pointer (some ⟨rb, 0, none⟩) := by rw [ha2, ev_other _ _ _ _ (by decide)]; exact f1_4
  have f2_12 : a0_2.eval (.tmp 12) = .int .i64 (j : Int) := by rw [ha2, ev_other _ _ _ _ (by decide)]; exact f1_12
  have f2_106 : a0_2.eval (.tmp 106) = .pointer (some ⟨pb, j, none⟩) := by rw [ha2]; exact ev_same _ _ _ (Nat.lt_of_le_of_lt (by decide) qz1)
  rw [← ha2] at h0 h1 ⊢
  clear ha2
  refine wpAnyH_take (i := 2) (oi := le_2 s) (v := pv) (by kernel_rfl) (by kernel_rfl) (by kernel_rfl) (by kernel_rfl) (fun c a w h => hQ c _ _ _ w h) (Or.inl ⟨wanted_none rfl, fun w hw => run_loadO rfl f2_106 (load_xp hw.1)⟩) hS ?_
  change wpAnyH _ _ _ _ _ _ _ (a0_2.put (some 107) (pv)) _
  obtain ⟨a0_3, ha3⟩ : ∃ rr : Act, rr = a0_2.put (some 107) (pv) := ⟨_, rfl⟩
  have qz3 : 115 < a0_3.tmps.size := by rw [ha3, sz_put]; exact qz2
  have f3_4 : a0_3.eval (.tmp 4) = .pointer (some ⟨rb, 0, none⟩) := by rw [ha3, ev_other _ _ _ _ (by decide)]; exact f2_4
  have f3_12 : a0_3.eval (.tmp 12) = .int .i64 (j : Int) := by rw [ha3, ev_other _ _ _ _ (by decide)]; exact f2_12
  have f3_107 : a0_3.eval (.tmp 107) = pv := by rw [ha3]; exact ev_same _ _ _ (Nat.lt_of_le_of_lt (by decide) qz2)
  rw [← ha3] at h0 h1 ⊢
  clear ha3
  refine wpAnyH_take (i := 4) (oi := le_4 s) (v := .int .i64 (j : Int)) (by kernel_rfl) (by kernel_rfl) (by kernel_rfl) (by kernel_rfl) (fun c a w h => hQ c _ _ _ w h) (Or.inl ⟨wanted_none rfl, fun w hw => by simp only [execOp, le_4, f3_12]; rfl⟩) hS ?_
  change wpAnyH _ _ _ _ _ _ _ (a0_3.put (some 109) (.int .i64 (j : Int))) _
  obtain ⟨a0_4, ha4⟩ : ∃ rr : Act, rr = a0_3.put (some 109) (.int .i64 (j : Int)) := ⟨_, rfl⟩
  have qz4 : 115 < a0_4.tmps.size := by rw [ha4, sz_put]; exact qz3
  have f4_4 : a0_4.eval (.tmp 4) = .pointer (some ⟨rb, 0, none⟩) := by rw [ha4, ev_other _ _ _ _ (by decide)]; exact f3_4
  have f4_107 : a0_4.eval (.tmp 107) = pv := by rw [ha4, ev_other _ _ _ _ (by decide)]; exact f3_107
  have f4_109 : a0_4.eval (.tmp 109) = .int .i64 (j : Int) := by rw [ha4]; exact ev_same _ _ _ (Nat.lt_of_le_of_lt (by decide) qz3)
  rw [← ha4] at h0 h1 ⊢
  clear ha4
  refine wpAnyH_take (i := 5) (oi := le_5 s) (v := .pointer (some ⟨rb, j, none⟩)) (by kernel_rfl) (by kernel_rfl) (by kernel_rfl) (by kernel_rfl) (fun c a w h => hQ c _ _ _ w h) (Or.inl ⟨wanted_none rfl, fun w hw => run_ixR rfl f4_4 f4_109 hj w⟩) hS ?_
  change wpAnyH _ _ _ _ _ _ _ (a0_4.put (some 110) (.pointer (some ⟨rb, j, none⟩))) _
  obtain ⟨a0_5, ha5⟩ : ∃ rr : Act, rr = a0_4.put (some 110) (.pointer (some ⟨rb, j, none⟩)) := ⟨_, rfl⟩
  have qz5 : 115 < a0_5.tmps.size := by rw [ha5, sz_put]; exact qz4
  have f5_107 : a0_5.eval (.tmp 107) = pv := by rw [ha5, ev_other _ _ _ _ (by decide)]; exact f4_107
  have f5_110 : a0_5.eval (.tmp 110) = .pointer (some ⟨rb, j, none⟩) := by rw [ha5]; exact ev_same _ _ _ (Nat.lt_of_le_of_lt (by decide) qz4)
  rw [← ha5] at h0 h1 ⊢
  clear ha5
  refine wpAnyH_take (i := 6) (oi := le_6 s) (v := .pointer (some ⟨q, 0, none⟩)) (by kernel_rfl) (by kernel_rfl) (by kernel_rfl) (by kernel_rfl) (fun c a w h => hQ c _ _ _ w h) (Or.inl ⟨wanted_none rfl, fun w hw => run_loadO rfl f5_110 (load_qp hw.2.1)⟩) hS ?_
  change wpAnyH _ _ _ _ _ _ _ (a0_5.put (some 111) (.pointer (some ⟨q, 0, none⟩))) _
  obtain ⟨a0_6, ha6⟩ : ∃ rr : Act, rr = a0_5.put (some 111) (.pointer (some ⟨q, 0, none⟩)) := ⟨_, rfl⟩
  have qz6 : 115 < a0_6.tmps.size := by rw [ha6, sz_put]; exact qz5
  have f6_107 : a0_6.eval (.tmp 107) = pv := by rw [ha6, ev_other _ _ _ _ (by decide)]; exact f5_107
  have f6_111 : a0_6.eval (.tmp 111) = .pointer (some ⟨q, 0, none⟩) := by rw [ha6]; exact ev_same _ _ _ (Nat.lt_of_le_of_lt (by decide) qz5)
  rw [← ha6] at h0 h1 ⊢
  clear ha6
  refine wpAnyH_take (i := 7) (oi := le_7 s) (v := .pointer (some ⟨q, 0, none⟩)) (by kernel_rfl) (by kernel_rfl) (by kernel_rfl) (by kernel_rfl) (fun c a w h => hQ c _ _ _ w h) (Or.inl ⟨wanted_none rfl, fun w hw => by simp only [execOp, le_7, f6_111]; rfl⟩) hS ?_
  change wpAnyH _ _ _ _ _ _ _ (a0_6.put (some 112) (.pointer (some ⟨q, 0, none⟩))) _
  obtain ⟨a0_7, ha7⟩ : ∃ rr : Act, rr = a0_6.put (some 112) (.pointer (some ⟨q, 0, none⟩)) := ⟨_, rfl⟩
  have qz7 : 115 < a0_7.tmps.size := by rw [ha7, sz_put]; exact qz6
  have f7_107 : a0_7.eval (.tmp 107) = pv := by rw [ha7, ev_other _ _ _ _ (by decide)]; exact f6_107
  have f7_112 : a0_7.eval (.tmp 112) = .pointer (some ⟨q, 0, none⟩) := by rw [ha7]; exact ev_same _ _ _ (Nat.lt_of_le_of_lt (by decide) qz6)
  rw [← ha7] at h0 h1 ⊢
  clear ha7
  refine wpAnyH_take (i := 8) (oi := le_8 s) (v := .pointer (some ⟨q, 0, none⟩)) (by kernel_rfl) (by kernel_rfl) (by kernel_rfl) (by kernel_rfl) (fun c a w h => hQ c _ _ _ w h) (Or.inl ⟨wanted_none rfl, fun w hw => by simp only [execOp, le_8, f7_112]; rfl⟩) hS ?_
  change wpAnyH _ _ _ _ _ _ _ (a0_7.put (some 113) (.pointer (some ⟨q, 0, none⟩))) _
  obtain ⟨a0_8, ha8⟩ : ∃ rr : Act, rr = a0_7.put (some 113) (.pointer (some ⟨q, 0, none⟩)) := ⟨_, rfl⟩
  have qz8 : 115 < a0_8.tmps.size := by rw [ha8, sz_put]; exact qz7
  have f8_107 : a0_8.eval (.tmp 107) = pv := by rw [ha8, ev_other _ _ _ _ (by decide)]; exact f7_107
  have f8_113 : a0_8.eval (.tmp 113) = .pointer (some ⟨q, 0, none⟩) := by rw [ha8]; exact ev_same _ _ _ (Nat.lt_of_le_of_lt (by decide) qz7)
  rw [← ha8] at h0 h1 ⊢
  clear ha8
  refine wpAnyH_take (i := 9) (oi := le_9 s) (v := .slice ao n c) (by kernel_rfl) (by kernel_rfl) (by kernel_rfl) (by kernel_rfl) (fun c a w h => hQ c _ _ _ w h) (Or.inl ⟨wanted_none rfl, fun w hw => run_loadO rfl f8_113 (load_kl hw.2.2)⟩) hS ?_
  change wpAnyH _ _ _ _ _ _ _ (a0_8.put (some 114) (.slice ao n c)) _
  obtain ⟨a0_9, ha9⟩ : ∃ rr : Act, rr = a0_8.put (some 114) (.slice ao n c) := ⟨_, rfl⟩
  have qz9 : 115 < a0_9.tmps.size := by rw [ha9, sz_put]; exact qz8
  have f9_107 : a0_9.eval (.tmp 107) = pv := by rw [ha9, ev_other _ _ _ _ (by decide)]; exact f8_107
  have f9_114 : a0_9.eval (.tmp 114) = .slice ao n c := by rw [ha9]; exact ev_same _ _ _ (Nat.lt_of_le_of_lt (by decide) qz8)
  rw [← ha9] at h0 h1 ⊢
  clear ha9
  refine wpAnyH_ready (rs := [3, 11]) (by kernel_rfl) (by simp) ?_
  refine (AllReadyH.cons (o := le_3 s) (by kernel_rfl) (fun KQ hKQ => ?_) (AllReadyH.cons (o := le_11 s) (by kernel_rfl) (fun KQ hKQ => ?_) AllReadyH.nil))
  · skip
    rw [if_pos (wanted_none rfl)]
    refine step_enterE 8 #[pv] (by rw [le_enter3, f9_107]) (fun V w' => ∃ lb, V = itV lb ∧ M1 lb w') (hc1.mono (fun e w' ⟨lb, h1, h2⟩ => ⟨_, h1, lb, rfl, h2⟩)) ?_
    rintro _ w2 ⟨lb, rfl, hM1⟩
    refine hKQ.out _ _ ((hk1 lb w2 hM1).1) (fun _ => ?_)
    clear hKQ KQ
    change wpAnyH _ _ _ _ _ _ _ (a0_9.put (some 108) (itV lb)) _
    have h0 := h0 lb w2 hM1
    obtain ⟨a0_10, ha10⟩ : ∃ rr : Act, rr = a0_9.put (some 108) (itV lb) := ⟨_, rfl⟩
    have qz10 : 115 < a0_10.tmps.size := by rw [ha10, sz_put]; exact qz9
    have f10_108 : a0_10.eval (.tmp 108) = itV lb := by rw [ha10]; exact ev_same _ _ _ (Nat.lt_of_le_of_lt (by decide) qz9)
    have f10_114 : a0_10.eval (.tmp 114) = .slice ao n c := by rw [ha10, ev_other _ _ _ _ (by decide)]; exact f9_114
    rw [← ha10] at h0 ⊢
    clear ha10
    refine wpAnyH_take (i := 10) (oi := le_10 s) (v := .agg #[itV lb, .slice ao n c]) (by kernel_rfl) (by kernel_rfl) (by kernel_rfl) (by kernel_rfl) (fun c a w h => hQ c _ _ _ w h) (Or.inl ⟨wanted_none rfl, fun w hw => run_bdKP rfl f10_108 f10_114 w⟩) (hk1 lb w2 hM1).1 ?_
    change wpAnyH _ _ _ _ _ _ _ (a0_10.put (some 115) (.agg #[itV lb, .slice ao n c])) _
    obtain ⟨a0_11, ha11⟩ : ∃ rr : Act, rr = a0_10.put (some 115) (.agg #[itV lb, .slice ao n c]) := ⟨_, rfl⟩
    have qz11 : 115 < a0_11.tmps.size := by rw [ha11, sz_put]; exact qz10
    have f11_115 : a0_11.eval (.tmp 115) = .agg #[itV lb, .slice ao n c] := by rw [ha11]; exact ev_same _ _ _ (Nat.lt_of_le_of_lt (by decide) qz10)
    rw [← ha11] at h0 ⊢
    clear ha11
    refine wpAnyH_ready (rs := [11]) (by kernel_rfl) (by simp) ?_
    refine AllReadyH.cons (o := le_11 s) (by kernel_rfl) (fun KQ hKQ => ?_) AllReadyH.nil
    rw [if_pos (wanted_none rfl)]
    refine step_runE (.pointer (some ⟨w2.heap.size, 0, none⟩)) ((w2.alloc (.cells #[.nilFunc, .slice none 0 0] KPT))) (run_alKP rfl) ?_
    refine hKQ.out _ _ ((hk1 lb w2 hM1).2) (fun _ => ?_)
    clear hKQ KQ
    change wpAnyH _ _ _ _ _ _ _ (a0_11.put (some 13) (.pointer (some ⟨w2.heap.size, 0, none⟩))) _
    obtain ⟨a0_12, ha12⟩ : ∃ rr : Act, rr = a0_11.put (some 13) (.pointer (some ⟨w2.heap.size, 0, none⟩)) := ⟨_, rfl⟩
    have qz12 : 115 < a0_12.tmps.size := by rw [ha12, sz_put]; exact qz11
    have f12_13 : a0_12.eval (.tmp 13) = .pointer (some ⟨w2.heap.size, 0, none⟩) := by rw [ha12]; exact ev_same _ _ _ (Nat.lt_of_le_of_lt (by decide) qz11)
    have f12_115 : a0_12.eval (.tmp 115) = .agg #[itV lb, .slice ao n c] := by rw [ha12, ev_other _ _ _ _ (by decide)]; exact f11_115
    rw [← ha12] at h0 ⊢
    clear ha12
    refine wpAnyH_ready (rs := [12]) (by kernel_rfl) (by simp) ?_
    refine AllReadyH.cons (o := le_12 s) (by kernel_rfl) (fun KQ hKQ => ?_) AllReadyH.nil
    rw [if_pos (wanted_none rfl)]
    refine step_skipE ((w2.alloc (.cells #[.nilFunc, .slice none 0 0] KPT)).setCells w2.heap.size 0 [itV lb, .slice ao n c]) (run_stKP rfl f12_13 f12_115 (Blk.made w2 _ _)) ?_
    refine hKQ.out _ _ (hf1 lb w2 hM1) (fun _ => ?_)
    clear hKQ KQ
    refine wpAnyH_done (by kernel_rfl) ?_ _
    exact h0
  · skip
    rw [if_pos (wanted_none rfl)]
    refine step_runE (.pointer (some ⟨W.drew.heap.size, 0, none⟩)) ((W.drew.alloc (.cells #[.nilFunc, .slice none 0 0] KPT))) (run_alKP rfl) ?_
    refine hKQ.out _ _ (hSA) (fun _ => ?_)
    clear hKQ KQ
    change wpAnyH _ _ _ _ _ _ _ (a0_9.put (some 13) (.pointer (some ⟨W.drew.heap.size, 0, none⟩))) _
    obtain ⟨a1_10, ha10⟩ : ∃ rr : Act, rr = a0_9.put (some 13) (.pointer (some ⟨W.drew.heap.size, 0, none⟩)) := ⟨_, rfl⟩
    have qz10 : 115 < a1_10.tmps.size := by rw [ha10, sz_put]; exact qz9
    have f10_13 : a1_10.eval (.tmp 13) = .pointer (some ⟨W.drew.heap.size, 0, none⟩) := by rw [ha10]; exact ev_same _ _ _ (Nat.lt_of_le_of_lt (by decide) qz9)
    have f10_107 : a1_10.eval (.tmp 107) = pv := by rw [ha10, ev_other _ _ _ _ (by decide)]; exact f9_107
    have f10_114 : a1_10.eval (.tmp 114) = .slice ao n c := by rw [ha10, ev_other _ _ _ _ (by decide)]; exact f9_114
    rw [← ha10] at h1 ⊢
    clear ha10
    refine wpAnyH_ready (rs := [3]) (by kernel_rfl) (by simp) ?_
    refine AllReadyH.cons (o := le_3 s) (by kernel_rfl) (fun KQ hKQ => ?_) AllReadyH.nil
    rw [if_pos (wanted_none rfl)]
    refine step_enterE 8 #[pv] (by rw [le_enter3, f10_107]) (fun V w' => ∃ lb, V = itV lb ∧ M2 lb w') (hc2.mono (fun e w' ⟨lb, h1, h2⟩ => ⟨_, h1, lb, rfl, h2⟩)) ?_
    rintro _ w2 ⟨lb, rfl, hM2⟩
    refine hKQ.out _ _ ((hk2 lb w2 hM2).1) (fun _ => ?_)
    clear hKQ KQ
    change wpAnyH _ _ _ _ _ _ _ (a1_10.put (some 108) (itV lb)) _
    have h1 := h1 lb w2 hM2
    obtain ⟨a1_11, ha11⟩ : ∃ rr : Act, rr = a1_10.put (some 108) (itV lb) := ⟨_, rfl⟩
    have qz11 : 115 < a1_11.tmps.size := by rw [ha11, sz_put]; exact qz10
    have f11_13 : a1_11.eval (.tmp 13) = .pointer (some ⟨W.drew.heap.size, 0, none⟩) := by rw [ha11, ev_other _ _ _ _ (by decide)]; exact f10_13
    have f11_108 : a1_11.eval (.tmp 108) = itV lb := by rw [ha11]; exact ev_same _ _ _ (Nat.lt_of_le_of_lt (by decide) qz10)
    have f11_114 : a1_11.eval (.tmp 114) = .slice ao n c := by rw [ha11, ev_other _ _ _ _ (by decide)]; exact f10_114
    rw [← ha11] at h1 ⊢
    clear ha11
    refine wpAnyH_take (i := 10) (oi := le_10 s) (v := .agg #[itV lb, .slice ao n c]) (by kernel_rfl) (by kernel_rfl) (by kernel_rfl) (by kernel_rfl) (fun c a w h => hQ c _ _ _ w h) (Or.inl ⟨wanted_none rfl, fun w hw => run_bdKP rfl f11_108 f11_114 w⟩) (hk2 lb w2 hM2).1 ?_
    change wpAnyH _ _ _ _ _ _ _ (a1_11.put (some 115) (.agg #[itV lb, .slice ao n c])) _
    obtain ⟨a1_12, ha12⟩ : ∃ rr : Act, rr = a1_11.put (some 115) (.agg #[itV lb, .slice ao n c]) := ⟨_, rfl⟩
    have qz12 : 115 < a1_12.tmps.size := by rw [ha12, sz_put]; exact qz11
    have f12_13 : a1_12.eval (.tmp 13) = .pointer (some ⟨W.drew.heap.size, 0, none⟩) := by rw [ha12, ev_other _ _ _ _ (by decide)]; exact f11_13
    have f12_115 : a1_12.eval (.tmp 115) = .agg #[itV lb, .slice ao n c] := by rw [ha12]; exact ev_same _ _ _ (Nat.lt_of_le_of_lt (by decide) qz11)
    rw [← ha12] at h1 ⊢
    clear ha12
    refine wpAnyH_ready (rs := [12]) (by kernel_rfl) (by simp) ?_
    refine AllReadyH.cons (o := le_12 s) (by kernel_rfl) (fun KQ hKQ => ?_) AllReadyH.nil
    rw [if_pos (wanted_none rfl)]
    refine step_skipE (w2.setCells W.drew.heap.size 0 [itV lb, .slice ao n c]) (run_stKP rfl f12_13 f12_115 (hk2 lb w2 hM2).2) ?_
    refine hKQ.out _ _ (hf2 lb w2 hM2) (fun _ => ?_)
    clear hKQ KQ
    refine wpAnyH_done (by kernel_rfl) ?_ _
    exact h1
end TX
end Go.Proofs.Ytdigjpddmfolgaa

/- IndexExact: the state of the law; works. -/
namespace Go.Proofs.Ytdigjpddmfolgaa
set_option linter.unusedVariables false
set_option linter.unusedSimpArgs false
namespace TX
open Go.RowKit Go.Sort
set_option maxRecDepth 100000
set_option maxHeartbeats 8000000

theorem and_one (F : Int) : bits .and .i64 F 1 = 0 ∨ bits .and .i64 F 1 = 1 := by
  have h1 : (BitVec.ofInt 64 1).toNat = 2 ^ 1 - 1 := by decide
  have key : (BitVec.ofInt 64 F &&& BitVec.ofInt 64 1).toNat = (F % ((2 ^ 64 : Nat) : Int)).toNat % 2 ^ 1 := by
    rw [BitVec.toNat_and, BitVec.toNat_ofInt, h1, Nat.and_two_pow_sub_one_eq_mod]
  have e : bits .and .i64 F 1 = F % 2 := by
    show IntKind.i64.wrap ((BitVec.ofInt 64 F &&& BitVec.ofInt 64 1).toNat : Nat) = F % 2
    rw [key, IntKind.wrap_i64]
    omega
  rw [e]
  omega
/-- Rows of keys with entries, and their boxes, stay. -/
def KeepB (W W' : World) : Prop := ∀ (b : Nat) (cs : Array Value) (t : TypeId), Blk W b cs t → t = KLT ∨ t = KDT → W'.heap[b]? = W.heap[b]?
theorem KeepB.below {W W' : World} (h : Below W.heap.size W W') : KeepB W W' := fun b cs t hb _ => h.block b hb.lt
theorem KeepB.grown {W W' : World} {r : Nat} (h : W.grownBy W' (some r)) (hr : ∀ cs t, Blk W r cs t → t ≠ KLT ∧ t ≠ KDT) : KeepB W W' := fun b cs t hb ht => h.block b hb.lt (fun e => by
  have e2 := Option.some.inj e
  subst e2
  have := hr cs t hb
  rcases ht with ht | ht
  · exact this.1 ht
  · exact this.2 ht)
theorem KeepB.trans {A B C : World} (h : KeepB A B) (k : KeepB B C) : KeepB A C := fun b cs t hb ht => by
  have h1 := h b cs t hb ht
  exact (k b cs t (h1.trans hb) ht).trans h1
theorem OwnD.keepB {W W' : World} {B : Nat} {v : Value} {V : List KE} (h : OwnD W B v V) (hk : KeepB W W') : OwnD W' B v V := h.same (fun b e => by obtain ⟨cs, hc⟩ := h.blk e; exact hk b cs _ hc (.inr rfl))
theorem ItA.keepB {W W' : World} {v : Value} {V : List KE} (h : ItA W v V) (hk : KeepB W W') : ItA W' v V := by
  obtain ⟨lb, u, e, h1, h2⟩ := h
  exact ⟨lb, u, e, (hk lb _ _ h1 (.inl rfl)).trans h1, h2.keepB hk⟩
def KsC (z : Value × Value) : List Value := [z.1, z.2]
theorem KsC_len (z : Value × Value) : (KsC z).length = 2 := rfl
/-- A row of what was kept. -/
def OwnP (w : World) (B : Nat) (v : Value) (KS : List (Value × Value)) : Prop := w.ownsRow B KPT 2 v KS.length (KS.flatMap KsC)
theorem OwnP.lt {w : World} {B : Nat} {v : Value} {V : List (Value × Value)} (h : OwnP w B v V) {b : Nat} (hb : v.ownBlock = some b) : b < w.heap.size ∧ B ≤ b := by
  obtain ⟨h0, ⟨rfl, h2⟩ | ⟨g, cap, cur, rfl, hB, hh, hx⟩⟩ := h
  · cases hb
  · cases hb; exact ⟨Blk.lt (cs := cur) (t := KPT) hh, hB⟩
theorem OwnP.same {w w' : World} {B : Nat} {v : Value} {V : List (Value × Value)} (h : OwnP w B v V) (hs : ∀ b, v.ownBlock = some b → w'.heap[b]? = w.heap[b]?) : OwnP w' B v V := by
  obtain ⟨h0, h1 | ⟨g, cap, cur, rfl, hB, hh, hx⟩⟩ := h
  · exact ⟨h0, .inl h1⟩
  · exact ⟨h0, .inr ⟨g, cap, cur, rfl, hB, (hs g rfl).trans hh, hx⟩⟩
theorem OwnP.blk {w : World} {B : Nat} {v : Value} {V : List (Value × Value)} (h : OwnP w B v V) {b : Nat} (hb : v.ownBlock = some b) : ∃ cs, Blk w b cs KPT := by
  obtain ⟨h0, ⟨rfl, h2⟩ | ⟨g, cap, cur, rfl, hB, hh, hx⟩⟩ := h
  · cases hb
  · cases hb; exact ⟨cur, hh⟩
theorem OwnP.below {w w' : World} {B : Nat} {v : Value} {V : List (Value × Value)} (h : OwnP w B v V) (hb : Below w.heap.size w w') : OwnP w' B v V := h.same (fun b e => hb.block b (h.lt e).1)
theorem OwnP.slice {w : World} {B : Nat} {v : Value} {V : List (Value × Value)} (h : OwnP w B v V) : ∃ ao c, v = .slice ao V.length c ∧ (0 < V.length → ∃ g, ao = some ⟨g, 0, none⟩) := by
  obtain ⟨h0, ⟨h1, h2⟩ | ⟨g, cap, cur, rfl, hb, hh, hx⟩⟩ := h
  · exact ⟨none, 0, by rw [h1, h2], fun h => by omega⟩
  · exact ⟨_, cap, rfl, fun _ => ⟨g, rfl⟩⟩
theorem OwnP.read {w : World} {B : Nat} {v : Value} {V : List (Value × Value)} {g n c : Nat} (h : OwnP w B v V) (e : v = .slice (some ⟨g, 0, none⟩) n c) {j : Nat} {x : Value × Value} (hx : V[j]? = some x) : w.rangeAt g (j * 2) (KsC x) := fun q u hu => by
  rw [e] at h
  have hq := flat_at V j x (fun y _ => KsC_len y) hx q u hu
  have := World.ownsRow.cells (g := g) h rfl (j * 2 + q) u hq
  rw [Addr.add_mid] at this
  rw [← this]
  congr 2
  omega
theorem kpI : ∃ i, Try.prog.info? KPT = some i ∧ i.zero = some (.agg #[.nilFunc, .slice none 0 0]) ∧ i.size = 2 ∧ i.bytes = 32 := by
  have h : (Try.prog.info? KPT).map (fun i => (i.zero, i.size, i.bytes)) = some (some (.agg #[.nilFunc, .slice none 0 0]), 2, 32) := by kernel_rfl
  obtain ⟨i, hi, hzz⟩ := Option.map_eq_some_iff.1 h
  simp only [Prod.mk.injEq] at hzz
  exact ⟨i, hi, hzz.1, hzz.2.1, hzz.2.2⟩
theorem run_appP {w : World} {base : Nat} {v : Value} {A : List (Value × Value)} (hown : OwnP w base v A) {z lb n c : Nat} {ao : Option Addr} (hc : Blk w z #[itV lb, .slice ao n c] KPT) (hlen : A.length + 1 ≤ 1099511627776) (hbase : base ≤ w.heap.size) :
    ∃ v5 w5, (Builtin.append_ #[KPLT, KPLT] KPLT #[v, .slice (some ⟨z, 0, none⟩) 1 1]).run Try.prog w = .ok v5 w5 ∧ OwnP w5 base v5 (A ++ [(itV lb, .slice ao n c)]) ∧ w.grownBy w5 v.ownBlock := by
  obtain ⟨i0, hi, hz0, hz1, hz2⟩ := kpI
  obtain ⟨v', w', hr, r2, r3, _, _⟩ := run_append_own_at (P := Try.prog) w base KPLT KPLT KPT i0 (.agg #[.nilFunc, .slice none 0 0]) 2 32 Try.underlying30 hi hz0 hz1 hz2 rfl (by decide) v A.length (A.flatMap KsC) hown ⟨z, 0, none⟩ 1 1 [itV lb, .slice ao n c] rfl (fun j u hj => by rw [Addr.add_mid]; exact (Blk.range hc) j u hj) (by intro u hu; simp only [List.mem_cons, List.not_mem_nil, or_false] at hu; rcases hu with rfl | rfl <;> rfl) (by unfold maxLen; omega) (by omega) hbase
  refine ⟨v', w', hr, ?_, r3⟩
  unfold OwnP
  rw [List.length_append, List.length_singleton, List.flatMap_append, List.flatMap_singleton]
  exact r2
def KsOk (W : World) (z : Value × Value) : Prop := ∃ lb ao n c V, z = (itV lb, .slice ao n c) ∧ ItA W (itV lb) V ∧ OwnD W 0 (.slice ao n c) V ∧ V.length ≤ 1099511627776
theorem KsOk.keepB {W W' : World} {z : Value × Value} (h : KsOk W z) (hk : KeepB W W') : KsOk W' z := by
  obtain ⟨lb, ao, n, c, V, e, h1, h2, h3⟩ := h
  exact ⟨lb, ao, n, c, V, e, h1.keepB hk, h2.keepB hk, h3⟩
/-- Between two steps. -/
structure LwS (w0 W : World) (N pb rb : Nat) (xs qs : Nat → Nat) (Ls : Nat → List Tab) (fs : Nat → KY → Option EN) (m : Nat) (kv : Value) (KS : List (Value × Value)) : Prop where
  bel : Below N w0 W
  pB : Blk W pb #[.pointer (some ⟨xs 0, 0, none⟩), .pointer (some ⟨xs 1, 0, none⟩)] PAT
  rB : Blk W rb #[.pointer (some ⟨qs 0, 0, none⟩), .pointer (some ⟨qs 1, 0, none⟩)] RAT
  ix : ∀ j, j < 2 → IxL W (xs j) 16 (Ls j) (fs j) m
  rx : ∀ j, j < 2 → RxA W (qs j) (fs j) m
  ap : ∀ b, IxB (xs 0) (Ls 0) b → ¬ IxB (xs 1) (Ls 1) b
  aq : qs 0 ≠ qs 1
  low : ∀ j, j < 2 → (∀ b, IxB (xs j) (Ls j) b → N ≤ b) ∧ N ≤ qs j
  lop : N ≤ pb ∧ N ≤ rb
  kr : OwnP W N kv KS
  ks : ∀ z ∈ KS, KsOk W z
section
variable {w0 W W' : World} {N pb rb m : Nat} {xs qs : Nat → Nat} {Ls : Nat → List Tab} {fs : Nat → KY → Option EN} {kv : Value} {KS : List (Value × Value)}
theorem LwS.sz (h : LwS w0 W N pb rb xs qs Ls fs m kv KS) : N ≤ W.heap.size := by have h1 := h.lop.1; have h2 := h.pB.lt; omega
theorem LwS.below (h : LwS w0 W N pb rb xs qs Ls fs m kv KS) (hb : Below W.heap.size W W') : LwS w0 W' N pb rb xs qs Ls fs m kv KS :=
  ⟨h.bel.trans (hb.mono h.sz), h.pB.below hb h.pB.lt, h.rB.below hb h.rB.lt, fun j hj => (h.ix j hj).below hb, fun j hj => (h.rx j hj).below hb, h.ap, h.aq, h.low, h.lop, h.kr.below hb, fun z hz => (h.ks z hz).keepB (KeepB.below hb)⟩
theorem LwS.more (h : LwS w0 W N pb rb xs qs Ls fs m kv KS) {m' : Nat} (hm : m ≤ m') : LwS w0 W N pb rb xs qs Ls fs m' kv KS :=
  ⟨h.bel, h.pB, h.rB, fun j hj => (h.ix j hj).more hm, fun j hj => (h.rx j hj).more hm, h.ap, h.aq, h.low, h.lop, h.kr, h.ks⟩
theorem LwS.apj (h : LwS w0 W N pb rb xs qs Ls fs m kv KS) {i j : Nat} (hi : i < 2) (hj : j < 2) (hne : i ≠ j) {b : Nat} (hb : IxB (xs i) (Ls i) b) : ¬ IxB (xs j) (Ls j) b := by
  have : (i = 0 ∧ j = 1) ∨ (i = 1 ∧ j = 0) := by omega
  rcases this with ⟨rfl, rfl⟩ | ⟨rfl, rfl⟩
  · exact h.ap b hb
  · exact fun e => h.ap b e hb
theorem LwS.aqj (h : LwS w0 W N pb rb xs qs Ls fs m kv KS) {i j : Nat} (hi : i < 2) (hj : j < 2) (hne : i ≠ j) : qs i ≠ qs j := by
  have : (i = 0 ∧ j = 1) ∨ (i = 1 ∧ j = 0) := by omega
  rcases this with ⟨rfl, rfl⟩ | ⟨rfl, rfl⟩
  · exact h.aq
  · exact fun e => h.aq e.symm
theorem LwS.cellP (h : LwS w0 W N pb rb xs qs Ls fs m kv KS) {j : Nat} (hj : j < 2) : W.cell? ⟨pb, j, none⟩ = some (.pointer (some ⟨xs j, 0, none⟩)) := by
  rw [h.pB.cell]
  have : j = 0 ∨ j = 1 := by omega
  rcases this with rfl | rfl <;> rfl
theorem LwS.cellR (h : LwS w0 W N pb rb xs qs Ls fs m kv KS) {j : Nat} (hj : j < 2) : W.cell? ⟨rb, j, none⟩ = some (.pointer (some ⟨qs j, 0, none⟩)) := by
  rw [h.rB.cell]
  have : j = 0 ∨ j = 1 := by omega
  rcases this with rfl | rfl <;> rfl
def up {α : Type} (g : Nat → α) (j : Nat) (v : α) : Nat → α := fun i => if i = j then v else g i
theorem up_same {α : Type} (g : Nat → α) (j : Nat) (v : α) : up g j v j = v := by unfold up; rw [if_pos rfl]
theorem up_other {α : Type} (g : Nat → α) {i j : Nat} (v : α) (h : i ≠ j) : up g j v i = g i := by unfold up; rw [if_neg h]
/-- A step has changed one of the two. -/
theorem LwS.change (h : LwS w0 W N pb rb xs qs Ls fs m kv KS) {j : Nat} (hj : j < 2) {f' : KY → Option EN} (hc : ChN W W' (xs j) (Ls j) (qs j) f' (m + 1) (m + 1)) : ∃ Ls' fs', LwS w0 W' N pb rb xs qs Ls' fs' (m + 1) kv KS := by
  obtain ⟨L', h1, h2⟩ := hc.ex
  have hix := h.ix j hj
  obtain ⟨vq, hq⟩ := (h.rx j hj).blk
  have keep : ∀ {b : Nat} {cs : Array Value} {t : TypeId}, Blk W b cs t → t ≠ IT → t ≠ TT → t ≠ ST → t ≠ RIT → W'.heap[b]? = W.heap[b]? := fun hb e1 e2 e3 e4 => hc.fr.block _ hb.lt (fun e => by
    rcases e with e | e
    · exact hix.notB hb e1 e2 e3 e
    · rw [e] at hb; exact blk_ne hb hq e4 rfl)
  have hkb : KeepB W W' := fun b cs t hb ht => by
    rcases ht with rfl | rfl
    · exact keep hb (by decide) (by decide) (by decide) (by decide)
    · exact keep hb (by decide) (by decide) (by decide) (by decide)
  have keepX : ∀ i, i < 2 → i ≠ j → ∀ b, IxB (xs i) (Ls i) b → W'.heap[b]? = W.heap[b]? := fun i hi hne b hb => hc.fr.block b ((h.ix i hi).lt hb) (fun e => by
    rcases e with e | e
    · exact h.apj hi hj hne hb e
    · rw [e] at hb; exact (h.ix i hi).notB hq (by decide) (by decide) (by decide) hb)
  have hs := h.sz
  refine ⟨up Ls j L', up fs j f', ?_, (keep h.pB (by decide) (by decide) (by decide) (by decide)).trans h.pB, (keep h.rB (by decide) (by decide) (by decide) (by decide)).trans h.rB, fun i hi => ?_, fun i hi => ?_, ?_, h.aq, fun i hi => ?_, h.lop, h.kr.same (fun b e => by obtain ⟨cs, hb⟩ := h.kr.blk e; exact keep hb (by decide) (by decide) (by decide) (by decide)), fun z hz => (h.ks z hz).keepB hkb⟩
  · refine ⟨hc.fr.os.trans h.bel.os, hc.fr.tape.trans h.bel.tape, hc.fr.output.trans h.bel.output, Nat.le_trans h.bel.size hc.fr.size, fun b hb => (hc.fr.block b (by omega) (fun e => ?_)).trans (h.bel.block b hb)⟩
    have hl := h.low j hj
    rcases e with e | e
    · have := hl.1 b e; omega
    · omega
  · by_cases e : i = j
    · subst e; rw [up_same, up_same]; exact h1
    · rw [up_other _ _ e, up_other _ _ e]
      exact ((h.ix i hi).same (keepX i hi e)).more (Nat.le_succ m)
  · by_cases e : i = j
    · subst e; rw [up_same]; exact hc.rx
    · rw [up_other _ _ e]
      obtain ⟨V, ⟨v, g1, g2⟩, g3, g4, g5⟩ := h.rx i hi
      refine ⟨V, ⟨v, (hc.fr.block _ g1.lt (fun e2 => ?_)).trans g1, g2.keepB hkb⟩, g3, g4, by omega⟩
      rcases e2 with e2 | e2
      · exact hix.notB g1 (by decide) (by decide) (by decide) e2
      · exact h.aqj hi hj e e2
  · intro b hb0 hb1
    have key : ∀ i, i < 2 → IxB (xs i) (up Ls j L' i) b → (IxB (xs i) (Ls i) b ∨ (i = j ∧ W.heap.size ≤ b)) := fun i hi hb => by
      by_cases e : i = j
      · subst e
        rw [up_same] at hb
        rcases h2 b hb with g | g
        · exact .inl g
        · exact .inr ⟨rfl, g⟩
      · rw [up_other _ _ e] at hb; exact .inl hb
    rcases key 0 (by decide) hb0 with g0 | ⟨g0, g0'⟩
    · rcases key 1 (by decide) hb1 with g1 | ⟨g1, g1'⟩
      · exact h.ap b g0 g1
      · have := (h.ix 0 (by decide)).lt g0; omega
    · rcases key 1 (by decide) hb1 with g1 | ⟨g1, g1'⟩
      · have := (h.ix 1 (by decide)).lt g1; omega
      · omega
  · refine ⟨fun b hb => ?_, (h.low i hi).2⟩
    by_cases e : i = j
    · subst e
      rw [up_same] at hb
      rcases h2 b hb with g | g
      · exact (h.low i hi).1 b g
      · omega
    · rw [up_other _ _ e] at hb; exact (h.low i hi).1 b hb
/-- One of the two is made anew. -/
theorem LwS.renew {w3 : World} (h : LwS w0 W N pb rb xs qs Ls fs m kv KS) {j : Nat} (hj : j < 2) {x q : Nat} {L : List Tab} (hb3 : Below W.heap.size W w3) (hx : IxL w3 x 16 L (fun _ => none) 0) (hxl : ∀ b, IxB x L b → W.heap.size ≤ b) (hq : RxA w3 q (fun _ => none) 0) (hql : W.heap.size ≤ q) : LwS w0 ((w3.setCell ⟨pb, j, none⟩ (.pointer (some ⟨x, 0, none⟩))).setCell ⟨rb, j, none⟩ (.pointer (some ⟨q, 0, none⟩))) N pb rb (up xs j x) (up qs j q) (up Ls j L) (up fs j (fun _ => none)) m kv KS := by
  have h3 := h.below hb3
  have hg1 := grownBy_set w3 pb j (.pointer (some ⟨x, 0, none⟩))
  have hg2 := grownBy_set (w3.setCell ⟨pb, j, none⟩ (.pointer (some ⟨x, 0, none⟩))) rb j (.pointer (some ⟨q, 0, none⟩))
  have hne : pb ≠ rb := fun e => by have h5 := h3.rB; rw [← e] at h5; exact blk_ne h3.pB h5 (by decide) rfl
  have keep : ∀ {b : Nat} {cs : Array Value} {t : TypeId}, Blk w3 b cs t → t ≠ PAT → t ≠ RAT → ((w3.setCell ⟨pb, j, none⟩ (.pointer (some ⟨x, 0, none⟩))).setCell ⟨rb, j, none⟩ (.pointer (some ⟨q, 0, none⟩))).heap[b]? = w3.heap[b]? := fun {b cs t} hb e1 e2 => by
    have n1 : b ≠ pb := fun e => by rw [e] at hb; exact blk_ne hb h3.pB e1 rfl
    have n2 : b ≠ rb := fun e => by rw [e] at hb; exact blk_ne hb h3.rB e2 rfl
    have a1 := hg1.block b hb.lt (fun e => n1 (Option.some.inj e))
    exact (hg2.block b (Nat.lt_of_lt_of_le hb.lt hg1.size) (fun e => n2 (Option.some.inj e))).trans a1
  have keepN : ∀ {b : Nat}, b < w3.heap.size → b ≠ pb → b ≠ rb → ((w3.setCell ⟨pb, j, none⟩ (.pointer (some ⟨x, 0, none⟩))).setCell ⟨rb, j, none⟩ (.pointer (some ⟨q, 0, none⟩))).heap[b]? = w3.heap[b]? := fun {b} hb n1 n2 =>
    (hg2.block b (Nat.lt_of_lt_of_le hb hg1.size) (fun e => n2 (Option.some.inj e))).trans (hg1.block b hb (fun e => n1 (Option.some.inj e)))
  have hkb : KeepB w3 ((w3.setCell ⟨pb, j, none⟩ (.pointer (some ⟨x, 0, none⟩))).setCell ⟨rb, j, none⟩ (.pointer (some ⟨q, 0, none⟩))) := fun b cs t hb ht => by
    rcases ht with rfl | rfl
    · exact keep hb (by decide) (by decide)
    · exact keep hb (by decide) (by decide)
  have ixk : ∀ {y P : Nat} {K : List Tab} {g : KY → Option EN}, IxL w3 y 16 K g P → IxL ((w3.setCell ⟨pb, j, none⟩ (.pointer (some ⟨x, 0, none⟩))).setCell ⟨rb, j, none⟩ (.pointer (some ⟨q, 0, none⟩))) y 16 K g P := fun hy => hy.same (fun b hb => keepN (hy.lt hb) (fun e => by rw [e] at hb; exact hy.notB h3.pB (by decide) (by decide) (by decide) hb) (fun e => by rw [e] at hb; exact hy.notB h3.rB (by decide) (by decide) (by decide) hb))
  have rxk : ∀ {y P : Nat} {g : KY → Option EN}, RxA w3 y g P → RxA ((w3.setCell ⟨pb, j, none⟩ (.pointer (some ⟨x, 0, none⟩))).setCell ⟨rb, j, none⟩ (.pointer (some ⟨q, 0, none⟩))) y g P := fun hy => by
    obtain ⟨V, ⟨v, g1, g2⟩, g3⟩ := hy
    exact ⟨V, ⟨v, (keep g1 (by decide) (by decide)).trans g1, g2.keepB hkb⟩, g3⟩
  have hs := h.sz
  have hlop := h.lop
  have hsz3 := hb3.size
  have hpB : Blk ((w3.setCell ⟨pb, j, none⟩ (.pointer (some ⟨x, 0, none⟩))).setCell ⟨rb, j, none⟩ (.pointer (some ⟨q, 0, none⟩))) pb #[.pointer (some ⟨up xs j x 0, 0, none⟩), .pointer (some ⟨up xs j x 1, 0, none⟩)] PAT := by
    have a1 := (h3.pB.set j (.pointer (some ⟨x, 0, none⟩))).grown hg2 (fun e => hne (Option.some.inj e))
    have : j = 0 ∨ j = 1 := by omega
    rcases this with rfl | rfl <;> exact a1
  have hrB : Blk ((w3.setCell ⟨pb, j, none⟩ (.pointer (some ⟨x, 0, none⟩))).setCell ⟨rb, j, none⟩ (.pointer (some ⟨q, 0, none⟩))) rb #[.pointer (some ⟨up qs j q 0, 0, none⟩), .pointer (some ⟨up qs j q 1, 0, none⟩)] RAT := by
    have a1 := (h3.rB.grown hg1 (fun e => hne (Option.some.inj e).symm)).set j (.pointer (some ⟨q, 0, none⟩))
    have : j = 0 ∨ j = 1 := by omega
    rcases this with rfl | rfl <;> exact a1
  refine ⟨?_, hpB, hrB, fun i hi => ?_, fun i hi => ?_, ?_, ?_, fun i hi => ?_, h.lop, h3.kr.same (fun b e => by obtain ⟨cs, hb⟩ := h3.kr.blk e; exact keep hb (by decide) (by decide)), fun z hz => (h3.ks z hz).keepB hkb⟩
  · exact ⟨hg2.os.trans (hg1.os.trans h3.bel.os), hg2.tape.trans (hg1.tape.trans h3.bel.tape), hg2.output.trans (hg1.output.trans h3.bel.output), Nat.le_trans h3.bel.size (Nat.le_trans hg1.size hg2.size), fun b hb => (keepN (by omega) (by omega) (by omega)).trans (h3.bel.block b hb)⟩
  · by_cases e : i = j
    · subst e; rw [up_same, up_same, up_same]; exact ixk (hx.more (Nat.zero_le m))
    · rw [up_other _ _ e, up_other _ _ e, up_other _ _ e]; exact ixk (h3.ix i hi)
  · by_cases e : i = j
    · subst e; rw [up_same, up_same]; exact rxk (hq.more (Nat.zero_le m))
    · rw [up_other _ _ e, up_other _ _ e]; exact rxk (h3.rx i hi)
  · intro b hb0 hb1
    have key : ∀ i, i < 2 → IxB (up xs j x i) (up Ls j L i) b → ((i ≠ j ∧ IxB (xs i) (Ls i) b) ∨ (i = j ∧ W.heap.size ≤ b)) := fun i hi hb => by
      by_cases e : i = j
      · subst e
        rw [up_same, up_same] at hb
        exact .inr ⟨rfl, hxl b hb⟩
      · rw [up_other _ _ e, up_other _ _ e] at hb; exact .inl ⟨e, hb⟩
    rcases key 0 (by decide) hb0 with ⟨g0, g0'⟩ | ⟨g0, g0'⟩
    · rcases key 1 (by decide) hb1 with ⟨g1, g1'⟩ | ⟨g1, g1'⟩
      · omega
      · have := (h.ix 0 (by decide)).lt g0'; omega
    · rcases key 1 (by decide) hb1 with ⟨g1, g1'⟩ | ⟨g1, g1'⟩
      · have := (h.ix 1 (by decide)).lt g1'; omega
      · omega
  · have : j = 0 ∨ j = 1 := by omega
    rcases this with rfl | rfl
    · rw [up_same, up_other _ _ (by decide)]
      obtain ⟨v, hb⟩ := (h.rx 1 (by decide)).blk
      have := hb.lt; omega
    · rw [up_same, up_other _ _ (by decide)]
      obtain ⟨v, hb⟩ := (h.rx 0 (by decide)).blk
      have := hb.lt; omega
  · by_cases e : i = j
    · subst e; rw [up_same, up_same, up_same]
      exact ⟨fun b hb => by have := hxl b hb; omega, by omega⟩
    · rw [up_other _ _ e, up_other _ _ e, up_other _ _ e]; exact h.low i hi
/-- One more is kept. -/
theorem LwS.push {W5 : World} (h : LwS w0 W N pb rb xs qs Ls fs m kv KS) {lb n c : Nat} {ao : Option Addr} {V : List KE} (hit : ItA W (itV lb) V) (hd : OwnD W 0 (.slice ao n c) V) (hl : V.length ≤ 1099511627776) {kv' : Value} (ho : OwnP W5 N kv' (KS ++ [(itV lb, .slice ao n c)])) (hg : (W.alloc (.cells #[itV lb, .slice ao n c] KPT)).grownBy W5 kv.ownBlock) : LwS w0 W5 N pb rb xs qs Ls fs m kv' (KS ++ [(itV lb, .slice ao n c)]) := by
  have hb1 : Below W.heap.size W (W.alloc (.cells #[itV lb, .slice ao n c] KPT)) := below_alloc W _
  have h1 := h.below hb1
  have keep : ∀ {b : Nat} {cs : Array Value} {t : TypeId}, Blk (W.alloc (.cells #[itV lb, .slice ao n c] KPT)) b cs t → t ≠ KPT → W5.heap[b]? = (W.alloc (.cells #[itV lb, .slice ao n c] KPT)).heap[b]? := fun hb ht => hg.block _ hb.lt (fun e => by
    obtain ⟨cs, hc⟩ := h1.kr.blk e.symm
    exact blk_ne hb hc ht rfl)
  have hkb : KeepB (W.alloc (.cells #[itV lb, .slice ao n c] KPT)) W5 := fun b cs t hb ht => by
    rcases ht with rfl | rfl
    · exact keep hb (by decide)
    · exact keep hb (by decide)
  have hs := h.sz
  refine ⟨?_, (keep h1.pB (by decide)).trans h1.pB, (keep h1.rB (by decide)).trans h1.rB, fun i hi => ?_, fun i hi => ?_, h.ap, h.aq, h.low, h.lop, ho, fun z hz => ?_⟩
  · exact h1.bel.trans ⟨hg.os, hg.tape, hg.output, hg.size, fun b hb => hg.block b (by have := hb1.size; omega) (fun e => by have := (h1.kr.lt e.symm).2; omega)⟩
  · refine (h1.ix i hi).same (fun b hb => hg.block b ((h1.ix i hi).lt hb) (fun e => ?_))
    obtain ⟨cs, hc⟩ := h1.kr.blk e.symm
    exact (h1.ix i hi).notB hc (by decide) (by decide) (by decide) hb
  · obtain ⟨V2, ⟨v, g1, g2⟩, g3⟩ := h1.rx i hi
    exact ⟨V2, ⟨v, (keep g1 (by decide)).trans g1, g2.keepB hkb⟩, g3⟩
  · rcases List.mem_append.1 hz with q | q
    · exact (h1.ks z q).keepB hkb
    · rw [List.mem_singleton.1 q]
      have hk2 := (KeepB.below hb1).trans hkb
      exact ⟨lb, ao, n, c, V, rfl, hit.keepB hk2, hd.keepB hk2, hl⟩
end
end TX
end Go.Proofs.Ytdigjpddmfolgaa

/- works: walked. -/
namespace Go.Proofs.Ytdigjpddmfolgaa
set_option linter.unusedVariables false
set_option linter.unusedSimpArgs false
namespace TX
open Go.RowKit Go.Sort
set_option maxRecDepth 100000
set_option maxHeartbeats 8000000

def k3 : KY := ⟨3 :: List.replicate 31 0, by simp⟩
def e5 : EN := ⟨0, 0, 5, 0⟩
theorem run_bdK3 {op : Oper} {ev : Operand → Value} (ho : op.op = .build KT #[(0, .const (.int .u8 3))]) (hc : ev (.const (.int .u8 3)) = .int .u8 3) (w : World) : (execOp ev op).run Try.prog w = .ok (.value (kV k3)) w := by
  simp only [execOp, ho]
  simp only [List.map_toArray, List.map_cons, List.map_nil, hc]
  kernel_rfl
theorem run_bdE5 {op : Oper} {ev : Operand → Value} (ho : op.op = .build ET #[(1, .const (.int .i64 5))]) (hc : ev (.const (.int .i64 5)) = .int .i64 5) (w : World) : (execOp ev op).run Try.prog w = .ok (.value (eV e5)) w := by
  simp only [execOp, ho]
  simp only [List.map_toArray, List.map_cons, List.map_nil, hc]
  kernel_rfl
theorem works_any (w : World) : Calls Try.prog 5 #[] w fun e w' => e = .returned (.bool true) ∧ Below w.heap.size w w' := by
  have hz0 := zero_E
  have HNew := hide (ixnew_any w)
  go_enter Try.func5, Try.ntmps5
  go_upto_region 2 with (go_at_call 6; (with_reducible refine HNew.out.mono ?_); rintro e w1 ⟨x, L, rfl, hx, hb, hlo⟩; have HX := hide hx; have HB := hide hb; have HLO := hide hlo; clear hx hb hlo)
  have HPut := hide (put_ix HX.out (by decide) k3 e5)
  have HNF : Hid ((!((fun _ => none : KY → Option EN) k3).isSome) = true) := hide rfl
  rw [HNF.out] at HPut
  clear HNew
  go_upto_region 4 with (first | ((with_reducible refine wpList_valW (kV k3) ?_ (run_bdK3 ?_ ?_ _) ?_); rfl; rfl; rfl) | ((with_reducible refine wpList_valW (eV e5) ?_ (run_bdE5 ?_ ?_ _) ?_); rfl; rfl; rfl) | (go_at_call 13; (with_reducible refine HPut.out.mono ?_); rintro e w2 ⟨rfl, hn⟩; have HN := hide hn; clear hn))
  obtain ⟨L2, h2, h2b⟩ := HN.out.ex
  have HX2 := hide h2
  have hg := get_ix h2 k3
  have hf : putF (fun _ => none) k3 e5 k3 = some e5 := by unfold putF; rw [if_neg (by decide), upd_same]
  rw [hf] at hg
  have HG : Hid (Calls Try.prog 18 #[.pointer (some ⟨x, 0, none⟩), kV k3] w2 fun e w' => e = .returned (.tuple #[eV e5, .bool true]) ∧ Below w2.heap.size w2 w') := hide hg
  have HM : Hid (Maps [(k3, e5)] (putF (fun _ => none) k3 e5)) := hide (by
    unfold putF
    rw [if_neg (by decide)]
    exact Maps.nil.lay (by simp) e5)
  have HLn := hide (fun W2 (h : IxL W2 x 16 L2 (putF (fun _ => none) k3 e5) 1) => IxQ.len (W := W2) (pv := .pointer (some ⟨x, 0, none⟩)) (f := putF (fun _ => none) k3 e5) (.inr ⟨x, 1, L2, rfl, h⟩) (B := [(k3, e5)]) HM.out)
  have HF : Hid (Below w.heap.size w w2) := hide (by
    refine ⟨HN.out.fr.os.trans HB.out.os, HN.out.fr.tape.trans HB.out.tape, HN.out.fr.output.trans HB.out.output, Nat.le_trans HB.out.size HN.out.fr.size, fun b hb => (HN.out.fr.block b (by have := HB.out.size; omega) (fun e => by have := HLO.out b e; omega)).trans (HB.out.block b hb)⟩)
  have HZE : Hid (∀ w5 : World, EB (w5.alloc (.cells (eA eZ) ET)) w5.heap.size eZ) := hide (fun w5 => EB.made w5 eZ)
  clear hg hf h2 h2b HPut HN HX HB HLO HNF
  go_upto_region 5 with (first | ((with_reducible refine wpList_valW (kV k3) ?_ (run_bdK3 ?_ ?_ _) ?_); rfl; rfl; rfl) | (go_at_call 18; (with_reducible refine HG.out.mono ?_); rintro e w3 ⟨rfl, hb⟩; have HB3 := hide (HF.out.trans (hb.mono HF.out.size)); have HX3 := hide (HX2.out.below hb); have HE3 := hide (HZE.out w3); clear hb) | ((with_reducible refine wpList_stEB ?_ (.tmp 2) (.tmp 18) ?_ w3.heap.size ?_ eZ e5 ?_ HE3.out ?_); rfl; rfl; rfl; rfl; intro w4 h4 hg4))
  have hb4 : Below w3.heap.size w3 w4 := below_grownBy (grownBy_trans (World.grownBy_alloc w3 _ _) hg4.out) (Nat.le_refl _) (Nat.le_refl _)
  have HB4 := hide (HB3.out.trans (hb4.mono HB3.out.size))
  have HL4 : Hid (Calls Try.prog 12 #[.pointer (some ⟨x, 0, none⟩)] w4 fun e w' => e = .returned (.int .i64 1) ∧ Below w4.heap.size w4 w') := hide (HLn.out w4 (HX3.out.below hb4))
  have cE : w4.cell? ⟨w3.heap.size, 2, none⟩ = some (.int .i64 5) := by rw [Blk.cell h4.out]; rfl
  have lE := Blk.lt h4.out
  clear hb4 h4 hg4 HE3 HX3 HB3 HLn HM HX2 HG HF HZE hz0
  go_wp2_with (go_at_call 12; (with_reducible refine HL4.out.mono ?_); rintro e w5 ⟨rfl, hb⟩; have HB5 := hide (HB4.out.trans (hb.mono HB4.out.size)); clear hb)
  go_ret
  exact ⟨rfl, HB5.out⟩
end TX
end Go.Proofs.Ytdigjpddmfolgaa
