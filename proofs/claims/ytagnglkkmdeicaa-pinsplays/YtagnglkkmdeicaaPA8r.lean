/- Pins: the drawn region of Sessions. -/
import Derived.Test.YtagnglkkmdeicaaPA1
import Derived.Test.YtagnglkkmdeicaaPA8
namespace Go.Proofs.Ytagnglkkmdeicaa
set_option linter.unusedVariables false
set_option linter.unusedSimpArgs false
open Go.RowKit Go.Shelf
set_option maxRecDepth 100000

theorem load_ptrS {w : World} {b o : Nat} {v : Value} (h : w.cell? ⟨b, o, none⟩ = some v) : (Instr.loadAt 63 (.pointer (some ⟨b, o, none⟩))).run Try.prog w = .ok v w := by
  have hu := Try.underlying63
  simp [go_sem, h, hu]
theorem load_intS {w : World} {b o : Nat} {v : Value} (h : w.cell? ⟨b, o, none⟩ = some v) : (Instr.loadAt 3 (.pointer (some ⟨b, o, none⟩))).run Try.prog w = .ok v w := by
  have hu := Try.underlying3
  simp [go_sem, h, hu]
theorem run_appS {op : Oper} {ev : Operand → Value} {x y : Operand} {u v r : Value} {w w' : World} (ho : op.op = .call { callee := .builtin .append, args := #[x, y], argTypes := #[61, 61] }) (hx : ev x = u) (hy : ev y = v) (hty : op.type = 61) (h : (Builtin.append_ #[61, 61] 61 #[u, v]).run Try.prog w = .ok r w') : (execOp ev op).run Try.prog w = .ok (.value r) w' := by
  unfold execOp
  simp only [ho, resolve, invoke, builtin, Sem.run_bind, Sem.run_pure, Result.andThen_ok, List.map_toArray, List.map_cons, List.map_nil, hx, hy, hty, h]
def ps_0 (s : String) : Oper := { dst := some 14, op := Op.move (Operand.tmp 3), type := 61, pos := s, after := #[], guard := none }
def ps_1 (s : String) : Oper := { dst := some 15, op := Op.move (Operand.tmp 4), type := 3, pos := s, after := #[], guard := none }
def ps_2 (s : String) : Oper := { dst := some 16, op := Op.move (Operand.tmp 5), type := 50, pos := s, after := #[], guard := none }
def ps_3 (s : String) : Oper := { dst := some 17, op := Op.nilCheck (Operand.tmp 16), type := 0, pos := s, after := #[{ on := 2, ground := Ground.data }], guard := none }
def ps_4 (s : String) : Oper := { dst := some 18, op := Op.fieldAddr 66 (Operand.tmp 17) 1, type := 0, pos := s, after := #[{ on := 3, ground := Ground.data }], guard := none }
def ps_5 (s : String) : Oper := { dst := some 19, op := Op.load 3 (Operand.tmp 18), type := 3, pos := s, after := #[{ on := 4, ground := Ground.data }], guard := none }
def ps_6 (s : String) : Oper := { dst := some 20, op := Op.move (Operand.tmp 5), type := 50, pos := s, after := #[], guard := none }
def ps_7 (s : String) : Oper := { dst := some 21, op := Op.nilCheck (Operand.tmp 20), type := 0, pos := s, after := #[{ on := 6, ground := Ground.data }], guard := none }
def ps_8 (s : String) : Oper := { dst := some 22, op := Op.fieldAddr 66 (Operand.tmp 21) 0, type := 0, pos := s, after := #[{ on := 7, ground := Ground.data }], guard := none }
def ps_9 (s : String) : Oper := { dst := some 23, op := Op.load 63 (Operand.tmp 22), type := 63, pos := s, after := #[{ on := 8, ground := Ground.data }], guard := none }
def ps_10 (s : String) : Oper := { dst := some 24, op := Op.call { callee := Callee.value (Operand.func 46), args := #[Operand.tmp 23], argTypes := #[63] }, type := 77, pos := s, after := #[{ on := 9, ground := Ground.data }], guard := none }
def ps_11 (s : String) : Oper := { dst := some 25, op := Op.call { callee := Callee.value (Operand.func 45), args := #[Operand.tmp 24], argTypes := #[77] }, type := 42, pos := s, after := #[{ on := 10, ground := Ground.data }, { on := 10, ground := Ground.chain }], guard := none }
def ps_12 (s : String) : Oper := { dst := some 26, op := Op.build 80 #[(0, Operand.tmp 15), (1, Operand.tmp 19), (2, Operand.tmp 25)], type := 80, pos := s, after := #[{ on := 1, ground := Ground.data }, { on := 5, ground := Ground.data }, { on := 11, ground := Ground.data }], guard := none }
def ps_13 (s : String) : Oper := { dst := some 27, op := Op.buildSlice 61 1 #[(0, Operand.tmp 26)], type := 61, pos := s, after := #[{ on := 12, ground := Ground.data }], guard := none }
def ps_14 (s : String) : Oper := { dst := some 28, op := Op.call { callee := Callee.builtin Builtin.append, args := #[Operand.tmp 14, Operand.tmp 27], argTypes := #[61, 61] }, type := 61, pos := s, after := #[{ on := 0, ground := Ground.data }, { on := 13, ground := Ground.data }, { on := 11, ground := Ground.chain }], guard := none }
def ps_15 (s : String) : Oper := { dst := some 3, op := Op.assign (Operand.tmp 28), type := 61, pos := s, after := #[{ on := 14, ground := Ground.data }, { on := 14, ground := Ground.chain }, { on := 0, ground := Ground.phase }, { on := 1, ground := Ground.phase }, { on := 2, ground := Ground.phase }, { on := 3, ground := Ground.phase }, { on := 4, ground := Ground.phase }, { on := 5, ground := Ground.phase }, { on := 6, ground := Ground.phase }, { on := 7, ground := Ground.phase }, { on := 8, ground := Ground.phase }, { on := 9, ground := Ground.phase }, { on := 10, ground := Ground.phase }, { on := 11, ground := Ground.phase }, { on := 12, ground := Ground.phase }, { on := 13, ground := Ground.phase }, { on := 14, ground := Ground.phase }], guard := none }
def ps_ops (s : String) : Array Oper := #[ps_0 s, ps_1 s, ps_2 s, ps_3 s, ps_4 s, ps_5 s, ps_6 s, ps_7 s, ps_8 s, ps_9 s, ps_10 s, ps_11 s, ps_12 s, ps_13 s, ps_14 s, ps_15 s]
theorem ps_enter10 (s : String) (a : Act) (w : World) : (execOp a.eval (ps_10 s)).run Try.prog w = .ok (.enter 46 #[a.eval (.tmp 23)]) w := by kernel_rfl
theorem ps_enter11 (s : String) (a : Act) (w : World) : (execOp a.eval (ps_11 s)).run Try.prog w = .ok (.enter 45 #[a.eval (.tmp 24)]) w := by kernel_rfl
theorem ps_walk (s : String) {Q : Exit → Act → World → Prop} (hQ : ∀ c (a : Act) t v w, Q (.panic c) (a.put (some t) v) w → Q (.panic c) a w) (W : World) (zs z b i : Nat) (am : Option Addr) (mm cap : Nat) (L : List (List UInt8)) (M1 : Nat → World → Prop) (M2 : World → Option Addr → Nat → World → Prop) (M3 : Option Addr → Nat → World → Value → World → Prop) (hS0 : W.drew.cell? ⟨zs, 0, none⟩ = some (.pointer (some ⟨z, 0, none⟩)) ∧ W.drew.cell? ⟨zs, 1, none⟩ = some (.int .i64 (b : Int))) (hc1 : Calls Try.prog 46 #[.pointer (some ⟨z, 0, none⟩)] W.drew fun e w' => ∃ bx, e = .returned (riF bx) ∧ M1 bx w') (hk1 : ∀ bx w2, M1 bx w2 → w2.cell? ⟨zs, 0, none⟩ = some (.pointer (some ⟨z, 0, none⟩)) ∧ w2.cell? ⟨zs, 1, none⟩ = some (.int .i64 (b : Int))) (hc2 : ∀ bx w2, M1 bx w2 → Calls Try.prog 45 #[riF bx] w2 fun e w' => ∃ ak ck, e = .returned (.slice ak L.length ck) ∧ M2 w2 ak ck w') (hk2 : ∀ bx w2 ak ck w3, M1 bx w2 → M2 w2 ak ck w3 → (w3.cell? ⟨zs, 0, none⟩ = some (.pointer (some ⟨z, 0, none⟩)) ∧ w3.cell? ⟨zs, 1, none⟩ = some (.int .i64 (b : Int))) ∧ ((w3.alloc (.cells (seV ⟨i, b, ak, ck, L⟩).toArray 80)).cell? ⟨zs, 0, none⟩ = some (.pointer (some ⟨z, 0, none⟩)) ∧ (w3.alloc (.cells (seV ⟨i, b, ak, ck, L⟩).toArray 80)).cell? ⟨zs, 1, none⟩ = some (.int .i64 (b : Int)))) (happ : ∀ bx w2 ak ck w3, M1 bx w2 → M2 w2 ak ck w3 → ∃ v5 w5, (Builtin.append_ #[61, 61] 61 #[.slice am mm cap, .slice (some ⟨w3.heap.size, 0, none⟩) 1 1]).run Try.prog (w3.alloc (.cells (seV ⟨i, b, ak, ck, L⟩).toArray 80)) = .ok v5 w5 ∧ M3 ak ck w3 v5 w5 ∧ w5.cell? ⟨zs, 0, none⟩ = some (.pointer (some ⟨z, 0, none⟩)) ∧ w5.cell? ⟨zs, 1, none⟩ = some (.int .i64 (b : Int)))
    (a : Act) (hs : 28 < a.tmps.size) (e3 : a.eval (.tmp 3) = .slice am mm cap) (e4 : a.eval (.tmp 4) = .int .i64 (i : Int)) (e5 : a.eval (.tmp 5) = .pointer (some ⟨zs, 0, none⟩))
    (h0 : ∀ bx w2, M1 bx w2 → ∀ ak ck w3, M2 w2 ak ck w3 → ∀ v5 w5, M3 ak ck w3 v5 w5 → Q .normal ((((((((((((((((a.put (some 14) (.slice am mm cap)).put (some 15) (.int .i64 (i : Int))).put (some 16) (.pointer (some ⟨zs, 0, none⟩))).put (some 17) (.pointer (some ⟨zs, 0, none⟩))).put (some 18) (.pointer (some ⟨zs, 1, none⟩))).put (some 19) (.int .i64 (b : Int))).put (some 20) (.pointer (some ⟨zs, 0, none⟩))).put (some 21) (.pointer (some ⟨zs, 0, none⟩))).put (some 22) (.pointer (some ⟨zs, 0, none⟩))).put (some 23) (.pointer (some ⟨z, 0, none⟩))).put (some 24) (riF bx)).put (some 25) (.slice ak L.length ck)).put (some 26) (.agg (seV ⟨i, b, ak, ck, L⟩).toArray)).put (some 27) (.slice (some ⟨w3.heap.size, 0, none⟩) 1 1)).put (some 28) (v5)).put (some 3) (v5)) w5) :
    Code.wp Try.prog (.region 7 (ps_ops s) true) Q a W := by
  refine wp_region_held_drew (S := fun w => w.cell? ⟨zs, 0, none⟩ = some (.pointer (some ⟨z, 0, none⟩)) ∧ w.cell? ⟨zs, 1, none⟩ = some (.int .i64 (b : Int))) (by kernel_rfl) hS0 (fun hS => ?_)
  change wpAnyH _ _ _ _ _ _ _ _ (World.drew _)
  refine wpAnyH_take (i := 0) (oi := ps_0 s) (v := .slice am mm cap) (by kernel_rfl) (by kernel_rfl) (by kernel_rfl) (by kernel_rfl) (fun c a w h => hQ c _ _ _ w h) (Or.inl ⟨wanted_none rfl, fun w hw => by simp only [execOp, ps_0, e3]; rfl⟩) hS ?_
  change wpAnyH _ _ _ _ _ _ _ (a.put (some 14) (.slice am mm cap)) _
  obtain ⟨a0_1, ha1⟩ : ∃ rr : Act, rr = a.put (some 14) (.slice am mm cap) := ⟨_, rfl⟩
  have qz1 : 28 < a0_1.tmps.size := by rw [ha1, sz_put]; exact hs
  have f1_4 : a0_1.eval (.tmp 4) = .int .i64 (i : Int) := by rw [ha1, ev_other _ _ _ _ (by decide)]; exact e4
  have f1_5 : a0_1.eval (.tmp 5) = .pointer (some ⟨zs, 0, none⟩) := by rw [ha1, ev_other _ _ _ _ (by decide)]; exact e5
  have f1_14 : a0_1.eval (.tmp 14) = .slice am mm cap := by rw [ha1]; exact ev_same _ _ _ (Nat.lt_of_le_of_lt (by decide) hs)
  rw [← ha1] at h0 ⊢
  clear ha1
  refine wpAnyH_take (i := 1) (oi := ps_1 s) (v := .int .i64 (i : Int)) (by kernel_rfl) (by kernel_rfl) (by kernel_rfl) (by kernel_rfl) (fun c a w h => hQ c _ _ _ w h) (Or.inl ⟨wanted_none rfl, fun w hw => by simp only [execOp, ps_1, f1_4]; rfl⟩) hS ?_
  change wpAnyH _ _ _ _ _ _ _ (a0_1.put (some 15) (.int .i64 (i : Int))) _
  obtain ⟨a0_2, ha2⟩ : ∃ rr : Act, rr = a0_1.put (some 15) (.int .i64 (i : Int)) := ⟨_, rfl⟩
  have qz2 : 28 < a0_2.tmps.size := by rw [ha2, sz_put]; exact qz1
  have f2_5 : a0_2.eval (.tmp 5) = .pointer (some ⟨zs, 0, none⟩) := by rw [ha2, ev_other _ _ _ _ (by decide)]; exact f1_5
  have f2_14 : a0_2.eval (.tmp 14) = .slice am mm cap := by rw [ha2, ev_other _ _ _ _ (by decide)]; exact f1_14
  have f2_15 : a0_2.eval (.tmp 15) = .int .i64 (i : Int) := by rw [ha2]; exact ev_same _ _ _ (Nat.lt_of_le_of_lt (by decide) qz1)
  rw [← ha2] at h0 ⊢
  clear ha2
  refine wpAnyH_take (i := 2) (oi := ps_2 s) (v := .pointer (some ⟨zs, 0, none⟩)) (by kernel_rfl) (by kernel_rfl) (by kernel_rfl) (by kernel_rfl) (fun c a w h => hQ c _ _ _ w h) (Or.inl ⟨wanted_none rfl, fun w hw => by simp only [execOp, ps_2, f2_5]; rfl⟩) hS ?_
  change wpAnyH _ _ _ _ _ _ _ (a0_2.put (some 16) (.pointer (some ⟨zs, 0, none⟩))) _
  obtain ⟨a0_3, ha3⟩ : ∃ rr : Act, rr = a0_2.put (some 16) (.pointer (some ⟨zs, 0, none⟩)) := ⟨_, rfl⟩
  have qz3 : 28 < a0_3.tmps.size := by rw [ha3, sz_put]; exact qz2
  have f3_5 : a0_3.eval (.tmp 5) = .pointer (some ⟨zs, 0, none⟩) := by rw [ha3, ev_other _ _ _ _ (by decide)]; exact f2_5
  have f3_14 : a0_3.eval (.tmp 14) = .slice am mm cap := by rw [ha3, ev_other _ _ _ _ (by decide)]; exact f2_14
  have f3_15 : a0_3.eval (.tmp 15) = .int .i64 (i : Int) := by rw [ha3, ev_other _ _ _ _ (by decide)]; exact f2_15
  have f3_16 : a0_3.eval (.tmp 16) = .pointer (some ⟨zs, 0, none⟩) := by rw [ha3]; exact ev_same _ _ _ (Nat.lt_of_le_of_lt (by decide) qz2)
  rw [← ha3] at h0 ⊢
  clear ha3
  refine wpAnyH_take (i := 3) (oi := ps_3 s) (v := .pointer (some ⟨zs, 0, none⟩)) (by kernel_rfl) (by kernel_rfl) (by kernel_rfl) (by kernel_rfl) (fun c a w h => hQ c _ _ _ w h) (Or.inl ⟨wanted_none rfl, fun w hw => by simp only [execOp, ps_3, f3_16]; rfl⟩) hS ?_
  change wpAnyH _ _ _ _ _ _ _ (a0_3.put (some 17) (.pointer (some ⟨zs, 0, none⟩))) _
  obtain ⟨a0_4, ha4⟩ : ∃ rr : Act, rr = a0_3.put (some 17) (.pointer (some ⟨zs, 0, none⟩)) := ⟨_, rfl⟩
  have qz4 : 28 < a0_4.tmps.size := by rw [ha4, sz_put]; exact qz3
  have f4_5 : a0_4.eval (.tmp 5) = .pointer (some ⟨zs, 0, none⟩) := by rw [ha4, ev_other _ _ _ _ (by decide)]; exact f3_5
  have f4_14 : a0_4.eval (.tmp 14) = .slice am mm cap := by rw [ha4, ev_other _ _ _ _ (by decide)]; exact f3_14
  have f4_15 : a0_4.eval (.tmp 15) = .int .i64 (i : Int) := by rw [ha4, ev_other _ _ _ _ (by decide)]; exact f3_15
  have f4_17 : a0_4.eval (.tmp 17) = .pointer (some ⟨zs, 0, none⟩) := by rw [ha4]; exact ev_same _ _ _ (Nat.lt_of_le_of_lt (by decide) qz3)
  rw [← ha4] at h0 ⊢
  clear ha4
  refine wpAnyH_take (i := 4) (oi := ps_4 s) (v := .pointer (some ⟨zs, 1, none⟩)) (by kernel_rfl) (by kernel_rfl) (by kernel_rfl) (by kernel_rfl) (fun c a w h => hQ c _ _ _ w h) (Or.inl ⟨wanted_none rfl, fun w hw => by simp only [execOp, ps_4, f4_17]; rfl⟩) hS ?_
  change wpAnyH _ _ _ _ _ _ _ (a0_4.put (some 18) (.pointer (some ⟨zs, 1, none⟩))) _
  obtain ⟨a0_5, ha5⟩ : ∃ rr : Act, rr = a0_4.put (some 18) (.pointer (some ⟨zs, 1, none⟩)) := ⟨_, rfl⟩
  have qz5 : 28 < a0_5.tmps.size := by rw [ha5, sz_put]; exact qz4
  have f5_5 : a0_5.eval (.tmp 5) = .pointer (some ⟨zs, 0, none⟩) := by rw [ha5, ev_other _ _ _ _ (by decide)]; exact f4_5
  have f5_14 : a0_5.eval (.tmp 14) = .slice am mm cap := by rw [ha5, ev_other _ _ _ _ (by decide)]; exact f4_14
  have f5_15 : a0_5.eval (.tmp 15) = .int .i64 (i : Int) := by rw [ha5, ev_other _ _ _ _ (by decide)]; exact f4_15
  have f5_18 : a0_5.eval (.tmp 18) = .pointer (some ⟨zs, 1, none⟩) := by rw [ha5]; exact ev_same _ _ _ (Nat.lt_of_le_of_lt (by decide) qz4)
  rw [← ha5] at h0 ⊢
  clear ha5
  refine wpAnyH_take (i := 5) (oi := ps_5 s) (v := .int .i64 (b : Int)) (by kernel_rfl) (by kernel_rfl) (by kernel_rfl) (by kernel_rfl) (fun c a w h => hQ c _ _ _ w h) (Or.inl ⟨wanted_none rfl, fun w hw => run_load rfl f5_18 (load_intS hw.2)⟩) hS ?_
  change wpAnyH _ _ _ _ _ _ _ (a0_5.put (some 19) (.int .i64 (b : Int))) _
  obtain ⟨a0_6, ha6⟩ : ∃ rr : Act, rr = a0_5.put (some 19) (.int .i64 (b : Int)) := ⟨_, rfl⟩
  have qz6 : 28 < a0_6.tmps.size := by rw [ha6, sz_put]; exact qz5
  have f6_5 : a0_6.eval (.tmp 5) = .pointer (some ⟨zs, 0, none⟩) := by rw [ha6, ev_other _ _ _ _ (by decide)]; exact f5_5
  have f6_14 : a0_6.eval (.tmp 14) = .slice am mm cap := by rw [ha6, ev_other _ _ _ _ (by decide)]; exact f5_14
  have f6_15 : a0_6.eval (.tmp 15) = .int .i64 (i : Int) := by rw [ha6, ev_other _ _ _ _ (by decide)]; exact f5_15
  have f6_19 : a0_6.eval (.tmp 19) = .int .i64 (b : Int) := by rw [ha6]; exact ev_same _ _ _ (Nat.lt_of_le_of_lt (by decide) qz5)
  rw [← ha6] at h0 ⊢
  clear ha6
  refine wpAnyH_take (i := 6) (oi := ps_6 s) (v := .pointer (some ⟨zs, 0, none⟩)) (by kernel_rfl) (by kernel_rfl) (by kernel_rfl) (by kernel_rfl) (fun c a w h => hQ c _ _ _ w h) (Or.inl ⟨wanted_none rfl, fun w hw => by simp only [execOp, ps_6, f6_5]; rfl⟩) hS ?_
  change wpAnyH _ _ _ _ _ _ _ (a0_6.put (some 20) (.pointer (some ⟨zs, 0, none⟩))) _
  obtain ⟨a0_7, ha7⟩ : ∃ rr : Act, rr = a0_6.put (some 20) (.pointer (some ⟨zs, 0, none⟩)) := ⟨_, rfl⟩
  have qz7 : 28 < a0_7.tmps.size := by rw [ha7, sz_put]; exact qz6
  have f7_14 : a0_7.eval (.tmp 14) = .slice am mm cap := by rw [ha7, ev_other _ _ _ _ (by decide)]; exact f6_14
  have f7_15 : a0_7.eval (.tmp 15) = .int .i64 (i : Int) := by rw [ha7, ev_other _ _ _ _ (by decide)]; exact f6_15
  have f7_19 : a0_7.eval (.tmp 19) = .int .i64 (b : Int) := by rw [ha7, ev_other _ _ _ _ (by decide)]; exact f6_19
  have f7_20 : a0_7.eval (.tmp 20) = .pointer (some ⟨zs, 0, none⟩) := by rw [ha7]; exact ev_same _ _ _ (Nat.lt_of_le_of_lt (by decide) qz6)
  rw [← ha7] at h0 ⊢
  clear ha7
  refine wpAnyH_take (i := 7) (oi := ps_7 s) (v := .pointer (some ⟨zs, 0, none⟩)) (by kernel_rfl) (by kernel_rfl) (by kernel_rfl) (by kernel_rfl) (fun c a w h => hQ c _ _ _ w h) (Or.inl ⟨wanted_none rfl, fun w hw => by simp only [execOp, ps_7, f7_20]; rfl⟩) hS ?_
  change wpAnyH _ _ _ _ _ _ _ (a0_7.put (some 21) (.pointer (some ⟨zs, 0, none⟩))) _
  obtain ⟨a0_8, ha8⟩ : ∃ rr : Act, rr = a0_7.put (some 21) (.pointer (some ⟨zs, 0, none⟩)) := ⟨_, rfl⟩
  have qz8 : 28 < a0_8.tmps.size := by rw [ha8, sz_put]; exact qz7
  have f8_14 : a0_8.eval (.tmp 14) = .slice am mm cap := by rw [ha8, ev_other _ _ _ _ (by decide)]; exact f7_14
  have f8_15 : a0_8.eval (.tmp 15) = .int .i64 (i : Int) := by rw [ha8, ev_other _ _ _ _ (by decide)]; exact f7_15
  have f8_19 : a0_8.eval (.tmp 19) = .int .i64 (b : Int) := by rw [ha8, ev_other _ _ _ _ (by decide)]; exact f7_19
  have f8_21 : a0_8.eval (.tmp 21) = .pointer (some ⟨zs, 0, none⟩) := by rw [ha8]; exact ev_same _ _ _ (Nat.lt_of_le_of_lt (by decide) qz7)
  rw [← ha8] at h0 ⊢
  clear ha8
  refine wpAnyH_take (i := 8) (oi := ps_8 s) (v := .pointer (some ⟨zs, 0, none⟩)) (by kernel_rfl) (by kernel_rfl) (by kernel_rfl) (by kernel_rfl) (fun c a w h => hQ c _ _ _ w h) (Or.inl ⟨wanted_none rfl, fun w hw => by simp only [execOp, ps_8, f8_21]; rfl⟩) hS ?_
  change wpAnyH _ _ _ _ _ _ _ (a0_8.put (some 22) (.pointer (some ⟨zs, 0, none⟩))) _
  obtain ⟨a0_9, ha9⟩ : ∃ rr : Act, rr = a0_8.put (some 22) (.pointer (some ⟨zs, 0, none⟩)) := ⟨_, rfl⟩
  have qz9 : 28 < a0_9.tmps.size := by rw [ha9, sz_put]; exact qz8
  have f9_14 : a0_9.eval (.tmp 14) = .slice am mm cap := by rw [ha9, ev_other _ _ _ _ (by decide)]; exact f8_14
  have f9_15 : a0_9.eval (.tmp 15) = .int .i64 (i : Int) := by rw [ha9, ev_other _ _ _ _ (by decide)]; exact f8_15
  have f9_19 : a0_9.eval (.tmp 19) = .int .i64 (b : Int) := by rw [ha9, ev_other _ _ _ _ (by decide)]; exact f8_19
  have f9_22 : a0_9.eval (.tmp 22) = .pointer (some ⟨zs, 0, none⟩) := by rw [ha9]; exact ev_same _ _ _ (Nat.lt_of_le_of_lt (by decide) qz8)
  rw [← ha9] at h0 ⊢
  clear ha9
  refine wpAnyH_take (i := 9) (oi := ps_9 s) (v := .pointer (some ⟨z, 0, none⟩)) (by kernel_rfl) (by kernel_rfl) (by kernel_rfl) (by kernel_rfl) (fun c a w h => hQ c _ _ _ w h) (Or.inl ⟨wanted_none rfl, fun w hw => run_load rfl f9_22 (load_ptrS hw.1)⟩) hS ?_
  change wpAnyH _ _ _ _ _ _ _ (a0_9.put (some 23) (.pointer (some ⟨z, 0, none⟩))) _
  obtain ⟨a0_10, ha10⟩ : ∃ rr : Act, rr = a0_9.put (some 23) (.pointer (some ⟨z, 0, none⟩)) := ⟨_, rfl⟩
  have qz10 : 28 < a0_10.tmps.size := by rw [ha10, sz_put]; exact qz9
  have f10_14 : a0_10.eval (.tmp 14) = .slice am mm cap := by rw [ha10, ev_other _ _ _ _ (by decide)]; exact f9_14
  have f10_15 : a0_10.eval (.tmp 15) = .int .i64 (i : Int) := by rw [ha10, ev_other _ _ _ _ (by decide)]; exact f9_15
  have f10_19 : a0_10.eval (.tmp 19) = .int .i64 (b : Int) := by rw [ha10, ev_other _ _ _ _ (by decide)]; exact f9_19
  have f10_23 : a0_10.eval (.tmp 23) = .pointer (some ⟨z, 0, none⟩) := by rw [ha10]; exact ev_same _ _ _ (Nat.lt_of_le_of_lt (by decide) qz9)
  rw [← ha10] at h0 ⊢
  clear ha10
  refine wpAnyH_ready (rs := [10]) (by kernel_rfl) (by simp) ?_
  refine AllReadyH.cons (o := ps_10 s) (by kernel_rfl) (fun KQ hKQ => ?_) AllReadyH.nil
  rw [if_pos (wanted_none rfl)]
  refine step_enterE 46 #[.pointer (some ⟨z, 0, none⟩)] (by rw [ps_enter10, f10_23]) (fun V w' => ∃ bx, V = riF bx ∧ M1 bx w') (hc1.mono (fun e w' ⟨bx, h1, h2⟩ => ⟨_, h1, bx, rfl, h2⟩)) ?_
  rintro _ w2 ⟨bx, rfl, hM1⟩
  refine hKQ.out _ _ (hk1 bx w2 hM1) (fun _ => ?_)
  clear hKQ KQ
  change wpAnyH _ _ _ _ _ _ _ (a0_10.put (some 24) (riF bx)) _
  have h0 := h0 bx w2 hM1
  obtain ⟨a0_11, ha11⟩ : ∃ rr : Act, rr = a0_10.put (some 24) (riF bx) := ⟨_, rfl⟩
  have qz11 : 28 < a0_11.tmps.size := by rw [ha11, sz_put]; exact qz10
  have f11_14 : a0_11.eval (.tmp 14) = .slice am mm cap := by rw [ha11, ev_other _ _ _ _ (by decide)]; exact f10_14
  have f11_15 : a0_11.eval (.tmp 15) = .int .i64 (i : Int) := by rw [ha11, ev_other _ _ _ _ (by decide)]; exact f10_15
  have f11_19 : a0_11.eval (.tmp 19) = .int .i64 (b : Int) := by rw [ha11, ev_other _ _ _ _ (by decide)]; exact f10_19
  have f11_24 : a0_11.eval (.tmp 24) = riF bx := by rw [ha11]; exact ev_same _ _ _ (Nat.lt_of_le_of_lt (by decide) qz10)
  rw [← ha11] at h0 ⊢
  clear ha11
  refine wpAnyH_ready (rs := [11]) (by kernel_rfl) (by simp) ?_
  refine AllReadyH.cons (o := ps_11 s) (by kernel_rfl) (fun KQ hKQ => ?_) AllReadyH.nil
  rw [if_pos (wanted_none rfl)]
  refine step_enterE 45 #[riF bx] (by rw [ps_enter11, f11_24]) (fun V w' => ∃ ak ck, V = .slice ak L.length ck ∧ M2 w2 ak ck w') ((hc2 bx w2 hM1).mono (fun e w' ⟨ak, ck, h1, h2⟩ => ⟨_, h1, ak, ck, rfl, h2⟩)) ?_
  rintro _ w3 ⟨ak, ck, rfl, hM2⟩
  refine hKQ.out _ _ ((hk2 bx w2 ak ck w3 hM1 hM2).1) (fun _ => ?_)
  clear hKQ KQ
  change wpAnyH _ _ _ _ _ _ _ (a0_11.put (some 25) (.slice ak L.length ck)) _
  have h0 := h0 ak ck w3 hM2
  obtain ⟨a0_12, ha12⟩ : ∃ rr : Act, rr = a0_11.put (some 25) (.slice ak L.length ck) := ⟨_, rfl⟩
  have qz12 : 28 < a0_12.tmps.size := by rw [ha12, sz_put]; exact qz11
  have f12_14 : a0_12.eval (.tmp 14) = .slice am mm cap := by rw [ha12, ev_other _ _ _ _ (by decide)]; exact f11_14
  have f12_15 : a0_12.eval (.tmp 15) = .int .i64 (i : Int) := by rw [ha12, ev_other _ _ _ _ (by decide)]; exact f11_15
  have f12_19 : a0_12.eval (.tmp 19) = .int .i64 (b : Int) := by rw [ha12, ev_other _ _ _ _ (by decide)]; exact f11_19
  have f12_25 : a0_12.eval (.tmp 25) = .slice ak L.length ck := by rw [ha12]; exact ev_same _ _ _ (Nat.lt_of_le_of_lt (by decide) qz11)
  rw [← ha12] at h0 ⊢
  clear ha12
  refine wpAnyH_take (i := 12) (oi := ps_12 s) (v := .agg (seV ⟨i, b, ak, ck, L⟩).toArray) (by kernel_rfl) (by kernel_rfl) (by kernel_rfl) (by kernel_rfl) (fun c a w h => hQ c _ _ _ w h) (Or.inl ⟨wanted_none rfl, fun w hw => run_buildSe ⟨i, b, ak, ck, L⟩ rfl f12_15 f12_19 f12_25⟩) (hk2 bx w2 ak ck w3 hM1 hM2).1 ?_
  change wpAnyH _ _ _ _ _ _ _ (a0_12.put (some 26) (.agg (seV ⟨i, b, ak, ck, L⟩).toArray)) _
  obtain ⟨a0_13, ha13⟩ : ∃ rr : Act, rr = a0_12.put (some 26) (.agg (seV ⟨i, b, ak, ck, L⟩).toArray) := ⟨_, rfl⟩
  have qz13 : 28 < a0_13.tmps.size := by rw [ha13, sz_put]; exact qz12
  have f13_14 : a0_13.eval (.tmp 14) = .slice am mm cap := by rw [ha13, ev_other _ _ _ _ (by decide)]; exact f12_14
  have f13_26 : a0_13.eval (.tmp 26) = .agg (seV ⟨i, b, ak, ck, L⟩).toArray := by rw [ha13]; exact ev_same _ _ _ (Nat.lt_of_le_of_lt (by decide) qz12)
  rw [← ha13] at h0 ⊢
  clear ha13
  refine wpAnyH_ready (rs := [13]) (by kernel_rfl) (by simp) ?_
  refine AllReadyH.cons (o := ps_13 s) (by kernel_rfl) (fun KQ hKQ => ?_) AllReadyH.nil
  rw [if_pos (wanted_none rfl)]
  refine step_runE (.slice (some ⟨w3.heap.size, 0, none⟩) 1 1) ((w3.alloc (.cells (seV ⟨i, b, ak, ck, L⟩).toArray 80))) (run_bsS ⟨i, b, ak, ck, L⟩ rfl f13_26) ?_
  refine hKQ.out _ _ ((hk2 bx w2 ak ck w3 hM1 hM2).2) (fun _ => ?_)
  clear hKQ KQ
  change wpAnyH _ _ _ _ _ _ _ (a0_13.put (some 27) (.slice (some ⟨w3.heap.size, 0, none⟩) 1 1)) _
  obtain ⟨a0_14, ha14⟩ : ∃ rr : Act, rr = a0_13.put (some 27) (.slice (some ⟨w3.heap.size, 0, none⟩) 1 1) := ⟨_, rfl⟩
  have qz14 : 28 < a0_14.tmps.size := by rw [ha14, sz_put]; exact qz13
  have f14_14 : a0_14.eval (.tmp 14) = .slice am mm cap := by rw [ha14, ev_other _ _ _ _ (by decide)]; exact f13_14
  have f14_27 : a0_14.eval (.tmp 27) = .slice (some ⟨w3.heap.size, 0, none⟩) 1 1 := by rw [ha14]; exact ev_same _ _ _ (Nat.lt_of_le_of_lt (by decide) qz13)
  rw [← ha14] at h0 ⊢
  clear ha14
  refine wpAnyH_ready (rs := [14]) (by kernel_rfl) (by simp) ?_
  refine AllReadyH.cons (o := ps_14 s) (by kernel_rfl) (fun KQ hKQ => ?_) AllReadyH.nil
  rw [if_pos (wanted_none rfl)]
  obtain ⟨v5, w5, hrun, hM3, hS5⟩ := happ bx w2 ak ck w3 hM1 hM2
  refine step_runE (v5) (w5) (run_appS rfl f14_14 f14_27 rfl hrun) ?_
  refine hKQ.out _ _ (hS5) (fun _ => ?_)
  clear hKQ KQ
  change wpAnyH _ _ _ _ _ _ _ (a0_14.put (some 28) (v5)) _
  have h0 := h0 v5 w5 hM3
  obtain ⟨a0_15, ha15⟩ : ∃ rr : Act, rr = a0_14.put (some 28) (v5) := ⟨_, rfl⟩
  have qz15 : 28 < a0_15.tmps.size := by rw [ha15, sz_put]; exact qz14
  have f15_28 : a0_15.eval (.tmp 28) = v5 := by rw [ha15]; exact ev_same _ _ _ (Nat.lt_of_le_of_lt (by decide) qz14)
  rw [← ha15] at h0 ⊢
  clear ha15
  refine wpAnyH_take (i := 15) (oi := ps_15 s) (v := v5) (by kernel_rfl) (by kernel_rfl) (by kernel_rfl) (by kernel_rfl) (fun c a w h => hQ c _ _ _ w h) (Or.inl ⟨wanted_none rfl, fun w hw => by simp only [execOp, ps_15, f15_28]; rfl⟩) hS5 ?_
  change wpAnyH _ _ _ _ _ _ _ (a0_15.put (some 3) (v5)) _
  obtain ⟨a0_16, ha16⟩ : ∃ rr : Act, rr = a0_15.put (some 3) (v5) := ⟨_, rfl⟩
  have qz16 : 28 < a0_16.tmps.size := by rw [ha16, sz_put]; exact qz15
  rw [← ha16] at h0 ⊢
  clear ha16
  refine wpAnyH_done (by kernel_rfl) ?_ _
  exact h0
end Go.Proofs.Ytagnglkkmdeicaa
