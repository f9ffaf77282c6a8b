/- The two statements of WireOnly that draw their order. -/
import Derived.Test.YtinjcefekbpabaaK1
import Derived.Deep.RegionHeld3
namespace Go.Proofs.Ytinjcefekbpabaa
set_option linter.unusedVariables false
set_option linter.unusedSimpArgs false
open Go.RowKit

theorem wpAnyH_mono {P : Program} {md : Region.Mode} {ops : Array Oper} {Q : Exit → Act → World → Prop} {S S' : World → Prop} (hs : ∀ w, S' w → S w) :
    ∀ (fuel : Nat) (listed : Array Bool) (a : Act) (w : World), wpAnyH P md ops Q S' fuel listed a w → wpAnyH P md ops Q S fuel listed a w
  | 0, _, _, _, h => h
  | fuel + 1, _, _, _, h => ⟨h.1, fun i hi => wpOp_mono (fun a' w' h' => ⟨hs w' h'.1, wpAnyH_mono hs fuel _ a' w' h'.2⟩) (h.2 i hi)⟩
theorem step_enterE {op : Oper} {a : Act} {w : World} {K : Act → World → Prop} {Q : Exit → Act → World → Prop} (f : FuncId) (args : Array Value) (hr : (execOp a.eval op).run Try.prog w = .ok (.enter f args) w) (R : Value → World → Prop) (hc : Calls Try.prog f args w fun e w' => ∃ V, e = .returned V ∧ R V w') (h : ∀ V w', R V w' → K (a.put op.dst V) w') : op.wp Try.prog a w K Q := by
  unfold Oper.wp
  rw [hr]
  refine Calls.mono hc ?_
  rintro e w' ⟨V, rfl, hR⟩
  exact h V w' hR
theorem wanted_some {ops : Array Oper} {o : Oper} {a : Act} {j : Nat} {b : Bool} {t : Tmp} (hg : o.guard = some (j, b)) (hd : (ops[j]?).bind (·.dst) = some t) (he : a.eval (.tmp t) = .bool b) (hz : t < a.tmps.size) : Region.wanted o (yielded ops a.tmps) = true := by
  have h1 : a.tmps[t]? = some (.bool b) := by
    rw [Array.getElem?_eq_getElem hz]
    simpa [Act.eval, hz] using he
  simp [Region.wanted, hg, yielded, hd, h1]
theorem EncSt.drew {w : World} {X : Nat → Prop} {z : Nat} {xs : List UInt8} (h : EncSt w X z xs) : EncSt w.drew X z xs := h.below ⟨rfl, rfl, rfl, Nat.le_refl _, fun _ _ => rfl⟩
theorem run_conv {op : Oper} {ev : Operand → Value} {t u : TypeId} {x : Operand} {v r : Value} {w : World} (ho : op.op = .convert t u x) (hx : ev x = v) (hc : (convert t u v).run Try.prog w = .ok r w) : (execOp ev op).run Try.prog w = .ok (.value r) w := by
  simp only [execOp, ho, hx, Sem.run_bind, hc, Result.andThen_ok, Sem.run_pure]
theorem run_eqSame {op : Oper} {ev : Operand → Value} {x y : Operand} {u : TypeId} {s : ByteArray} (ho : op.op = .binOp .eql 9 x y u) (hx : ev x = .string s) (hy : ev y = .string s) (w : World) : (execOp ev op).run Try.prog w = .ok (.value (.bool true)) w := by
  simp only [execOp, ho, hx, hy]
  simp [go_sem]
theorem run_load {op : Oper} {ev : Operand → Value} {t : TypeId} {x : Operand} {p v : Value} {w : World} (ho : op.op = .load t x) (hx : ev x = p) (hl : (Instr.loadAt t p).run Try.prog w = .ok v w) : (execOp ev op).run Try.prog w = .ok (.value v) w := by
  simp only [execOp, ho, hx, Sem.run_bind, hl, Result.andThen_ok, Sem.run_pure]
theorem infoTake : (Try.prog.info? 53).map (·.size) = some 3 := by kernel_rfl
theorem loadTake3 {w : World} {b o : Nat} {x y u : Value} (c0 : w.cell? ⟨b, o, none⟩ = some x) (c1 : w.cell? ⟨b, o + 1, none⟩ = some y) (c2 : w.cell? ⟨b, o + 2, none⟩ = some u) : (Instr.loadAt 53 (.pointer (some ⟨b, o, none⟩))).run Try.prog w = .ok (.agg #[x, y, u]) w := by
  simp only [Instr.loadAt, Instr.sureAddr, Sem.run_bind, Sem.run_pure, Result.andThen_ok]
  exact run_loadVar_mid (P := Try.prog) w b o 53 [x, y, u] _ (fun j v hj => by
    match j, hj with
    | 0, hj => simp at hj; rw [← hj]; exact c0
    | 1, hj => simp at hj; rw [← hj]; exact c1
    | 2, hj => simp at hj; rw [← hj]; exact c2) Try.underlying53 rfl infoTake
theorem index_take {op : Oper} {ev : Operand → Value} {x y : Operand} (ho : op.op = .indexAddr 43 x y) {ab ao n ca j : Nat} (h : j < n) (e1 : ev x = .slice (some ⟨ab, ao, none⟩) n ca) (e2 : ev y = .int .i64 j) (w : World) : (execOp ev op).run Try.prog w = .ok (.value (.pointer (some ⟨ab, ao + j * 3, none⟩))) w := by
  have hs : (sizeOf 53).run Try.prog w = .ok 3 w := by kernel_rfl
  have hu := Try.underlying43
  simp only [execOp, ho, e1, e2]
  simp [go_sem, hu, hs, h]
theorem cell_grown {W W' : World} {z b : Nat} (hg : W.grownBy W' (some z)) (hb : b < W.heap.size) (hne : b ≠ z) (o : Nat) : W'.cell? ⟨b, o, none⟩ = W.cell? ⟨b, o, none⟩ := by
  unfold World.cell?
  rw [hg.block b hb (fun e => hne (Option.some.inj e))]

def k13_0 (s : String) : Oper := { dst := some 56, op := Op.move (Operand.tmp 10), type := 4, pos := s, after := #[], guard := none }
def k13_1 (s : String) : Oper := { dst := some 57, op := Op.move (Operand.tmp 56), type := 4, pos := s, after := #[{ on := 0, ground := Ground.data }], guard := none }
def k13_2 (s : String) : Oper := { dst := some 58, op := Op.call { callee := Callee.value (Operand.func 9), args := #[Operand.tmp 6], argTypes := #[27] }, type := 28, pos := s, after := #[{ on := 1, ground := Ground.chain }, { on := 1, ground := Ground.guard }], guard := some (1, true) }
def k13_3 (s : String) : Oper := { dst := some 59, op := Op.convert 28 9 (Operand.tmp 58), type := 9, pos := s, after := #[{ on := 2, ground := Ground.data }, { on := 1, ground := Ground.guard }], guard := some (1, true) }
def k13_4 (s : String) : Oper := { dst := some 60, op := Op.move (Operand.tmp 0), type := 28, pos := s, after := #[{ on := 1, ground := Ground.guard }], guard := some (1, true) }
def k13_5 (s : String) : Oper := { dst := some 61, op := Op.convert 28 9 (Operand.tmp 60), type := 9, pos := s, after := #[{ on := 4, ground := Ground.data }, { on := 1, ground := Ground.guard }], guard := some (1, true) }
def k13_6 (s : String) : Oper := { dst := some 62, op := Op.binOp BinOp.eql 9 (Operand.tmp 59) (Operand.tmp 61) 9, type := 4, pos := s, after := #[{ on := 3, ground := Ground.data }, { on := 5, ground := Ground.data }, { on := 1, ground := Ground.guard }], guard := some (1, true) }
def k13_7 (s : String) : Oper := { dst := some 63, op := Op.pick (Operand.tmp 57) (Operand.tmp 62) (Operand.const (Value.bool false)), type := 4, pos := s, after := #[{ on := 1, ground := Ground.data }, { on := 6, ground := Ground.data }], guard := none }
def k13_8 (s : String) : Oper := { dst := some 4, op := Op.assign (Operand.tmp 63), type := 4, pos := s, after := #[{ on := 7, ground := Ground.data }, { on := 2, ground := Ground.chain }, { on := 0, ground := Ground.phase }, { on := 1, ground := Ground.phase }, { on := 2, ground := Ground.phase }, { on := 3, ground := Ground.phase }, { on := 4, ground := Ground.phase }, { on := 5, ground := Ground.phase }, { on := 6, ground := Ground.phase }, { on := 7, ground := Ground.phase }], guard := none }
def k13_ops (s : String) : Array Oper := #[k13_0 s, k13_1 s, k13_2 s, k13_3 s, k13_4 s, k13_5 s, k13_6 s, k13_7 s, k13_8 s]
theorem k13_enter2 (s : String) (a : Act) (w : World) : (execOp a.eval (k13_2 s)).run Try.prog w = .ok (.enter 9 #[a.eval (.tmp 6)]) w := by kernel_rfl
theorem k13_walk (s : String) {Q : Exit → Act → World → Prop} (hQ : ∀ c (a : Act) t v w, Q (.panic c) (a.put (some t) v) w → Q (.panic c) a w) (W : World) (X : Nat → Prop) (z : Nat) (xs : List UInt8) (vb : Value) (hE : EncSt W X z xs) (hl : xs.length ≤ 281474976710656) (hb : RdA W vb xs)
    (a : Act) (hs : 63 < a.tmps.size) (e0 : a.eval (.tmp 0) = vb) (e6 : a.eval (.tmp 6) = .pointer (some ⟨z, 0, none⟩)) (e10 : a.eval (.tmp 10) = .bool true)
    (h : ∀ v w1, Below W.heap.size W w1 → Q .normal (((((((((a.put (some 56) (.bool true)).put (some 57) (.bool true)).put (some 60) (vb)).put (some 61) (.string ⟨xs.toArray⟩)).put (some 58) (v)).put (some 59) (.string ⟨xs.toArray⟩)).put (some 62) (.bool true)).put (some 63) (.bool true)).put (some 4) (.bool true)) w1) :
    Code.wp Try.prog (.region 13 (k13_ops s) true) Q a W := by
  refine wp_region_held_drew (S := fun W' => (convert 28 9 vb).run Try.prog W' = .ok (.string ⟨xs.toArray⟩) W') (by kernel_rfl) (conv_rdA _ _ _ hb) (fun hS => ?_)
  change wpAnyH _ _ _ _ _ _ _ _ (World.drew _)
  refine wpAnyH_take (i := 0) (oi := k13_0 s) (v := .bool true) (by kernel_rfl) (by kernel_rfl) (by kernel_rfl) (by kernel_rfl) (fun c a w h => hQ c _ _ _ w h) (Or.inl ⟨wanted_none rfl, fun w hw => by simp only [execOp, k13_0, e10]; rfl⟩) hS ?_
  change wpAnyH _ _ _ _ _ _ _ (a.put (some 56) (.bool true)) _
  obtain ⟨a1, ha1⟩ : ∃ rr : Act, rr = a.put (some 56) (.bool true) := ⟨_, rfl⟩
  have z1 : 63 < a1.tmps.size := by rw [ha1, sz_put]; exact hs
  have f1_0 : a1.eval (.tmp 0) = vb := by rw [ha1, ev_other _ _ _ _ (by decide)]; exact e0
  have f1_6 : a1.eval (.tmp 6) = .pointer (some ⟨z, 0, none⟩) := by rw [ha1, ev_other _ _ _ _ (by decide)]; exact e6
  have f1_56 : a1.eval (.tmp 56) = .bool true := by rw [ha1]; exact ev_same _ _ _ (Nat.lt_of_le_of_lt (by decide) hs)
  rw [← ha1] at h ⊢
  clear ha1
  refine wpAnyH_take (i := 1) (oi := k13_1 s) (v := .bool true) (by kernel_rfl) (by kernel_rfl) (by kernel_rfl) (by kernel_rfl) (fun c a w h => hQ c _ _ _ w h) (Or.inl ⟨wanted_none rfl, fun w hw => by simp only [execOp, k13_1, f1_56]; rfl⟩) hS ?_
  change wpAnyH _ _ _ _ _ _ _ (a1.put (some 57) (.bool true)) _
  obtain ⟨a2, ha2⟩ : ∃ rr : Act, rr = a1.put (some 57) (.bool true) := ⟨_, rfl⟩
  have z2 : 63 < a2.tmps.size := by rw [ha2, sz_put]; exact z1
  have f2_0 : a2.eval (.tmp 0) = vb := by rw [ha2, ev_other _ _ _ _ (by decide)]; exact f1_0
  have f2_6 : a2.eval (.tmp 6) = .pointer (some ⟨z, 0, none⟩) := by rw [ha2, ev_other _ _ _ _ (by decide)]; exact f1_6
  have f2_57 : a2.eval (.tmp 57) = .bool true := by rw [ha2]; exact ev_same _ _ _ (Nat.lt_of_le_of_lt (by decide) z1)
  rw [← ha2] at h ⊢
  clear ha2
  refine wpAnyH_take (i := 4) (oi := k13_4 s) (v := vb) (by kernel_rfl) (by kernel_rfl) (by kernel_rfl) (by kernel_rfl) (fun c a w h => hQ c _ _ _ w h) (Or.inl ⟨wanted_some rfl (by kernel_rfl) f2_57 (Nat.lt_of_le_of_lt (by decide) z2), fun w hw => by simp only [execOp, k13_4, f2_0]; rfl⟩) hS ?_
  change wpAnyH _ _ _ _ _ _ _ (a2.put (some 60) (vb)) _
  obtain ⟨a3, ha3⟩ : ∃ rr : Act, rr = a2.put (some 60) (vb) := ⟨_, rfl⟩
  have z3 : 63 < a3.tmps.size := by rw [ha3, sz_put]; exact z2
  have f3_6 : a3.eval (.tmp 6) = .pointer (some ⟨z, 0, none⟩) := by rw [ha3, ev_other _ _ _ _ (by decide)]; exact f2_6
  have f3_57 : a3.eval (.tmp 57) = .bool true := by rw [ha3, ev_other _ _ _ _ (by decide)]; exact f2_57
  have f3_60 : a3.eval (.tmp 60) = vb := by rw [ha3]; exact ev_same _ _ _ (Nat.lt_of_le_of_lt (by decide) z2)
  rw [← ha3] at h ⊢
  clear ha3
  refine wpAnyH_take (i := 5) (oi := k13_5 s) (v := .string ⟨xs.toArray⟩) (by kernel_rfl) (by kernel_rfl) (by kernel_rfl) (by kernel_rfl) (fun c a w h => hQ c _ _ _ w h) (Or.inl ⟨wanted_some rfl (by kernel_rfl) f3_57 (Nat.lt_of_le_of_lt (by decide) z3), fun w hw => run_conv rfl f3_60 hw⟩) hS ?_
  change wpAnyH _ _ _ _ _ _ _ (a3.put (some 61) (.string ⟨xs.toArray⟩)) _
  obtain ⟨a4, ha4⟩ : ∃ rr : Act, rr = a3.put (some 61) (.string ⟨xs.toArray⟩) := ⟨_, rfl⟩
  have z4 : 63 < a4.tmps.size := by rw [ha4, sz_put]; exact z3
  have f4_6 : a4.eval (.tmp 6) = .pointer (some ⟨z, 0, none⟩) := by rw [ha4, ev_other _ _ _ _ (by decide)]; exact f3_6
  have f4_57 : a4.eval (.tmp 57) = .bool true := by rw [ha4, ev_other _ _ _ _ (by decide)]; exact f3_57
  have f4_61 : a4.eval (.tmp 61) = .string ⟨xs.toArray⟩ := by rw [ha4]; exact ev_same _ _ _ (Nat.lt_of_le_of_lt (by decide) z3)
  rw [← ha4] at h ⊢
  clear ha4
  refine wpAnyH_ready (rs := [2]) (by kernel_rfl) (by simp) ?_
  refine AllReadyH.cons (o := k13_2 s) (by kernel_rfl) (fun KQ hKQ => ?_) AllReadyH.nil
  rw [if_pos (wanted_some rfl (by kernel_rfl) f4_57 (Nat.lt_of_le_of_lt (by decide) z4))]
  refine step_enterE 9 #[.pointer (some ⟨z, 0, none⟩)] (by rw [k13_enter2, f4_6]) (fun V w' => w'.ownsRow W.heap.size 5 1 V xs.length (xs.map u8c) ∧ Below W.heap.size W w') ((ebytes_enc W.drew X z xs hE.drew hl).mono (fun e w' h => by obtain ⟨V, h1, h2, h3⟩ := h; exact ⟨V, h1, h2, ⟨h3.os, h3.tape, h3.output, h3.size, h3.block⟩⟩)) ?_
  rintro v w1 ⟨hown, hb1⟩
  have hv := conv_rd w1 v xs (Rd_owned hown)
  have hvb := conv_rdA w1 vb xs (RdA.below hb hb1)
  refine hKQ.out _ _ (hvb) (fun _ => ?_)
  clear hKQ KQ
  change wpAnyH _ _ _ _ _ _ _ (a4.put (some 58) (v)) _
  refine wpAnyH_mono (S' := fun W' => (convert 28 9 v).run Try.prog W' = .ok (.string ⟨xs.toArray⟩) W' ∧ (convert 28 9 vb).run Try.prog W' = .ok (.string ⟨xs.toArray⟩) W') (fun w h => h.2) _ _ _ _ ?_
  have hS4 : (fun W' => (convert 28 9 v).run Try.prog W' = .ok (.string ⟨xs.toArray⟩) W' ∧ (convert 28 9 vb).run Try.prog W' = .ok (.string ⟨xs.toArray⟩) W') _ := ⟨hv, hvb⟩
  have h := h v w1 hb1
  obtain ⟨a5, ha5⟩ : ∃ rr : Act, rr = a4.put (some 58) (v) := ⟨_, rfl⟩
  have z5 : 63 < a5.tmps.size := by rw [ha5, sz_put]; exact z4
  have f5_57 : a5.eval (.tmp 57) = .bool true := by rw [ha5, ev_other _ _ _ _ (by decide)]; exact f4_57
  have f5_58 : a5.eval (.tmp 58) = v := by rw [ha5]; exact ev_same _ _ _ (Nat.lt_of_le_of_lt (by decide) z4)
  have f5_61 : a5.eval (.tmp 61) = .string ⟨xs.toArray⟩ := by rw [ha5, ev_other _ _ _ _ (by decide)]; exact f4_61
  rw [← ha5] at h ⊢
  clear ha5
  refine wpAnyH_take (i := 3) (oi := k13_3 s) (v := .string ⟨xs.toArray⟩) (by kernel_rfl) (by kernel_rfl) (by kernel_rfl) (by kernel_rfl) (fun c a w h => hQ c _ _ _ w h) (Or.inl ⟨wanted_some rfl (by kernel_rfl) f5_57 (Nat.lt_of_le_of_lt (by decide) z5), fun w hw => run_conv rfl f5_58 hw.1⟩) hS4 ?_
  change wpAnyH _ _ _ _ _ _ _ (a5.put (some 59) (.string ⟨xs.toArray⟩)) _
  obtain ⟨a6, ha6⟩ : ∃ rr : Act, rr = a5.put (some 59) (.string ⟨xs.toArray⟩) := ⟨_, rfl⟩
  have z6 : 63 < a6.tmps.size := by rw [ha6, sz_put]; exact z5
  have f6_57 : a6.eval (.tmp 57) = .bool true := by rw [ha6, ev_other _ _ _ _ (by decide)]; exact f5_57
  have f6_59 : a6.eval (.tmp 59) = .string ⟨xs.toArray⟩ := by rw [ha6]; exact ev_same _ _ _ (Nat.lt_of_le_of_lt (by decide) z5)
  have f6_61 : a6.eval (.tmp 61) = .string ⟨xs.toArray⟩ := by rw [ha6, ev_other _ _ _ _ (by decide)]; exact f5_61
  rw [← ha6] at h ⊢
  clear ha6
  refine wpAnyH_take (i := 6) (oi := k13_6 s) (v := .bool true) (by kernel_rfl) (by kernel_rfl) (by kernel_rfl) (by kernel_rfl) (fun c a w h => hQ c _ _ _ w h) (Or.inl ⟨wanted_some rfl (by kernel_rfl) f6_57 (Nat.lt_of_le_of_lt (by decide) z6), fun w hw => run_eqSame rfl f6_59 f6_61 w⟩) hS4 ?_
  change wpAnyH _ _ _ _ _ _ _ (a6.put (some 62) (.bool true)) _
  obtain ⟨a7, ha7⟩ : ∃ rr : Act, rr = a6.put (some 62) (.bool true) := ⟨_, rfl⟩
  have z7 : 63 < a7.tmps.size := by rw [ha7, sz_put]; exact z6
  have f7_57 : a7.eval (.tmp 57) = .bool true := by rw [ha7, ev_other _ _ _ _ (by decide)]; exact f6_57
  have f7_62 : a7.eval (.tmp 62) = .bool true := by rw [ha7]; exact ev_same _ _ _ (Nat.lt_of_le_of_lt (by decide) z6)
  rw [← ha7] at h ⊢
  clear ha7
  refine wpAnyH_take (i := 7) (oi := k13_7 s) (v := .bool true) (by kernel_rfl) (by kernel_rfl) (by kernel_rfl) (by kernel_rfl) (fun c a w h => hQ c _ _ _ w h) (Or.inl ⟨wanted_none rfl, fun w hw => by simp only [execOp, k13_7, f7_57, f7_62]; rfl⟩) hS4 ?_
  change wpAnyH _ _ _ _ _ _ _ (a7.put (some 63) (.bool true)) _
  obtain ⟨a8, ha8⟩ : ∃ rr : Act, rr = a7.put (some 63) (.bool true) := ⟨_, rfl⟩
  have z8 : 63 < a8.tmps.size := by rw [ha8, sz_put]; exact z7
  have f8_63 : a8.eval (.tmp 63) = .bool true := by rw [ha8]; exact ev_same _ _ _ (Nat.lt_of_le_of_lt (by decide) z7)
  rw [← ha8] at h ⊢
  clear ha8
  refine wpAnyH_take (i := 8) (oi := k13_8 s) (v := .bool true) (by kernel_rfl) (by kernel_rfl) (by kernel_rfl) (by kernel_rfl) (fun c a w h => hQ c _ _ _ w h) (Or.inl ⟨wanted_none rfl, fun w hw => by simp only [execOp, k13_8, f8_63]; rfl⟩) hS4 ?_
  change wpAnyH _ _ _ _ _ _ _ (a8.put (some 4) (.bool true)) _
  obtain ⟨a9, ha9⟩ : ∃ rr : Act, rr = a8.put (some 4) (.bool true) := ⟨_, rfl⟩
  have z9 : 63 < a9.tmps.size := by rw [ha9, sz_put]; exact z8
  rw [← ha9] at h ⊢
  clear ha9
  refine wpAnyH_done (by kernel_rfl) ?_ _
  exact h

def k7_0 (s : String) : Oper := { dst := some 25, op := Op.move (Operand.tmp 1), type := 43, pos := s, after := #[], guard := none }
def k7_1 (s : String) : Oper := { dst := some 26, op := Op.move (Operand.tmp 7), type := 3, pos := s, after := #[], guard := none }
def k7_2 (s : String) : Oper := { dst := some 27, op := Op.indexAddr 43 (Operand.tmp 25) (Operand.tmp 26), type := 0, pos := s, after := #[{ on := 0, ground := Ground.data }, { on := 1, ground := Ground.data }], guard := none }
def k7_3 (s : String) : Oper := { dst := some 28, op := Op.load 53 (Operand.tmp 27), type := 53, pos := s, after := #[{ on := 2, ground := Ground.data }], guard := none }
def k7_4 (s : String) : Oper := { dst := some 29, op := Op.load 50 (Operand.tmp 8), type := 50, pos := s, after := #[], guard := none }
def k7_5 (s : String) : Oper := { dst := some 30, op := Op.call { callee := Callee.value (Operand.func 25), args := #[Operand.tmp 28, Operand.tmp 29], argTypes := #[53, 50] }, type := 37, pos := s, after := #[{ on := 3, ground := Ground.data }, { on := 4, ground := Ground.data }], guard := none }
def k7_6 (s : String) : Oper := { dst := some 31, op := Op.call { callee := Callee.value (Operand.func 11), args := #[Operand.tmp 6, Operand.tmp 30], argTypes := #[40, 37] }, type := 0, pos := s, after := #[{ on := 5, ground := Ground.data }, { on := 5, ground := Ground.chain }], guard := none }
def k7_ops (s : String) : Array Oper := #[k7_0 s, k7_1 s, k7_2 s, k7_3 s, k7_4 s, k7_5 s, k7_6 s]
theorem k7_enter5 (s : String) (a : Act) (w : World) : (execOp a.eval (k7_5 s)).run Try.prog w = .ok (.enter 25 #[a.eval (.tmp 28), a.eval (.tmp 29)]) w := by kernel_rfl
theorem k7_enter6 (s : String) (a : Act) (w : World) : (execOp a.eval (k7_6 s)).run Try.prog w = .ok (.enter 11 #[a.eval (.tmp 6), a.eval (.tmp 30)]) w := by kernel_rfl
theorem k7_walk (s : String) {Q : Exit → Act → World → Prop} (hQ : ∀ c (a : Act) t v w, Q (.panic c) (a.put (some t) v) w → Q (.panic c) a w) (W : World) (X : Nat → Prop) (z : Nat) (xs : List UInt8) (tb to n tc k g : Nat) (kind : Int) (most : Nat) (m : Int) (N : Nat) (gB : List UInt8) (hk : k < n) (hN : N ≤ 18446744073709551615) (hE : EncSt W X z xs) (hl : xs.length + gB.length + gB.length ≤ 1125899906842624) (htb : tb < W.heap.size) (hg : g < W.heap.size) (hgz : g ≠ z) (htz : tb ≠ z) (c0 : W.cell? ⟨tb, to + k * 3, none⟩ = some (.int .i64 kind)) (c1 : W.cell? ⟨tb, to + k * 3 + 1, none⟩ = some (.int .u64 most)) (c2 : W.cell? ⟨tb, to + k * 3 + 2, none⟩ = some (.int .i64 m)) (d0 : W.cell? ⟨g, 0, none⟩ = some (.int .u64 N)) (d1 : W.cell? ⟨g, 1, none⟩ = some (.string ⟨gB.toArray⟩))
    (a : Act) (hs : 31 < a.tmps.size) (e1 : a.eval (.tmp 1) = .slice (some ⟨tb, to, none⟩) n tc) (e6 : a.eval (.tmp 6) = .pointer (some ⟨z, 0, none⟩)) (e7 : a.eval (.tmp 7) = .int .i64 k) (e8 : a.eval (.tmp 8) = .pointer (some ⟨g, 0, none⟩))
    (h : ∀ (cs : Array Value) (K : List UInt8) (w2 : World), (kind = 4 → gB.length = 32 → K = gB) → K.length = 32 → EncSt w2 X z (xs ++ addB ⟨kind, N, gB, gB, K⟩) → W.grownBy w2 (some z) → Q .normal (((((((a.put (some 25) (.slice (some ⟨tb, to, none⟩) n tc)).put (some 26) (.int .i64 k)).put (some 27) (.pointer (some ⟨tb, to + k * 3, none⟩))).put (some 28) (.agg #[.int .i64 kind, .int .u64 most, .int .i64 m])).put (some 29) (.agg #[.int .u64 N, .string ⟨gB.toArray⟩])).put (some 30) (.agg cs)).put (some 31) (.tuple #[])) w2) :
    Code.wp Try.prog (.region 7 (k7_ops s) true) Q a W := by
  refine wp_region_held_drew (S := fun W' => (W'.cell? ⟨tb, to + k * 3, none⟩ = some (.int .i64 kind) ∧ W'.cell? ⟨tb, to + k * 3 + 1, none⟩ = some (.int .u64 most) ∧ W'.cell? ⟨tb, to + k * 3 + 2, none⟩ = some (.int .i64 m)) ∧ W'.cell? ⟨g, 0, none⟩ = some (.int .u64 N) ∧ W'.cell? ⟨g, 1, none⟩ = some (.string ⟨gB.toArray⟩)) (by kernel_rfl) ⟨⟨c0, c1, c2⟩, d0, d1⟩ (fun hS => ?_)
  change wpAnyH _ _ _ _ _ _ _ _ (World.drew _)
  refine wpAnyH_take (i := 0) (oi := k7_0 s) (v := .slice (some ⟨tb, to, none⟩) n tc) (by kernel_rfl) (by kernel_rfl) (by kernel_rfl) (by kernel_rfl) (fun c a w h => hQ c _ _ _ w h) (Or.inl ⟨wanted_none rfl, fun w hw => by simp only [execOp, k7_0, e1]; rfl⟩) hS ?_
  change wpAnyH _ _ _ _ _ _ _ (a.put (some 25) (.slice (some ⟨tb, to, none⟩) n tc)) _
  obtain ⟨a1, ha1⟩ : ∃ rr : Act, rr = a.put (some 25) (.slice (some ⟨tb, to, none⟩) n tc) := ⟨_, rfl⟩
  have z1 : 31 < a1.tmps.size := by rw [ha1, sz_put]; exact hs
  have f1_6 : a1.eval (.tmp 6) = .pointer (some ⟨z, 0, none⟩) := by rw [ha1, ev_other _ _ _ _ (by decide)]; exact e6
  have f1_7 : a1.eval (.tmp 7) = .int .i64 k := by rw [ha1, ev_other _ _ _ _ (by decide)]; exact e7
  have f1_8 : a1.eval (.tmp 8) = .pointer (some ⟨g, 0, none⟩) := by rw [ha1, ev_other _ _ _ _ (by decide)]; exact e8
  have f1_25 : a1.eval (.tmp 25) = .slice (some ⟨tb, to, none⟩) n tc := by rw [ha1]; exact ev_same _ _ _ (Nat.lt_of_le_of_lt (by decide) hs)
  rw [← ha1] at h ⊢
  clear ha1
  refine wpAnyH_take (i := 1) (oi := k7_1 s) (v := .int .i64 k) (by kernel_rfl) (by kernel_rfl) (by kernel_rfl) (by kernel_rfl) (fun c a w h => hQ c _ _ _ w h) (Or.inl ⟨wanted_none rfl, fun w hw => by simp only [execOp, k7_1, f1_7]; rfl⟩) hS ?_
  change wpAnyH _ _ _ _ _ _ _ (a1.put (some 26) (.int .i64 k)) _
  obtain ⟨a2, ha2⟩ : ∃ rr : Act, rr = a1.put (some 26) (.int .i64 k) := ⟨_, rfl⟩
  have z2 : 31 < a2.tmps.size := by rw [ha2, sz_put]; exact z1
  have f2_6 : a2.eval (.tmp 6) = .pointer (some ⟨z, 0, none⟩) := by rw [ha2, ev_other _ _ _ _ (by decide)]; exact f1_6
  have f2_8 : a2.eval (.tmp 8) = .pointer (some ⟨g, 0, none⟩) := by rw [ha2, ev_other _ _ _ _ (by decide)]; exact f1_8
  have f2_25 : a2.eval (.tmp 25) = .slice (some ⟨tb, to, none⟩) n tc := by rw [ha2, ev_other _ _ _ _ (by decide)]; exact f1_25
  have f2_26 : a2.eval (.tmp 26) = .int .i64 k := by rw [ha2]; exact ev_same _ _ _ (Nat.lt_of_le_of_lt (by decide) z1)
  rw [← ha2] at h ⊢
  clear ha2
  refine wpAnyH_take (i := 2) (oi := k7_2 s) (v := .pointer (some ⟨tb, to + k * 3, none⟩)) (by kernel_rfl) (by kernel_rfl) (by kernel_rfl) (by kernel_rfl) (fun c a w h => hQ c _ _ _ w h) (Or.inl ⟨wanted_none rfl, fun w hw => index_take rfl hk f2_25 f2_26 w⟩) hS ?_
  change wpAnyH _ _ _ _ _ _ _ (a2.put (some 27) (.pointer (some ⟨tb, to + k * 3, none⟩))) _
  obtain ⟨a3, ha3⟩ : ∃ rr : Act, rr = a2.put (some 27) (.pointer (some ⟨tb, to + k * 3, none⟩)) := ⟨_, rfl⟩
  have z3 : 31 < a3.tmps.size := by rw [ha3, sz_put]; exact z2
  have f3_6 : a3.eval (.tmp 6) = .pointer (some ⟨z, 0, none⟩) := by rw [ha3, ev_other _ _ _ _ (by decide)]; exact f2_6
  have f3_8 : a3.eval (.tmp 8) = .pointer (some ⟨g, 0, none⟩) := by rw [ha3, ev_other _ _ _ _ (by decide)]; exact f2_8
  have f3_27 : a3.eval (.tmp 27) = .pointer (some ⟨tb, to + k * 3, none⟩) := by rw [ha3]; exact ev_same _ _ _ (Nat.lt_of_le_of_lt (by decide) z2)
  rw [← ha3] at h ⊢
  clear ha3
  refine wpAnyH_take (i := 3) (oi := k7_3 s) (v := .agg #[.int .i64 kind, .int .u64 most, .int .i64 m]) (by kernel_rfl) (by kernel_rfl) (by kernel_rfl) (by kernel_rfl) (fun c a w h => hQ c _ _ _ w h) (Or.inl ⟨wanted_none rfl, fun w hw => run_load rfl f3_27 (loadTake3 hw.1.1 hw.1.2.1 hw.1.2.2)⟩) hS ?_
  change wpAnyH _ _ _ _ _ _ _ (a3.put (some 28) (.agg #[.int .i64 kind, .int .u64 most, .int .i64 m])) _
  obtain ⟨a4, ha4⟩ : ∃ rr : Act, rr = a3.put (some 28) (.agg #[.int .i64 kind, .int .u64 most, .int .i64 m]) := ⟨_, rfl⟩
  have z4 : 31 < a4.tmps.size := by rw [ha4, sz_put]; exact z3
  have f4_6 : a4.eval (.tmp 6) = .pointer (some ⟨z, 0, none⟩) := by rw [ha4, ev_other _ _ _ _ (by decide)]; exact f3_6
  have f4_8 : a4.eval (.tmp 8) = .pointer (some ⟨g, 0, none⟩) := by rw [ha4, ev_other _ _ _ _ (by decide)]; exact f3_8
  have f4_28 : a4.eval (.tmp 28) = .agg #[.int .i64 kind, .int .u64 most, .int .i64 m] := by rw [ha4]; exact ev_same _ _ _ (Nat.lt_of_le_of_lt (by decide) z3)
  rw [← ha4] at h ⊢
  clear ha4
  refine wpAnyH_take (i := 4) (oi := k7_4 s) (v := .agg #[.int .u64 N, .string ⟨gB.toArray⟩]) (by kernel_rfl) (by kernel_rfl) (by kernel_rfl) (by kernel_rfl) (fun c a w h => hQ c _ _ _ w h) (Or.inl ⟨wanted_none rfl, fun w hw => run_load rfl f4_8 (loadGot2 hw.2.1 hw.2.2)⟩) hS ?_
  change wpAnyH _ _ _ _ _ _ _ (a4.put (some 29) (.agg #[.int .u64 N, .string ⟨gB.toArray⟩])) _
  obtain ⟨a5, ha5⟩ : ∃ rr : Act, rr = a4.put (some 29) (.agg #[.int .u64 N, .string ⟨gB.toArray⟩]) := ⟨_, rfl⟩
  have z5 : 31 < a5.tmps.size := by rw [ha5, sz_put]; exact z4
  have f5_6 : a5.eval (.tmp 6) = .pointer (some ⟨z, 0, none⟩) := by rw [ha5, ev_other _ _ _ _ (by decide)]; exact f4_6
  have f5_28 : a5.eval (.tmp 28) = .agg #[.int .i64 kind, .int .u64 most, .int .i64 m] := by rw [ha5, ev_other _ _ _ _ (by decide)]; exact f4_28
  have f5_29 : a5.eval (.tmp 29) = .agg #[.int .u64 N, .string ⟨gB.toArray⟩] := by rw [ha5]; exact ev_same _ _ _ (Nat.lt_of_le_of_lt (by decide) z4)
  rw [← ha5] at h ⊢
  clear ha5
  refine wpAnyH_ready (rs := [5]) (by kernel_rfl) (by simp) ?_
  refine AllReadyH.cons (o := k7_5 s) (by kernel_rfl) (fun KQ hKQ => ?_) AllReadyH.nil
  rw [if_pos (wanted_none rfl)]
  refine step_enterE 25 #[.agg #[.int .i64 kind, .int .u64 most, .int .i64 m], .agg #[.int .u64 N, .string ⟨gB.toArray⟩]] (by rw [k7_enter5, f5_28, f5_29]) (fun V w' => ∃ cs bv K, V = .agg cs ∧ AddIs w' cs bv ⟨kind, N, gB, gB, K⟩ ∧ (kind = 4 → gB.length = 32 → K = gB) ∧ Below W.heap.size W w' ∧ ∀ b o l c, bv = .slice (some ⟨b, o, none⟩) l c → W.heap.size ≤ b) ((again_any W.drew kind most m N hN gB (by omega)).mono (fun e w' h => by obtain ⟨cs, bv, K, h1, h2, h3, h4, h5⟩ := h; exact ⟨_, h1, cs, bv, K, rfl, h2, h3, ⟨h4.os, h4.tape, h4.output, h4.size, h4.block⟩, h5⟩)) ?_
  rintro _ w1 ⟨cs, bv, K, rfl, hai, hkk, hb1, hbv⟩
  have hE1 := hE.below hb1
  refine hKQ.out _ _ (⟨⟨(hb1.cell (p := ⟨tb, _, none⟩) htb).trans c0, (hb1.cell (p := ⟨tb, _, none⟩) htb).trans c1, (hb1.cell (p := ⟨tb, _, none⟩) htb).trans c2⟩, (hb1.cell (p := ⟨g, _, none⟩) hg).trans d0, (hb1.cell (p := ⟨g, _, none⟩) hg).trans d1⟩) (fun _ => ?_)
  clear hKQ KQ
  change wpAnyH _ _ _ _ _ _ _ (a5.put (some 30) (.agg cs)) _
  have h := h cs K
  obtain ⟨a6, ha6⟩ : ∃ rr : Act, rr = a5.put (some 30) (.agg cs) := ⟨_, rfl⟩
  have z6 : 31 < a6.tmps.size := by rw [ha6, sz_put]; exact z5
  have f6_6 : a6.eval (.tmp 6) = .pointer (some ⟨z, 0, none⟩) := by rw [ha6, ev_other _ _ _ _ (by decide)]; exact f5_6
  have f6_30 : a6.eval (.tmp 30) = .agg cs := by rw [ha6]; exact ev_same _ _ _ (Nat.lt_of_le_of_lt (by decide) z5)
  rw [← ha6] at h ⊢
  clear ha6
  refine wpAnyH_ready (rs := [6]) (by kernel_rfl) (by simp) ?_
  refine AllReadyH.cons (o := k7_6 s) (by kernel_rfl) (fun KQ hKQ => ?_) AllReadyH.nil
  rw [if_pos (wanted_none rfl)]
  refine step_enterE 11 #[.pointer (some ⟨z, 0, none⟩), .agg cs] (by rw [k7_enter6, f6_6, f6_30]) (fun V w' => V = .tuple #[] ∧ EncSt w' X z (xs ++ addB ⟨kind, N, gB, gB, K⟩) ∧ w1.grownBy w' (some z)) ((put_enc w1 X z xs cs bv ⟨kind, N, gB, gB, K⟩ hai hE1 (fun b o l c e _ => by have := hbv b o l c e; have := hE.zlt; omega) (by simp only []; omega)).mono (fun e w' h => ⟨_, h.1, rfl, h.2.1, h.2.2⟩)) ?_
  rintro _ w2 ⟨rfl, hE2, hg2⟩
  have hgg : W.grownBy w2 (some z) := grownBy_trans (grownBy_below hb1) hg2
  refine hKQ.out _ _ (⟨⟨(cell_grown hgg htb htz _).trans c0, (cell_grown hgg htb htz _).trans c1, (cell_grown hgg htb htz _).trans c2⟩, (cell_grown hgg hg hgz _).trans d0, (cell_grown hgg hg hgz _).trans d1⟩) (fun _ => ?_)
  clear hKQ KQ
  change wpAnyH _ _ _ _ _ _ _ (a6.put (some 31) (.tuple #[])) _
  have h := h w2 hkk hai.kl hE2 hgg
  obtain ⟨a7, ha7⟩ : ∃ rr : Act, rr = a6.put (some 31) (.tuple #[]) := ⟨_, rfl⟩
  have z7 : 31 < a7.tmps.size := by rw [ha7, sz_put]; exact z6
  rw [← ha7] at h ⊢
  clear ha7
  refine wpAnyH_done (by kernel_rfl) ?_ _
  exact h
end Go.Proofs.Ytinjcefekbpabaa
