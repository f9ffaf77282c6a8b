/- A work list: the drawn regions of Push, look, Bump. -/
import Derived.Test.YtjdlffmiokobnaaGreatDoorGR7g
import Derived.Test.YtjdlffmiokobnaaGreatDoorGR9g
namespace Go.Proofs.YtjdlffmiokobnaaGreatDoor
set_option linter.unusedVariables false
set_option linter.unusedSimpArgs false
namespace RG
open Go.RowKit
set_option maxRecDepth 100000

abbrev LT : TypeId := 119
/-- A key as a value. -/
def kA (k : List UInt8) : Array Value := (k.map u8c).toArray
/-- What Push lays: none of the kids was touched. -/
def greyOf (k : List UInt8) (h : k.length = 32) : EL := ⟨k, 0, h⟩
theorem list32 {α : Type} {l : List α} (h : l.length = 32) : ∃ a0 a1 a2 a3 a4 a5 a6 a7 a8 a9 a10 a11 a12 a13 a14 a15 a16 a17 a18 a19 a20 a21 a22 a23 a24 a25 a26 a27 a28 a29 a30 a31, l = [a0, a1, a2, a3, a4, a5, a6, a7, a8, a9, a10, a11, a12, a13, a14, a15, a16, a17, a18, a19, a20, a21, a22, a23, a24, a25, a26, a27, a28, a29, a30, a31] := by
  match l, h with
  | [a0, a1, a2, a3, a4, a5, a6, a7, a8, a9, a10, a11, a12, a13, a14, a15, a16, a17, a18, a19, a20, a21, a22, a23, a24, a25, a26, a27, a28, a29, a30, a31], _ => exact ⟨a0, a1, a2, a3, a4, a5, a6, a7, a8, a9, a10, a11, a12, a13, a14, a15, a16, a17, a18, a19, a20, a21, a22, a23, a24, a25, a26, a27, a28, a29, a30, a31, rfl⟩
theorem run_buildG {op : Oper} {ev : Operand → Value} {x : Operand} (ho : op.op = .build elT #[(0, x)]) (k : List UInt8) (h : k.length = 32) (hx : ev x = .agg (kA k)) (w : World) : (execOp ev op).run Tryz.prog w = .ok (.value (elV (greyOf k h))) w := by
  simp only [execOp, ho, List.map_toArray, List.map_cons, List.map_nil, hx]
  obtain ⟨a0, a1, a2, a3, a4, a5, a6, a7, a8, a9, a10, a11, a12, a13, a14, a15, a16, a17, a18, a19, a20, a21, a22, a23, a24, a25, a26, a27, a28, a29, a30, a31, rfl⟩ := list32 h
  kernel_rfl
/-- A box that holds a key. -/
def BoxK (w : World) (z : Nat) (k : List UInt8) : Prop := Blk w z (kA k) 46
theorem run_ldK {op : Oper} {ev : Operand → Value} {x : Operand} {z : Nat} {k : List UInt8} {w : World} (hk : k.length = 32) (ho : op.op = .load 46 x) (hx : ev x = .pointer (some ⟨z, 0, none⟩)) (h : BoxK w z k) : (execOp ev op).run Tryz.prog w = .ok (.value (.agg (kA k))) w :=
  run_load ho hx (loadAt_blk h 46 _ Tryz.underlying46 rfl 32 (by kernel_rfl) (by simp [kA, hk]))
def lp2_0 (s : String) : Oper := { dst := some 7, op := Op.move (Operand.tmp 0), type := 33, pos := s, after := #[], guard := none }
def lp2_1 (s : String) : Oper := { dst := some 8, op := Op.nilCheck (Operand.tmp 7), type := 0, pos := s, after := #[{ on := 0, ground := Ground.data }], guard := none }
def lp2_2 (s : String) : Oper := { dst := some 9, op := Op.fieldAddr 119 (Operand.tmp 8) 0, type := 0, pos := s, after := #[{ on := 1, ground := Ground.data }], guard := none }
def lp2_3 (s : String) : Oper := { dst := some 10, op := Op.load 46 (Operand.tmp 3), type := 46, pos := s, after := #[], guard := none }
def lp2_4 (s : String) : Oper := { dst := some 11, op := Op.build 111 #[(0, Operand.tmp 10)], type := 111, pos := s, after := #[{ on := 3, ground := Ground.data }], guard := none }
def lp2_5 (s : String) : Oper := { dst := some 12, op := Op.call { callee := Callee.value (Operand.func 116), args := #[Operand.tmp 9, Operand.const (Value.bool false), Operand.tmp 11], argTypes := #[117, 4, 111] }, type := 0, pos := s, after := #[{ on := 2, ground := Ground.data }, { on := 4, ground := Ground.data }], guard := none }
def lp2_ops (s : String) : Array Oper := #[lp2_0 s, lp2_1 s, lp2_2 s, lp2_3 s, lp2_4 s, lp2_5 s]
theorem lp2_enter5 (s : String) (a : Act) (w : World) : (execOp a.eval (lp2_5 s)).run Tryz.prog w = .ok (.enter 116 #[a.eval (.tmp 9), Value.bool false, a.eval (.tmp 11)]) w := by kernel_rfl
theorem lp2_walk (s : String) {Q : Exit → Act → World → Prop} (hQ : ∀ c (a : Act) t v w, Q (.panic c) (a.put (some t) v) w → Q (.panic c) a w) (W : World) (z k : Nat) (ks : List UInt8) (hks : ks.length = 32) (M1 : World → Prop) (hS0 : BoxK W.drew k ks) (hc1 : Calls Tryz.prog 116 #[.pointer (some ⟨z, 0, none⟩), .bool false, .agg (elA (greyOf ks hks))] W.drew fun e w' => e = .returned (.tuple #[]) ∧ M1 w') (hk1 : ∀ w1, M1 w1 → BoxK w1 k ks)
    (a : Act) (hs : 12 < a.tmps.size) (e0 : a.eval (.tmp 0) = .pointer (some ⟨z, 0, none⟩)) (e3 : a.eval (.tmp 3) = .pointer (some ⟨k, 0, none⟩))
    (h0 : ∀ w1, M1 w1 → Q .normal ((((((a.put (some 7) (.pointer (some ⟨z, 0, none⟩))).put (some 8) (.pointer (some ⟨z, 0, none⟩))).put (some 9) (.pointer (some ⟨z, 0, none⟩))).put (some 10) (.agg (kA ks))).put (some 11) (.agg (elA (greyOf ks hks)))).put (some 12) (.tuple #[])) w1) :
    Code.wp Tryz.prog (.region 2 (lp2_ops s) true) Q a W := by
  refine wp_region_held_drew (S := fun w => BoxK w k ks) (by kernel_rfl) hS0 (fun hS => ?_)
  change wpAnyH _ _ _ _ _ _ _ _ (World.drew _)
  refine wpAnyH_take (i := 0) (oi := lp2_0 s) (v := .pointer (some ⟨z, 0, none⟩)) (by kernel_rfl) (by kernel_rfl) (by kernel_rfl) (by kernel_rfl) (fun c a w h => hQ c _ _ _ w h) (Or.inl ⟨wanted_none rfl, fun w hw => by simp only [execOp, lp2_0, e0]; rfl⟩) hS ?_
  change wpAnyH _ _ _ _ _ _ _ (a.put (some 7) (.pointer (some ⟨z, 0, none⟩))) _
  obtain ⟨a0_1, ha1⟩ : ∃ rr : Act, rr = a.put (some 7) (.pointer (some ⟨z, 0, none⟩)) := ⟨_, rfl⟩
  have qz1 : 12 < a0_1.tmps.size := by rw [ha1, sz_put]; exact hs
  have f1_3 : a0_1.eval (.tmp 3) = .pointer (some ⟨k, 0, none⟩) := by rw [ha1, ev_other _ _ _ _ (by decide)]; exact e3
  have f1_7 : a0_1.eval (.tmp 7) = .pointer (some ⟨z, 0, none⟩) := by rw [ha1]; exact ev_same _ _ _ (Nat.lt_of_le_of_lt (by decide) hs)
  rw [← ha1] at h0 ⊢
  clear ha1
  refine wpAnyH_take (i := 1) (oi := lp2_1 s) (v := .pointer (some ⟨z, 0, none⟩)) (by kernel_rfl) (by kernel_rfl) (by kernel_rfl) (by kernel_rfl) (fun c a w h => hQ c _ _ _ w h) (Or.inl ⟨wanted_none rfl, fun w hw => by simp only [execOp, lp2_1, f1_7]; rfl⟩) hS ?_
  change wpAnyH _ _ _ _ _ _ _ (a0_1.put (some 8) (.pointer (some ⟨z, 0, none⟩))) _
  obtain ⟨a0_2, ha2⟩ : ∃ rr : Act, rr = a0_1.put (some 8) (.pointer (some ⟨z, 0, none⟩)) := ⟨_, rfl⟩
  have qz2 : 12 < a0_2.tmps.size := by rw [ha2, sz_put]; exact qz1
  have f2_3 : a0_2.eval (.tmp 3) = .pointer (some ⟨k, 0, none⟩) := by rw [ha2, ev_other _ _ _ _ (by decide)]; exact f1_3
  have f2_8 : a0_2.eval (.tmp 8) = .pointer (some ⟨z, 0, none⟩) := by rw [ha2]; exact ev_same _ _ _ (Nat.lt_of_le_of_lt (by decide) qz1)
  rw [← ha2] at h0 ⊢
  clear ha2
  refine wpAnyH_take (i := 2) (oi := lp2_2 s) (v := .pointer (some ⟨z, 0, none⟩)) (by kernel_rfl) (by kernel_rfl) (by kernel_rfl) (by kernel_rfl) (fun c a w h => hQ c _ _ _ w h) (Or.inl ⟨wanted_none rfl, fun w hw => by simp only [execOp, lp2_2, f2_8]; rfl⟩) hS ?_
  change wpAnyH _ _ _ _ _ _ _ (a0_2.put (some 9) (.pointer (some ⟨z, 0, none⟩))) _
  obtain ⟨a0_3, ha3⟩ : ∃ rr : Act, rr = a0_2.put (some 9) (.pointer (some ⟨z, 0, none⟩)) := ⟨_, rfl⟩
  have qz3 : 12 < a0_3.tmps.size := by rw [ha3, sz_put]; exact qz2
  have f3_3 : a0_3.eval (.tmp 3) = .pointer (some ⟨k, 0, none⟩) := by rw [ha3, ev_other _ _ _ _ (by decide)]; exact f2_3
  have f3_9 : a0_3.eval (.tmp 9) = .pointer (some ⟨z, 0, none⟩) := by rw [ha3]; exact ev_same _ _ _ (Nat.lt_of_le_of_lt (by decide) qz2)
  rw [← ha3] at h0 ⊢
  clear ha3
  refine wpAnyH_take (i := 3) (oi := lp2_3 s) (v := .agg (kA ks)) (by kernel_rfl) (by kernel_rfl) (by kernel_rfl) (by kernel_rfl) (fun c a w h => hQ c _ _ _ w h) (Or.inl ⟨wanted_none rfl, fun w hw => run_ldK hks rfl f3_3 hw⟩) hS ?_
  change wpAnyH _ _ _ _ _ _ _ (a0_3.put (some 10) (.agg (kA ks))) _
  obtain ⟨a0_4, ha4⟩ : ∃ rr : Act, rr = a0_3.put (some 10) (.agg (kA ks)) := ⟨_, rfl⟩
  have qz4 : 12 < a0_4.tmps.size := by rw [ha4, sz_put]; exact qz3
  have f4_9 : a0_4.eval (.tmp 9) = .pointer (some ⟨z, 0, none⟩) := by rw [ha4, ev_other _ _ _ _ (by decide)]; exact f3_9
  have f4_10 : a0_4.eval (.tmp 10) = .agg (kA ks) := by rw [ha4]; exact ev_same _ _ _ (Nat.lt_of_le_of_lt (by decide) qz3)
  rw [← ha4] at h0 ⊢
  clear ha4
  refine wpAnyH_take (i := 4) (oi := lp2_4 s) (v := .agg (elA (greyOf ks hks))) (by kernel_rfl) (by kernel_rfl) (by kernel_rfl) (by kernel_rfl) (fun c a w h => hQ c _ _ _ w h) (Or.inl ⟨wanted_none rfl, fun w hw => run_buildG rfl ks hks f4_10 w⟩) hS ?_
  change wpAnyH _ _ _ _ _ _ _ (a0_4.put (some 11) (.agg (elA (greyOf ks hks)))) _
  obtain ⟨a0_5, ha5⟩ : ∃ rr : Act, rr = a0_4.put (some 11) (.agg (elA (greyOf ks hks))) := ⟨_, rfl⟩
  have qz5 : 12 < a0_5.tmps.size := by rw [ha5, sz_put]; exact qz4
  have f5_9 : a0_5.eval (.tmp 9) = .pointer (some ⟨z, 0, none⟩) := by rw [ha5, ev_other _ _ _ _ (by decide)]; exact f4_9
  have f5_11 : a0_5.eval (.tmp 11) = .agg (elA (greyOf ks hks)) := by rw [ha5]; exact ev_same _ _ _ (Nat.lt_of_le_of_lt (by decide) qz4)
  rw [← ha5] at h0 ⊢
  clear ha5
  refine wpAnyH_ready (rs := [5]) (by kernel_rfl) (by simp) ?_
  refine AllReadyH.cons (o := lp2_5 s) (by kernel_rfl) (fun KQ hKQ => ?_) AllReadyH.nil
  rw [if_pos (wanted_none rfl)]
  refine step_enterE 116 #[.pointer (some ⟨z, 0, none⟩), .bool false, .agg (elA (greyOf ks hks))] (by rw [lp2_enter5, f5_9, f5_11]) (fun V w' => V = .tuple #[] ∧ M1 w') (hc1.mono (fun e w' ⟨h1, h2⟩ => ⟨_, h1, rfl, h2⟩)) ?_
  rintro _ w1 ⟨rfl, hM1⟩
  refine hKQ.out _ _ (hk1 w1 hM1) (fun _ => ?_)
  clear hKQ KQ
  change wpAnyH _ _ _ _ _ _ _ (a0_5.put (some 12) (.tuple #[])) _
  have h0 := h0 w1 hM1
  obtain ⟨a0_6, ha6⟩ : ∃ rr : Act, rr = a0_5.put (some 12) (.tuple #[]) := ⟨_, rfl⟩
  have qz6 : 12 < a0_6.tmps.size := by rw [ha6, sz_put]; exact qz5
  rw [← ha6] at h0 ⊢
  clear ha6
  refine wpAnyH_done (by kernel_rfl) ?_ _
  exact h0
def lk3_0 (s : String) : Oper := { dst := some 9, op := Op.move (Operand.tmp 0), type := 33, pos := s, after := #[], guard := none }
def lk3_1 (s : String) : Oper := { dst := some 10, op := Op.nilCheck (Operand.tmp 9), type := 0, pos := s, after := #[{ on := 0, ground := Ground.data }], guard := none }
def lk3_2 (s : String) : Oper := { dst := some 11, op := Op.fieldAddr 119 (Operand.tmp 10) 0, type := 0, pos := s, after := #[{ on := 1, ground := Ground.data }], guard := none }
def lk3_3 (s : String) : Oper := { dst := some 12, op := Op.move (Operand.tmp 0), type := 33, pos := s, after := #[], guard := none }
def lk3_4 (s : String) : Oper := { dst := some 13, op := Op.nilCheck (Operand.tmp 12), type := 0, pos := s, after := #[{ on := 3, ground := Ground.data }], guard := none }
def lk3_5 (s : String) : Oper := { dst := some 14, op := Op.fieldAddr 119 (Operand.tmp 13) 0, type := 0, pos := s, after := #[{ on := 4, ground := Ground.data }], guard := none }
def lk3_6 (s : String) : Oper := { dst := some 15, op := Op.move (Operand.tmp 1), type := 4, pos := s, after := #[], guard := none }
def lk3_7 (s : String) : Oper := { dst := some 16, op := Op.call { callee := Callee.value (Operand.func 145), args := #[Operand.tmp 14, Operand.tmp 15], argTypes := #[117, 4] }, type := 3, pos := s, after := #[{ on := 5, ground := Ground.data }, { on := 6, ground := Ground.data }], guard := none }
def lk3_8 (s : String) : Oper := { dst := some 17, op := Op.call { callee := Callee.value (Operand.func 146), args := #[Operand.tmp 11, Operand.tmp 16], argTypes := #[117, 3] }, type := 112, pos := s, after := #[{ on := 2, ground := Ground.data }, { on := 7, ground := Ground.data }, { on := 7, ground := Ground.chain }], guard := none }
def lk3_9 (s : String) : Oper := { dst := some 18, op := Op.extract (Operand.tmp 17) 0, type := 111, pos := s, after := #[{ on := 8, ground := Ground.data }], guard := none }
def lk3_10 (s : String) : Oper := { dst := some 19, op := Op.extract (Operand.tmp 17) 1, type := 4, pos := s, after := #[{ on := 8, ground := Ground.data }], guard := none }
def lk3_11 (s : String) : Oper := { dst := none, op := Op.store 111 (Operand.tmp 4) (Operand.tmp 18), type := 0, pos := s, after := #[{ on := 9, ground := Ground.data }, { on := 8, ground := Ground.chain }, { on := 0, ground := Ground.phase }, { on := 1, ground := Ground.phase }, { on := 2, ground := Ground.phase }, { on := 3, ground := Ground.phase }, { on := 4, ground := Ground.phase }, { on := 5, ground := Ground.phase }, { on := 6, ground := Ground.phase }, { on := 7, ground := Ground.phase }, { on := 8, ground := Ground.phase }, { on := 9, ground := Ground.phase }, { on := 10, ground := Ground.phase }], guard := none }
def lk3_12 (s : String) : Oper := { dst := some 5, op := Op.assign (Operand.tmp 19), type := 4, pos := s, after := #[{ on := 10, ground := Ground.data }, { on := 11, ground := Ground.chain }, { on := 0, ground := Ground.phase }, { on := 1, ground := Ground.phase }, { on := 2, ground := Ground.phase }, { on := 3, ground := Ground.phase }, { on := 4, ground := Ground.phase }, { on := 5, ground := Ground.phase }, { on := 6, ground := Ground.phase }, { on := 7, ground := Ground.phase }, { on := 8, ground := Ground.phase }, { on := 9, ground := Ground.phase }, { on := 10, ground := Ground.phase }, { on := 11, ground := Ground.phase }], guard := none }
def lk3_ops (s : String) : Array Oper := #[lk3_0 s, lk3_1 s, lk3_2 s, lk3_3 s, lk3_4 s, lk3_5 s, lk3_6 s, lk3_7 s, lk3_8 s, lk3_9 s, lk3_10 s, lk3_11 s, lk3_12 s]
theorem lk3_enter7 (s : String) (a : Act) (w : World) : (execOp a.eval (lk3_7 s)).run Tryz.prog w = .ok (.enter 145 #[a.eval (.tmp 14), a.eval (.tmp 15)]) w := by kernel_rfl
theorem lk3_enter8 (s : String) (a : Act) (w : World) : (execOp a.eval (lk3_8 s)).run Tryz.prog w = .ok (.enter 146 #[a.eval (.tmp 11), a.eval (.tmp 16)]) w := by kernel_rfl
theorem lk3_walk (s : String) {Q : Exit → Act → World → Prop} (hQ : ∀ c (a : Act) t v w, Q (.panic c) (a.put (some t) v) w → Q (.panic c) a w) (W : World) (z k : Nat) (bt ok : Bool) (i : Int) (u v : EL) (M1 M2 : World → Prop) (hS0 : ∃ y, BoxEl W.drew k y) (hc1 : Calls Tryz.prog 145 #[.pointer (some ⟨z, 0, none⟩), .bool bt] W.drew fun e w' => e = .returned (.int .i64 i) ∧ M1 w') (hk1 : ∀ w1, M1 w1 → BoxEl w1 k u) (hc2 : ∀ w1, M1 w1 → Calls Tryz.prog 146 #[.pointer (some ⟨z, 0, none⟩), .int .i64 i] w1 fun e w' => e = .returned (.tuple #[.agg (elA v), .bool ok]) ∧ M2 w') (hk2 : ∀ w2, M2 w2 → BoxEl w2 k u)
    (a : Act) (hs : 19 < a.tmps.size) (e0 : a.eval (.tmp 0) = .pointer (some ⟨z, 0, none⟩)) (e1 : a.eval (.tmp 1) = .bool bt) (e4 : a.eval (.tmp 4) = .pointer (some ⟨k, 0, none⟩))
    (h0 : ∀ w1, M1 w1 → ∀ w2, M2 w2 → Q .normal ((((((((((((a.put (some 9) (.pointer (some ⟨z, 0, none⟩))).put (some 10) (.pointer (some ⟨z, 0, none⟩))).put (some 11) (.pointer (some ⟨z, 0, none⟩))).put (some 12) (.pointer (some ⟨z, 0, none⟩))).put (some 13) (.pointer (some ⟨z, 0, none⟩))).put (some 14) (.pointer (some ⟨z, 0, none⟩))).put (some 15) (.bool bt)).put (some 16) (.int .i64 i)).put (some 17) (.tuple #[.agg (elA v), .bool ok])).put (some 18) (.agg (elA v))).put (some 19) (.bool ok)).put (some 5) (.bool ok)) (w2.setCells k 0 (elC v))) :
    Code.wp Tryz.prog (.region 3 (lk3_ops s) true) Q a W := by
  refine wp_region_held_drew (S := fun w => ∃ y, BoxEl w k y) (by kernel_rfl) hS0 (fun hS => ?_)
  change wpAnyH _ _ _ _ _ _ _ _ (World.drew _)
  refine wpAnyH_take (i := 0) (oi := lk3_0 s) (v := .pointer (some ⟨z, 0, none⟩)) (by kernel_rfl) (by kernel_rfl) (by kernel_rfl) (by kernel_rfl) (fun c a w h => hQ c _ _ _ w h) (Or.inl ⟨wanted_none rfl, fun w hw => by simp only [execOp, lk3_0, e0]; rfl⟩) hS ?_
  change wpAnyH _ _ _ _ _ _ _ (a.put (some 9) (.pointer (some ⟨z, 0, none⟩))) _
  obtain ⟨a0_1, ha1⟩ : ∃ rr : Act, rr = a.put (some 9) (.pointer (some ⟨z, 0, none⟩)) := ⟨_, rfl⟩
  have qz1 : 19 < a0_1.tmps.size := by rw [ha1, sz_put]; exact hs
  have f1_0 : a0_1.eval (.tmp 0) = .pointer (some ⟨z, 0, none⟩) := by rw [ha1, ev_other _ _ _ _ (by decide)]; exact e0
  have f1_1 : a0_1.eval (.tmp 1) = .bool bt := by rw [ha1, ev_other _ _ _ _ (by decide)]; exact e1
  have f1_4 : a0_1.eval (.tmp 4) = .pointer (some ⟨k, 0, none⟩) := by rw [ha1, ev_other _ _ _ _ (by decide)]; exact e4
  have f1_9 : a0_1.eval (.tmp 9) = .pointer (some ⟨z, 0, none⟩) := by rw [ha1]; exact ev_same _ _ _ (Nat.lt_of_le_of_lt (by decide) hs)
  rw [← ha1] at h0 ⊢
  clear ha1
  refine wpAnyH_take (i := 1) (oi := lk3_1 s) (v := .pointer (some ⟨z, 0, none⟩)) (by kernel_rfl) (by kernel_rfl) (by kernel_rfl) (by kernel_rfl) (fun c a w h => hQ c _ _ _ w h) (Or.inl ⟨wanted_none rfl, fun w hw => by simp only [execOp, lk3_1, f1_9]; rfl⟩) hS ?_
  change wpAnyH _ _ _ _ _ _ _ (a0_1.put (some 10) (.pointer (some ⟨z, 0, none⟩))) _
  obtain ⟨a0_2, ha2⟩ : ∃ rr : Act, rr = a0_1.put (some 10) (.pointer (some ⟨z, 0, none⟩)) := ⟨_, rfl⟩
  have qz2 : 19 < a0_2.tmps.size := by rw [ha2, sz_put]; exact qz1
  have f2_0 : a0_2.eval (.tmp 0) = .pointer (some ⟨z, 0, none⟩) := by rw [ha2, ev_other _ _ _ _ (by decide)]; exact f1_0
  have f2_1 : a0_2.eval (.tmp 1) = .bool bt := by rw [ha2, ev_other _ _ _ _ (by decide)]; exact f1_1
  have f2_4 : a0_2.eval (.tmp 4) = .pointer (some ⟨k, 0, none⟩) := by rw [ha2, ev_other _ _ _ _ (by decide)]; exact f1_4
  have f2_10 : a0_2.eval (.tmp 10) = .pointer (some ⟨z, 0, none⟩) := by rw [ha2]; exact ev_same _ _ _ (Nat.lt_of_le_of_lt (by decide) qz1)
  rw [← ha2] at h0 ⊢
  clear ha2
  refine wpAnyH_take (i := 2) (oi := lk3_2 s) (v := .pointer (some ⟨z, 0, none⟩)) (by kernel_rfl) (by kernel_rfl) (by kernel_rfl) (by kernel_rfl) (fun c a w h => hQ c _ _ _ w h) (Or.inl ⟨wanted_none rfl, fun w hw => by simp only [execOp, lk3_2, f2_10]; rfl⟩) hS ?_
  change wpAnyH _ _ _ _ _ _ _ (a0_2.put (some 11) (.pointer (some ⟨z, 0, none⟩))) _
  obtain ⟨a0_3, ha3⟩ : ∃ rr : Act, rr = a0_2.put (some 11) (.pointer (some ⟨z, 0, none⟩)) := ⟨_, rfl⟩
  have qz3 : 19 < a0_3.tmps.size := by rw [ha3, sz_put]; exact qz2
  have f3_0 : a0_3.eval (.tmp 0) = .pointer (some ⟨z, 0, none⟩) := by rw [ha3, ev_other _ _ _ _ (by decide)]; exact f2_0
  have f3_1 : a0_3.eval (.tmp 1) = .bool bt := by rw [ha3, ev_other _ _ _ _ (by decide)]; exact f2_1
  have f3_4 : a0_3.eval (.tmp 4) = .pointer (some ⟨k, 0, none⟩) := by rw [ha3, ev_other _ _ _ _ (by decide)]; exact f2_4
  have f3_11 : a0_3.eval (.tmp 11) = .pointer (some ⟨z, 0, none⟩) := by rw [ha3]; exact ev_same _ _ _ (Nat.lt_of_le_of_lt (by decide) qz2)
  rw [← ha3] at h0 ⊢
  clear ha3
  refine wpAnyH_take (i := 3) (oi := lk3_3 s) (v := .pointer (some ⟨z, 0, none⟩)) (by kernel_rfl) (by kernel_rfl) (by kernel_rfl) (by kernel_rfl) (fun c a w h => hQ c _ _ _ w h) (Or.inl ⟨wanted_none rfl, fun w hw => by simp only [execOp, lk3_3, f3_0]; rfl⟩) hS ?_
  change wpAnyH _ _ _ _ _ _ _ (a0_3.put (some 12) (.pointer (some ⟨z, 0, none⟩))) _
  obtain ⟨a0_4, ha4⟩ : ∃ rr : Act, rr = a0_3.put (some 12) (.pointer (some ⟨z, 0, none⟩)) := ⟨_, rfl⟩
  have qz4 : 19 < a0_4.tmps.size := by rw [ha4, sz_put]; exact qz3
  have f4_1 : a0_4.eval (.tmp 1) = .bool bt := by rw [ha4, ev_other _ _ _ _ (by decide)]; exact f3_1
  have f4_4 : a0_4.eval (.tmp 4) = .pointer (some ⟨k, 0, none⟩) := by rw [ha4, ev_other _ _ _ _ (by decide)]; exact f3_4
  have f4_11 : a0_4.eval (.tmp 11) = .pointer (some ⟨z, 0, none⟩) := by rw [ha4, ev_other _ _ _ _ (by decide)]; exact f3_11
  have f4_12 : a0_4.eval (.tmp 12) = .pointer (some ⟨z, 0, none⟩) := by rw [ha4]; exact ev_same _ _ _ (Nat.lt_of_le_of_lt (by decide) qz3)
  rw [← ha4] at h0 ⊢
  clear ha4
  refine wpAnyH_take (i := 4) (oi := lk3_4 s) (v := .pointer (some ⟨z, 0, none⟩)) (by kernel_rfl) (by kernel_rfl) (by kernel_rfl) (by kernel_rfl) (fun c a w h => hQ c _ _ _ w h) (Or.inl ⟨wanted_none rfl, fun w hw => by simp only [execOp, lk3_4, f4_12]; rfl⟩) hS ?_
  change wpAnyH _ _ _ _ _ _ _ (a0_4.put (some 13) (.pointer (some ⟨z, 0, none⟩))) _
  obtain ⟨a0_5, ha5⟩ : ∃ rr : Act, rr = a0_4.put (some 13) (.pointer (some ⟨z, 0, none⟩)) := ⟨_, rfl⟩
  have qz5 : 19 < a0_5.tmps.size := by rw [ha5, sz_put]; exact qz4
  have f5_1 : a0_5.eval (.tmp 1) = .bool bt := by rw [ha5, ev_other _ _ _ _ (by decide)]; exact f4_1
  have f5_4 : a0_5.eval (.tmp 4) = .pointer (some ⟨k, 0, none⟩) := by rw [ha5, ev_other _ _ _ _ (by decide)]; exact f4_4
  have f5_11 : a0_5.eval (.tmp 11) = .pointer (some ⟨z, 0, none⟩) := by rw [ha5, ev_other _ _ _ _ (by decide)]; exact f4_11
  have f5_13 : a0_5.eval (.tmp 13) = .pointer (some ⟨z, 0, none⟩) := by rw [ha5]; exact ev_same _ _ _ (Nat.lt_of_le_of_lt (by decide) qz4)
  rw [← ha5] at h0 ⊢
  clear ha5
  refine wpAnyH_take (i := 5) (oi := lk3_5 s) (v := .pointer (some ⟨z, 0, none⟩)) (by kernel_rfl) (by kernel_rfl) (by kernel_rfl) (by kernel_rfl) (fun c a w h => hQ c _ _ _ w h) (Or.inl ⟨wanted_none rfl, fun w hw => by simp only [execOp, lk3_5, f5_13]; rfl⟩) hS ?_
  change wpAnyH _ _ _ _ _ _ _ (a0_5.put (some 14) (.pointer (some ⟨z, 0, none⟩))) _
  obtain ⟨a0_6, ha6⟩ : ∃ rr : Act, rr = a0_5.put (some 14) (.pointer (some ⟨z, 0, none⟩)) := ⟨_, rfl⟩
  have qz6 : 19 < a0_6.tmps.size := by rw [ha6, sz_put]; exact qz5
  have f6_1 : a0_6.eval (.tmp 1) = .bool bt := by rw [ha6, ev_other _ _ _ _ (by decide)]; exact f5_1
  have f6_4 : a0_6.eval (.tmp 4) = .pointer (some ⟨k, 0, none⟩) := by rw [ha6, ev_other _ _ _ _ (by decide)]; exact f5_4
  have f6_11 : a0_6.eval (.tmp 11) = .pointer (some ⟨z, 0, none⟩) := by rw [ha6, ev_other _ _ _ _ (by decide)]; exact f5_11
  have f6_14 : a0_6.eval (.tmp 14) = .pointer (some ⟨z, 0, none⟩) := by rw [ha6]; exact ev_same _ _ _ (Nat.lt_of_le_of_lt (by decide) qz5)
  rw [← ha6] at h0 ⊢
  clear ha6
  refine wpAnyH_take (i := 6) (oi := lk3_6 s) (v := .bool bt) (by kernel_rfl) (by kernel_rfl) (by kernel_rfl) (by kernel_rfl) (fun c a w h => hQ c _ _ _ w h) (Or.inl ⟨wanted_none rfl, fun w hw => by simp only [execOp, lk3_6, f6_1]; rfl⟩) hS ?_
  change wpAnyH _ _ _ _ _ _ _ (a0_6.put (some 15) (.bool bt)) _
  obtain ⟨a0_7, ha7⟩ : ∃ rr : Act, rr = a0_6.put (some 15) (.bool bt) := ⟨_, rfl⟩
  have qz7 : 19 < a0_7.tmps.size := by rw [ha7, sz_put]; exact qz6
  have f7_4 : a0_7.eval (.tmp 4) = .pointer (some ⟨k, 0, none⟩) := by rw [ha7, ev_other _ _ _ _ (by decide)]; exact f6_4
  have f7_11 : a0_7.eval (.tmp 11) = .pointer (some ⟨z, 0, none⟩) := by rw [ha7, ev_other _ _ _ _ (by decide)]; exact f6_11
  have f7_14 : a0_7.eval (.tmp 14) = .pointer (some ⟨z, 0, none⟩) := by rw [ha7, ev_other _ _ _ _ (by decide)]; exact f6_14
  have f7_15 : a0_7.eval (.tmp 15) = .bool bt := by rw [ha7]; exact ev_same _ _ _ (Nat.lt_of_le_of_lt (by decide) qz6)
  rw [← ha7] at h0 ⊢
  clear ha7
  refine wpAnyH_ready (rs := [7]) (by kernel_rfl) (by simp) ?_
  refine AllReadyH.cons (o := lk3_7 s) (by kernel_rfl) (fun KQ hKQ => ?_) AllReadyH.nil
  rw [if_pos (wanted_none rfl)]
  refine step_enterE 145 #[.pointer (some ⟨z, 0, none⟩), .bool bt] (by rw [lk3_enter7, f7_14, f7_15]) (fun V w' => V = .int .i64 i ∧ M1 w') (hc1.mono (fun e w' ⟨h1, h2⟩ => ⟨_, h1, rfl, h2⟩)) ?_
  rintro _ w1 ⟨rfl, hM1⟩
  refine hKQ.out _ _ ((show ∃ y, BoxEl w1 k y from ⟨u, hk1 w1 hM1⟩)) (fun _ => ?_)
  clear hKQ KQ
  change wpAnyH _ _ _ _ _ _ _ (a0_7.put (some 16) (.int .i64 i)) _
  have h0 := h0 w1 hM1
  obtain ⟨a0_8, ha8⟩ : ∃ rr : Act, rr = a0_7.put (some 16) (.int .i64 i) := ⟨_, rfl⟩
  have qz8 : 19 < a0_8.tmps.size := by rw [ha8, sz_put]; exact qz7
  have f8_4 : a0_8.eval (.tmp 4) = .pointer (some ⟨k, 0, none⟩) := by rw [ha8, ev_other _ _ _ _ (by decide)]; exact f7_4
  have f8_11 : a0_8.eval (.tmp 11) = .pointer (some ⟨z, 0, none⟩) := by rw [ha8, ev_other _ _ _ _ (by decide)]; exact f7_11
  have f8_16 : a0_8.eval (.tmp 16) = .int .i64 i := by rw [ha8]; exact ev_same _ _ _ (Nat.lt_of_le_of_lt (by decide) qz7)
  rw [← ha8] at h0 ⊢
  clear ha8
  refine wpAnyH_ready (rs := [8]) (by kernel_rfl) (by simp) ?_
  refine AllReadyH.cons (o := lk3_8 s) (by kernel_rfl) (fun KQ hKQ => ?_) AllReadyH.nil
  rw [if_pos (wanted_none rfl)]
  refine step_enterE 146 #[.pointer (some ⟨z, 0, none⟩), .int .i64 i] (by rw [lk3_enter8, f8_11, f8_16]) (fun V w' => V = .tuple #[.agg (elA v), .bool ok] ∧ M2 w') ((hc2 w1 hM1).mono (fun e w' ⟨h1, h2⟩ => ⟨_, h1, rfl, h2⟩)) ?_
  rintro _ w2 ⟨rfl, hM2⟩
  refine hKQ.out _ _ ((show ∃ y, BoxEl w2 k y from ⟨u, hk2 w2 hM2⟩)) (fun _ => ?_)
  clear hKQ KQ
  change wpAnyH _ _ _ _ _ _ _ (a0_8.put (some 17) (.tuple #[.agg (elA v), .bool ok])) _
  have h0 := h0 w2 hM2
  obtain ⟨a0_9, ha9⟩ : ∃ rr : Act, rr = a0_8.put (some 17) (.tuple #[.agg (elA v), .bool ok]) := ⟨_, rfl⟩
  have qz9 : 19 < a0_9.tmps.size := by rw [ha9, sz_put]; exact qz8
  have f9_4 : a0_9.eval (.tmp 4) = .pointer (some ⟨k, 0, none⟩) := by rw [ha9, ev_other _ _ _ _ (by decide)]; exact f8_4
  have f9_17 : a0_9.eval (.tmp 17) = .tuple #[.agg (elA v), .bool ok] := by rw [ha9]; exact ev_same _ _ _ (Nat.lt_of_le_of_lt (by decide) qz8)
  rw [← ha9] at h0 ⊢
  clear ha9
  refine wpAnyH_take (i := 9) (oi := lk3_9 s) (v := .agg (elA v)) (by kernel_rfl) (by kernel_rfl) (by kernel_rfl) (by kernel_rfl) (fun c a w h => hQ c _ _ _ w h) (Or.inl ⟨wanted_none rfl, fun w hw => by simp only [execOp, lk3_9, f9_17]; rfl⟩) (show ∃ y, BoxEl w2 k y from ⟨u, hk2 w2 hM2⟩) ?_
  change wpAnyH _ _ _ _ _ _ _ (a0_9.put (some 18) (.agg (elA v))) _
  obtain ⟨a0_10, ha10⟩ : ∃ rr : Act, rr = a0_9.put (some 18) (.agg (elA v)) := ⟨_, rfl⟩
  have qz10 : 19 < a0_10.tmps.size := by rw [ha10, sz_put]; exact qz9
  have f10_4 : a0_10.eval (.tmp 4) = .pointer (some ⟨k, 0, none⟩) := by rw [ha10, ev_other _ _ _ _ (by decide)]; exact f9_4
  have f10_17 : a0_10.eval (.tmp 17) = .tuple #[.agg (elA v), .bool ok] := by rw [ha10, ev_other _ _ _ _ (by decide)]; exact f9_17
  have f10_18 : a0_10.eval (.tmp 18) = .agg (elA v) := by rw [ha10]; exact ev_same _ _ _ (Nat.lt_of_le_of_lt (by decide) qz9)
  rw [← ha10] at h0 ⊢
  clear ha10
  refine wpAnyH_take (i := 10) (oi := lk3_10 s) (v := .bool ok) (by kernel_rfl) (by kernel_rfl) (by kernel_rfl) (by kernel_rfl) (fun c a w h => hQ c _ _ _ w h) (Or.inl ⟨wanted_none rfl, fun w hw => by simp only [execOp, lk3_10, f10_17]; rfl⟩) (show ∃ y, BoxEl w2 k y from ⟨u, hk2 w2 hM2⟩) ?_
  change wpAnyH _ _ _ _ _ _ _ (a0_10.put (some 19) (.bool ok)) _
  obtain ⟨a0_11, ha11⟩ : ∃ rr : Act, rr = a0_10.put (some 19) (.bool ok) := ⟨_, rfl⟩
  have qz11 : 19 < a0_11.tmps.size := by rw [ha11, sz_put]; exact qz10
  have f11_4 : a0_11.eval (.tmp 4) = .pointer (some ⟨k, 0, none⟩) := by rw [ha11, ev_other _ _ _ _ (by decide)]; exact f10_4
  have f11_18 : a0_11.eval (.tmp 18) = .agg (elA v) := by rw [ha11, ev_other _ _ _ _ (by decide)]; exact f10_18
  have f11_19 : a0_11.eval (.tmp 19) = .bool ok := by rw [ha11]; exact ev_same _ _ _ (Nat.lt_of_le_of_lt (by decide) qz10)
  rw [← ha11] at h0 ⊢
  clear ha11
  refine wpAnyH_ready (rs := [11]) (by kernel_rfl) (by simp) ?_
  refine AllReadyH.cons (o := lk3_11 s) (by kernel_rfl) (fun KQ hKQ => ?_) AllReadyH.nil
  rw [if_pos (wanted_none rfl)]
  refine step_skipE (w2.setCells k 0 (elC v)) (run_stB rfl f11_4 f11_18 (hk2 w2 hM2)) ?_
  refine hKQ.out _ _ ((show ∃ y, BoxEl (w2.setCells k 0 (elC v)) k y from ⟨v, ((hk2 w2 hM2).put v).1⟩)) (fun _ => ?_)
  clear hKQ KQ
  change wpAnyH _ _ _ _ _ _ _ a0_11 _
  refine wpAnyH_take (i := 12) (oi := lk3_12 s) (v := .bool ok) (by kernel_rfl) (by kernel_rfl) (by kernel_rfl) (by kernel_rfl) (fun c a w h => hQ c _ _ _ w h) (Or.inl ⟨wanted_none rfl, fun w hw => by simp only [execOp, lk3_12, f11_19]; rfl⟩) (show ∃ y, BoxEl (w2.setCells k 0 (elC v)) k y from ⟨v, ((hk2 w2 hM2).put v).1⟩) ?_
  change wpAnyH _ _ _ _ _ _ _ (a0_11.put (some 5) (.bool ok)) _
  obtain ⟨a0_13, ha13⟩ : ∃ rr : Act, rr = a0_11.put (some 5) (.bool ok) := ⟨_, rfl⟩
  have qz13 : 19 < a0_13.tmps.size := by rw [ha13, sz_put]; exact qz11
  rw [← ha13] at h0 ⊢
  clear ha13
  refine wpAnyH_done (by kernel_rfl) ?_ _
  exact h0
def lb6_0 (s : String) : Oper := { dst := some 24, op := Op.move (Operand.tmp 0), type := 33, pos := s, after := #[], guard := none }
def lb6_1 (s : String) : Oper := { dst := some 25, op := Op.nilCheck (Operand.tmp 24), type := 0, pos := s, after := #[{ on := 0, ground := Ground.data }], guard := none }
def lb6_2 (s : String) : Oper := { dst := some 26, op := Op.fieldAddr 119 (Operand.tmp 25) 0, type := 0, pos := s, after := #[{ on := 1, ground := Ground.data }], guard := none }
def lb6_3 (s : String) : Oper := { dst := some 27, op := Op.move (Operand.tmp 0), type := 33, pos := s, after := #[], guard := none }
def lb6_4 (s : String) : Oper := { dst := some 28, op := Op.nilCheck (Operand.tmp 27), type := 0, pos := s, after := #[{ on := 3, ground := Ground.data }], guard := none }
def lb6_5 (s : String) : Oper := { dst := some 29, op := Op.fieldAddr 119 (Operand.tmp 28) 0, type := 0, pos := s, after := #[{ on := 4, ground := Ground.data }], guard := none }
def lb6_6 (s : String) : Oper := { dst := some 30, op := Op.move (Operand.tmp 1), type := 4, pos := s, after := #[], guard := none }
def lb6_7 (s : String) : Oper := { dst := some 31, op := Op.call { callee := Callee.value (Operand.func 145), args := #[Operand.tmp 29, Operand.tmp 30], argTypes := #[117, 4] }, type := 3, pos := s, after := #[{ on := 5, ground := Ground.data }, { on := 6, ground := Ground.data }], guard := none }
def lb6_8 (s : String) : Oper := { dst := some 32, op := Op.load 111 (Operand.tmp 6), type := 111, pos := s, after := #[], guard := none }
def lb6_9 (s : String) : Oper := { dst := some 33, op := Op.call { callee := Callee.value (Operand.func 144), args := #[Operand.tmp 26, Operand.tmp 31, Operand.tmp 32], argTypes := #[117, 3, 111] }, type := 4, pos := s, after := #[{ on := 2, ground := Ground.data }, { on := 7, ground := Ground.data }, { on := 8, ground := Ground.data }, { on := 7, ground := Ground.chain }], guard := none }
def lb6_ops (s : String) : Array Oper := #[lb6_0 s, lb6_1 s, lb6_2 s, lb6_3 s, lb6_4 s, lb6_5 s, lb6_6 s, lb6_7 s, lb6_8 s, lb6_9 s]
theorem lb6_enter7 (s : String) (a : Act) (w : World) : (execOp a.eval (lb6_7 s)).run Tryz.prog w = .ok (.enter 145 #[a.eval (.tmp 29), a.eval (.tmp 30)]) w := by kernel_rfl
theorem lb6_enter9 (s : String) (a : Act) (w : World) : (execOp a.eval (lb6_9 s)).run Tryz.prog w = .ok (.enter 144 #[a.eval (.tmp 26), a.eval (.tmp 31), a.eval (.tmp 32)]) w := by kernel_rfl
theorem lb6_walk (s : String) {Q : Exit → Act → World → Prop} (hQ : ∀ c (a : Act) t v w, Q (.panic c) (a.put (some t) v) w → Q (.panic c) a w) (W : World) (z k : Nat) (i : Int) (bt : Bool) (v : EL) (M1 M2 : World → Prop) (hS0 : BoxEl W.drew k v) (hc1 : Calls Tryz.prog 145 #[.pointer (some ⟨z, 0, none⟩), .bool bt] W.drew fun e w' => e = .returned (.int .i64 i) ∧ M1 w') (hk1 : ∀ w1, M1 w1 → BoxEl w1 k v) (hc2 : ∀ w1, M1 w1 → Calls Tryz.prog 144 #[.pointer (some ⟨z, 0, none⟩), .int .i64 i, .agg (elA v)] w1 fun e w' => e = .returned (.bool true) ∧ M2 w') (hk2 : ∀ w2, M2 w2 → BoxEl w2 k v)
    (a : Act) (hs : 33 < a.tmps.size) (e0 : a.eval (.tmp 0) = .pointer (some ⟨z, 0, none⟩)) (e1 : a.eval (.tmp 1) = .bool bt) (e6 : a.eval (.tmp 6) = .pointer (some ⟨k, 0, none⟩))
    (h0 : ∀ w1, M1 w1 → ∀ w2, M2 w2 → Q .normal ((((((((((a.put (some 24) (.pointer (some ⟨z, 0, none⟩))).put (some 25) (.pointer (some ⟨z, 0, none⟩))).put (some 26) (.pointer (some ⟨z, 0, none⟩))).put (some 27) (.pointer (some ⟨z, 0, none⟩))).put (some 28) (.pointer (some ⟨z, 0, none⟩))).put (some 29) (.pointer (some ⟨z, 0, none⟩))).put (some 30) (.bool bt)).put (some 32) (.agg (elA v))).put (some 31) (.int .i64 i)).put (some 33) (.bool true)) w2) :
    Code.wp Tryz.prog (.region 6 (lb6_ops s) true) Q a W := by
  refine wp_region_held_drew (S := fun w => BoxEl w k v) (by kernel_rfl) hS0 (fun hS => ?_)
  change wpAnyH _ _ _ _ _ _ _ _ (World.drew _)
  refine wpAnyH_take (i := 0) (oi := lb6_0 s) (v := .pointer (some ⟨z, 0, none⟩)) (by kernel_rfl) (by kernel_rfl) (by kernel_rfl) (by kernel_rfl) (fun c a w h => hQ c _ _ _ w h) (Or.inl ⟨wanted_none rfl, fun w hw => by simp only [execOp, lb6_0, e0]; rfl⟩) hS ?_
  change wpAnyH _ _ _ _ _ _ _ (a.put (some 24) (.pointer (some ⟨z, 0, none⟩))) _
  obtain ⟨a0_1, ha1⟩ : ∃ rr : Act, rr = a.put (some 24) (.pointer (some ⟨z, 0, none⟩)) := ⟨_, rfl⟩
  have qz1 : 33 < a0_1.tmps.size := by rw [ha1, sz_put]; exact hs
  have f1_0 : a0_1.eval (.tmp 0) = .pointer (some ⟨z, 0, none⟩) := by rw [ha1, ev_other _ _ _ _ (by decide)]; exact e0
  have f1_1 : a0_1.eval (.tmp 1) = .bool bt := by rw [ha1, ev_other _ _ _ _ (by decide)]; exact e1
  have f1_6 : a0_1.eval (.tmp 6) = .pointer (some ⟨k, 0, none⟩) := by rw [ha1, ev_other _ _ _ _ (by decide)]; exact e6
  have f1_24 : a0_1.eval (.tmp 24) = .pointer (some ⟨z, 0, none⟩) := by rw [ha1]; exact ev_same _ _ _ (Nat.lt_of_le_of_lt (by decide) hs)
  rw [← ha1] at h0 ⊢
  clear ha1
  refine wpAnyH_take (i := 1) (oi := lb6_1 s) (v := .pointer (some ⟨z, 0, none⟩)) (by kernel_rfl) (by kernel_rfl) (by kernel_rfl) (by kernel_rfl) (fun c a w h => hQ c _ _ _ w h) (Or.inl ⟨wanted_none rfl, fun w hw => by simp only [execOp, lb6_1, f1_24]; rfl⟩) hS ?_
  change wpAnyH _ _ _ _ _ _ _ (a0_1.put (some 25) (.pointer (some ⟨z, 0, none⟩))) _
  obtain ⟨a0_2, ha2⟩ : ∃ rr : Act, rr = a0_1.put (some 25) (.pointer (some ⟨z, 0, none⟩)) := ⟨_, rfl⟩
  have qz2 : 33 < a0_2.tmps.size := by rw [ha2, sz_put]; exact qz1
  have f2_0 : a0_2.eval (.tmp 0) = .pointer (some ⟨z, 0, none⟩) := by rw [ha2, ev_other _ _ _ _ (by decide)]; exact f1_0
  have f2_1 : a0_2.eval (.tmp 1) = .bool bt := by rw [ha2, ev_other _ _ _ _ (by decide)]; exact f1_1
  have f2_6 : a0_2.eval (.tmp 6) = .pointer (some ⟨k, 0, none⟩) := by rw [ha2, ev_other _ _ _ _ (by decide)]; exact f1_6
  have f2_25 : a0_2.eval (.tmp 25) = .pointer (some ⟨z, 0, none⟩) := by rw [ha2]; exact ev_same _ _ _ (Nat.lt_of_le_of_lt (by decide) qz1)
  rw [← ha2] at h0 ⊢
  clear ha2
  refine wpAnyH_take (i := 2) (oi := lb6_2 s) (v := .pointer (some ⟨z, 0, none⟩)) (by kernel_rfl) (by kernel_rfl) (by kernel_rfl) (by kernel_rfl) (fun c a w h => hQ c _ _ _ w h) (Or.inl ⟨wanted_none rfl, fun w hw => by simp only [execOp, lb6_2, f2_25]; rfl⟩) hS ?_
  change wpAnyH _ _ _ _ _ _ _ (a0_2.put (some 26) (.pointer (some ⟨z, 0, none⟩))) _
  obtain ⟨a0_3, ha3⟩ : ∃ rr : Act, rr = a0_2.put (some 26) (.pointer (some ⟨z, 0, none⟩)) := ⟨_, rfl⟩
  have qz3 : 33 < a0_3.tmps.size := by rw [ha3, sz_put]; exact qz2
  have f3_0 : a0_3.eval (.tmp 0) = .pointer (some ⟨z, 0, none⟩) := by rw [ha3, ev_other _ _ _ _ (by decide)]; exact f2_0
  have f3_1 : a0_3.eval (.tmp 1) = .bool bt := by rw [ha3, ev_other _ _ _ _ (by decide)]; exact f2_1
  have f3_6 : a0_3.eval (.tmp 6) = .pointer (some ⟨k, 0, none⟩) := by rw [ha3, ev_other _ _ _ _ (by decide)]; exact f2_6
  have f3_26 : a0_3.eval (.tmp 26) = .pointer (some ⟨z, 0, none⟩) := by rw [ha3]; exact ev_same _ _ _ (Nat.lt_of_le_of_lt (by decide) qz2)
  rw [← ha3] at h0 ⊢
  clear ha3
  refine wpAnyH_take (i := 3) (oi := lb6_3 s) (v := .pointer (some ⟨z, 0, none⟩)) (by kernel_rfl) (by kernel_rfl) (by kernel_rfl) (by kernel_rfl) (fun c a w h => hQ c _ _ _ w h) (Or.inl ⟨wanted_none rfl, fun w hw => by simp only [execOp, lb6_3, f3_0]; rfl⟩) hS ?_
  change wpAnyH _ _ _ _ _ _ _ (a0_3.put (some 27) (.pointer (some ⟨z, 0, none⟩))) _
  obtain ⟨a0_4, ha4⟩ : ∃ rr : Act, rr = a0_3.put (some 27) (.pointer (some ⟨z, 0, none⟩)) := ⟨_, rfl⟩
  have qz4 : 33 < a0_4.tmps.size := by rw [ha4, sz_put]; exact qz3
  have f4_1 : a0_4.eval (.tmp 1) = .bool bt := by rw [ha4, ev_other _ _ _ _ (by decide)]; exact f3_1
  have f4_6 : a0_4.eval (.tmp 6) = .pointer (some ⟨k, 0, none⟩) := by rw [ha4, ev_other _ _ _ _ (by decide)]; exact f3_6
  have f4_26 : a0_4.eval (.tmp 26) = .pointer (some ⟨z, 0, none⟩) := by rw [ha4, ev_other _ _ _ _ (by decide)]; exact f3_26
  have f4_27 : a0_4.eval (.tmp 27) = .pointer (some ⟨z, 0, none⟩) := by rw [ha4]; exact ev_same _ _ _ (Nat.lt_of_le_of_lt (by decide) qz3)
  rw [← ha4] at h0 ⊢
  clear ha4
  refine wpAnyH_take (i := 4) (oi := lb6_4 s) (v := .pointer (some ⟨z, 0, none⟩)) (by kernel_rfl) (by kernel_rfl) (by kernel_rfl) (by kernel_rfl) (fun c a w h => hQ c _ _ _ w h) (Or.inl ⟨wanted_none rfl, fun w hw => by simp only [execOp, lb6_4, f4_27]; rfl⟩) hS ?_
  change wpAnyH _ _ _ _ _ _ _ (a0_4.put (some 28) (.pointer (some ⟨z, 0, none⟩))) _
  obtain ⟨a0_5, ha5⟩ : ∃ rr : Act, rr = a0_4.put (some 28) (.pointer (some ⟨z, 0, none⟩)) := ⟨_, rfl⟩
  have qz5 : 33 < a0_5.tmps.size := by rw [ha5, sz_put]; exact qz4
  have f5_1 : a0_5.eval (.tmp 1) = .bool bt := by rw [ha5, ev_other _ _ _ _ (by decide)]; exact f4_1
  have f5_6 : a0_5.eval (.tmp 6) = .pointer (some ⟨k, 0, none⟩) := by rw [ha5, ev_other _ _ _ _ (by decide)]; exact f4_6
  have f5_26 : a0_5.eval (.tmp 26) = .pointer (some ⟨z, 0, none⟩) := by rw [ha5, ev_other _ _ _ _ (by decide)]; exact f4_26
  have f5_28 : a0_5.eval (.tmp 28) = .pointer (some ⟨z, 0, none⟩) := by rw [ha5]; exact ev_same _ _ _ (Nat.lt_of_le_of_lt (by decide) qz4)
  rw [← ha5] at h0 ⊢
  clear ha5
  refine wpAnyH_take (i := 5) (oi := lb6_5 s) (v := .pointer (some ⟨z, 0, none⟩)) (by kernel_rfl) (by kernel_rfl) (by kernel_rfl) (by kernel_rfl) (fun c a w h => hQ c _ _ _ w h) (Or.inl ⟨wanted_none rfl, fun w hw => by simp only [execOp, lb6_5, f5_28]; rfl⟩) hS ?_
  change wpAnyH _ _ _ _ _ _ _ (a0_5.put (some 29) (.pointer (some ⟨z, 0, none⟩))) _
  obtain ⟨a0_6, ha6⟩ : ∃ rr : Act, rr = a0_5.put (some 29) (.pointer (some ⟨z, 0, none⟩)) := ⟨_, rfl⟩
  have qz6 : 33 < a0_6.tmps.size := by rw [ha6, sz_put]; exact qz5
  have f6_1 : a0_6.eval (.tmp 1) = .bool bt := by rw [ha6, ev_other _ _ _ _ (by decide)]; exact f5_1
  have f6_6 : a0_6.eval (.tmp 6) = .pointer (some ⟨k, 0, none⟩) := by rw [ha6, ev_other _ _ _ _ (by decide)]; exact f5_6
  have f6_26 : a0_6.eval (.tmp 26) = .pointer (some ⟨z, 0, none⟩) := by rw [ha6, ev_other _ _ _ _ (by decide)]; exact f5_26
  have f6_29 : a0_6.eval (.tmp 29) = .pointer (some ⟨z, 0, none⟩) := by rw [ha6]; exact ev_same _ _ _ (Nat.lt_of_le_of_lt (by decide) qz5)
  rw [← ha6] at h0 ⊢
  clear ha6
  refine wpAnyH_take (i := 6) (oi := lb6_6 s) (v := .bool bt) (by kernel_rfl) (by kernel_rfl) (by kernel_rfl) (by kernel_rfl) (fun c a w h => hQ c _ _ _ w h) (Or.inl ⟨wanted_none rfl, fun w hw => by simp only [execOp, lb6_6, f6_1]; rfl⟩) hS ?_
  change wpAnyH _ _ _ _ _ _ _ (a0_6.put (some 30) (.bool bt)) _
  obtain ⟨a0_7, ha7⟩ : ∃ rr : Act, rr = a0_6.put (some 30) (.bool bt) := ⟨_, rfl⟩
  have qz7 : 33 < a0_7.tmps.size := by rw [ha7, sz_put]; exact qz6
  have f7_6 : a0_7.eval (.tmp 6) = .pointer (some ⟨k, 0, none⟩) := by rw [ha7, ev_other _ _ _ _ (by decide)]; exact f6_6
  have f7_26 : a0_7.eval (.tmp 26) = .pointer (some ⟨z, 0, none⟩) := by rw [ha7, ev_other _ _ _ _ (by decide)]; exact f6_26
  have f7_29 : a0_7.eval (.tmp 29) = .pointer (some ⟨z, 0, none⟩) := by rw [ha7, ev_other _ _ _ _ (by decide)]; exact f6_29
  have f7_30 : a0_7.eval (.tmp 30) = .bool bt := by rw [ha7]; exact ev_same _ _ _ (Nat.lt_of_le_of_lt (by decide) qz6)
  rw [← ha7] at h0 ⊢
  clear ha7
  refine wpAnyH_take (i := 8) (oi := lb6_8 s) (v := .agg (elA v)) (by kernel_rfl) (by kernel_rfl) (by kernel_rfl) (by kernel_rfl) (fun c a w h => hQ c _ _ _ w h) (Or.inl ⟨wanted_none rfl, fun w hw => run_ldB rfl f7_6 hw⟩) hS ?_
  change wpAnyH _ _ _ _ _ _ _ (a0_7.put (some 32) (.agg (elA v))) _
  obtain ⟨a0_8, ha8⟩ : ∃ rr : Act, rr = a0_7.put (some 32) (.agg (elA v)) := ⟨_, rfl⟩
  have qz8 : 33 < a0_8.tmps.size := by rw [ha8, sz_put]; exact qz7
  have f8_26 : a0_8.eval (.tmp 26) = .pointer (some ⟨z, 0, none⟩) := by rw [ha8, ev_other _ _ _ _ (by decide)]; exact f7_26
  have f8_29 : a0_8.eval (.tmp 29) = .pointer (some ⟨z, 0, none⟩) := by rw [ha8, ev_other _ _ _ _ (by decide)]; exact f7_29
  have f8_30 : a0_8.eval (.tmp 30) = .bool bt := by rw [ha8, ev_other _ _ _ _ (by decide)]; exact f7_30
  have f8_32 : a0_8.eval (.tmp 32) = .agg (elA v) := by rw [ha8]; exact ev_same _ _ _ (Nat.lt_of_le_of_lt (by decide) qz7)
  rw [← ha8] at h0 ⊢
  clear ha8
  refine wpAnyH_ready (rs := [7]) (by kernel_rfl) (by simp) ?_
  refine AllReadyH.cons (o := lb6_7 s) (by kernel_rfl) (fun KQ hKQ => ?_) AllReadyH.nil
  rw [if_pos (wanted_none rfl)]
  refine step_enterE 145 #[.pointer (some ⟨z, 0, none⟩), .bool bt] (by rw [lb6_enter7, f8_29, f8_30]) (fun V w' => V = .int .i64 i ∧ M1 w') (hc1.mono (fun e w' ⟨h1, h2⟩ => ⟨_, h1, rfl, h2⟩)) ?_
  rintro _ w1 ⟨rfl, hM1⟩
  refine hKQ.out _ _ (hk1 w1 hM1) (fun _ => ?_)
  clear hKQ KQ
  change wpAnyH _ _ _ _ _ _ _ (a0_8.put (some 31) (.int .i64 i)) _
  have h0 := h0 w1 hM1
  obtain ⟨a0_9, ha9⟩ : ∃ rr : Act, rr = a0_8.put (some 31) (.int .i64 i) := ⟨_, rfl⟩
  have qz9 : 33 < a0_9.tmps.size := by rw [ha9, sz_put]; exact qz8
  have f9_26 : a0_9.eval (.tmp 26) = .pointer (some ⟨z, 0, none⟩) := by rw [ha9, ev_other _ _ _ _ (by decide)]; exact f8_26
  have f9_31 : a0_9.eval (.tmp 31) = .int .i64 i := by rw [ha9]; exact ev_same _ _ _ (Nat.lt_of_le_of_lt (by decide) qz8)
  have f9_32 : a0_9.eval (.tmp 32) = .agg (elA v) := by rw [ha9, ev_other _ _ _ _ (by decide)]; exact f8_32
  rw [← ha9] at h0 ⊢
  clear ha9
  refine wpAnyH_ready (rs := [9]) (by kernel_rfl) (by simp) ?_
  refine AllReadyH.cons (o := lb6_9 s) (by kernel_rfl) (fun KQ hKQ => ?_) AllReadyH.nil
  rw [if_pos (wanted_none rfl)]
  refine step_enterE 144 #[.pointer (some ⟨z, 0, none⟩), .int .i64 i, .agg (elA v)] (by rw [lb6_enter9, f9_26, f9_31, f9_32]) (fun V w' => V = .bool true ∧ M2 w') ((hc2 w1 hM1).mono (fun e w' ⟨h1, h2⟩ => ⟨_, h1, rfl, h2⟩)) ?_
  rintro _ w2 ⟨rfl, hM2⟩
  refine hKQ.out _ _ (hk2 w2 hM2) (fun _ => ?_)
  clear hKQ KQ
  change wpAnyH _ _ _ _ _ _ _ (a0_9.put (some 33) (.bool true)) _
  have h0 := h0 w2 hM2
  obtain ⟨a0_10, ha10⟩ : ∃ rr : Act, rr = a0_9.put (some 33) (.bool true) := ⟨_, rfl⟩
  have qz10 : 33 < a0_10.tmps.size := by rw [ha10, sz_put]; exact qz9
  rw [← ha10] at h0 ⊢
  clear ha10
  refine wpAnyH_done (by kernel_rfl) ?_ _
  exact h0
end RG
end Go.Proofs.YtjdlffmiokobnaaGreatDoor
