/- ObjectBack: two regions that draw their order. -/
import Derived.Test.YtjcfndiceinkjabDoorOXm
import Derived.Test.YtjcfndiceinkjabDoorKWm
import Derived.Test.YtjcfndiceinkjabDoorOQ1
namespace Go.Proofs.YtjcfndiceinkjabDoor
set_option linter.unusedVariables false
set_option linter.unusedSimpArgs false
set_option maxRecDepth 100000
open Go.RowKit

theorem RowR_own {w : World} {B : Nat} {v : Value} {L : List (List UInt8)} (h : w.ownsRow B 27 32 v L.length (flatK L)) (ok : ∀ k ∈ L, okK k) (hm : L.length ≤ 9223372036854775807) : RowR w v 32 (L.map keyC) := by
  have hk : ∀ c ∈ L.map keyC, c.length = 32 := by intro c hc; obtain ⟨p, hp, rfl⟩ := List.mem_map.1 hc; exact keyC_len p (ok p hp)
  obtain ⟨h0, ⟨rfl, h1⟩ | ⟨g, cap, cur, rfl, hg, hr, hc, hmx, hs, ht⟩⟩ := h
  · have : L = [] := List.eq_nil_of_length_eq_zero h1
    subst this
    exact ⟨none, 0, rfl, by simp, fun _ => rfl, .inl rfl⟩
  · refine ⟨some ⟨g, 0, none⟩, cap, by rw [List.length_map], by rw [List.length_map]; exact hm, (fun e => nomatch e), .inr ⟨g, 0, rfl, rangeAt_each 32 _ 0 hk (fun j u hj => ?_)⟩⟩
    have hB : Blk w g cur 27 := hr
    rw [Nat.zero_add, hB.cell, ← Array.getElem?_toList]
    have hj' : (flatK L)[j]? = some u := hj
    rw [← ht] at hj'
    have hjl : j < (cur.toList.take (L.length * 32)).length := (List.getElem?_eq_some_iff.1 hj').1
    rw [List.length_take] at hjl
    rwa [List.getElem?_take, if_pos (by omega)] at hj'
theorem run_neq0 {op : Oper} {ev : Operand → Value} {t : TypeId} {x : Operand} {u : TypeId} (ho : op.op = .binOp .neq t x (.const (.int .i64 0)) u) (ht : Tryd.prog.underlying t = some (.int .i64)) (hx : ev x = .int .i64 0) (hc : ev (.const (.int .i64 0)) = .int .i64 0) (w : World) : (execOp ev op).run Tryd.prog w = .ok (.value (.bool false)) w := by
  simp [execOp, ho, hx, hc, go_sem, ht]
def b8_0 (s : String) : Oper := { dst := some 59, op := Op.move (Operand.tmp 11), type := 31, pos := s, after := #[], guard := none }
def b8_1 (s : String) : Oper := { dst := some 60, op := Op.binOp BinOp.neq 31 (Operand.tmp 59) (Operand.const (Value.int IntKind.i64 0)) 31, type := 4, pos := s, after := #[{ on := 0, ground := Ground.data }], guard := none }
def b8_2 (s : String) : Oper := { dst := some 61, op := Op.move (Operand.tmp 60), type := 4, pos := s, after := #[{ on := 1, ground := Ground.data }], guard := none }
def b8_3 (s : String) : Oper := { dst := some 62, op := Op.load 30 (Operand.tmp 2), type := 30, pos := s, after := #[{ on := 2, ground := Ground.guard }], guard := some (2, false) }
def b8_4 (s : String) : Oper := { dst := some 63, op := Op.load 30 (Operand.tmp 10), type := 30, pos := s, after := #[{ on := 2, ground := Ground.guard }], guard := some (2, false) }
def b8_5 (s : String) : Oper := { dst := some 64, op := Op.call { callee := Callee.value (Operand.func 8), args := #[Operand.tmp 62, Operand.tmp 63], argTypes := #[30, 30] }, type := 4, pos := s, after := #[{ on := 3, ground := Ground.data }, { on := 4, ground := Ground.data }, { on := 2, ground := Ground.chain }, { on := 2, ground := Ground.guard }], guard := some (2, false) }
def b8_6 (s : String) : Oper := { dst := some 65, op := Op.unOp UnOp.not 4 (Operand.tmp 64), type := 4, pos := s, after := #[{ on := 5, ground := Ground.data }, { on := 2, ground := Ground.guard }], guard := some (2, false) }
def b8_7 (s : String) : Oper := { dst := some 66, op := Op.pick (Operand.tmp 61) (Operand.const (Value.bool true)) (Operand.tmp 65), type := 4, pos := s, after := #[{ on := 2, ground := Ground.data }, { on := 6, ground := Ground.data }], guard := none }
def b8_8 (s : String) : Oper := { dst := some 67, op := Op.move (Operand.tmp 66), type := 4, pos := s, after := #[{ on := 7, ground := Ground.data }, { on := 5, ground := Ground.chain }], guard := none }
def b8_9 (s : String) : Oper := { dst := some 68, op := Op.load 30 (Operand.tmp 2), type := 30, pos := s, after := #[{ on := 8, ground := Ground.guard }], guard := some (8, false) }
def b8_10 (s : String) : Oper := { dst := some 69, op := Op.call { callee := Callee.value (Operand.func 10), args := #[Operand.tmp 68], argTypes := #[30] }, type := 28, pos := s, after := #[{ on := 9, ground := Ground.data }, { on := 8, ground := Ground.chain }, { on := 8, ground := Ground.guard }], guard := some (8, false) }
def b8_11 (s : String) : Oper := { dst := some 70, op := Op.load 30 (Operand.tmp 10), type := 30, pos := s, after := #[{ on := 8, ground := Ground.guard }], guard := some (8, false) }
def b8_12 (s : String) : Oper := { dst := some 71, op := Op.call { callee := Callee.value (Operand.func 10), args := #[Operand.tmp 70], argTypes := #[30] }, type := 28, pos := s, after := #[{ on := 11, ground := Ground.data }, { on := 10, ground := Ground.chain }, { on := 8, ground := Ground.guard }], guard := some (8, false) }
def b8_13 (s : String) : Oper := { dst := some 72, op := Op.call { callee := Callee.value (Operand.func 9), args := #[Operand.tmp 69, Operand.tmp 71], argTypes := #[28, 28] }, type := 4, pos := s, after := #[{ on := 10, ground := Ground.data }, { on := 12, ground := Ground.data }, { on := 12, ground := Ground.chain }, { on := 8, ground := Ground.guard }], guard := some (8, false) }
def b8_14 (s : String) : Oper := { dst := some 73, op := Op.unOp UnOp.not 4 (Operand.tmp 72), type := 4, pos := s, after := #[{ on := 13, ground := Ground.data }, { on := 8, ground := Ground.guard }], guard := some (8, false) }
def b8_15 (s : String) : Oper := { dst := some 74, op := Op.pick (Operand.tmp 67) (Operand.const (Value.bool true)) (Operand.tmp 73), type := 4, pos := s, after := #[{ on := 8, ground := Ground.data }, { on := 14, ground := Ground.data }], guard := none }
def b8_16 (s : String) : Oper := { dst := some 75, op := Op.move (Operand.tmp 74), type := 4, pos := s, after := #[{ on := 15, ground := Ground.data }, { on := 13, ground := Ground.chain }], guard := none }
def b8_17 (s : String) : Oper := { dst := some 76, op := Op.load 30 (Operand.tmp 2), type := 30, pos := s, after := #[{ on := 16, ground := Ground.guard }], guard := some (16, false) }
def b8_18 (s : String) : Oper := { dst := some 77, op := Op.call { callee := Callee.value (Operand.func 11), args := #[Operand.tmp 76], argTypes := #[30] }, type := 31, pos := s, after := #[{ on := 17, ground := Ground.data }, { on := 16, ground := Ground.chain }, { on := 16, ground := Ground.guard }], guard := some (16, false) }
def b8_19 (s : String) : Oper := { dst := some 78, op := Op.binOp BinOp.neq 31 (Operand.tmp 77) (Operand.const (Value.int IntKind.i64 0)) 31, type := 4, pos := s, after := #[{ on := 18, ground := Ground.data }, { on := 16, ground := Ground.guard }], guard := some (16, false) }
def b8_20 (s : String) : Oper := { dst := some 79, op := Op.pick (Operand.tmp 75) (Operand.const (Value.bool true)) (Operand.tmp 78), type := 4, pos := s, after := #[{ on := 16, ground := Ground.data }, { on := 19, ground := Ground.data }], guard := none }
def b8_ops (s : String) : Array Oper := #[b8_0 s, b8_1 s, b8_2 s, b8_3 s, b8_4 s, b8_5 s, b8_6 s, b8_7 s, b8_8 s, b8_9 s, b8_10 s, b8_11 s, b8_12 s, b8_13 s, b8_14 s, b8_15 s, b8_16 s, b8_17 s, b8_18 s, b8_19 s, b8_20 s]
theorem b8_enter5 (s : String) (a : Act) (w : World) : (execOp a.eval (b8_5 s)).run Tryd.prog w = .ok (.enter 8 #[a.eval (.tmp 62), a.eval (.tmp 63)]) w := by kernel_rfl
theorem b8_enter10 (s : String) (a : Act) (w : World) : (execOp a.eval (b8_10 s)).run Tryd.prog w = .ok (.enter 10 #[a.eval (.tmp 68)]) w := by kernel_rfl
theorem b8_enter12 (s : String) (a : Act) (w : World) : (execOp a.eval (b8_12 s)).run Tryd.prog w = .ok (.enter 10 #[a.eval (.tmp 70)]) w := by kernel_rfl
theorem b8_enter13 (s : String) (a : Act) (w : World) : (execOp a.eval (b8_13 s)).run Tryd.prog w = .ok (.enter 9 #[a.eval (.tmp 69), a.eval (.tmp 71)]) w := by kernel_rfl
theorem b8_enter18 (s : String) (a : Act) (w : World) : (execOp a.eval (b8_18 s)).run Tryd.prog w = .ok (.enter 11 #[a.eval (.tmp 76)]) w := by kernel_rfl
set_option maxRecDepth 20000 in
set_option maxHeartbeats 4000000 in
theorem b8_walk (s : String) {Q : Exit → Act → World → Prop} (hQ : ∀ c (a : Act) t v w, Q (.panic c) (a.put (some t) v) w → Q (.panic c) a w) (W : World) (z1 z2 : Nat) (o : ObjR) (va vp : ObjV) (hT : Two W z1 z2 o o va vp) (h8 : Tabs8 W) (tx : TxtSz o) (sz : ObjSz o) (ck : checkO o = 0) (hkl : (kidsO o).length ≤ 9223372036854775807)
    (a : Act) (hs : 79 < a.tmps.size) (e2 : a.eval (.tmp 2) = .pointer (some ⟨z1, 0, none⟩)) (e10 : a.eval (.tmp 10) = .pointer (some ⟨z2, 0, none⟩)) (e11 : a.eval (.tmp 11) = .int .i64 0)
    (h0 : ∀ v1 v2 : Value, ∀ w9 : World, Below W.heap.size W w9 → Two w9 z1 z2 o o va vp → Q .normal (((((((((((((((((((((a.put (some 59) (.int .i64 0)).put (some 60) (.bool false)).put (some 61) (.bool false)).put (some 62) (.agg (objL o va).toArray)).put (some 63) (.agg (objL o vp).toArray)).put (some 64) (.bool true)).put (some 65) (.bool false)).put (some 66) (.bool false)).put (some 67) (.bool false)).put (some 68) (.agg (objL o va).toArray)).put (some 70) (.agg (objL o vp).toArray)).put (some 69) (v1)).put (some 71) (v2)).put (some 72) (.bool true)).put (some 73) (.bool false)).put (some 74) (.bool false)).put (some 75) (.bool false)).put (some 76) (.agg (objL o va).toArray)).put (some 77) (.int .i64 0)).put (some 78) (.bool false)).put (some 79) (.bool false)) w9) :
    Code.wp Tryd.prog (.region 8 (b8_ops s) true) Q a W := by
  refine wp_region_held_drew (S := fun W' => Two W' z1 z2 o o va vp) (by kernel_rfl) (hT.below (below_d W)) (fun hS => ?_)
  change wpAnyH _ _ _ _ _ _ _ _ (World.drew _)
  refine wpAnyH_take (i := 0) (oi := b8_0 s) (v := .int .i64 0) (by kernel_rfl) (by kernel_rfl) (by kernel_rfl) (by kernel_rfl) (fun c a w h => hQ c _ _ _ w h) (Or.inl ⟨wanted_none rfl, fun w hw => by simp only [execOp, b8_0, e11]; rfl⟩) hS ?_
  change wpAnyH _ _ _ _ _ _ _ (a.put (some 59) (.int .i64 0)) _
  obtain ⟨a0_1, ha1⟩ : ∃ rr : Act, rr = a.put (some 59) (.int .i64 0) := ⟨_, rfl⟩
  have qz1 : 79 < a0_1.tmps.size := by rw [ha1, sz_put]; exact hs
  have f1_2 : a0_1.eval (.tmp 2) = .pointer (some ⟨z1, 0, none⟩) := by rw [ha1, ev_other _ _ _ _ (by decide)]; exact e2
  have f1_10 : a0_1.eval (.tmp 10) = .pointer (some ⟨z2, 0, none⟩) := by rw [ha1, ev_other _ _ _ _ (by decide)]; exact e10
  have f1_59 : a0_1.eval (.tmp 59) = .int .i64 0 := by rw [ha1]; exact ev_same _ _ _ (Nat.lt_of_le_of_lt (by decide) hs)
  rw [← ha1] at h0 ⊢
  clear ha1
  refine wpAnyH_take (i := 1) (oi := b8_1 s) (v := .bool false) (by kernel_rfl) (by kernel_rfl) (by kernel_rfl) (by kernel_rfl) (fun c a w h => hQ c _ _ _ w h) (Or.inl ⟨wanted_none rfl, fun w hw => run_neq0 rfl Tryd.underlying31 f1_59 rfl w⟩) hS ?_
  change wpAnyH _ _ _ _ _ _ _ (a0_1.put (some 60) (.bool false)) _
  obtain ⟨a0_2, ha2⟩ : ∃ rr : Act, rr = a0_1.put (some 60) (.bool false) := ⟨_, rfl⟩
  have qz2 : 79 < a0_2.tmps.size := by rw [ha2, sz_put]; exact qz1
  have f2_2 : a0_2.eval (.tmp 2) = .pointer (some ⟨z1, 0, none⟩) := by rw [ha2, ev_other _ _ _ _ (by decide)]; exact f1_2
  have f2_10 : a0_2.eval (.tmp 10) = .pointer (some ⟨z2, 0, none⟩) := by rw [ha2, ev_other _ _ _ _ (by decide)]; exact f1_10
  have f2_60 : a0_2.eval (.tmp 60) = .bool false := by rw [ha2]; exact ev_same _ _ _ (Nat.lt_of_le_of_lt (by decide) qz1)
  rw [← ha2] at h0 ⊢
  clear ha2
  refine wpAnyH_take (i := 2) (oi := b8_2 s) (v := .bool false) (by kernel_rfl) (by kernel_rfl) (by kernel_rfl) (by kernel_rfl) (fun c a w h => hQ c _ _ _ w h) (Or.inl ⟨wanted_none rfl, fun w hw => by simp only [execOp, b8_2, f2_60]; rfl⟩) hS ?_
  change wpAnyH _ _ _ _ _ _ _ (a0_2.put (some 61) (.bool false)) _
  obtain ⟨a0_3, ha3⟩ : ∃ rr : Act, rr = a0_2.put (some 61) (.bool false) := ⟨_, rfl⟩
  have qz3 : 79 < a0_3.tmps.size := by rw [ha3, sz_put]; exact qz2
  have f3_2 : a0_3.eval (.tmp 2) = .pointer (some ⟨z1, 0, none⟩) := by rw [ha3, ev_other _ _ _ _ (by decide)]; exact f2_2
  have f3_10 : a0_3.eval (.tmp 10) = .pointer (some ⟨z2, 0, none⟩) := by rw [ha3, ev_other _ _ _ _ (by decide)]; exact f2_10
  have f3_61 : a0_3.eval (.tmp 61) = .bool false := by rw [ha3]; exact ev_same _ _ _ (Nat.lt_of_le_of_lt (by decide) qz2)
  rw [← ha3] at h0 ⊢
  clear ha3
  refine wpAnyH_take (i := 3) (oi := b8_3 s) (v := .agg (objL o va).toArray) (by kernel_rfl) (by kernel_rfl) (by kernel_rfl) (by kernel_rfl) (fun c a w h => hQ c _ _ _ w h) (Or.inl ⟨wanted_some rfl (by kernel_rfl) f3_61 (Nat.lt_of_le_of_lt (by decide) qz3), fun w hw => run_load rfl f3_2 (loadAt_obj hw.A (objL_size o va hw.RA.ok.t))⟩) hS ?_
  change wpAnyH _ _ _ _ _ _ _ (a0_3.put (some 62) (.agg (objL o va).toArray)) _
  obtain ⟨a0_4, ha4⟩ : ∃ rr : Act, rr = a0_3.put (some 62) (.agg (objL o va).toArray) := ⟨_, rfl⟩
  have qz4 : 79 < a0_4.tmps.size := by rw [ha4, sz_put]; exact qz3
  have f4_2 : a0_4.eval (.tmp 2) = .pointer (some ⟨z1, 0, none⟩) := by rw [ha4, ev_other _ _ _ _ (by decide)]; exact f3_2
  have f4_10 : a0_4.eval (.tmp 10) = .pointer (some ⟨z2, 0, none⟩) := by rw [ha4, ev_other _ _ _ _ (by decide)]; exact f3_10
  have f4_61 : a0_4.eval (.tmp 61) = .bool false := by rw [ha4, ev_other _ _ _ _ (by decide)]; exact f3_61
  have f4_62 : a0_4.eval (.tmp 62) = .agg (objL o va).toArray := by rw [ha4]; exact ev_same _ _ _ (Nat.lt_of_le_of_lt (by decide) qz3)
  rw [← ha4] at h0 ⊢
  clear ha4
  refine wpAnyH_take (i := 4) (oi := b8_4 s) (v := .agg (objL o vp).toArray) (by kernel_rfl) (by kernel_rfl) (by kernel_rfl) (by kernel_rfl) (fun c a w h => hQ c _ _ _ w h) (Or.inl ⟨wanted_some rfl (by kernel_rfl) f4_61 (Nat.lt_of_le_of_lt (by decide) qz4), fun w hw => run_load rfl f4_10 (loadAt_obj hw.B (objL_size o vp hw.RB.ok.t))⟩) hS ?_
  change wpAnyH _ _ _ _ _ _ _ (a0_4.put (some 63) (.agg (objL o vp).toArray)) _
  obtain ⟨a0_5, ha5⟩ : ∃ rr : Act, rr = a0_4.put (some 63) (.agg (objL o vp).toArray) := ⟨_, rfl⟩
  have qz5 : 79 < a0_5.tmps.size := by rw [ha5, sz_put]; exact qz4
  have f5_2 : a0_5.eval (.tmp 2) = .pointer (some ⟨z1, 0, none⟩) := by rw [ha5, ev_other _ _ _ _ (by decide)]; exact f4_2
  have f5_10 : a0_5.eval (.tmp 10) = .pointer (some ⟨z2, 0, none⟩) := by rw [ha5, ev_other _ _ _ _ (by decide)]; exact f4_10
  have f5_61 : a0_5.eval (.tmp 61) = .bool false := by rw [ha5, ev_other _ _ _ _ (by decide)]; exact f4_61
  have f5_62 : a0_5.eval (.tmp 62) = .agg (objL o va).toArray := by rw [ha5, ev_other _ _ _ _ (by decide)]; exact f4_62
  have f5_63 : a0_5.eval (.tmp 63) = .agg (objL o vp).toArray := by rw [ha5]; exact ev_same _ _ _ (Nat.lt_of_le_of_lt (by decide) qz4)
  rw [← ha5] at h0 ⊢
  clear ha5
  refine wpAnyH_ready (rs := [5]) (by kernel_rfl) (by simp) ?_
  refine AllReadyH.cons (o := b8_5 s) (by kernel_rfl) (fun KQ hKQ => ?_) AllReadyH.nil
  rw [if_pos (wanted_some rfl (by kernel_rfl) f5_61 (Nat.lt_of_le_of_lt (by decide) qz5))]
  refine step_enterE 8 #[.agg (objL o va).toArray, .agg (objL o vp).toArray] (by rw [b8_enter5, f5_62, f5_63]) (fun V w' => V = .bool true ∧ Below (W.drew).heap.size (W.drew) w') ((rsame_any W.drew o o va vp hS.RA hS.RB).mono (fun e w' h => ⟨_, h.1, by rw [sameO_self], h.2⟩)) ?_
  rintro _ w1 ⟨rfl, hb1⟩
  have hT1 := hS.below hb1
  have hW1 := (below_d W).trans hb1
  refine hKQ.out _ _ (hT1) (fun _ => ?_)
  clear hKQ KQ
  change wpAnyH _ _ _ _ _ _ _ (a0_5.put (some 64) (.bool true)) _
  obtain ⟨a0_6, ha6⟩ : ∃ rr : Act, rr = a0_5.put (some 64) (.bool true) := ⟨_, rfl⟩
  have qz6 : 79 < a0_6.tmps.size := by rw [ha6, sz_put]; exact qz5
  have f6_2 : a0_6.eval (.tmp 2) = .pointer (some ⟨z1, 0, none⟩) := by rw [ha6, ev_other _ _ _ _ (by decide)]; exact f5_2
  have f6_10 : a0_6.eval (.tmp 10) = .pointer (some ⟨z2, 0, none⟩) := by rw [ha6, ev_other _ _ _ _ (by decide)]; exact f5_10
  have f6_61 : a0_6.eval (.tmp 61) = .bool false := by rw [ha6, ev_other _ _ _ _ (by decide)]; exact f5_61
  have f6_64 : a0_6.eval (.tmp 64) = .bool true := by rw [ha6]; exact ev_same _ _ _ (Nat.lt_of_le_of_lt (by decide) qz5)
  rw [← ha6] at h0 ⊢
  clear ha6
  refine wpAnyH_take (i := 6) (oi := b8_6 s) (v := .bool false) (by kernel_rfl) (by kernel_rfl) (by kernel_rfl) (by kernel_rfl) (fun c a w h => hQ c _ _ _ w h) (Or.inl ⟨wanted_some rfl (by kernel_rfl) f6_61 (Nat.lt_of_le_of_lt (by decide) qz6), fun w hw => by simp only [execOp, b8_6, f6_64]; rfl⟩) hT1 ?_
  change wpAnyH _ _ _ _ _ _ _ (a0_6.put (some 65) (.bool false)) _
  obtain ⟨a0_7, ha7⟩ : ∃ rr : Act, rr = a0_6.put (some 65) (.bool false) := ⟨_, rfl⟩
  have qz7 : 79 < a0_7.tmps.size := by rw [ha7, sz_put]; exact qz6
  have f7_2 : a0_7.eval (.tmp 2) = .pointer (some ⟨z1, 0, none⟩) := by rw [ha7, ev_other _ _ _ _ (by decide)]; exact f6_2
  have f7_10 : a0_7.eval (.tmp 10) = .pointer (some ⟨z2, 0, none⟩) := by rw [ha7, ev_other _ _ _ _ (by decide)]; exact f6_10
  have f7_61 : a0_7.eval (.tmp 61) = .bool false := by rw [ha7, ev_other _ _ _ _ (by decide)]; exact f6_61
  have f7_65 : a0_7.eval (.tmp 65) = .bool false := by rw [ha7]; exact ev_same _ _ _ (Nat.lt_of_le_of_lt (by decide) qz6)
  rw [← ha7] at h0 ⊢
  clear ha7
  refine wpAnyH_take (i := 7) (oi := b8_7 s) (v := .bool false) (by kernel_rfl) (by kernel_rfl) (by kernel_rfl) (by kernel_rfl) (fun c a w h => hQ c _ _ _ w h) (Or.inl ⟨wanted_none rfl, fun w hw => by simp only [execOp, b8_7, f7_61, f7_65]; rfl⟩) hT1 ?_
  change wpAnyH _ _ _ _ _ _ _ (a0_7.put (some 66) (.bool false)) _
  obtain ⟨a0_8, ha8⟩ : ∃ rr : Act, rr = a0_7.put (some 66) (.bool false) := ⟨_, rfl⟩
  have qz8 : 79 < a0_8.tmps.size := by rw [ha8, sz_put]; exact qz7
  have f8_2 : a0_8.eval (.tmp 2) = .pointer (some ⟨z1, 0, none⟩) := by rw [ha8, ev_other _ _ _ _ (by decide)]; exact f7_2
  have f8_10 : a0_8.eval (.tmp 10) = .pointer (some ⟨z2, 0, none⟩) := by rw [ha8, ev_other _ _ _ _ (by decide)]; exact f7_10
  have f8_66 : a0_8.eval (.tmp 66) = .bool false := by rw [ha8]; exact ev_same _ _ _ (Nat.lt_of_le_of_lt (by decide) qz7)
  rw [← ha8] at h0 ⊢
  clear ha8
  refine wpAnyH_take (i := 8) (oi := b8_8 s) (v := .bool false) (by kernel_rfl) (by kernel_rfl) (by kernel_rfl) (by kernel_rfl) (fun c a w h => hQ c _ _ _ w h) (Or.inl ⟨wanted_none rfl, fun w hw => by simp only [execOp, b8_8, f8_66]; rfl⟩) hT1 ?_
  change wpAnyH _ _ _ _ _ _ _ (a0_8.put (some 67) (.bool false)) _
  obtain ⟨a0_9, ha9⟩ : ∃ rr : Act, rr = a0_8.put (some 67) (.bool false) := ⟨_, rfl⟩
  have qz9 : 79 < a0_9.tmps.size := by rw [ha9, sz_put]; exact qz8
  have f9_2 : a0_9.eval (.tmp 2) = .pointer (some ⟨z1, 0, none⟩) := by rw [ha9, ev_other _ _ _ _ (by decide)]; exact f8_2
  have f9_10 : a0_9.eval (.tmp 10) = .pointer (some ⟨z2, 0, none⟩) := by rw [ha9, ev_other _ _ _ _ (by decide)]; exact f8_10
  have f9_67 : a0_9.eval (.tmp 67) = .bool false := by rw [ha9]; exact ev_same _ _ _ (Nat.lt_of_le_of_lt (by decide) qz8)
  rw [← ha9] at h0 ⊢
  clear ha9
  refine wpAnyH_take (i := 9) (oi := b8_9 s) (v := .agg (objL o va).toArray) (by kernel_rfl) (by kernel_rfl) (by kernel_rfl) (by kernel_rfl) (fun c a w h => hQ c _ _ _ w h) (Or.inl ⟨wanted_some rfl (by kernel_rfl) f9_67 (Nat.lt_of_le_of_lt (by decide) qz9), fun w hw => run_load rfl f9_2 (loadAt_obj hw.A (objL_size o va hw.RA.ok.t))⟩) hT1 ?_
  change wpAnyH _ _ _ _ _ _ _ (a0_9.put (some 68) (.agg (objL o va).toArray)) _
  obtain ⟨a0_10, ha10⟩ : ∃ rr : Act, rr = a0_9.put (some 68) (.agg (objL o va).toArray) := ⟨_, rfl⟩
  have qz10 : 79 < a0_10.tmps.size := by rw [ha10, sz_put]; exact qz9
  have f10_2 : a0_10.eval (.tmp 2) = .pointer (some ⟨z1, 0, none⟩) := by rw [ha10, ev_other _ _ _ _ (by decide)]; exact f9_2
  have f10_10 : a0_10.eval (.tmp 10) = .pointer (some ⟨z2, 0, none⟩) := by rw [ha10, ev_other _ _ _ _ (by decide)]; exact f9_10
  have f10_67 : a0_10.eval (.tmp 67) = .bool false := by rw [ha10, ev_other _ _ _ _ (by decide)]; exact f9_67
  have f10_68 : a0_10.eval (.tmp 68) = .agg (objL o va).toArray := by rw [ha10]; exact ev_same _ _ _ (Nat.lt_of_le_of_lt (by decide) qz9)
  rw [← ha10] at h0 ⊢
  clear ha10
  refine wpAnyH_take (i := 11) (oi := b8_11 s) (v := .agg (objL o vp).toArray) (by kernel_rfl) (by kernel_rfl) (by kernel_rfl) (by kernel_rfl) (fun c a w h => hQ c _ _ _ w h) (Or.inl ⟨wanted_some rfl (by kernel_rfl) f10_67 (Nat.lt_of_le_of_lt (by decide) qz10), fun w hw => run_load rfl f10_10 (loadAt_obj hw.B (objL_size o vp hw.RB.ok.t))⟩) hT1 ?_
  change wpAnyH _ _ _ _ _ _ _ (a0_10.put (some 70) (.agg (objL o vp).toArray)) _
  obtain ⟨a0_11, ha11⟩ : ∃ rr : Act, rr = a0_10.put (some 70) (.agg (objL o vp).toArray) := ⟨_, rfl⟩
  have qz11 : 79 < a0_11.tmps.size := by rw [ha11, sz_put]; exact qz10
  have f11_2 : a0_11.eval (.tmp 2) = .pointer (some ⟨z1, 0, none⟩) := by rw [ha11, ev_other _ _ _ _ (by decide)]; exact f10_2
  have f11_67 : a0_11.eval (.tmp 67) = .bool false := by rw [ha11, ev_other _ _ _ _ (by decide)]; exact f10_67
  have f11_68 : a0_11.eval (.tmp 68) = .agg (objL o va).toArray := by rw [ha11, ev_other _ _ _ _ (by decide)]; exact f10_68
  have f11_70 : a0_11.eval (.tmp 70) = .agg (objL o vp).toArray := by rw [ha11]; exact ev_same _ _ _ (Nat.lt_of_le_of_lt (by decide) qz10)
  rw [← ha11] at h0 ⊢
  clear ha11
  refine wpAnyH_ready (rs := [10]) (by kernel_rfl) (by simp) ?_
  refine AllReadyH.cons (o := b8_10 s) (by kernel_rfl) (fun KQ hKQ => ?_) AllReadyH.nil
  rw [if_pos (wanted_some rfl (by kernel_rfl) f11_67 (Nat.lt_of_le_of_lt (by decide) qz11))]
  refine step_enterE 10 #[.agg (objL o va).toArray] (by rw [b8_enter10, f11_68]) (fun V w' => w'.ownsRow (w1).heap.size 27 32 V (kidsO o).length (flatK (kidsO o)) ∧ Below (w1).heap.size (w1) w') ((kids_any (w1) o va hT1.RA sz).mono (fun e w' h => by obtain ⟨v', h1, h2, h3⟩ := h; exact ⟨_, h1, h2, h3⟩)) ?_
  rintro v1 w2 ⟨k1, hb2⟩
  have hT2 := hT1.below hb2
  have hW2 := hW1.trans (hb2.mono hW1.size)
  refine hKQ.out _ _ (hT2) (fun _ => ?_)
  clear hKQ KQ
  change wpAnyH _ _ _ _ _ _ _ (a0_11.put (some 69) (v1)) _
  have h0 := h0 v1
  obtain ⟨a0_12, ha12⟩ : ∃ rr : Act, rr = a0_11.put (some 69) (v1) := ⟨_, rfl⟩
  have qz12 : 79 < a0_12.tmps.size := by rw [ha12, sz_put]; exact qz11
  have f12_2 : a0_12.eval (.tmp 2) = .pointer (some ⟨z1, 0, none⟩) := by rw [ha12, ev_other _ _ _ _ (by decide)]; exact f11_2
  have f12_67 : a0_12.eval (.tmp 67) = .bool false := by rw [ha12, ev_other _ _ _ _ (by decide)]; exact f11_67
  have f12_69 : a0_12.eval (.tmp 69) = v1 := by rw [ha12]; exact ev_same _ _ _ (Nat.lt_of_le_of_lt (by decide) qz11)
  have f12_70 : a0_12.eval (.tmp 70) = .agg (objL o vp).toArray := by rw [ha12, ev_other _ _ _ _ (by decide)]; exact f11_70
  rw [← ha12] at h0 ⊢
  clear ha12
  refine wpAnyH_ready (rs := [12]) (by kernel_rfl) (by simp) ?_
  refine AllReadyH.cons (o := b8_12 s) (by kernel_rfl) (fun KQ hKQ => ?_) AllReadyH.nil
  rw [if_pos (wanted_some rfl (by kernel_rfl) f12_67 (Nat.lt_of_le_of_lt (by decide) qz12))]
  refine step_enterE 10 #[.agg (objL o vp).toArray] (by rw [b8_enter12, f12_70]) (fun V w' => w'.ownsRow (w2).heap.size 27 32 V (kidsO o).length (flatK (kidsO o)) ∧ Below (w2).heap.size (w2) w') ((kids_any (w2) o vp hT2.RB sz).mono (fun e w' h => by obtain ⟨v', h1, h2, h3⟩ := h; exact ⟨_, h1, h2, h3⟩)) ?_
  rintro v2 w3 ⟨k2, hb3⟩
  have hT3 := hT2.below hb3
  have hW3 := hW2.trans (hb3.mono hW2.size)
  have kk1 := (RowR_own k1 (kidsO_ok o hS.RA.ok) hkl).below hb3
  have kk2 := RowR_own k2 (kidsO_ok o hS.RA.ok) hkl
  refine hKQ.out _ _ (hT3) (fun _ => ?_)
  clear hKQ KQ
  change wpAnyH _ _ _ _ _ _ _ (a0_12.put (some 71) (v2)) _
  have h0 := h0 v2
  obtain ⟨a0_13, ha13⟩ : ∃ rr : Act, rr = a0_12.put (some 71) (v2) := ⟨_, rfl⟩
  have qz13 : 79 < a0_13.tmps.size := by rw [ha13, sz_put]; exact qz12
  have f13_2 : a0_13.eval (.tmp 2) = .pointer (some ⟨z1, 0, none⟩) := by rw [ha13, ev_other _ _ _ _ (by decide)]; exact f12_2
  have f13_67 : a0_13.eval (.tmp 67) = .bool false := by rw [ha13, ev_other _ _ _ _ (by decide)]; exact f12_67
  have f13_69 : a0_13.eval (.tmp 69) = v1 := by rw [ha13, ev_other _ _ _ _ (by decide)]; exact f12_69
  have f13_71 : a0_13.eval (.tmp 71) = v2 := by rw [ha13]; exact ev_same _ _ _ (Nat.lt_of_le_of_lt (by decide) qz12)
  rw [← ha13] at h0 ⊢
  clear ha13
  refine wpAnyH_ready (rs := [13]) (by kernel_rfl) (by simp) ?_
  refine AllReadyH.cons (o := b8_13 s) (by kernel_rfl) (fun KQ hKQ => ?_) AllReadyH.nil
  rw [if_pos (wanted_some rfl (by kernel_rfl) f13_67 (Nat.lt_of_le_of_lt (by decide) qz13))]
  refine step_enterE 9 #[v1, v2] (by rw [b8_enter13, f13_69, f13_71]) (fun V w' => V = .bool true ∧ Below (w3).heap.size (w3) w') ((lsameKeys w3 v1 v2 (kidsO o) (kidsO o) (kidsO_ok o hT3.RA.ok) (kidsO_ok o hT3.RA.ok) kk1 kk2).mono (fun e w' h => ⟨_, h.1, by simp, h.2⟩)) ?_
  rintro _ w4 ⟨rfl, hb4⟩
  have hT4 := hT3.below hb4
  have hW4 := hW3.trans (hb4.mono hW3.size)
  refine hKQ.out _ _ (hT4) (fun _ => ?_)
  clear hKQ KQ
  change wpAnyH _ _ _ _ _ _ _ (a0_13.put (some 72) (.bool true)) _
  obtain ⟨a0_14, ha14⟩ : ∃ rr : Act, rr = a0_13.put (some 72) (.bool true) := ⟨_, rfl⟩
  have qz14 : 79 < a0_14.tmps.size := by rw [ha14, sz_put]; exact qz13
  have f14_2 : a0_14.eval (.tmp 2) = .pointer (some ⟨z1, 0, none⟩) := by rw [ha14, ev_other _ _ _ _ (by decide)]; exact f13_2
  have f14_67 : a0_14.eval (.tmp 67) = .bool false := by rw [ha14, ev_other _ _ _ _ (by decide)]; exact f13_67
  have f14_72 : a0_14.eval (.tmp 72) = .bool true := by rw [ha14]; exact ev_same _ _ _ (Nat.lt_of_le_of_lt (by decide) qz13)
  rw [← ha14] at h0 ⊢
  clear ha14
  refine wpAnyH_take (i := 14) (oi := b8_14 s) (v := .bool false) (by kernel_rfl) (by kernel_rfl) (by kernel_rfl) (by kernel_rfl) (fun c a w h => hQ c _ _ _ w h) (Or.inl ⟨wanted_some rfl (by kernel_rfl) f14_67 (Nat.lt_of_le_of_lt (by decide) qz14), fun w hw => by simp only [execOp, b8_14, f14_72]; rfl⟩) hT4 ?_
  change wpAnyH _ _ _ _ _ _ _ (a0_14.put (some 73) (.bool false)) _
  obtain ⟨a0_15, ha15⟩ : ∃ rr : Act, rr = a0_14.put (some 73) (.bool false) := ⟨_, rfl⟩
  have qz15 : 79 < a0_15.tmps.size := by rw [ha15, sz_put]; exact qz14
  have f15_2 : a0_15.eval (.tmp 2) = .pointer (some ⟨z1, 0, none⟩) := by rw [ha15, ev_other _ _ _ _ (by decide)]; exact f14_2
  have f15_67 : a0_15.eval (.tmp 67) = .bool false := by rw [ha15, ev_other _ _ _ _ (by decide)]; exact f14_67
  have f15_73 : a0_15.eval (.tmp 73) = .bool false := by rw [ha15]; exact ev_same _ _ _ (Nat.lt_of_le_of_lt (by decide) qz14)
  rw [← ha15] at h0 ⊢
  clear ha15
  refine wpAnyH_take (i := 15) (oi := b8_15 s) (v := .bool false) (by kernel_rfl) (by kernel_rfl) (by kernel_rfl) (by kernel_rfl) (fun c a w h => hQ c _ _ _ w h) (Or.inl ⟨wanted_none rfl, fun w hw => by simp only [execOp, b8_15, f15_67, f15_73]; rfl⟩) hT4 ?_
  change wpAnyH _ _ _ _ _ _ _ (a0_15.put (some 74) (.bool false)) _
  obtain ⟨a0_16, ha16⟩ : ∃ rr : Act, rr = a0_15.put (some 74) (.bool false) := ⟨_, rfl⟩
  have qz16 : 79 < a0_16.tmps.size := by rw [ha16, sz_put]; exact qz15
  have f16_2 : a0_16.eval (.tmp 2) = .pointer (some ⟨z1, 0, none⟩) := by rw [ha16, ev_other _ _ _ _ (by decide)]; exact f15_2
  have f16_74 : a0_16.eval (.tmp 74) = .bool false := by rw [ha16]; exact ev_same _ _ _ (Nat.lt_of_le_of_lt (by decide) qz15)
  rw [← ha16] at h0 ⊢
  clear ha16
  refine wpAnyH_take (i := 16) (oi := b8_16 s) (v := .bool false) (by kernel_rfl) (by kernel_rfl) (by kernel_rfl) (by kernel_rfl) (fun c a w h => hQ c _ _ _ w h) (Or.inl ⟨wanted_none rfl, fun w hw => by simp only [execOp, b8_16, f16_74]; rfl⟩) hT4 ?_
  change wpAnyH _ _ _ _ _ _ _ (a0_16.put (some 75) (.bool false)) _
  obtain ⟨a0_17, ha17⟩ : ∃ rr : Act, rr = a0_16.put (some 75) (.bool false) := ⟨_, rfl⟩
  have qz17 : 79 < a0_17.tmps.size := by rw [ha17, sz_put]; exact qz16
  have f17_2 : a0_17.eval (.tmp 2) = .pointer (some ⟨z1, 0, none⟩) := by rw [ha17, ev_other _ _ _ _ (by decide)]; exact f16_2
  have f17_75 : a0_17.eval (.tmp 75) = .bool false := by rw [ha17]; exact ev_same _ _ _ (Nat.lt_of_le_of_lt (by decide) qz16)
  rw [← ha17] at h0 ⊢
  clear ha17
  refine wpAnyH_take (i := 17) (oi := b8_17 s) (v := .agg (objL o va).toArray) (by kernel_rfl) (by kernel_rfl) (by kernel_rfl) (by kernel_rfl) (fun c a w h => hQ c _ _ _ w h) (Or.inl ⟨wanted_some rfl (by kernel_rfl) f17_75 (Nat.lt_of_le_of_lt (by decide) qz17), fun w hw => run_load rfl f17_2 (loadAt_obj hw.A (objL_size o va hw.RA.ok.t))⟩) hT4 ?_
  change wpAnyH _ _ _ _ _ _ _ (a0_17.put (some 76) (.agg (objL o va).toArray)) _
  obtain ⟨a0_18, ha18⟩ : ∃ rr : Act, rr = a0_17.put (some 76) (.agg (objL o va).toArray) := ⟨_, rfl⟩
  have qz18 : 79 < a0_18.tmps.size := by rw [ha18, sz_put]; exact qz17
  have f18_75 : a0_18.eval (.tmp 75) = .bool false := by rw [ha18, ev_other _ _ _ _ (by decide)]; exact f17_75
  have f18_76 : a0_18.eval (.tmp 76) = .agg (objL o va).toArray := by rw [ha18]; exact ev_same _ _ _ (Nat.lt_of_le_of_lt (by decide) qz17)
  rw [← ha18] at h0 ⊢
  clear ha18
  refine wpAnyH_ready (rs := [18]) (by kernel_rfl) (by simp) ?_
  refine AllReadyH.cons (o := b8_18 s) (by kernel_rfl) (fun KQ hKQ => ?_) AllReadyH.nil
  rw [if_pos (wanted_some rfl (by kernel_rfl) f18_75 (Nat.lt_of_le_of_lt (by decide) qz18))]
  refine step_enterE 11 #[.agg (objL o va).toArray] (by rw [b8_enter18, f18_76]) (fun V w' => V = .int .i64 0 ∧ Below (w4).heap.size (w4) w') ((check_any w4 (h8.below hW4) o va hT4.RA tx).mono (fun e w' h => ⟨_, h.1, by rw [ck], h.2⟩)) ?_
  rintro _ w5 ⟨rfl, hb5⟩
  have hT5 := hT4.below hb5
  have hW5 := hW4.trans (hb5.mono hW4.size)
  refine hKQ.out _ _ (hT5) (fun _ => ?_)
  clear hKQ KQ
  change wpAnyH _ _ _ _ _ _ _ (a0_18.put (some 77) (.int .i64 0)) _
  have h0 := h0 w5 hW5 hT5
  obtain ⟨a0_19, ha19⟩ : ∃ rr : Act, rr = a0_18.put (some 77) (.int .i64 0) := ⟨_, rfl⟩
  have qz19 : 79 < a0_19.tmps.size := by rw [ha19, sz_put]; exact qz18
  have f19_75 : a0_19.eval (.tmp 75) = .bool false := by rw [ha19, ev_other _ _ _ _ (by decide)]; exact f18_75
  have f19_77 : a0_19.eval (.tmp 77) = .int .i64 0 := by rw [ha19]; exact ev_same _ _ _ (Nat.lt_of_le_of_lt (by decide) qz18)
  rw [← ha19] at h0 ⊢
  clear ha19
  refine wpAnyH_take (i := 19) (oi := b8_19 s) (v := .bool false) (by kernel_rfl) (by kernel_rfl) (by kernel_rfl) (by kernel_rfl) (fun c a w h => hQ c _ _ _ w h) (Or.inl ⟨wanted_some rfl (by kernel_rfl) f19_75 (Nat.lt_of_le_of_lt (by decide) qz19), fun w hw => run_neq0 rfl Tryd.underlying31 f19_77 rfl w⟩) hT5 ?_
  change wpAnyH _ _ _ _ _ _ _ (a0_19.put (some 78) (.bool false)) _
  obtain ⟨a0_20, ha20⟩ : ∃ rr : Act, rr = a0_19.put (some 78) (.bool false) := ⟨_, rfl⟩
  have qz20 : 79 < a0_20.tmps.size := by rw [ha20, sz_put]; exact qz19
  have f20_75 : a0_20.eval (.tmp 75) = .bool false := by rw [ha20, ev_other _ _ _ _ (by decide)]; exact f19_75
  have f20_78 : a0_20.eval (.tmp 78) = .bool false := by rw [ha20]; exact ev_same _ _ _ (Nat.lt_of_le_of_lt (by decide) qz19)
  rw [← ha20] at h0 ⊢
  clear ha20
  refine wpAnyH_take (i := 20) (oi := b8_20 s) (v := .bool false) (by kernel_rfl) (by kernel_rfl) (by kernel_rfl) (by kernel_rfl) (fun c a w h => hQ c _ _ _ w h) (Or.inl ⟨wanted_none rfl, fun w hw => by simp only [execOp, b8_20, f20_75, f20_78]; rfl⟩) hT5 ?_
  change wpAnyH _ _ _ _ _ _ _ (a0_20.put (some 79) (.bool false)) _
  obtain ⟨a0_21, ha21⟩ : ∃ rr : Act, rr = a0_20.put (some 79) (.bool false) := ⟨_, rfl⟩
  have qz21 : 79 < a0_21.tmps.size := by rw [ha21, sz_put]; exact qz20
  rw [← ha21] at h0 ⊢
  clear ha21
  refine wpAnyH_done (by kernel_rfl) ?_ _
  exact h0
def b11_0 (s : String) : Oper := { dst := some 85, op := Op.move (Operand.tmp 13), type := 31, pos := s, after := #[], guard := none }
def b11_1 (s : String) : Oper := { dst := some 86, op := Op.binOp BinOp.neq 31 (Operand.tmp 85) (Operand.const (Value.int IntKind.i64 0)) 31, type := 4, pos := s, after := #[{ on := 0, ground := Ground.data }], guard := none }
def b11_2 (s : String) : Oper := { dst := some 87, op := Op.move (Operand.tmp 86), type := 4, pos := s, after := #[{ on := 1, ground := Ground.data }], guard := none }
def b11_3 (s : String) : Oper := { dst := some 88, op := Op.load 27 (Operand.tmp 12), type := 27, pos := s, after := #[{ on := 2, ground := Ground.guard }], guard := some (2, false) }
def b11_4 (s : String) : Oper := { dst := some 89, op := Op.move (Operand.tmp 9), type := 23, pos := s, after := #[{ on := 2, ground := Ground.guard }], guard := some (2, false) }
def b11_5 (s : String) : Oper := { dst := some 90, op := Op.call { callee := Callee.value (Operand.func 13), args := #[Operand.tmp 89], argTypes := #[23] }, type := 27, pos := s, after := #[{ on := 4, ground := Ground.data }, { on := 2, ground := Ground.chain }, { on := 2, ground := Ground.guard }], guard := some (2, false) }
def b11_6 (s : String) : Oper := { dst := some 91, op := Op.binOp BinOp.neq 27 (Operand.tmp 88) (Operand.tmp 90) 27, type := 4, pos := s, after := #[{ on := 3, ground := Ground.data }, { on := 5, ground := Ground.data }, { on := 2, ground := Ground.guard }], guard := some (2, false) }
def b11_7 (s : String) : Oper := { dst := some 92, op := Op.pick (Operand.tmp 87) (Operand.const (Value.bool true)) (Operand.tmp 91), type := 4, pos := s, after := #[{ on := 2, ground := Ground.data }, { on := 6, ground := Ground.data }], guard := none }
def b11_ops (s : String) : Array Oper := #[b11_0 s, b11_1 s, b11_2 s, b11_3 s, b11_4 s, b11_5 s, b11_6 s, b11_7 s]
theorem b11_enter5 (s : String) (a : Act) (w : World) : (execOp a.eval (b11_5 s)).run Tryd.prog w = .ok (.enter 13 #[a.eval (.tmp 89)]) w := by kernel_rfl
set_option maxRecDepth 20000 in
set_option maxHeartbeats 4000000 in
theorem b11_walk (s : String) {Q : Exit → Act → World → Prop} (hQ : ∀ c (a : Act) t v w, Q (.panic c) (a.put (some t) v) w → Q (.panic c) a w) (W : World) (z : Nat) (kb xs : List UInt8) (v9 : Value) (hz : Blk W z (kb.map u8c).toArray 27) (hr : RdA W v9 xs) (hT : Tabs W) (kl : kb.length = 32) (hk : kb = shaOf xs) (hl : xs.length ≤ 140737488354000)
    (a : Act) (hs : 92 < a.tmps.size) (e9 : a.eval (.tmp 9) = v9) (e12 : a.eval (.tmp 12) = .pointer (some ⟨z, 0, none⟩)) (e13 : a.eval (.tmp 13) = .int .i64 0)
    (h0 : ∀ w9 : World, Below W.heap.size W w9 → Q .normal ((((((((a.put (some 85) (.int .i64 0)).put (some 86) (.bool false)).put (some 87) (.bool false)).put (some 88) (keyV kb)).put (some 89) (v9)).put (some 90) (keyV kb)).put (some 91) (.bool false)).put (some 92) (.bool false)) w9) :
    Code.wp Tryd.prog (.region 11 (b11_ops s) true) Q a W := by
  refine wp_region_held_drew (S := fun W' => Blk W' z (kb.map u8c).toArray 27 ∧ RdA W' v9 xs) (by kernel_rfl) ⟨hz, hr.below (below_d W)⟩ (fun hS => ?_)
  change wpAnyH _ _ _ _ _ _ _ _ (World.drew _)
  refine wpAnyH_take (i := 0) (oi := b11_0 s) (v := .int .i64 0) (by kernel_rfl) (by kernel_rfl) (by kernel_rfl) (by kernel_rfl) (fun c a w h => hQ c _ _ _ w h) (Or.inl ⟨wanted_none rfl, fun w hw => by simp only [execOp, b11_0, e13]; rfl⟩) hS ?_
  change wpAnyH _ _ _ _ _ _ _ (a.put (some 85) (.int .i64 0)) _
  obtain ⟨a0_1, ha1⟩ : ∃ rr : Act, rr = a.put (some 85) (.int .i64 0) := ⟨_, rfl⟩
  have qz1 : 92 < a0_1.tmps.size := by rw [ha1, sz_put]; exact hs
  have f1_9 : a0_1.eval (.tmp 9) = v9 := by rw [ha1, ev_other _ _ _ _ (by decide)]; exact e9
  have f1_12 : a0_1.eval (.tmp 12) = .pointer (some ⟨z, 0, none⟩) := by rw [ha1, ev_other _ _ _ _ (by decide)]; exact e12
  have f1_85 : a0_1.eval (.tmp 85) = .int .i64 0 := by rw [ha1]; exact ev_same _ _ _ (Nat.lt_of_le_of_lt (by decide) hs)
  rw [← ha1] at h0 ⊢
  clear ha1
  refine wpAnyH_take (i := 1) (oi := b11_1 s) (v := .bool false) (by kernel_rfl) (by kernel_rfl) (by kernel_rfl) (by kernel_rfl) (fun c a w h => hQ c _ _ _ w h) (Or.inl ⟨wanted_none rfl, fun w hw => run_neq0 rfl Tryd.underlying31 f1_85 rfl w⟩) hS ?_
  change wpAnyH _ _ _ _ _ _ _ (a0_1.put (some 86) (.bool false)) _
  obtain ⟨a0_2, ha2⟩ : ∃ rr : Act, rr = a0_1.put (some 86) (.bool false) := ⟨_, rfl⟩
  have qz2 : 92 < a0_2.tmps.size := by rw [ha2, sz_put]; exact qz1
  have f2_9 : a0_2.eval (.tmp 9) = v9 := by rw [ha2, ev_other _ _ _ _ (by decide)]; exact f1_9
  have f2_12 : a0_2.eval (.tmp 12) = .pointer (some ⟨z, 0, none⟩) := by rw [ha2, ev_other _ _ _ _ (by decide)]; exact f1_12
  have f2_86 : a0_2.eval (.tmp 86) = .bool false := by rw [ha2]; exact ev_same _ _ _ (Nat.lt_of_le_of_lt (by decide) qz1)
  rw [← ha2] at h0 ⊢
  clear ha2
  refine wpAnyH_take (i := 2) (oi := b11_2 s) (v := .bool false) (by kernel_rfl) (by kernel_rfl) (by kernel_rfl) (by kernel_rfl) (fun c a w h => hQ c _ _ _ w h) (Or.inl ⟨wanted_none rfl, fun w hw => by simp only [execOp, b11_2, f2_86]; rfl⟩) hS ?_
  change wpAnyH _ _ _ _ _ _ _ (a0_2.put (some 87) (.bool false)) _
  obtain ⟨a0_3, ha3⟩ : ∃ rr : Act, rr = a0_2.put (some 87) (.bool false) := ⟨_, rfl⟩
  have qz3 : 92 < a0_3.tmps.size := by rw [ha3, sz_put]; exact qz2
  have f3_9 : a0_3.eval (.tmp 9) = v9 := by rw [ha3, ev_other _ _ _ _ (by decide)]; exact f2_9
  have f3_12 : a0_3.eval (.tmp 12) = .pointer (some ⟨z, 0, none⟩) := by rw [ha3, ev_other _ _ _ _ (by decide)]; exact f2_12
  have f3_87 : a0_3.eval (.tmp 87) = .bool false := by rw [ha3]; exact ev_same _ _ _ (Nat.lt_of_le_of_lt (by decide) qz2)
  rw [← ha3] at h0 ⊢
  clear ha3
  refine wpAnyH_take (i := 3) (oi := b11_3 s) (v := keyV kb) (by kernel_rfl) (by kernel_rfl) (by kernel_rfl) (by kernel_rfl) (fun c a w h => hQ c _ _ _ w h) (Or.inl ⟨wanted_some rfl (by kernel_rfl) f3_87 (Nat.lt_of_le_of_lt (by decide) qz3), fun w hw => run_load rfl f3_12 (loadAt_blk hw.1 27 _ Tryd.underlying27 rfl 32 infoKey (by simp [kl]))⟩) hS ?_
  change wpAnyH _ _ _ _ _ _ _ (a0_3.put (some 88) (keyV kb)) _
  obtain ⟨a0_4, ha4⟩ : ∃ rr : Act, rr = a0_3.put (some 88) (keyV kb) := ⟨_, rfl⟩
  have qz4 : 92 < a0_4.tmps.size := by rw [ha4, sz_put]; exact qz3
  have f4_9 : a0_4.eval (.tmp 9) = v9 := by rw [ha4, ev_other _ _ _ _ (by decide)]; exact f3_9
  have f4_87 : a0_4.eval (.tmp 87) = .bool false := by rw [ha4, ev_other _ _ _ _ (by decide)]; exact f3_87
  have f4_88 : a0_4.eval (.tmp 88) = keyV kb := by rw [ha4]; exact ev_same _ _ _ (Nat.lt_of_le_of_lt (by decide) qz3)
  rw [← ha4] at h0 ⊢
  clear ha4
  refine wpAnyH_take (i := 4) (oi := b11_4 s) (v := v9) (by kernel_rfl) (by kernel_rfl) (by kernel_rfl) (by kernel_rfl) (fun c a w h => hQ c _ _ _ w h) (Or.inl ⟨wanted_some rfl (by kernel_rfl) f4_87 (Nat.lt_of_le_of_lt (by decide) qz4), fun w hw => by simp only [execOp, b11_4, f4_9]; rfl⟩) hS ?_
  change wpAnyH _ _ _ _ _ _ _ (a0_4.put (some 89) (v9)) _
  obtain ⟨a0_5, ha5⟩ : ∃ rr : Act, rr = a0_4.put (some 89) (v9) := ⟨_, rfl⟩
  have qz5 : 92 < a0_5.tmps.size := by rw [ha5, sz_put]; exact qz4
  have f5_87 : a0_5.eval (.tmp 87) = .bool false := by rw [ha5, ev_other _ _ _ _ (by decide)]; exact f4_87
  have f5_88 : a0_5.eval (.tmp 88) = keyV kb := by rw [ha5, ev_other _ _ _ _ (by decide)]; exact f4_88
  have f5_89 : a0_5.eval (.tmp 89) = v9 := by rw [ha5]; exact ev_same _ _ _ (Nat.lt_of_le_of_lt (by decide) qz4)
  rw [← ha5] at h0 ⊢
  clear ha5
  refine wpAnyH_ready (rs := [5]) (by kernel_rfl) (by simp) ?_
  refine AllReadyH.cons (o := b11_5 s) (by kernel_rfl) (fun KQ hKQ => ?_) AllReadyH.nil
  rw [if_pos (wanted_some rfl (by kernel_rfl) f5_87 (Nat.lt_of_le_of_lt (by decide) qz5))]
  refine step_enterE 13 #[v9] (by rw [b11_enter5, f5_89]) (fun V w' => V = keyV kb ∧ Below (W.drew).heap.size (W.drew) w') ((rsum_any W.drew (hT.below (below_d W)) v9 xs hS.2 hl).mono (fun e w' h => ⟨_, h.1, by rw [hk], h.2⟩)) ?_
  rintro _ w1 ⟨rfl, hb1⟩
  have hS1 : Blk w1 z (kb.map u8c).toArray 27 ∧ RdA w1 v9 xs := ⟨Blk.below hS.1 hb1 (Blk.lt hS.1), hS.2.below hb1⟩
  have hW1 := (below_d W).trans hb1
  refine hKQ.out _ _ (hS1) (fun _ => ?_)
  clear hKQ KQ
  change wpAnyH _ _ _ _ _ _ _ (a0_5.put (some 90) (keyV kb)) _
  have h0 := h0 w1 hW1
  obtain ⟨a0_6, ha6⟩ : ∃ rr : Act, rr = a0_5.put (some 90) (keyV kb) := ⟨_, rfl⟩
  have qz6 : 92 < a0_6.tmps.size := by rw [ha6, sz_put]; exact qz5
  have f6_87 : a0_6.eval (.tmp 87) = .bool false := by rw [ha6, ev_other _ _ _ _ (by decide)]; exact f5_87
  have f6_88 : a0_6.eval (.tmp 88) = keyV kb := by rw [ha6, ev_other _ _ _ _ (by decide)]; exact f5_88
  have f6_90 : a0_6.eval (.tmp 90) = keyV kb := by rw [ha6]; exact ev_same _ _ _ (Nat.lt_of_le_of_lt (by decide) qz5)
  rw [← ha6] at h0 ⊢
  clear ha6
  refine wpAnyH_take (i := 6) (oi := b11_6 s) (v := .bool false) (by kernel_rfl) (by kernel_rfl) (by kernel_rfl) (by kernel_rfl) (fun c a w h => hQ c _ _ _ w h) (Or.inl ⟨wanted_some rfl (by kernel_rfl) f6_87 (Nat.lt_of_le_of_lt (by decide) qz6), fun w hw => run_neqKey rfl f6_88 f6_90 kl w⟩) hS1 ?_
  change wpAnyH _ _ _ _ _ _ _ (a0_6.put (some 91) (.bool false)) _
  obtain ⟨a0_7, ha7⟩ : ∃ rr : Act, rr = a0_6.put (some 91) (.bool false) := ⟨_, rfl⟩
  have qz7 : 92 < a0_7.tmps.size := by rw [ha7, sz_put]; exact qz6
  have f7_87 : a0_7.eval (.tmp 87) = .bool false := by rw [ha7, ev_other _ _ _ _ (by decide)]; exact f6_87
  have f7_91 : a0_7.eval (.tmp 91) = .bool false := by rw [ha7]; exact ev_same _ _ _ (Nat.lt_of_le_of_lt (by decide) qz6)
  rw [← ha7] at h0 ⊢
  clear ha7
  refine wpAnyH_take (i := 7) (oi := b11_7 s) (v := .bool false) (by kernel_rfl) (by kernel_rfl) (by kernel_rfl) (by kernel_rfl) (fun c a w h => hQ c _ _ _ w h) (Or.inl ⟨wanted_none rfl, fun w hw => by simp only [execOp, b11_7, f7_87, f7_91]; rfl⟩) hS1 ?_
  change wpAnyH _ _ _ _ _ _ _ (a0_7.put (some 92) (.bool false)) _
  obtain ⟨a0_8, ha8⟩ : ∃ rr : Act, rr = a0_7.put (some 92) (.bool false) := ⟨_, rfl⟩
  have qz8 : 92 < a0_8.tmps.size := by rw [ha8, sz_put]; exact qz7
  rw [← ha8] at h0 ⊢
  clear ha8
  refine wpAnyH_done (by kernel_rfl) ?_ _
  exact h0
end Go.Proofs.YtjcfndiceinkjabDoor
