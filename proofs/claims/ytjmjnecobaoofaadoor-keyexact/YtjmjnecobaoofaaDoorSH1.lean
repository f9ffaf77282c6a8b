/- take: a full block. -/
import Derived.Test.YtjmjnecobaoofaaDoorSH0
namespace Go.Proofs.YtjmjnecobaoofaaDoor
set_option linter.unusedVariables false
set_option linter.unusedSimpArgs false
open Go.RowKit

def st8 (s : S8) : List Value := [.int .u32 s.a, .int .u32 s.b, .int .u32 s.c, .int .u32 s.d, .int .u32 s.e, .int .u32 s.f, .int .u32 s.g, .int .u32 s.h]
theorem st8_one (s : S8) : ∀ v ∈ st8 s, v.oneCell' = true := by
  intro v hv
  simp only [st8, List.mem_cons, List.not_mem_nil, or_false] at hv
  rcases hv with rfl | rfl | rfl | rfl | rfl | rfl | rfl | rfl <;> rfl
theorem run_nilCheck {op : Oper} {ev : Operand → Value} {x : Operand} {b : Nat} {o : Nat} (ho : op.op = .nilCheck x) (hx : ev x = .pointer (some ⟨b, o, none⟩)) (w : World) : (execOp ev op).run Tryd.prog w = .ok (.value (.pointer (some ⟨b, o, none⟩))) w := by
  simp only [execOp, ho, hx]
  kernel_rfl
theorem run_field0 {op : Oper} {ev : Operand → Value} {x : Operand} {b : Nat} {o : Nat} (ho : op.op = .fieldAddr 59 x 0) (hx : ev x = .pointer (some ⟨b, o, none⟩)) (w : World) : (execOp ev op).run Tryd.prog w = .ok (.value (.pointer (some ⟨b, o, none⟩))) w := by
  simp only [execOp, ho, hx]
  kernel_rfl
theorem run_storeS {op : Oper} {r : S8} {ev : Operand → Value} {x y : Operand} {z : Nat} {w : World} {t : TypeId} {pre post s : List Value} {g : Bool} {W : List UInt8} {n : Nat} (ho : op.op = .store 56 x y) (hx : ev x = .pointer (some ⟨z, pre.length, none⟩)) (hy : ev y = .agg (st8 r).toArray) (hH : HB w z t pre post s g W n) : (execOp ev op).run Tryd.prog w = .ok .skip (w.setCells z pre.length (st8 r)) := by
  have ht : w.there z pre.length (st8 r).toArray.size := there_mid hH.blk _ _ (by rw [List.length_append, List.length_append, HB.len hH.sl hH.wl]; show pre.length + 8 ≤ _; omega)
  have := run_storeAt_mid (P := Tryd.prog) w z pre.length 56 (st8 r).toArray ht infoS8 (all_oneCell_toArray (st8_one r))
  simp only [execOp, ho, hx, hy, Sem.run_bind, this, Result.andThen_ok, Sem.run_pure]
def k3_0 (s : String) : Oper := { dst := some 16, op := Op.move (Operand.tmp 0), type := 67, pos := s, after := #[], guard := none }
def k3_1 (s : String) : Oper := { dst := some 17, op := Op.move (Operand.tmp 0), type := 67, pos := s, after := #[], guard := none }
def k3_2 (s : String) : Oper := { dst := some 18, op := Op.nilCheck (Operand.tmp 17), type := 0, pos := s, after := #[{ on := 1, ground := Ground.data }], guard := none }
def k3_3 (s : String) : Oper := { dst := some 19, op := Op.fieldAddr 59 (Operand.tmp 18) 0, type := 0, pos := s, after := #[{ on := 2, ground := Ground.data }], guard := none }
def k3_4 (s : String) : Oper := { dst := some 20, op := Op.load 56 (Operand.tmp 19), type := 56, pos := s, after := #[{ on := 3, ground := Ground.data }], guard := none }
def k3_5 (s : String) : Oper := { dst := some 21, op := Op.load 42 (Operand.tmp 3), type := 42, pos := s, after := #[], guard := none }
def k3_6 (s : String) : Oper := { dst := some 22, op := Op.call { callee := Callee.value (Operand.func 43), args := #[Operand.tmp 20, Operand.tmp 21], argTypes := #[56, 42] }, type := 56, pos := s, after := #[{ on := 4, ground := Ground.data }, { on := 5, ground := Ground.data }], guard := none }
def k3_7 (s : String) : Oper := { dst := some 23, op := Op.nilCheck (Operand.tmp 16), type := 0, pos := s, after := #[{ on := 0, ground := Ground.data }, { on := 0, ground := Ground.phase }, { on := 1, ground := Ground.phase }, { on := 2, ground := Ground.phase }, { on := 3, ground := Ground.phase }, { on := 4, ground := Ground.phase }, { on := 5, ground := Ground.phase }, { on := 6, ground := Ground.phase }], guard := none }
def k3_8 (s : String) : Oper := { dst := some 24, op := Op.fieldAddr 59 (Operand.tmp 23) 0, type := 0, pos := s, after := #[{ on := 7, ground := Ground.data }, { on := 0, ground := Ground.phase }, { on := 1, ground := Ground.phase }, { on := 2, ground := Ground.phase }, { on := 3, ground := Ground.phase }, { on := 4, ground := Ground.phase }, { on := 5, ground := Ground.phase }, { on := 6, ground := Ground.phase }], guard := none }
def k3_9 (s : String) : Oper := { dst := none, op := Op.store 56 (Operand.tmp 24) (Operand.tmp 22), type := 0, pos := s, after := #[{ on := 8, ground := Ground.data }, { on := 6, ground := Ground.data }, { on := 6, ground := Ground.chain }, { on := 0, ground := Ground.phase }, { on := 1, ground := Ground.phase }, { on := 2, ground := Ground.phase }, { on := 3, ground := Ground.phase }, { on := 4, ground := Ground.phase }, { on := 5, ground := Ground.phase }, { on := 6, ground := Ground.phase }], guard := none }
def k3_ops (s : String) : Array Oper := #[k3_0 s, k3_1 s, k3_2 s, k3_3 s, k3_4 s, k3_5 s, k3_6 s, k3_7 s, k3_8 s, k3_9 s]
theorem k3_enter6 (s : String) (a : Act) (w : World) : (execOp a.eval (k3_6 s)).run Tryd.prog w = .ok (.enter 43 #[a.eval (.tmp 20), a.eval (.tmp 21)]) w := by kernel_rfl
theorem k3_walk (s : String) {Q : Exit → Act → World → Prop} (hQ : ∀ c (a : Act) t v w, Q (.panic c) (a.put (some t) v) w → Q (.panic c) a w) (W : World) (z zb : Nat) (t : TypeId) (pre post : List Value) (sv r : S8) (g : Bool) (wt bb : List UInt8) (n : Nat) (hH : HB W z t pre post (st8 sv) g wt n) (hB : Blk W zb (bb.map u8c).toArray 42) (hbb : bb.length = 64) (hzb : zb ≠ z) (hc : ∀ W', Below W.heap.size W W' → Calls Tryd.prog 43 #[.agg (st8 sv).toArray, .agg (bb.map u8c).toArray] W' fun e w' => e = .returned (.agg (st8 r).toArray) ∧ Below W'.heap.size W' w')
    (a : Act) (hs : 24 < a.tmps.size) (e0 : a.eval (.tmp 0) = .pointer (some ⟨z, pre.length, none⟩)) (e3 : a.eval (.tmp 3) = .pointer (some ⟨zb, 0, none⟩))
    (h0 : ∀ w1, Below W.heap.size W w1 → ∀ w2, HB w2 z t pre post (st8 r) g wt n → w1.grownBy w2 (some z) → Q .normal (((((((((a.put (some 16) (.pointer (some ⟨z, pre.length, none⟩))).put (some 17) (.pointer (some ⟨z, pre.length, none⟩))).put (some 18) (.pointer (some ⟨z, pre.length, none⟩))).put (some 19) (.pointer (some ⟨z, pre.length, none⟩))).put (some 21) (.agg (bb.map u8c).toArray)).put (some 20) (.agg (st8 sv).toArray)).put (some 22) (.agg (st8 r).toArray)).put (some 23) (.pointer (some ⟨z, pre.length, none⟩))).put (some 24) (.pointer (some ⟨z, pre.length, none⟩))) w2) :
    Code.wp Tryd.prog (.region 3 (k3_ops s) true) Q a W := by
  have hdr : Below W.heap.size W W.drew := ⟨rfl, rfl, rfl, Nat.le_refl _, fun _ _ => rfl⟩
  refine wp_region_held_drew (S := fun W' => Blk W' zb (bb.map u8c).toArray 42) (by kernel_rfl) hB (fun hS => ?_)
  change wpAnyH _ _ _ _ _ _ _ _ (World.drew _)
  refine wpAnyH_take (i := 0) (oi := k3_0 s) (v := .pointer (some ⟨z, pre.length, none⟩)) (by kernel_rfl) (by kernel_rfl) (by kernel_rfl) (by kernel_rfl) (fun c a w h => hQ c _ _ _ w h) (Or.inl ⟨wanted_none rfl, fun w hw => by simp only [execOp, k3_0, e0]; rfl⟩) hS ?_
  change wpAnyH _ _ _ _ _ _ _ (a.put (some 16) (.pointer (some ⟨z, pre.length, none⟩))) _
  obtain ⟨a0_1, ha1⟩ : ∃ rr : Act, rr = a.put (some 16) (.pointer (some ⟨z, pre.length, none⟩)) := ⟨_, rfl⟩
  have qz1 : 24 < a0_1.tmps.size := by rw [ha1, sz_put]; exact hs
  have f1_0 : a0_1.eval (.tmp 0) = .pointer (some ⟨z, pre.length, none⟩) := by rw [ha1, ev_other _ _ _ _ (by decide)]; exact e0
  have f1_3 : a0_1.eval (.tmp 3) = .pointer (some ⟨zb, 0, none⟩) := by rw [ha1, ev_other _ _ _ _ (by decide)]; exact e3
  have f1_16 : a0_1.eval (.tmp 16) = .pointer (some ⟨z, pre.length, none⟩) := by rw [ha1]; exact ev_same _ _ _ (Nat.lt_of_le_of_lt (by decide) hs)
  rw [← ha1] at h0 ⊢
  clear ha1
  refine wpAnyH_take (i := 1) (oi := k3_1 s) (v := .pointer (some ⟨z, pre.length, none⟩)) (by kernel_rfl) (by kernel_rfl) (by kernel_rfl) (by kernel_rfl) (fun c a w h => hQ c _ _ _ w h) (Or.inl ⟨wanted_none rfl, fun w hw => by simp only [execOp, k3_1, f1_0]; rfl⟩) hS ?_
  change wpAnyH _ _ _ _ _ _ _ (a0_1.put (some 17) (.pointer (some ⟨z, pre.length, none⟩))) _
  obtain ⟨a0_2, ha2⟩ : ∃ rr : Act, rr = a0_1.put (some 17) (.pointer (some ⟨z, pre.length, none⟩)) := ⟨_, rfl⟩
  have qz2 : 24 < a0_2.tmps.size := by rw [ha2, sz_put]; exact qz1
  have f2_3 : a0_2.eval (.tmp 3) = .pointer (some ⟨zb, 0, none⟩) := by rw [ha2, ev_other _ _ _ _ (by decide)]; exact f1_3
  have f2_16 : a0_2.eval (.tmp 16) = .pointer (some ⟨z, pre.length, none⟩) := by rw [ha2, ev_other _ _ _ _ (by decide)]; exact f1_16
  have f2_17 : a0_2.eval (.tmp 17) = .pointer (some ⟨z, pre.length, none⟩) := by rw [ha2]; exact ev_same _ _ _ (Nat.lt_of_le_of_lt (by decide) qz1)
  rw [← ha2] at h0 ⊢
  clear ha2
  refine wpAnyH_take (i := 2) (oi := k3_2 s) (v := .pointer (some ⟨z, pre.length, none⟩)) (by kernel_rfl) (by kernel_rfl) (by kernel_rfl) (by kernel_rfl) (fun c a w h => hQ c _ _ _ w h) (Or.inl ⟨wanted_none rfl, fun w hw => run_nilCheck rfl f2_17 w⟩) hS ?_
  change wpAnyH _ _ _ _ _ _ _ (a0_2.put (some 18) (.pointer (some ⟨z, pre.length, none⟩))) _
  obtain ⟨a0_3, ha3⟩ : ∃ rr : Act, rr = a0_2.put (some 18) (.pointer (some ⟨z, pre.length, none⟩)) := ⟨_, rfl⟩
  have qz3 : 24 < a0_3.tmps.size := by rw [ha3, sz_put]; exact qz2
  have f3_3 : a0_3.eval (.tmp 3) = .pointer (some ⟨zb, 0, none⟩) := by rw [ha3, ev_other _ _ _ _ (by decide)]; exact f2_3
  have f3_16 : a0_3.eval (.tmp 16) = .pointer (some ⟨z, pre.length, none⟩) := by rw [ha3, ev_other _ _ _ _ (by decide)]; exact f2_16
  have f3_18 : a0_3.eval (.tmp 18) = .pointer (some ⟨z, pre.length, none⟩) := by rw [ha3]; exact ev_same _ _ _ (Nat.lt_of_le_of_lt (by decide) qz2)
  rw [← ha3] at h0 ⊢
  clear ha3
  refine wpAnyH_take (i := 3) (oi := k3_3 s) (v := .pointer (some ⟨z, pre.length, none⟩)) (by kernel_rfl) (by kernel_rfl) (by kernel_rfl) (by kernel_rfl) (fun c a w h => hQ c _ _ _ w h) (Or.inl ⟨wanted_none rfl, fun w hw => run_field0 rfl f3_18 w⟩) hS ?_
  change wpAnyH _ _ _ _ _ _ _ (a0_3.put (some 19) (.pointer (some ⟨z, pre.length, none⟩))) _
  obtain ⟨a0_4, ha4⟩ : ∃ rr : Act, rr = a0_3.put (some 19) (.pointer (some ⟨z, pre.length, none⟩)) := ⟨_, rfl⟩
  have qz4 : 24 < a0_4.tmps.size := by rw [ha4, sz_put]; exact qz3
  have f4_3 : a0_4.eval (.tmp 3) = .pointer (some ⟨zb, 0, none⟩) := by rw [ha4, ev_other _ _ _ _ (by decide)]; exact f3_3
  have f4_16 : a0_4.eval (.tmp 16) = .pointer (some ⟨z, pre.length, none⟩) := by rw [ha4, ev_other _ _ _ _ (by decide)]; exact f3_16
  have f4_19 : a0_4.eval (.tmp 19) = .pointer (some ⟨z, pre.length, none⟩) := by rw [ha4]; exact ev_same _ _ _ (Nat.lt_of_le_of_lt (by decide) qz3)
  rw [← ha4] at h0 ⊢
  clear ha4
  refine wpAnyH_take (i := 5) (oi := k3_5 s) (v := .agg (bb.map u8c).toArray) (by kernel_rfl) (by kernel_rfl) (by kernel_rfl) (by kernel_rfl) (fun c a w h => hQ c _ _ _ w h) (Or.inl ⟨wanted_none rfl, fun w hw => run_load rfl f4_3 (loadAt_blk hw 42 _ Tryd.underlying42 rfl 64 infoB64 (by simp [hbb]))⟩) hS ?_
  change wpAnyH _ _ _ _ _ _ _ (a0_4.put (some 21) (.agg (bb.map u8c).toArray)) _
  obtain ⟨a0_5, ha5⟩ : ∃ rr : Act, rr = a0_4.put (some 21) (.agg (bb.map u8c).toArray) := ⟨_, rfl⟩
  have qz5 : 24 < a0_5.tmps.size := by rw [ha5, sz_put]; exact qz4
  have f5_16 : a0_5.eval (.tmp 16) = .pointer (some ⟨z, pre.length, none⟩) := by rw [ha5, ev_other _ _ _ _ (by decide)]; exact f4_16
  have f5_19 : a0_5.eval (.tmp 19) = .pointer (some ⟨z, pre.length, none⟩) := by rw [ha5, ev_other _ _ _ _ (by decide)]; exact f4_19
  have f5_21 : a0_5.eval (.tmp 21) = .agg (bb.map u8c).toArray := by rw [ha5]; exact ev_same _ _ _ (Nat.lt_of_le_of_lt (by decide) qz4)
  rw [← ha5] at h0 ⊢
  clear ha5
  refine wpAnyH_ready (rs := [4]) (by kernel_rfl) (by simp) ?_
  refine AllReadyH.cons (o := k3_4 s) (by kernel_rfl) (fun KQ hKQ => ?_) AllReadyH.nil
  rw [if_pos (wanted_none rfl)]
  refine step_runE (.agg (st8 sv).toArray) (W.drew) (run_load rfl f5_19 (run_loadAt_mid (P := Tryd.prog) W.drew z pre.length 56 (st8 sv) _ (hH.below hdr).rs Tryd.underlying56 rfl infoS8)) ?_
  refine hKQ.out _ _ (hS) (fun _ => ?_)
  clear hKQ KQ
  change wpAnyH _ _ _ _ _ _ _ (a0_5.put (some 20) (.agg (st8 sv).toArray)) _
  obtain ⟨a0_6, ha6⟩ : ∃ rr : Act, rr = a0_5.put (some 20) (.agg (st8 sv).toArray) := ⟨_, rfl⟩
  have qz6 : 24 < a0_6.tmps.size := by rw [ha6, sz_put]; exact qz5
  have f6_16 : a0_6.eval (.tmp 16) = .pointer (some ⟨z, pre.length, none⟩) := by rw [ha6, ev_other _ _ _ _ (by decide)]; exact f5_16
  have f6_20 : a0_6.eval (.tmp 20) = .agg (st8 sv).toArray := by rw [ha6]; exact ev_same _ _ _ (Nat.lt_of_le_of_lt (by decide) qz5)
  have f6_21 : a0_6.eval (.tmp 21) = .agg (bb.map u8c).toArray := by rw [ha6, ev_other _ _ _ _ (by decide)]; exact f5_21
  rw [← ha6] at h0 ⊢
  clear ha6
  refine wpAnyH_ready (rs := [6]) (by kernel_rfl) (by simp) ?_
  refine AllReadyH.cons (o := k3_6 s) (by kernel_rfl) (fun KQ hKQ => ?_) AllReadyH.nil
  rw [if_pos (wanted_none rfl)]
  refine step_enterE 43 #[.agg (st8 sv).toArray, .agg (bb.map u8c).toArray] (by rw [k3_enter6, f6_20, f6_21]) (fun V w' => V = .agg (st8 r).toArray ∧ Below W.heap.size W w') ((hc W.drew hdr).mono (fun e w' h => ⟨_, h.1, rfl, hdr.trans h.2⟩)) ?_
  rintro _ w1 ⟨rfl, hb1⟩
  have hH1 := hH.below hb1
  have hB1 := Blk.below hB hb1 (Blk.lt hB)
  refine hKQ.out _ _ (hB1) (fun _ => ?_)
  clear hKQ KQ
  change wpAnyH _ _ _ _ _ _ _ (a0_6.put (some 22) (.agg (st8 r).toArray)) _
  have h0 := h0 w1 hb1
  obtain ⟨a0_7, ha7⟩ : ∃ rr : Act, rr = a0_6.put (some 22) (.agg (st8 r).toArray) := ⟨_, rfl⟩
  have qz7 : 24 < a0_7.tmps.size := by rw [ha7, sz_put]; exact qz6
  have f7_16 : a0_7.eval (.tmp 16) = .pointer (some ⟨z, pre.length, none⟩) := by rw [ha7, ev_other _ _ _ _ (by decide)]; exact f6_16
  have f7_22 : a0_7.eval (.tmp 22) = .agg (st8 r).toArray := by rw [ha7]; exact ev_same _ _ _ (Nat.lt_of_le_of_lt (by decide) qz6)
  rw [← ha7] at h0 ⊢
  clear ha7
  refine wpAnyH_take (i := 7) (oi := k3_7 s) (v := .pointer (some ⟨z, pre.length, none⟩)) (by kernel_rfl) (by kernel_rfl) (by kernel_rfl) (by kernel_rfl) (fun c a w h => hQ c _ _ _ w h) (Or.inl ⟨wanted_none rfl, fun w hw => run_nilCheck rfl f7_16 w⟩) hB1 ?_
  change wpAnyH _ _ _ _ _ _ _ (a0_7.put (some 23) (.pointer (some ⟨z, pre.length, none⟩))) _
  obtain ⟨a0_8, ha8⟩ : ∃ rr : Act, rr = a0_7.put (some 23) (.pointer (some ⟨z, pre.length, none⟩)) := ⟨_, rfl⟩
  have qz8 : 24 < a0_8.tmps.size := by rw [ha8, sz_put]; exact qz7
  have f8_22 : a0_8.eval (.tmp 22) = .agg (st8 r).toArray := by rw [ha8, ev_other _ _ _ _ (by decide)]; exact f7_22
  have f8_23 : a0_8.eval (.tmp 23) = .pointer (some ⟨z, pre.length, none⟩) := by rw [ha8]; exact ev_same _ _ _ (Nat.lt_of_le_of_lt (by decide) qz7)
  rw [← ha8] at h0 ⊢
  clear ha8
  refine wpAnyH_take (i := 8) (oi := k3_8 s) (v := .pointer (some ⟨z, pre.length, none⟩)) (by kernel_rfl) (by kernel_rfl) (by kernel_rfl) (by kernel_rfl) (fun c a w h => hQ c _ _ _ w h) (Or.inl ⟨wanted_none rfl, fun w hw => run_field0 rfl f8_23 w⟩) hB1 ?_
  change wpAnyH _ _ _ _ _ _ _ (a0_8.put (some 24) (.pointer (some ⟨z, pre.length, none⟩))) _
  obtain ⟨a0_9, ha9⟩ : ∃ rr : Act, rr = a0_8.put (some 24) (.pointer (some ⟨z, pre.length, none⟩)) := ⟨_, rfl⟩
  have qz9 : 24 < a0_9.tmps.size := by rw [ha9, sz_put]; exact qz8
  have f9_22 : a0_9.eval (.tmp 22) = .agg (st8 r).toArray := by rw [ha9, ev_other _ _ _ _ (by decide)]; exact f8_22
  have f9_24 : a0_9.eval (.tmp 24) = .pointer (some ⟨z, pre.length, none⟩) := by rw [ha9]; exact ev_same _ _ _ (Nat.lt_of_le_of_lt (by decide) qz8)
  rw [← ha9] at h0 ⊢
  clear ha9
  refine wpAnyH_ready (rs := [9]) (by kernel_rfl) (by simp) ?_
  refine AllReadyH.cons (o := k3_9 s) (by kernel_rfl) (fun KQ hKQ => ?_) AllReadyH.nil
  rw [if_pos (wanted_none rfl)]
  refine step_skipE (w1.setCells z pre.length (st8 r)) (run_storeS rfl f9_24 f9_22 hH1) ?_
  have hs := hH1.setS (st8 r) rfl (st8_one r)
  have hB2 := hB1.grown hs.2 (fun e => hzb (Option.some.inj e))
  refine hKQ.out _ _ (hB2) (fun _ => ?_)
  clear hKQ KQ
  have h0 := h0 _ hs.1 hs.2
  refine wpAnyH_done (by kernel_rfl) ?_ _
  exact h0
end Go.Proofs.YtjmjnecobaoofaaDoor
