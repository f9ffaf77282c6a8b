/- BloomPlays: done's regions that draw their order: Add and Has of both, the bytes of both. -/
import Derived.Test.YtbemmhngadpjcaaFQ5
namespace Go.Proofs.Ytbemmhngadpjcaa
set_option linter.unusedVariables false
set_option linter.unusedSimpArgs false
open Go.RowKit

theorem run_conv {op : Oper} {ev : Operand → Value} {t u : TypeId} {x : Operand} {v r : Value} {w : World} (ho : op.op = .convert t u x) (hx : ev x = v) (hc : (convert t u v).run Try.prog w = .ok r w) : (execOp ev op).run Try.prog w = .ok (.value r) w := by
  simp only [execOp, ho, hx, Sem.run_bind, hc, Result.andThen_ok, Sem.run_pure]
theorem RdA.drewX {w : World} {v : Value} {xs : List UInt8} (h : RdA w v xs) : RdA w.drew v xs := h.below (below_drewN' (Below.refl _ _) 1)
def da_0 (s : String) : Oper := { dst := some 33, op := Op.fieldAddr 30 (Operand.tmp 6) 0, type := 0, pos := s, after := #[], guard := none }
def da_1 (s : String) : Oper := { dst := some 34, op := Op.load 27 (Operand.tmp 33), type := 27, pos := s, after := #[{ on := 0, ground := Ground.data }], guard := none }
def da_2 (s : String) : Oper := { dst := some 35, op := Op.fieldAddr 38 (Operand.tmp 3) 2, type := 0, pos := s, after := #[], guard := none }
def da_3 (s : String) : Oper := { dst := some 36, op := Op.load 36 (Operand.tmp 35), type := 36, pos := s, after := #[{ on := 2, ground := Ground.data }], guard := none }
def da_4 (s : String) : Oper := { dst := some 37, op := Op.call { callee := Callee.value (Operand.func 23), args := #[Operand.tmp 34, Operand.tmp 36], argTypes := #[27, 36] }, type := 4, pos := s, after := #[{ on := 1, ground := Ground.data }, { on := 3, ground := Ground.data }], guard := none }
def da_5 (s : String) : Oper := { dst := some 38, op := Op.fieldAddr 30 (Operand.tmp 6) 1, type := 0, pos := s, after := #[], guard := none }
def da_6 (s : String) : Oper := { dst := some 39, op := Op.load 28 (Operand.tmp 38), type := 28, pos := s, after := #[{ on := 5, ground := Ground.data }], guard := none }
def da_7 (s : String) : Oper := { dst := some 40, op := Op.fieldAddr 38 (Operand.tmp 3) 2, type := 0, pos := s, after := #[], guard := none }
def da_8 (s : String) : Oper := { dst := some 41, op := Op.load 36 (Operand.tmp 40), type := 36, pos := s, after := #[{ on := 7, ground := Ground.data }], guard := none }
def da_9 (s : String) : Oper := { dst := some 42, op := Op.call { callee := Callee.value (Operand.func 30), args := #[Operand.tmp 39, Operand.tmp 41], argTypes := #[28, 36] }, type := 4, pos := s, after := #[{ on := 6, ground := Ground.data }, { on := 8, ground := Ground.data }, { on := 4, ground := Ground.chain }], guard := none }
def da_10 (s : String) : Oper := { dst := some 43, op := Op.binOp BinOp.eql 4 (Operand.tmp 37) (Operand.tmp 42) 4, type := 4, pos := s, after := #[{ on := 4, ground := Ground.data }, { on := 9, ground := Ground.data }], guard := none }
def da_11 (s : String) : Oper := { dst := some 4, op := Op.assign (Operand.tmp 43), type := 4, pos := s, after := #[{ on := 10, ground := Ground.data }, { on := 9, ground := Ground.chain }, { on := 0, ground := Ground.phase }, { on := 1, ground := Ground.phase }, { on := 2, ground := Ground.phase }, { on := 3, ground := Ground.phase }, { on := 4, ground := Ground.phase }, { on := 5, ground := Ground.phase }, { on := 6, ground := Ground.phase }, { on := 7, ground := Ground.phase }, { on := 8, ground := Ground.phase }, { on := 9, ground := Ground.phase }, { on := 10, ground := Ground.phase }], guard := none }
def da_ops (s : String) : Array Oper := #[da_0 s, da_1 s, da_2 s, da_3 s, da_4 s, da_5 s, da_6 s, da_7 s, da_8 s, da_9 s, da_10 s, da_11 s]
theorem da_enter4 (s : String) (a : Act) (w : World) : (execOp a.eval (da_4 s)).run Try.prog w = .ok (.enter 23 #[a.eval (.tmp 34), a.eval (.tmp 36)]) w := by kernel_rfl
theorem da_enter9 (s : String) (a : Act) (w : World) : (execOp a.eval (da_9 s)).run Try.prog w = .ok (.enter 30 #[a.eval (.tmp 39), a.eval (.tmp 41)]) w := by kernel_rfl
set_option maxRecDepth 20000 in
set_option maxHeartbeats 2000000 in
theorem da_walk (s : String) {Q : Exit → Act → World → Prop} (hQ : ∀ c (a : Act) t v w, Q (.panic c) (a.put (some t) v) w → Q (.panic c) a w) (W : World) (b3 b6 zf zr : Nat) (SC : Array Value) (K F B H : Int) (kb : List UInt8) (r : Bool) (M J : World → Prop) (sa : StepAt SC K F B H kb) (hT : DS W b3 b6 SC (.pointer (some ⟨zf, 0, none⟩)) (.pointer (some ⟨zr, 0, none⟩))) (hc1 : Calls Try.prog 23 #[.pointer (some ⟨zf, 0, none⟩), .agg (kb.map u8c).toArray] W.drew fun e w' => e = .returned (.bool r) ∧ M w' ∧ KeepT W.drew w') (hc2 : ∀ w1, M w1 → Calls Try.prog 30 #[.pointer (some ⟨zr, 0, none⟩), .agg (kb.map u8c).toArray] w1 fun e w' => e = .returned (.bool r) ∧ J w' ∧ KeepT w1 w')
    (a : Act) (hs : 43 < a.tmps.size) (e3 : a.eval (.tmp 3) = .pointer (some ⟨b3, 0, none⟩)) (e6 : a.eval (.tmp 6) = .pointer (some ⟨b6, 0, none⟩))
    (h0 : ∀ w2, J w2 → DS w2 b3 b6 SC (.pointer (some ⟨zf, 0, none⟩)) (.pointer (some ⟨zr, 0, none⟩)) → Q .normal ((((((((((((a.put (some 33) (.pointer (some ⟨b6, 0, none⟩))).put (some 34) (.pointer (some ⟨zf, 0, none⟩))).put (some 35) (.pointer (some ⟨b3, 2, none⟩))).put (some 36) (.agg (kb.map u8c).toArray)).put (some 38) (.pointer (some ⟨b6, 1, none⟩))).put (some 39) (.pointer (some ⟨zr, 0, none⟩))).put (some 40) (.pointer (some ⟨b3, 2, none⟩))).put (some 41) (.agg (kb.map u8c).toArray)).put (some 37) (.bool r)).put (some 42) (.bool r)).put (some 43) (.bool true)).put (some 4) (.bool true)) w2) :
    Code.wp Try.prog (.region 7 (da_ops s) true) Q a W := by
  refine wp_region_held_drew (S := fun W' => DS W' b3 b6 SC (.pointer (some ⟨zf, 0, none⟩)) (.pointer (some ⟨zr, 0, none⟩))) (by kernel_rfl) ⟨hT.st, hT.pr⟩ (fun hS => ?_)
  change wpAnyH _ _ _ _ _ _ _ _ (World.drew _)
  refine wpAnyH_take (i := 0) (oi := da_0 s) (v := .pointer (some ⟨b6, 0, none⟩)) (by kernel_rfl) (by kernel_rfl) (by kernel_rfl) (by kernel_rfl) (fun c a w h => hQ c _ _ _ w h) (Or.inl ⟨wanted_none rfl, fun w hw => run_fldP (by omega) rfl e6 w⟩) hS ?_
  change wpAnyH _ _ _ _ _ _ _ (a.put (some 33) (.pointer (some ⟨b6, 0, none⟩))) _
  obtain ⟨a0_1, ha1⟩ : ∃ rr : Act, rr = a.put (some 33) (.pointer (some ⟨b6, 0, none⟩)) := ⟨_, rfl⟩
  have qz1 : 43 < a0_1.tmps.size := by rw [ha1, sz_put]; exact hs
  have f1_3 : a0_1.eval (.tmp 3) = .pointer (some ⟨b3, 0, none⟩) := by rw [ha1, ev_other _ _ _ _ (by decide)]; exact e3
  have f1_6 : a0_1.eval (.tmp 6) = .pointer (some ⟨b6, 0, none⟩) := by rw [ha1, ev_other _ _ _ _ (by decide)]; exact e6
  have f1_33 : a0_1.eval (.tmp 33) = .pointer (some ⟨b6, 0, none⟩) := by rw [ha1]; exact ev_same _ _ _ (Nat.lt_of_le_of_lt (by decide) hs)
  rw [← ha1] at h0 ⊢
  clear ha1
  refine wpAnyH_take (i := 1) (oi := da_1 s) (v := .pointer (some ⟨zf, 0, none⟩)) (by kernel_rfl) (by kernel_rfl) (by kernel_rfl) (by kernel_rfl) (fun c a w h => hQ c _ _ _ w h) (Or.inl ⟨wanted_none rfl, fun w hw => run_load rfl f1_33 (ld_pF (hw.pr.cell 0))⟩) hS ?_
  change wpAnyH _ _ _ _ _ _ _ (a0_1.put (some 34) (.pointer (some ⟨zf, 0, none⟩))) _
  obtain ⟨a0_2, ha2⟩ : ∃ rr : Act, rr = a0_1.put (some 34) (.pointer (some ⟨zf, 0, none⟩)) := ⟨_, rfl⟩
  have qz2 : 43 < a0_2.tmps.size := by rw [ha2, sz_put]; exact qz1
  have f2_3 : a0_2.eval (.tmp 3) = .pointer (some ⟨b3, 0, none⟩) := by rw [ha2, ev_other _ _ _ _ (by decide)]; exact f1_3
  have f2_6 : a0_2.eval (.tmp 6) = .pointer (some ⟨b6, 0, none⟩) := by rw [ha2, ev_other _ _ _ _ (by decide)]; exact f1_6
  have f2_34 : a0_2.eval (.tmp 34) = .pointer (some ⟨zf, 0, none⟩) := by rw [ha2]; exact ev_same _ _ _ (Nat.lt_of_le_of_lt (by decide) qz1)
  rw [← ha2] at h0 ⊢
  clear ha2
  refine wpAnyH_take (i := 2) (oi := da_2 s) (v := .pointer (some ⟨b3, 2, none⟩)) (by kernel_rfl) (by kernel_rfl) (by kernel_rfl) (by kernel_rfl) (fun c a w h => hQ c _ _ _ w h) (Or.inl ⟨wanted_none rfl, fun w hw => run_fldK rfl f2_3 w⟩) hS ?_
  change wpAnyH _ _ _ _ _ _ _ (a0_2.put (some 35) (.pointer (some ⟨b3, 2, none⟩))) _
  obtain ⟨a0_3, ha3⟩ : ∃ rr : Act, rr = a0_2.put (some 35) (.pointer (some ⟨b3, 2, none⟩)) := ⟨_, rfl⟩
  have qz3 : 43 < a0_3.tmps.size := by rw [ha3, sz_put]; exact qz2
  have f3_3 : a0_3.eval (.tmp 3) = .pointer (some ⟨b3, 0, none⟩) := by rw [ha3, ev_other _ _ _ _ (by decide)]; exact f2_3
  have f3_6 : a0_3.eval (.tmp 6) = .pointer (some ⟨b6, 0, none⟩) := by rw [ha3, ev_other _ _ _ _ (by decide)]; exact f2_6
  have f3_34 : a0_3.eval (.tmp 34) = .pointer (some ⟨zf, 0, none⟩) := by rw [ha3, ev_other _ _ _ _ (by decide)]; exact f2_34
  have f3_35 : a0_3.eval (.tmp 35) = .pointer (some ⟨b3, 2, none⟩) := by rw [ha3]; exact ev_same _ _ _ (Nat.lt_of_le_of_lt (by decide) qz2)
  rw [← ha3] at h0 ⊢
  clear ha3
  refine wpAnyH_take (i := 3) (oi := da_3 s) (v := .agg (kb.map u8c).toArray) (by kernel_rfl) (by kernel_rfl) (by kernel_rfl) (by kernel_rfl) (fun c a w h => hQ c _ _ _ w h) (Or.inl ⟨wanted_none rfl, fun w hw => run_load rfl f3_35 (ld_key hw.st sa)⟩) hS ?_
  change wpAnyH _ _ _ _ _ _ _ (a0_3.put (some 36) (.agg (kb.map u8c).toArray)) _
  obtain ⟨a0_4, ha4⟩ : ∃ rr : Act, rr = a0_3.put (some 36) (.agg (kb.map u8c).toArray) := ⟨_, rfl⟩
  have qz4 : 43 < a0_4.tmps.size := by rw [ha4, sz_put]; exact qz3
  have f4_3 : a0_4.eval (.tmp 3) = .pointer (some ⟨b3, 0, none⟩) := by rw [ha4, ev_other _ _ _ _ (by decide)]; exact f3_3
  have f4_6 : a0_4.eval (.tmp 6) = .pointer (some ⟨b6, 0, none⟩) := by rw [ha4, ev_other _ _ _ _ (by decide)]; exact f3_6
  have f4_34 : a0_4.eval (.tmp 34) = .pointer (some ⟨zf, 0, none⟩) := by rw [ha4, ev_other _ _ _ _ (by decide)]; exact f3_34
  have f4_36 : a0_4.eval (.tmp 36) = .agg (kb.map u8c).toArray := by rw [ha4]; exact ev_same _ _ _ (Nat.lt_of_le_of_lt (by decide) qz3)
  rw [← ha4] at h0 ⊢
  clear ha4
  refine wpAnyH_take (i := 5) (oi := da_5 s) (v := .pointer (some ⟨b6, 1, none⟩)) (by kernel_rfl) (by kernel_rfl) (by kernel_rfl) (by kernel_rfl) (fun c a w h => hQ c _ _ _ w h) (Or.inl ⟨wanted_none rfl, fun w hw => run_fldP (by omega) rfl f4_6 w⟩) hS ?_
  change wpAnyH _ _ _ _ _ _ _ (a0_4.put (some 38) (.pointer (some ⟨b6, 1, none⟩))) _
  obtain ⟨a0_5, ha5⟩ : ∃ rr : Act, rr = a0_4.put (some 38) (.pointer (some ⟨b6, 1, none⟩)) := ⟨_, rfl⟩
  have qz5 : 43 < a0_5.tmps.size := by rw [ha5, sz_put]; exact qz4
  have f5_3 : a0_5.eval (.tmp 3) = .pointer (some ⟨b3, 0, none⟩) := by rw [ha5, ev_other _ _ _ _ (by decide)]; exact f4_3
  have f5_34 : a0_5.eval (.tmp 34) = .pointer (some ⟨zf, 0, none⟩) := by rw [ha5, ev_other _ _ _ _ (by decide)]; exact f4_34
  have f5_36 : a0_5.eval (.tmp 36) = .agg (kb.map u8c).toArray := by rw [ha5, ev_other _ _ _ _ (by decide)]; exact f4_36
  have f5_38 : a0_5.eval (.tmp 38) = .pointer (some ⟨b6, 1, none⟩) := by rw [ha5]; exact ev_same _ _ _ (Nat.lt_of_le_of_lt (by decide) qz4)
  rw [← ha5] at h0 ⊢
  clear ha5
  refine wpAnyH_take (i := 6) (oi := da_6 s) (v := .pointer (some ⟨zr, 0, none⟩)) (by kernel_rfl) (by kernel_rfl) (by kernel_rfl) (by kernel_rfl) (fun c a w h => hQ c _ _ _ w h) (Or.inl ⟨wanted_none rfl, fun w hw => run_load rfl f5_38 (ld_pR (hw.pr.cell 1))⟩) hS ?_
  change wpAnyH _ _ _ _ _ _ _ (a0_5.put (some 39) (.pointer (some ⟨zr, 0, none⟩))) _
  obtain ⟨a0_6, ha6⟩ : ∃ rr : Act, rr = a0_5.put (some 39) (.pointer (some ⟨zr, 0, none⟩)) := ⟨_, rfl⟩
  have qz6 : 43 < a0_6.tmps.size := by rw [ha6, sz_put]; exact qz5
  have f6_3 : a0_6.eval (.tmp 3) = .pointer (some ⟨b3, 0, none⟩) := by rw [ha6, ev_other _ _ _ _ (by decide)]; exact f5_3
  have f6_34 : a0_6.eval (.tmp 34) = .pointer (some ⟨zf, 0, none⟩) := by rw [ha6, ev_other _ _ _ _ (by decide)]; exact f5_34
  have f6_36 : a0_6.eval (.tmp 36) = .agg (kb.map u8c).toArray := by rw [ha6, ev_other _ _ _ _ (by decide)]; exact f5_36
  have f6_39 : a0_6.eval (.tmp 39) = .pointer (some ⟨zr, 0, none⟩) := by rw [ha6]; exact ev_same _ _ _ (Nat.lt_of_le_of_lt (by decide) qz5)
  rw [← ha6] at h0 ⊢
  clear ha6
  refine wpAnyH_take (i := 7) (oi := da_7 s) (v := .pointer (some ⟨b3, 2, none⟩)) (by kernel_rfl) (by kernel_rfl) (by kernel_rfl) (by kernel_rfl) (fun c a w h => hQ c _ _ _ w h) (Or.inl ⟨wanted_none rfl, fun w hw => run_fldK rfl f6_3 w⟩) hS ?_
  change wpAnyH _ _ _ _ _ _ _ (a0_6.put (some 40) (.pointer (some ⟨b3, 2, none⟩))) _
  obtain ⟨a0_7, ha7⟩ : ∃ rr : Act, rr = a0_6.put (some 40) (.pointer (some ⟨b3, 2, none⟩)) := ⟨_, rfl⟩
  have qz7 : 43 < a0_7.tmps.size := by rw [ha7, sz_put]; exact qz6
  have f7_34 : a0_7.eval (.tmp 34) = .pointer (some ⟨zf, 0, none⟩) := by rw [ha7, ev_other _ _ _ _ (by decide)]; exact f6_34
  have f7_36 : a0_7.eval (.tmp 36) = .agg (kb.map u8c).toArray := by rw [ha7, ev_other _ _ _ _ (by decide)]; exact f6_36
  have f7_39 : a0_7.eval (.tmp 39) = .pointer (some ⟨zr, 0, none⟩) := by rw [ha7, ev_other _ _ _ _ (by decide)]; exact f6_39
  have f7_40 : a0_7.eval (.tmp 40) = .pointer (some ⟨b3, 2, none⟩) := by rw [ha7]; exact ev_same _ _ _ (Nat.lt_of_le_of_lt (by decide) qz6)
  rw [← ha7] at h0 ⊢
  clear ha7
  refine wpAnyH_take (i := 8) (oi := da_8 s) (v := .agg (kb.map u8c).toArray) (by kernel_rfl) (by kernel_rfl) (by kernel_rfl) (by kernel_rfl) (fun c a w h => hQ c _ _ _ w h) (Or.inl ⟨wanted_none rfl, fun w hw => run_load rfl f7_40 (ld_key hw.st sa)⟩) hS ?_
  change wpAnyH _ _ _ _ _ _ _ (a0_7.put (some 41) (.agg (kb.map u8c).toArray)) _
  obtain ⟨a0_8, ha8⟩ : ∃ rr : Act, rr = a0_7.put (some 41) (.agg (kb.map u8c).toArray) := ⟨_, rfl⟩
  have qz8 : 43 < a0_8.tmps.size := by rw [ha8, sz_put]; exact qz7
  have f8_34 : a0_8.eval (.tmp 34) = .pointer (some ⟨zf, 0, none⟩) := by rw [ha8, ev_other _ _ _ _ (by decide)]; exact f7_34
  have f8_36 : a0_8.eval (.tmp 36) = .agg (kb.map u8c).toArray := by rw [ha8, ev_other _ _ _ _ (by decide)]; exact f7_36
  have f8_39 : a0_8.eval (.tmp 39) = .pointer (some ⟨zr, 0, none⟩) := by rw [ha8, ev_other _ _ _ _ (by decide)]; exact f7_39
  have f8_41 : a0_8.eval (.tmp 41) = .agg (kb.map u8c).toArray := by rw [ha8]; exact ev_same _ _ _ (Nat.lt_of_le_of_lt (by decide) qz7)
  rw [← ha8] at h0 ⊢
  clear ha8
  refine wpAnyH_ready (rs := [4]) (by kernel_rfl) (by simp) ?_
  refine AllReadyH.cons (o := da_4 s) (by kernel_rfl) (fun KQ hKQ => ?_) AllReadyH.nil
  rw [if_pos (wanted_none rfl)]
  refine step_enterE 23 #[.pointer (some ⟨zf, 0, none⟩), .agg (kb.map u8c).toArray] (by rw [da_enter4, f8_34, f8_36]) (fun V w' => V = .bool r ∧ M w' ∧ KeepT W.drew w') (hc1.mono (fun e w' h => ⟨_, h.1, rfl, h.2⟩)) ?_
  rintro _ w1 ⟨rfl, hM, hk1⟩
  have hT1 := hS.keep hk1
  refine hKQ.out _ _ (hT1) (fun _ => ?_)
  clear hKQ KQ
  change wpAnyH _ _ _ _ _ _ _ (a0_8.put (some 37) (.bool r)) _
  obtain ⟨a0_9, ha9⟩ : ∃ rr : Act, rr = a0_8.put (some 37) (.bool r) := ⟨_, rfl⟩
  have qz9 : 43 < a0_9.tmps.size := by rw [ha9, sz_put]; exact qz8
  have f9_37 : a0_9.eval (.tmp 37) = .bool r := by rw [ha9]; exact ev_same _ _ _ (Nat.lt_of_le_of_lt (by decide) qz8)
  have f9_39 : a0_9.eval (.tmp 39) = .pointer (some ⟨zr, 0, none⟩) := by rw [ha9, ev_other _ _ _ _ (by decide)]; exact f8_39
  have f9_41 : a0_9.eval (.tmp 41) = .agg (kb.map u8c).toArray := by rw [ha9, ev_other _ _ _ _ (by decide)]; exact f8_41
  rw [← ha9] at h0 ⊢
  clear ha9
  refine wpAnyH_ready (rs := [9]) (by kernel_rfl) (by simp) ?_
  refine AllReadyH.cons (o := da_9 s) (by kernel_rfl) (fun KQ hKQ => ?_) AllReadyH.nil
  rw [if_pos (wanted_none rfl)]
  refine step_enterE 30 #[.pointer (some ⟨zr, 0, none⟩), .agg (kb.map u8c).toArray] (by rw [da_enter9, f9_39, f9_41]) (fun V w' => V = .bool r ∧ J w' ∧ KeepT w1 w') ((hc2 w1 hM).mono (fun e w' h => ⟨_, h.1, rfl, h.2⟩)) ?_
  rintro _ w2 ⟨rfl, hJ, hk2⟩
  have hT2 := hT1.keep hk2
  refine hKQ.out _ _ (hT2) (fun _ => ?_)
  clear hKQ KQ
  change wpAnyH _ _ _ _ _ _ _ (a0_9.put (some 42) (.bool r)) _
  have h0 := h0 w2 hJ hT2
  obtain ⟨a0_10, ha10⟩ : ∃ rr : Act, rr = a0_9.put (some 42) (.bool r) := ⟨_, rfl⟩
  have qz10 : 43 < a0_10.tmps.size := by rw [ha10, sz_put]; exact qz9
  have f10_37 : a0_10.eval (.tmp 37) = .bool r := by rw [ha10, ev_other _ _ _ _ (by decide)]; exact f9_37
  have f10_42 : a0_10.eval (.tmp 42) = .bool r := by rw [ha10]; exact ev_same _ _ _ (Nat.lt_of_le_of_lt (by decide) qz9)
  rw [← ha10] at h0 ⊢
  clear ha10
  refine wpAnyH_take (i := 10) (oi := da_10 s) (v := .bool true) (by kernel_rfl) (by kernel_rfl) (by kernel_rfl) (by kernel_rfl) (fun c a w h => hQ c _ _ _ w h) (Or.inl ⟨wanted_none rfl, fun w hw => run_eqlB rfl f10_37 f10_42 w⟩) hT2 ?_
  change wpAnyH _ _ _ _ _ _ _ (a0_10.put (some 43) (.bool true)) _
  obtain ⟨a0_11, ha11⟩ : ∃ rr : Act, rr = a0_10.put (some 43) (.bool true) := ⟨_, rfl⟩
  have qz11 : 43 < a0_11.tmps.size := by rw [ha11, sz_put]; exact qz10
  have f11_43 : a0_11.eval (.tmp 43) = .bool true := by rw [ha11]; exact ev_same _ _ _ (Nat.lt_of_le_of_lt (by decide) qz10)
  rw [← ha11] at h0 ⊢
  clear ha11
  refine wpAnyH_take (i := 11) (oi := da_11 s) (v := .bool true) (by kernel_rfl) (by kernel_rfl) (by kernel_rfl) (by kernel_rfl) (fun c a w h => hQ c _ _ _ w h) (Or.inl ⟨wanted_none rfl, fun w hw => by simp only [execOp, da_11, f11_43]; rfl⟩) hT2 ?_
  change wpAnyH _ _ _ _ _ _ _ (a0_11.put (some 4) (.bool true)) _
  obtain ⟨a0_12, ha12⟩ : ∃ rr : Act, rr = a0_11.put (some 4) (.bool true) := ⟨_, rfl⟩
  have qz12 : 43 < a0_12.tmps.size := by rw [ha12, sz_put]; exact qz11
  rw [← ha12] at h0 ⊢
  clear ha12
  refine wpAnyH_done (by kernel_rfl) ?_ _
  exact h0
def db_0 (s : String) : Oper := { dst := some 55, op := Op.fieldAddr 30 (Operand.tmp 6) 0, type := 0, pos := s, after := #[], guard := none }
def db_1 (s : String) : Oper := { dst := some 56, op := Op.load 27 (Operand.tmp 55), type := 27, pos := s, after := #[{ on := 0, ground := Ground.data }], guard := none }
def db_2 (s : String) : Oper := { dst := some 57, op := Op.fieldAddr 38 (Operand.tmp 3) 2, type := 0, pos := s, after := #[], guard := none }
def db_3 (s : String) : Oper := { dst := some 58, op := Op.load 36 (Operand.tmp 57), type := 36, pos := s, after := #[{ on := 2, ground := Ground.data }], guard := none }
def db_4 (s : String) : Oper := { dst := some 59, op := Op.call { callee := Callee.value (Operand.func 26), args := #[Operand.tmp 56, Operand.tmp 58], argTypes := #[27, 36] }, type := 4, pos := s, after := #[{ on := 1, ground := Ground.data }, { on := 3, ground := Ground.data }], guard := none }
def db_5 (s : String) : Oper := { dst := some 60, op := Op.fieldAddr 30 (Operand.tmp 6) 1, type := 0, pos := s, after := #[], guard := none }
def db_6 (s : String) : Oper := { dst := some 61, op := Op.load 28 (Operand.tmp 60), type := 28, pos := s, after := #[{ on := 5, ground := Ground.data }], guard := none }
def db_7 (s : String) : Oper := { dst := some 62, op := Op.fieldAddr 38 (Operand.tmp 3) 2, type := 0, pos := s, after := #[], guard := none }
def db_8 (s : String) : Oper := { dst := some 63, op := Op.load 36 (Operand.tmp 62), type := 36, pos := s, after := #[{ on := 7, ground := Ground.data }], guard := none }
def db_9 (s : String) : Oper := { dst := some 64, op := Op.call { callee := Callee.value (Operand.func 31), args := #[Operand.tmp 61, Operand.tmp 63], argTypes := #[28, 36] }, type := 4, pos := s, after := #[{ on := 6, ground := Ground.data }, { on := 8, ground := Ground.data }, { on := 4, ground := Ground.chain }], guard := none }
def db_10 (s : String) : Oper := { dst := some 65, op := Op.binOp BinOp.eql 4 (Operand.tmp 59) (Operand.tmp 64) 4, type := 4, pos := s, after := #[{ on := 4, ground := Ground.data }, { on := 9, ground := Ground.data }], guard := none }
def db_11 (s : String) : Oper := { dst := some 4, op := Op.assign (Operand.tmp 65), type := 4, pos := s, after := #[{ on := 10, ground := Ground.data }, { on := 9, ground := Ground.chain }, { on := 0, ground := Ground.phase }, { on := 1, ground := Ground.phase }, { on := 2, ground := Ground.phase }, { on := 3, ground := Ground.phase }, { on := 4, ground := Ground.phase }, { on := 5, ground := Ground.phase }, { on := 6, ground := Ground.phase }, { on := 7, ground := Ground.phase }, { on := 8, ground := Ground.phase }, { on := 9, ground := Ground.phase }, { on := 10, ground := Ground.phase }], guard := none }
def db_ops (s : String) : Array Oper := #[db_0 s, db_1 s, db_2 s, db_3 s, db_4 s, db_5 s, db_6 s, db_7 s, db_8 s, db_9 s, db_10 s, db_11 s]
theorem db_enter4 (s : String) (a : Act) (w : World) : (execOp a.eval (db_4 s)).run Try.prog w = .ok (.enter 26 #[a.eval (.tmp 56), a.eval (.tmp 58)]) w := by kernel_rfl
theorem db_enter9 (s : String) (a : Act) (w : World) : (execOp a.eval (db_9 s)).run Try.prog w = .ok (.enter 31 #[a.eval (.tmp 61), a.eval (.tmp 63)]) w := by kernel_rfl
set_option maxRecDepth 20000 in
set_option maxHeartbeats 2000000 in
theorem db_walk (s : String) {Q : Exit → Act → World → Prop} (hQ : ∀ c (a : Act) t v w, Q (.panic c) (a.put (some t) v) w → Q (.panic c) a w) (W : World) (b3 b6 zf zr : Nat) (SC : Array Value) (K F B H : Int) (kb : List UInt8) (r : Bool) (M J : World → Prop) (sa : StepAt SC K F B H kb) (hT : DS W b3 b6 SC (.pointer (some ⟨zf, 0, none⟩)) (.pointer (some ⟨zr, 0, none⟩))) (hc1 : Calls Try.prog 26 #[.pointer (some ⟨zf, 0, none⟩), .agg (kb.map u8c).toArray] W.drew fun e w' => e = .returned (.bool r) ∧ M w' ∧ KeepT W.drew w') (hc2 : ∀ w1, M w1 → Calls Try.prog 31 #[.pointer (some ⟨zr, 0, none⟩), .agg (kb.map u8c).toArray] w1 fun e w' => e = .returned (.bool r) ∧ J w' ∧ KeepT w1 w')
    (a : Act) (hs : 65 < a.tmps.size) (e3 : a.eval (.tmp 3) = .pointer (some ⟨b3, 0, none⟩)) (e6 : a.eval (.tmp 6) = .pointer (some ⟨b6, 0, none⟩))
    (h0 : ∀ w2, J w2 → DS w2 b3 b6 SC (.pointer (some ⟨zf, 0, none⟩)) (.pointer (some ⟨zr, 0, none⟩)) → Q .normal ((((((((((((a.put (some 55) (.pointer (some ⟨b6, 0, none⟩))).put (some 56) (.pointer (some ⟨zf, 0, none⟩))).put (some 57) (.pointer (some ⟨b3, 2, none⟩))).put (some 58) (.agg (kb.map u8c).toArray)).put (some 60) (.pointer (some ⟨b6, 1, none⟩))).put (some 61) (.pointer (some ⟨zr, 0, none⟩))).put (some 62) (.pointer (some ⟨b3, 2, none⟩))).put (some 63) (.agg (kb.map u8c).toArray)).put (some 59) (.bool r)).put (some 64) (.bool r)).put (some 65) (.bool true)).put (some 4) (.bool true)) w2) :
    Code.wp Try.prog (.region 11 (db_ops s) true) Q a W := by
  refine wp_region_held_drew (S := fun W' => DS W' b3 b6 SC (.pointer (some ⟨zf, 0, none⟩)) (.pointer (some ⟨zr, 0, none⟩))) (by kernel_rfl) ⟨hT.st, hT.pr⟩ (fun hS => ?_)
  change wpAnyH _ _ _ _ _ _ _ _ (World.drew _)
  refine wpAnyH_take (i := 0) (oi := db_0 s) (v := .pointer (some ⟨b6, 0, none⟩)) (by kernel_rfl) (by kernel_rfl) (by kernel_rfl) (by kernel_rfl) (fun c a w h => hQ c _ _ _ w h) (Or.inl ⟨wanted_none rfl, fun w hw => run_fldP (by omega) rfl e6 w⟩) hS ?_
  change wpAnyH _ _ _ _ _ _ _ (a.put (some 55) (.pointer (some ⟨b6, 0, none⟩))) _
  obtain ⟨a0_1, ha1⟩ : ∃ rr : Act, rr = a.put (some 55) (.pointer (some ⟨b6, 0, none⟩)) := ⟨_, rfl⟩
  have qz1 : 65 < a0_1.tmps.size := by rw [ha1, sz_put]; exact hs
  have f1_3 : a0_1.eval (.tmp 3) = .pointer (some ⟨b3, 0, none⟩) := by rw [ha1, ev_other _ _ _ _ (by decide)]; exact e3
  have f1_6 : a0_1.eval (.tmp 6) = .pointer (some ⟨b6, 0, none⟩) := by rw [ha1, ev_other _ _ _ _ (by decide)]; exact e6
  have f1_55 : a0_1.eval (.tmp 55) = .pointer (some ⟨b6, 0, none⟩) := by rw [ha1]; exact ev_same _ _ _ (Nat.lt_of_le_of_lt (by decide) hs)
  rw [← ha1] at h0 ⊢
  clear ha1
  refine wpAnyH_take (i := 1) (oi := db_1 s) (v := .pointer (some ⟨zf, 0, none⟩)) (by kernel_rfl) (by kernel_rfl) (by kernel_rfl) (by kernel_rfl) (fun c a w h => hQ c _ _ _ w h) (Or.inl ⟨wanted_none rfl, fun w hw => run_load rfl f1_55 (ld_pF (hw.pr.cell 0))⟩) hS ?_
  change wpAnyH _ _ _ _ _ _ _ (a0_1.put (some 56) (.pointer (some ⟨zf, 0, none⟩))) _
  obtain ⟨a0_2, ha2⟩ : ∃ rr : Act, rr = a0_1.put (some 56) (.pointer (some ⟨zf, 0, none⟩)) := ⟨_, rfl⟩
  have qz2 : 65 < a0_2.tmps.size := by rw [ha2, sz_put]; exact qz1
  have f2_3 : a0_2.eval (.tmp 3) = .pointer (some ⟨b3, 0, none⟩) := by rw [ha2, ev_other _ _ _ _ (by decide)]; exact f1_3
  have f2_6 : a0_2.eval (.tmp 6) = .pointer (some ⟨b6, 0, none⟩) := by rw [ha2, ev_other _ _ _ _ (by decide)]; exact f1_6
  have f2_56 : a0_2.eval (.tmp 56) = .pointer (some ⟨zf, 0, none⟩) := by rw [ha2]; exact ev_same _ _ _ (Nat.lt_of_le_of_lt (by decide) qz1)
  rw [← ha2] at h0 ⊢
  clear ha2
  refine wpAnyH_take (i := 2) (oi := db_2 s) (v := .pointer (some ⟨b3, 2, none⟩)) (by kernel_rfl) (by kernel_rfl) (by kernel_rfl) (by kernel_rfl) (fun c a w h => hQ c _ _ _ w h) (Or.inl ⟨wanted_none rfl, fun w hw => run_fldK rfl f2_3 w⟩) hS ?_
  change wpAnyH _ _ _ _ _ _ _ (a0_2.put (some 57) (.pointer (some ⟨b3, 2, none⟩))) _
  obtain ⟨a0_3, ha3⟩ : ∃ rr : Act, rr = a0_2.put (some 57) (.pointer (some ⟨b3, 2, none⟩)) := ⟨_, rfl⟩
  have qz3 : 65 < a0_3.tmps.size := by rw [ha3, sz_put]; exact qz2
  have f3_3 : a0_3.eval (.tmp 3) = .pointer (some ⟨b3, 0, none⟩) := by rw [ha3, ev_other _ _ _ _ (by decide)]; exact f2_3
  have f3_6 : a0_3.eval (.tmp 6) = .pointer (some ⟨b6, 0, none⟩) := by rw [ha3, ev_other _ _ _ _ (by decide)]; exact f2_6
  have f3_56 : a0_3.eval (.tmp 56) = .pointer (some ⟨zf, 0, none⟩) := by rw [ha3, ev_other _ _ _ _ (by decide)]; exact f2_56
  have f3_57 : a0_3.eval (.tmp 57) = .pointer (some ⟨b3, 2, none⟩) := by rw [ha3]; exact ev_same _ _ _ (Nat.lt_of_le_of_lt (by decide) qz2)
  rw [← ha3] at h0 ⊢
  clear ha3
  refine wpAnyH_take (i := 3) (oi := db_3 s) (v := .agg (kb.map u8c).toArray) (by kernel_rfl) (by kernel_rfl) (by kernel_rfl) (by kernel_rfl) (fun c a w h => hQ c _ _ _ w h) (Or.inl ⟨wanted_none rfl, fun w hw => run_load rfl f3_57 (ld_key hw.st sa)⟩) hS ?_
  change wpAnyH _ _ _ _ _ _ _ (a0_3.put (some 58) (.agg (kb.map u8c).toArray)) _
  obtain ⟨a0_4, ha4⟩ : ∃ rr : Act, rr = a0_3.put (some 58) (.agg (kb.map u8c).toArray) := ⟨_, rfl⟩
  have qz4 : 65 < a0_4.tmps.size := by rw [ha4, sz_put]; exact qz3
  have f4_3 : a0_4.eval (.tmp 3) = .pointer (some ⟨b3, 0, none⟩) := by rw [ha4, ev_other _ _ _ _ (by decide)]; exact f3_3
  have f4_6 : a0_4.eval (.tmp 6) = .pointer (some ⟨b6, 0, none⟩) := by rw [ha4, ev_other _ _ _ _ (by decide)]; exact f3_6
  have f4_56 : a0_4.eval (.tmp 56) = .pointer (some ⟨zf, 0, none⟩) := by rw [ha4, ev_other _ _ _ _ (by decide)]; exact f3_56
  have f4_58 : a0_4.eval (.tmp 58) = .agg (kb.map u8c).toArray := by rw [ha4]; exact ev_same _ _ _ (Nat.lt_of_le_of_lt (by decide) qz3)
  rw [← ha4] at h0 ⊢
  clear ha4
  refine wpAnyH_take (i := 5) (oi := db_5 s) (v := .pointer (some ⟨b6, 1, none⟩)) (by kernel_rfl) (by kernel_rfl) (by kernel_rfl) (by kernel_rfl) (fun c a w h => hQ c _ _ _ w h) (Or.inl ⟨wanted_none rfl, fun w hw => run_fldP (by omega) rfl f4_6 w⟩) hS ?_
  change wpAnyH _ _ _ _ _ _ _ (a0_4.put (some 60) (.pointer (some ⟨b6, 1, none⟩))) _
  obtain ⟨a0_5, ha5⟩ : ∃ rr : Act, rr = a0_4.put (some 60) (.pointer (some ⟨b6, 1, none⟩)) := ⟨_, rfl⟩
  have qz5 : 65 < a0_5.tmps.size := by rw [ha5, sz_put]; exact qz4
  have f5_3 : a0_5.eval (.tmp 3) = .pointer (some ⟨b3, 0, none⟩) := by rw [ha5, ev_other _ _ _ _ (by decide)]; exact f4_3
  have f5_56 : a0_5.eval (.tmp 56) = .pointer (some ⟨zf, 0, none⟩) := by rw [ha5, ev_other _ _ _ _ (by decide)]; exact f4_56
  have f5_58 : a0_5.eval (.tmp 58) = .agg (kb.map u8c).toArray := by rw [ha5, ev_other _ _ _ _ (by decide)]; exact f4_58
  have f5_60 : a0_5.eval (.tmp 60) = .pointer (some ⟨b6, 1, none⟩) := by rw [ha5]; exact ev_same _ _ _ (Nat.lt_of_le_of_lt (by decide) qz4)
  rw [← ha5] at h0 ⊢
  clear ha5
  refine wpAnyH_take (i := 6) (oi := db_6 s) (v := .pointer (some ⟨zr, 0, none⟩)) (by kernel_rfl) (by kernel_rfl) (by kernel_rfl) (by kernel_rfl) (fun c a w h => hQ c _ _ _ w h) (Or.inl ⟨wanted_none rfl, fun w hw => run_load rfl f5_60 (ld_pR (hw.pr.cell 1))⟩) hS ?_
  change wpAnyH _ _ _ _ _ _ _ (a0_5.put (some 61) (.pointer (some ⟨zr, 0, none⟩))) _
  obtain ⟨a0_6, ha6⟩ : ∃ rr : Act, rr = a0_5.put (some 61) (.pointer (some ⟨zr, 0, none⟩)) := ⟨_, rfl⟩
  have qz6 : 65 < a0_6.tmps.size := by rw [ha6, sz_put]; exact qz5
  have f6_3 : a0_6.eval (.tmp 3) = .pointer (some ⟨b3, 0, none⟩) := by rw [ha6, ev_other _ _ _ _ (by decide)]; exact f5_3
  have f6_56 : a0_6.eval (.tmp 56) = .pointer (some ⟨zf, 0, none⟩) := by rw [ha6, ev_other _ _ _ _ (by decide)]; exact f5_56
  have f6_58 : a0_6.eval (.tmp 58) = .agg (kb.map u8c).toArray := by rw [ha6, ev_other _ _ _ _ (by decide)]; exact f5_58
  have f6_61 : a0_6.eval (.tmp 61) = .pointer (some ⟨zr, 0, none⟩) := by rw [ha6]; exact ev_same _ _ _ (Nat.lt_of_le_of_lt (by decide) qz5)
  rw [← ha6] at h0 ⊢
  clear ha6
  refine wpAnyH_take (i := 7) (oi := db_7 s) (v := .pointer (some ⟨b3, 2, none⟩)) (by kernel_rfl) (by kernel_rfl) (by kernel_rfl) (by kernel_rfl) (fun c a w h => hQ c _ _ _ w h) (Or.inl ⟨wanted_none rfl, fun w hw => run_fldK rfl f6_3 w⟩) hS ?_
  change wpAnyH _ _ _ _ _ _ _ (a0_6.put (some 62) (.pointer (some ⟨b3, 2, none⟩))) _
  obtain ⟨a0_7, ha7⟩ : ∃ rr : Act, rr = a0_6.put (some 62) (.pointer (some ⟨b3, 2, none⟩)) := ⟨_, rfl⟩
  have qz7 : 65 < a0_7.tmps.size := by rw [ha7, sz_put]; exact qz6
  have f7_56 : a0_7.eval (.tmp 56) = .pointer (some ⟨zf, 0, none⟩) := by rw [ha7, ev_other _ _ _ _ (by decide)]; exact f6_56
  have f7_58 : a0_7.eval (.tmp 58) = .agg (kb.map u8c).toArray := by rw [ha7, ev_other _ _ _ _ (by decide)]; exact f6_58
  have f7_61 : a0_7.eval (.tmp 61) = .pointer (some ⟨zr, 0, none⟩) := by rw [ha7, ev_other _ _ _ _ (by decide)]; exact f6_61
  have f7_62 : a0_7.eval (.tmp 62) = .pointer (some ⟨b3, 2, none⟩) := by rw [ha7]; exact ev_same _ _ _ (Nat.lt_of_le_of_lt (by decide) qz6)
  rw [← ha7] at h0 ⊢
  clear ha7
  refine wpAnyH_take (i := 8) (oi := db_8 s) (v := .agg (kb.map u8c).toArray) (by kernel_rfl) (by kernel_rfl) (by kernel_rfl) (by kernel_rfl) (fun c a w h => hQ c _ _ _ w h) (Or.inl ⟨wanted_none rfl, fun w hw => run_load rfl f7_62 (ld_key hw.st sa)⟩) hS ?_
  change wpAnyH _ _ _ _ _ _ _ (a0_7.put (some 63) (.agg (kb.map u8c).toArray)) _
  obtain ⟨a0_8, ha8⟩ : ∃ rr : Act, rr = a0_7.put (some 63) (.agg (kb.map u8c).toArray) := ⟨_, rfl⟩
  have qz8 : 65 < a0_8.tmps.size := by rw [ha8, sz_put]; exact qz7
  have f8_56 : a0_8.eval (.tmp 56) = .pointer (some ⟨zf, 0, none⟩) := by rw [ha8, ev_other _ _ _ _ (by decide)]; exact f7_56
  have f8_58 : a0_8.eval (.tmp 58) = .agg (kb.map u8c).toArray := by rw [ha8, ev_other _ _ _ _ (by decide)]; exact f7_58
  have f8_61 : a0_8.eval (.tmp 61) = .pointer (some ⟨zr, 0, none⟩) := by rw [ha8, ev_other _ _ _ _ (by decide)]; exact f7_61
  have f8_63 : a0_8.eval (.tmp 63) = .agg (kb.map u8c).toArray := by rw [ha8]; exact ev_same _ _ _ (Nat.lt_of_le_of_lt (by decide) qz7)
  rw [← ha8] at h0 ⊢
  clear ha8
  refine wpAnyH_ready (rs := [4]) (by kernel_rfl) (by simp) ?_
  refine AllReadyH.cons (o := db_4 s) (by kernel_rfl) (fun KQ hKQ => ?_) AllReadyH.nil
  rw [if_pos (wanted_none rfl)]
  refine step_enterE 26 #[.pointer (some ⟨zf, 0, none⟩), .agg (kb.map u8c).toArray] (by rw [db_enter4, f8_56, f8_58]) (fun V w' => V = .bool r ∧ M w' ∧ KeepT W.drew w') (hc1.mono (fun e w' h => ⟨_, h.1, rfl, h.2⟩)) ?_
  rintro _ w1 ⟨rfl, hM, hk1⟩
  have hT1 := hS.keep hk1
  refine hKQ.out _ _ (hT1) (fun _ => ?_)
  clear hKQ KQ
  change wpAnyH _ _ _ _ _ _ _ (a0_8.put (some 59) (.bool r)) _
  obtain ⟨a0_9, ha9⟩ : ∃ rr : Act, rr = a0_8.put (some 59) (.bool r) := ⟨_, rfl⟩
  have qz9 : 65 < a0_9.tmps.size := by rw [ha9, sz_put]; exact qz8
  have f9_59 : a0_9.eval (.tmp 59) = .bool r := by rw [ha9]; exact ev_same _ _ _ (Nat.lt_of_le_of_lt (by decide) qz8)
  have f9_61 : a0_9.eval (.tmp 61) = .pointer (some ⟨zr, 0, none⟩) := by rw [ha9, ev_other _ _ _ _ (by decide)]; exact f8_61
  have f9_63 : a0_9.eval (.tmp 63) = .agg (kb.map u8c).toArray := by rw [ha9, ev_other _ _ _ _ (by decide)]; exact f8_63
  rw [← ha9] at h0 ⊢
  clear ha9
  refine wpAnyH_ready (rs := [9]) (by kernel_rfl) (by simp) ?_
  refine AllReadyH.cons (o := db_9 s) (by kernel_rfl) (fun KQ hKQ => ?_) AllReadyH.nil
  rw [if_pos (wanted_none rfl)]
  refine step_enterE 31 #[.pointer (some ⟨zr, 0, none⟩), .agg (kb.map u8c).toArray] (by rw [db_enter9, f9_61, f9_63]) (fun V w' => V = .bool r ∧ J w' ∧ KeepT w1 w') ((hc2 w1 hM).mono (fun e w' h => ⟨_, h.1, rfl, h.2⟩)) ?_
  rintro _ w2 ⟨rfl, hJ, hk2⟩
  have hT2 := hT1.keep hk2
  refine hKQ.out _ _ (hT2) (fun _ => ?_)
  clear hKQ KQ
  change wpAnyH _ _ _ _ _ _ _ (a0_9.put (some 64) (.bool r)) _
  have h0 := h0 w2 hJ hT2
  obtain ⟨a0_10, ha10⟩ : ∃ rr : Act, rr = a0_9.put (some 64) (.bool r) := ⟨_, rfl⟩
  have qz10 : 65 < a0_10.tmps.size := by rw [ha10, sz_put]; exact qz9
  have f10_59 : a0_10.eval (.tmp 59) = .bool r := by rw [ha10, ev_other _ _ _ _ (by decide)]; exact f9_59
  have f10_64 : a0_10.eval (.tmp 64) = .bool r := by rw [ha10]; exact ev_same _ _ _ (Nat.lt_of_le_of_lt (by decide) qz9)
  rw [← ha10] at h0 ⊢
  clear ha10
  refine wpAnyH_take (i := 10) (oi := db_10 s) (v := .bool true) (by kernel_rfl) (by kernel_rfl) (by kernel_rfl) (by kernel_rfl) (fun c a w h => hQ c _ _ _ w h) (Or.inl ⟨wanted_none rfl, fun w hw => run_eqlB rfl f10_59 f10_64 w⟩) hT2 ?_
  change wpAnyH _ _ _ _ _ _ _ (a0_10.put (some 65) (.bool true)) _
  obtain ⟨a0_11, ha11⟩ : ∃ rr : Act, rr = a0_10.put (some 65) (.bool true) := ⟨_, rfl⟩
  have qz11 : 65 < a0_11.tmps.size := by rw [ha11, sz_put]; exact qz10
  have f11_65 : a0_11.eval (.tmp 65) = .bool true := by rw [ha11]; exact ev_same _ _ _ (Nat.lt_of_le_of_lt (by decide) qz10)
  rw [← ha11] at h0 ⊢
  clear ha11
  refine wpAnyH_take (i := 11) (oi := db_11 s) (v := .bool true) (by kernel_rfl) (by kernel_rfl) (by kernel_rfl) (by kernel_rfl) (fun c a w h => hQ c _ _ _ w h) (Or.inl ⟨wanted_none rfl, fun w hw => by simp only [execOp, db_11, f11_65]; rfl⟩) hT2 ?_
  change wpAnyH _ _ _ _ _ _ _ (a0_11.put (some 4) (.bool true)) _
  obtain ⟨a0_12, ha12⟩ : ∃ rr : Act, rr = a0_11.put (some 4) (.bool true) := ⟨_, rfl⟩
  have qz12 : 65 < a0_12.tmps.size := by rw [ha12, sz_put]; exact qz11
  rw [← ha12] at h0 ⊢
  clear ha12
  refine wpAnyH_done (by kernel_rfl) ?_ _
  exact h0
def dc_0 (s : String) : Oper := { dst := some 95, op := Op.move (Operand.tmp 7), type := 49, pos := s, after := #[], guard := none }
def dc_1 (s : String) : Oper := { dst := some 96, op := Op.convert 49 9 (Operand.tmp 95), type := 9, pos := s, after := #[{ on := 0, ground := Ground.data }], guard := none }
def dc_2 (s : String) : Oper := { dst := some 97, op := Op.fieldAddr 30 (Operand.tmp 6) 1, type := 0, pos := s, after := #[], guard := none }
def dc_3 (s : String) : Oper := { dst := some 98, op := Op.load 28 (Operand.tmp 97), type := 28, pos := s, after := #[{ on := 2, ground := Ground.data }], guard := none }
def dc_4 (s : String) : Oper := { dst := some 99, op := Op.call { callee := Callee.value (Operand.func 33), args := #[Operand.tmp 98], argTypes := #[28] }, type := 49, pos := s, after := #[{ on := 3, ground := Ground.data }], guard := none }
def dc_5 (s : String) : Oper := { dst := some 100, op := Op.convert 49 9 (Operand.tmp 99), type := 9, pos := s, after := #[{ on := 4, ground := Ground.data }], guard := none }
def dc_6 (s : String) : Oper := { dst := some 101, op := Op.binOp BinOp.neq 9 (Operand.tmp 96) (Operand.tmp 100) 9, type := 4, pos := s, after := #[{ on := 1, ground := Ground.data }, { on := 5, ground := Ground.data }], guard := none }
def dc_ops (s : String) : Array Oper := #[dc_0 s, dc_1 s, dc_2 s, dc_3 s, dc_4 s, dc_5 s, dc_6 s]
theorem dc_enter4 (s : String) (a : Act) (w : World) : (execOp a.eval (dc_4 s)).run Try.prog w = .ok (.enter 33 #[a.eval (.tmp 98)]) w := by kernel_rfl
set_option maxRecDepth 20000 in
set_option maxHeartbeats 2000000 in
theorem dc_walk (s : String) {Q : Exit → Act → World → Prop} (hQ : ∀ c (a : Act) t v w, Q (.panic c) (a.put (some t) v) w → Q (.panic c) a w) (W : World) (b3 b6 : Nat) (vf : Value) (zr : Nat) (SC : Array Value) (vb : Value) (xs : List UInt8) (hrd : RdA W vb xs) (hT : DS W b3 b6 SC vf (.pointer (some ⟨zr, 0, none⟩))) (hc1 : Calls Try.prog 33 #[.pointer (some ⟨zr, 0, none⟩)] W.drew (BytesC W.drew xs))
    (a : Act) (hs : 101 < a.tmps.size) (e6 : a.eval (.tmp 6) = .pointer (some ⟨b6, 0, none⟩)) (e7 : a.eval (.tmp 7) = vb)
    (h0 : ∀ v1 w1, Below W.heap.size W w1 → Q .normal (((((((a.put (some 95) (vb)).put (some 96) (.string ⟨xs.toArray⟩)).put (some 97) (.pointer (some ⟨b6, 1, none⟩))).put (some 98) (.pointer (some ⟨zr, 0, none⟩))).put (some 99) (v1)).put (some 100) (.string ⟨xs.toArray⟩)).put (some 101) (.bool false)) w1) :
    Code.wp Try.prog (.region 22 (dc_ops s) true) Q a W := by
  refine wp_region_held_drew (S := fun W' => DS W' b3 b6 SC vf (.pointer (some ⟨zr, 0, none⟩)) ∧ (convert 49 9 vb).run Try.prog W' = .ok (.string ⟨xs.toArray⟩) W') (by kernel_rfl) ⟨⟨hT.st, hT.pr⟩, conv_rdA W.drew vb xs hrd.drewX⟩ (fun hS => ?_)
  change wpAnyH _ _ _ _ _ _ _ _ (World.drew _)
  refine wpAnyH_take (i := 0) (oi := dc_0 s) (v := vb) (by kernel_rfl) (by kernel_rfl) (by kernel_rfl) (by kernel_rfl) (fun c a w h => hQ c _ _ _ w h) (Or.inl ⟨wanted_none rfl, fun w hw => by simp only [execOp, dc_0, e7]; rfl⟩) hS ?_
  change wpAnyH _ _ _ _ _ _ _ (a.put (some 95) (vb)) _
  obtain ⟨a0_1, ha1⟩ : ∃ rr : Act, rr = a.put (some 95) (vb) := ⟨_, rfl⟩
  have qz1 : 101 < a0_1.tmps.size := by rw [ha1, sz_put]; exact hs
  have f1_6 : a0_1.eval (.tmp 6) = .pointer (some ⟨b6, 0, none⟩) := by rw [ha1, ev_other _ _ _ _ (by decide)]; exact e6
  have f1_95 : a0_1.eval (.tmp 95) = vb := by rw [ha1]; exact ev_same _ _ _ (Nat.lt_of_le_of_lt (by decide) hs)
  rw [← ha1] at h0 ⊢
  clear ha1
  refine wpAnyH_take (i := 1) (oi := dc_1 s) (v := .string ⟨xs.toArray⟩) (by kernel_rfl) (by kernel_rfl) (by kernel_rfl) (by kernel_rfl) (fun c a w h => hQ c _ _ _ w h) (Or.inl ⟨wanted_none rfl, fun w hw => run_conv rfl f1_95 hw.2⟩) hS ?_
  change wpAnyH _ _ _ _ _ _ _ (a0_1.put (some 96) (.string ⟨xs.toArray⟩)) _
  obtain ⟨a0_2, ha2⟩ : ∃ rr : Act, rr = a0_1.put (some 96) (.string ⟨xs.toArray⟩) := ⟨_, rfl⟩
  have qz2 : 101 < a0_2.tmps.size := by rw [ha2, sz_put]; exact qz1
  have f2_6 : a0_2.eval (.tmp 6) = .pointer (some ⟨b6, 0, none⟩) := by rw [ha2, ev_other _ _ _ _ (by decide)]; exact f1_6
  have f2_96 : a0_2.eval (.tmp 96) = .string ⟨xs.toArray⟩ := by rw [ha2]; exact ev_same _ _ _ (Nat.lt_of_le_of_lt (by decide) qz1)
  rw [← ha2] at h0 ⊢
  clear ha2
  refine wpAnyH_take (i := 2) (oi := dc_2 s) (v := .pointer (some ⟨b6, 1, none⟩)) (by kernel_rfl) (by kernel_rfl) (by kernel_rfl) (by kernel_rfl) (fun c a w h => hQ c _ _ _ w h) (Or.inl ⟨wanted_none rfl, fun w hw => run_fldP (by omega) rfl f2_6 w⟩) hS ?_
  change wpAnyH _ _ _ _ _ _ _ (a0_2.put (some 97) (.pointer (some ⟨b6, 1, none⟩))) _
  obtain ⟨a0_3, ha3⟩ : ∃ rr : Act, rr = a0_2.put (some 97) (.pointer (some ⟨b6, 1, none⟩)) := ⟨_, rfl⟩
  have qz3 : 101 < a0_3.tmps.size := by rw [ha3, sz_put]; exact qz2
  have f3_96 : a0_3.eval (.tmp 96) = .string ⟨xs.toArray⟩ := by rw [ha3, ev_other _ _ _ _ (by decide)]; exact f2_96
  have f3_97 : a0_3.eval (.tmp 97) = .pointer (some ⟨b6, 1, none⟩) := by rw [ha3]; exact ev_same _ _ _ (Nat.lt_of_le_of_lt (by decide) qz2)
  rw [← ha3] at h0 ⊢
  clear ha3
  refine wpAnyH_take (i := 3) (oi := dc_3 s) (v := .pointer (some ⟨zr, 0, none⟩)) (by kernel_rfl) (by kernel_rfl) (by kernel_rfl) (by kernel_rfl) (fun c a w h => hQ c _ _ _ w h) (Or.inl ⟨wanted_none rfl, fun w hw => run_load rfl f3_97 (ld_pR (hw.1.pr.cell 1))⟩) hS ?_
  change wpAnyH _ _ _ _ _ _ _ (a0_3.put (some 98) (.pointer (some ⟨zr, 0, none⟩))) _
  obtain ⟨a0_4, ha4⟩ : ∃ rr : Act, rr = a0_3.put (some 98) (.pointer (some ⟨zr, 0, none⟩)) := ⟨_, rfl⟩
  have qz4 : 101 < a0_4.tmps.size := by rw [ha4, sz_put]; exact qz3
  have f4_96 : a0_4.eval (.tmp 96) = .string ⟨xs.toArray⟩ := by rw [ha4, ev_other _ _ _ _ (by decide)]; exact f3_96
  have f4_98 : a0_4.eval (.tmp 98) = .pointer (some ⟨zr, 0, none⟩) := by rw [ha4]; exact ev_same _ _ _ (Nat.lt_of_le_of_lt (by decide) qz3)
  rw [← ha4] at h0 ⊢
  clear ha4
  refine wpAnyH_ready (rs := [4]) (by kernel_rfl) (by simp) ?_
  refine AllReadyH.cons (o := dc_4 s) (by kernel_rfl) (fun KQ hKQ => ?_) AllReadyH.nil
  rw [if_pos (wanted_none rfl)]
  refine step_enterE 33 #[.pointer (some ⟨zr, 0, none⟩)] (by rw [dc_enter4, f4_98]) (fun V w' => w'.ownsRow W.heap.size 5 1 V xs.length (xs.map u8c) ∧ Below W.heap.size W w') (hc1.mono (fun e w' h => by obtain ⟨V, h1, h2, h3⟩ := h; exact ⟨V, h1, h2, ⟨h3.os, h3.tape, h3.output, h3.size, h3.block⟩⟩)) ?_
  rintro v1 w1 ⟨ho1, hb1⟩
  have hv1 := conv_rd w1 v1 xs (Rd_owned ho1)
  have hD1 := hT.keep (KeepT.below hb1)
  have hr1 := conv_rdA w1 vb xs (hrd.below hb1)
  refine hKQ.out _ _ (⟨hD1, hr1⟩) (fun _ => ?_)
  clear hKQ KQ
  change wpAnyH _ _ _ _ _ _ _ (a0_4.put (some 99) (v1)) _
  refine wpAnyH_mono (S' := fun W' => (DS W' b3 b6 SC vf (.pointer (some ⟨zr, 0, none⟩)) ∧ (convert 49 9 vb).run Try.prog W' = .ok (.string ⟨xs.toArray⟩) W') ∧ (convert 49 9 v1).run Try.prog W' = .ok (.string ⟨xs.toArray⟩) W') (fun w h => h.1) _ _ _ _ ?_
  have hS5 : (fun W' => (DS W' b3 b6 SC vf (.pointer (some ⟨zr, 0, none⟩)) ∧ (convert 49 9 vb).run Try.prog W' = .ok (.string ⟨xs.toArray⟩) W') ∧ (convert 49 9 v1).run Try.prog W' = .ok (.string ⟨xs.toArray⟩) W') _ := ⟨⟨hD1, hr1⟩, hv1⟩
  have h0 := h0 v1 w1 hb1
  obtain ⟨a0_5, ha5⟩ : ∃ rr : Act, rr = a0_4.put (some 99) (v1) := ⟨_, rfl⟩
  have qz5 : 101 < a0_5.tmps.size := by rw [ha5, sz_put]; exact qz4
  have f5_96 : a0_5.eval (.tmp 96) = .string ⟨xs.toArray⟩ := by rw [ha5, ev_other _ _ _ _ (by decide)]; exact f4_96
  have f5_99 : a0_5.eval (.tmp 99) = v1 := by rw [ha5]; exact ev_same _ _ _ (Nat.lt_of_le_of_lt (by decide) qz4)
  rw [← ha5] at h0 ⊢
  clear ha5
  refine wpAnyH_take (i := 5) (oi := dc_5 s) (v := .string ⟨xs.toArray⟩) (by kernel_rfl) (by kernel_rfl) (by kernel_rfl) (by kernel_rfl) (fun c a w h => hQ c _ _ _ w h) (Or.inl ⟨wanted_none rfl, fun w hw => run_conv rfl f5_99 hw.2⟩) hS5 ?_
  change wpAnyH _ _ _ _ _ _ _ (a0_5.put (some 100) (.string ⟨xs.toArray⟩)) _
  obtain ⟨a0_6, ha6⟩ : ∃ rr : Act, rr = a0_5.put (some 100) (.string ⟨xs.toArray⟩) := ⟨_, rfl⟩
  have qz6 : 101 < a0_6.tmps.size := by rw [ha6, sz_put]; exact qz5
  have f6_96 : a0_6.eval (.tmp 96) = .string ⟨xs.toArray⟩ := by rw [ha6, ev_other _ _ _ _ (by decide)]; exact f5_96
  have f6_100 : a0_6.eval (.tmp 100) = .string ⟨xs.toArray⟩ := by rw [ha6]; exact ev_same _ _ _ (Nat.lt_of_le_of_lt (by decide) qz5)
  rw [← ha6] at h0 ⊢
  clear ha6
  refine wpAnyH_take (i := 6) (oi := dc_6 s) (v := .bool false) (by kernel_rfl) (by kernel_rfl) (by kernel_rfl) (by kernel_rfl) (fun c a w h => hQ c _ _ _ w h) (Or.inl ⟨wanted_none rfl, fun w hw => run_neSame rfl f6_96 f6_100 w⟩) hS5 ?_
  change wpAnyH _ _ _ _ _ _ _ (a0_6.put (some 101) (.bool false)) _
  obtain ⟨a0_7, ha7⟩ : ∃ rr : Act, rr = a0_6.put (some 101) (.bool false) := ⟨_, rfl⟩
  have qz7 : 101 < a0_7.tmps.size := by rw [ha7, sz_put]; exact qz6
  rw [← ha7] at h0 ⊢
  clear ha7
  refine wpAnyH_done (by kernel_rfl) ?_ _
  exact h0
end Go.Proofs.Ytbemmhngadpjcaa
