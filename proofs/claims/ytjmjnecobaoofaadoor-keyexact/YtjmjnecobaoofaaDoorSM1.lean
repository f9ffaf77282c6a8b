/- The document's Sum: a block is taken. -/
import Derived.Test.YtjmjnecobaoofaaDoorSH9
namespace Go.Proofs.YtjmjnecobaoofaaDoor
set_option linter.unusedVariables false
set_option linter.unusedSimpArgs false
open Go.RowKit

theorem run_add64 {op : Oper} {a : Act} {x : Operand} {k : Nat} (ho : op.op = .binOp .add 3 x (.const (.int .i64 64)) 3) (hx : a.eval x = .int .i64 (k : Int)) (hk : k + 64 ≤ 9223372036854775807) (w : World) : (execOp a.eval op).run Tryd.prog w = .ok (.value (.int .i64 ((k + 64 : Nat) : Int))) w := by
  have hcst : a.eval (.const (.int .i64 64)) = .int .i64 64 := rfl
  simp only [execOp, ho, hx, hcst]
  have e : IntKind.i64.wrap ((k : Int) + 64) = ((k + 64 : Nat) : Int) := by
    have e := wrapi64_nat (k + 64) (by omega)
    rwa [Int.natCast_add] at e
  simp [go_sem, e]
theorem run_cut64 {op : Oper} {ev : Operand → Value} {x y u : Operand} {g n c k : Nat} (ho : op.op = .slice 22 x (some y) (some u) none) (hx : ev x = .slice (some ⟨g, 0, none⟩) n c) (hy : ev y = .int .i64 (k : Int)) (hu : ev u = .int .i64 ((k + 64 : Nat) : Int)) (hkn : k + 64 ≤ n) (hnc : n ≤ c) (w : World) : (execOp ev op).run Tryd.prog w = .ok (.value (.slice (some ⟨g, k, none⟩) 64 (c - k))) w := by
  have hs : (sizeOf (Tryd.prog.elem 22)).run Tryd.prog w = .ok 1 w := by kernel_rfl
  have hue : Tryd.prog.underlying 22 = some (.slice (Tryd.prog.elem 22)) := by kernel_rfl
  have key : (Instr.sliceAt 22 (.slice (some ⟨g, 0, none⟩) n c) (some (.int .i64 (k : Int))) (some (.int .i64 ((k + 64 : Nat) : Int))) none).run Tryd.prog w = .ok (.slice (some ⟨g, k, none⟩) 64 (c - k)) w := by
    rw [run_sliceAt_slice _ _ _ _ _ _ hue, run_slice_lh w 22 (some ⟨g, 0, none⟩) n c hue .i64 .i64 k ((k + 64 : Nat) : Int) (by omega) (by omega) (by omega), hs]
    simp only [Result.andThen_ok, Int.toNat_natCast]
    unfold sliced
    have : ¬ c = k := by omega
    simp [this, Addr.add_mid]
  simp only [execOp, ho, hx, hy, hu, Option.map_some, Option.map_none, Sem.run_bind, key, Result.andThen_ok, Sem.run_pure]
def m8_0 (s : String) : Oper := { dst := some 26, op := Op.load 56 (Operand.tmp 4), type := 56, pos := s, after := #[], guard := none }
def m8_1 (s : String) : Oper := { dst := some 27, op := Op.move (Operand.tmp 3), type := 22, pos := s, after := #[], guard := none }
def m8_2 (s : String) : Oper := { dst := some 28, op := Op.move (Operand.tmp 5), type := 3, pos := s, after := #[], guard := none }
def m8_3 (s : String) : Oper := { dst := some 29, op := Op.move (Operand.tmp 5), type := 3, pos := s, after := #[], guard := none }
def m8_4 (s : String) : Oper := { dst := some 30, op := Op.binOp BinOp.add 3 (Operand.tmp 29) (Operand.const (Value.int IntKind.i64 64)) 3, type := 3, pos := s, after := #[{ on := 3, ground := Ground.data }], guard := none }
def m8_5 (s : String) : Oper := { dst := some 31, op := Op.slice 22 (Operand.tmp 27) (some (Operand.tmp 28)) (some (Operand.tmp 30)) none, type := 22, pos := s, after := #[{ on := 1, ground := Ground.data }, { on := 2, ground := Ground.data }, { on := 4, ground := Ground.data }], guard := none }
def m8_6 (s : String) : Oper := { dst := some 32, op := Op.call { callee := Callee.value (Operand.func 32), args := #[Operand.tmp 26, Operand.tmp 31], argTypes := #[56, 22] }, type := 56, pos := s, after := #[{ on := 0, ground := Ground.data }, { on := 5, ground := Ground.data }], guard := none }
def m8_7 (s : String) : Oper := { dst := none, op := Op.store 56 (Operand.tmp 4) (Operand.tmp 32), type := 0, pos := s, after := #[{ on := 6, ground := Ground.data }, { on := 6, ground := Ground.chain }, { on := 0, ground := Ground.phase }, { on := 1, ground := Ground.phase }, { on := 2, ground := Ground.phase }, { on := 3, ground := Ground.phase }, { on := 4, ground := Ground.phase }, { on := 5, ground := Ground.phase }, { on := 6, ground := Ground.phase }], guard := none }
def m8_ops (s : String) : Array Oper := #[m8_0 s, m8_1 s, m8_2 s, m8_3 s, m8_4 s, m8_5 s, m8_6 s, m8_7 s]
theorem m8_enter6 (s : String) (a : Act) (w : World) : (execOp a.eval (m8_6 s)).run Tryd.prog w = .ok (.enter 32 #[a.eval (.tmp 26), a.eval (.tmp 31)]) w := by kernel_rfl
theorem m8_walk (s : String) {Q : Exit → Act → World → Prop} (hQ : ∀ c (a : Act) t v w, Q (.panic c) (a.put (some t) v) w → Q (.panic c) a w) (W : World) (z4 g n c k : Nat) (sv r : S8) (hk : Blk W z4 (st8 sv).toArray 56) (hkn : k + 64 ≤ n) (hnc : n ≤ c) (hc63 : c ≤ 9223372036854775807) (hc : ∀ W', Below W.heap.size W W' → Calls Tryd.prog 32 #[.agg (st8 sv).toArray, .slice (some ⟨g, k, none⟩) 64 (c - k)] W' fun e w' => e = .returned (.agg (st8 r).toArray) ∧ Below W'.heap.size W' w')
    (a : Act) (hs : 32 < a.tmps.size) (e3 : a.eval (.tmp 3) = .slice (some ⟨g, 0, none⟩) n c) (e4 : a.eval (.tmp 4) = .pointer (some ⟨z4, 0, none⟩)) (e5 : a.eval (.tmp 5) = .int .i64 (k : Int))
    (h0 : ∀ w1, Below W.heap.size W w1 → ∀ w2, Blk w2 z4 (st8 r).toArray 56 → w1.grownBy w2 (some z4) → Q .normal (((((((a.put (some 27) (.slice (some ⟨g, 0, none⟩) n c)).put (some 28) (.int .i64 (k : Int))).put (some 29) (.int .i64 (k : Int))).put (some 30) (.int .i64 ((k + 64 : Nat) : Int))).put (some 31) (.slice (some ⟨g, k, none⟩) 64 (c - k))).put (some 26) (.agg (st8 sv).toArray)).put (some 32) (.agg (st8 r).toArray)) w2) :
    Code.wp Tryd.prog (.region 8 (m8_ops s) true) Q a W := by
  have hdr : Below W.heap.size W W.drew := ⟨rfl, rfl, rfl, Nat.le_refl _, fun _ _ => rfl⟩
  have hkd : Blk W.drew z4 (st8 sv).toArray 56 := hk
  refine wp_region_held_drew (S := fun _ => True) (by kernel_rfl) True.intro (fun hS => ?_)
  change wpAnyH _ _ _ _ _ _ _ _ (World.drew _)
  refine wpAnyH_take (i := 1) (oi := m8_1 s) (v := .slice (some ⟨g, 0, none⟩) n c) (by kernel_rfl) (by kernel_rfl) (by kernel_rfl) (by kernel_rfl) (fun c a w h => hQ c _ _ _ w h) (Or.inl ⟨wanted_none rfl, fun w hw => by simp only [execOp, m8_1, e3]; rfl⟩) hS ?_
  change wpAnyH _ _ _ _ _ _ _ (a.put (some 27) (.slice (some ⟨g, 0, none⟩) n c)) _
  obtain ⟨a0_1, ha1⟩ : ∃ rr : Act, rr = a.put (some 27) (.slice (some ⟨g, 0, none⟩) n c) := ⟨_, rfl⟩
  have qz1 : 32 < a0_1.tmps.size := by rw [ha1, sz_put]; exact hs
  have f1_4 : a0_1.eval (.tmp 4) = .pointer (some ⟨z4, 0, none⟩) := by rw [ha1, ev_other _ _ _ _ (by decide)]; exact e4
  have f1_5 : a0_1.eval (.tmp 5) = .int .i64 (k : Int) := by rw [ha1, ev_other _ _ _ _ (by decide)]; exact e5
  have f1_27 : a0_1.eval (.tmp 27) = .slice (some ⟨g, 0, none⟩) n c := by rw [ha1]; exact ev_same _ _ _ (Nat.lt_of_le_of_lt (by decide) hs)
  rw [← ha1] at h0 ⊢
  clear ha1
  refine wpAnyH_take (i := 2) (oi := m8_2 s) (v := .int .i64 (k : Int)) (by kernel_rfl) (by kernel_rfl) (by kernel_rfl) (by kernel_rfl) (fun c a w h => hQ c _ _ _ w h) (Or.inl ⟨wanted_none rfl, fun w hw => by simp only [execOp, m8_2, f1_5]; rfl⟩) hS ?_
  change wpAnyH _ _ _ _ _ _ _ (a0_1.put (some 28) (.int .i64 (k : Int))) _
  obtain ⟨a0_2, ha2⟩ : ∃ rr : Act, rr = a0_1.put (some 28) (.int .i64 (k : Int)) := ⟨_, rfl⟩
  have qz2 : 32 < a0_2.tmps.size := by rw [ha2, sz_put]; exact qz1
  have f2_4 : a0_2.eval (.tmp 4) = .pointer (some ⟨z4, 0, none⟩) := by rw [ha2, ev_other _ _ _ _ (by decide)]; exact f1_4
  have f2_5 : a0_2.eval (.tmp 5) = .int .i64 (k : Int) := by rw [ha2, ev_other _ _ _ _ (by decide)]; exact f1_5
  have f2_27 : a0_2.eval (.tmp 27) = .slice (some ⟨g, 0, none⟩) n c := by rw [ha2, ev_other _ _ _ _ (by decide)]; exact f1_27
  have f2_28 : a0_2.eval (.tmp 28) = .int .i64 (k : Int) := by rw [ha2]; exact ev_same _ _ _ (Nat.lt_of_le_of_lt (by decide) qz1)
  rw [← ha2] at h0 ⊢
  clear ha2
  refine wpAnyH_take (i := 3) (oi := m8_3 s) (v := .int .i64 (k : Int)) (by kernel_rfl) (by kernel_rfl) (by kernel_rfl) (by kernel_rfl) (fun c a w h => hQ c _ _ _ w h) (Or.inl ⟨wanted_none rfl, fun w hw => by simp only [execOp, m8_3, f2_5]; rfl⟩) hS ?_
  change wpAnyH _ _ _ _ _ _ _ (a0_2.put (some 29) (.int .i64 (k : Int))) _
  obtain ⟨a0_3, ha3⟩ : ∃ rr : Act, rr = a0_2.put (some 29) (.int .i64 (k : Int)) := ⟨_, rfl⟩
  have qz3 : 32 < a0_3.tmps.size := by rw [ha3, sz_put]; exact qz2
  have f3_4 : a0_3.eval (.tmp 4) = .pointer (some ⟨z4, 0, none⟩) := by rw [ha3, ev_other _ _ _ _ (by decide)]; exact f2_4
  have f3_27 : a0_3.eval (.tmp 27) = .slice (some ⟨g, 0, none⟩) n c := by rw [ha3, ev_other _ _ _ _ (by decide)]; exact f2_27
  have f3_28 : a0_3.eval (.tmp 28) = .int .i64 (k : Int) := by rw [ha3, ev_other _ _ _ _ (by decide)]; exact f2_28
  have f3_29 : a0_3.eval (.tmp 29) = .int .i64 (k : Int) := by rw [ha3]; exact ev_same _ _ _ (Nat.lt_of_le_of_lt (by decide) qz2)
  rw [← ha3] at h0 ⊢
  clear ha3
  refine wpAnyH_take (i := 4) (oi := m8_4 s) (v := .int .i64 ((k + 64 : Nat) : Int)) (by kernel_rfl) (by kernel_rfl) (by kernel_rfl) (by kernel_rfl) (fun c a w h => hQ c _ _ _ w h) (Or.inl ⟨wanted_none rfl, fun w hw => run_add64 rfl f3_29 (by omega) w⟩) hS ?_
  change wpAnyH _ _ _ _ _ _ _ (a0_3.put (some 30) (.int .i64 ((k + 64 : Nat) : Int))) _
  obtain ⟨a0_4, ha4⟩ : ∃ rr : Act, rr = a0_3.put (some 30) (.int .i64 ((k + 64 : Nat) : Int)) := ⟨_, rfl⟩
  have qz4 : 32 < a0_4.tmps.size := by rw [ha4, sz_put]; exact qz3
  have f4_4 : a0_4.eval (.tmp 4) = .pointer (some ⟨z4, 0, none⟩) := by rw [ha4, ev_other _ _ _ _ (by decide)]; exact f3_4
  have f4_27 : a0_4.eval (.tmp 27) = .slice (some ⟨g, 0, none⟩) n c := by rw [ha4, ev_other _ _ _ _ (by decide)]; exact f3_27
  have f4_28 : a0_4.eval (.tmp 28) = .int .i64 (k : Int) := by rw [ha4, ev_other _ _ _ _ (by decide)]; exact f3_28
  have f4_30 : a0_4.eval (.tmp 30) = .int .i64 ((k + 64 : Nat) : Int) := by rw [ha4]; exact ev_same _ _ _ (Nat.lt_of_le_of_lt (by decide) qz3)
  rw [← ha4] at h0 ⊢
  clear ha4
  refine wpAnyH_take (i := 5) (oi := m8_5 s) (v := .slice (some ⟨g, k, none⟩) 64 (c - k)) (by kernel_rfl) (by kernel_rfl) (by kernel_rfl) (by kernel_rfl) (fun c a w h => hQ c _ _ _ w h) (Or.inl ⟨wanted_none rfl, fun w hw => run_cut64 rfl f4_27 f4_28 f4_30 hkn hnc w⟩) hS ?_
  change wpAnyH _ _ _ _ _ _ _ (a0_4.put (some 31) (.slice (some ⟨g, k, none⟩) 64 (c - k))) _
  obtain ⟨a0_5, ha5⟩ : ∃ rr : Act, rr = a0_4.put (some 31) (.slice (some ⟨g, k, none⟩) 64 (c - k)) := ⟨_, rfl⟩
  have qz5 : 32 < a0_5.tmps.size := by rw [ha5, sz_put]; exact qz4
  have f5_4 : a0_5.eval (.tmp 4) = .pointer (some ⟨z4, 0, none⟩) := by rw [ha5, ev_other _ _ _ _ (by decide)]; exact f4_4
  have f5_31 : a0_5.eval (.tmp 31) = .slice (some ⟨g, k, none⟩) 64 (c - k) := by rw [ha5]; exact ev_same _ _ _ (Nat.lt_of_le_of_lt (by decide) qz4)
  rw [← ha5] at h0 ⊢
  clear ha5
  refine wpAnyH_ready (rs := [0]) (by kernel_rfl) (by simp) ?_
  refine AllReadyH.cons (o := m8_0 s) (by kernel_rfl) (fun KQ hKQ => ?_) AllReadyH.nil
  rw [if_pos (wanted_none rfl)]
  refine step_runE (.agg (st8 sv).toArray) (W.drew) (run_load rfl f5_4 (loadAt_blk hkd 56 _ Tryd.underlying56 rfl 8 infoS8 rfl)) ?_
  refine hKQ.out _ _ (True.intro) (fun _ => ?_)
  clear hKQ KQ
  change wpAnyH _ _ _ _ _ _ _ (a0_5.put (some 26) (.agg (st8 sv).toArray)) _
  obtain ⟨a0_6, ha6⟩ : ∃ rr : Act, rr = a0_5.put (some 26) (.agg (st8 sv).toArray) := ⟨_, rfl⟩
  have qz6 : 32 < a0_6.tmps.size := by rw [ha6, sz_put]; exact qz5
  have f6_4 : a0_6.eval (.tmp 4) = .pointer (some ⟨z4, 0, none⟩) := by rw [ha6, ev_other _ _ _ _ (by decide)]; exact f5_4
  have f6_26 : a0_6.eval (.tmp 26) = .agg (st8 sv).toArray := by rw [ha6]; exact ev_same _ _ _ (Nat.lt_of_le_of_lt (by decide) qz5)
  have f6_31 : a0_6.eval (.tmp 31) = .slice (some ⟨g, k, none⟩) 64 (c - k) := by rw [ha6, ev_other _ _ _ _ (by decide)]; exact f5_31
  rw [← ha6] at h0 ⊢
  clear ha6
  refine wpAnyH_ready (rs := [6]) (by kernel_rfl) (by simp) ?_
  refine AllReadyH.cons (o := m8_6 s) (by kernel_rfl) (fun KQ hKQ => ?_) AllReadyH.nil
  rw [if_pos (wanted_none rfl)]
  refine step_enterE 32 #[.agg (st8 sv).toArray, .slice (some ⟨g, k, none⟩) 64 (c - k)] (by rw [m8_enter6, f6_26, f6_31]) (fun V w' => V = .agg (st8 r).toArray ∧ Below W.heap.size W w') ((hc W.drew hdr).mono (fun e w' h => ⟨_, h.1, rfl, hdr.trans h.2⟩)) ?_
  rintro _ w1 ⟨rfl, hb1⟩
  have hk1 := Blk.below hk hb1 (Blk.lt hk)
  refine hKQ.out _ _ (True.intro) (fun _ => ?_)
  clear hKQ KQ
  change wpAnyH _ _ _ _ _ _ _ (a0_6.put (some 32) (.agg (st8 r).toArray)) _
  have h0 := h0 w1 hb1
  obtain ⟨a0_7, ha7⟩ : ∃ rr : Act, rr = a0_6.put (some 32) (.agg (st8 r).toArray) := ⟨_, rfl⟩
  have qz7 : 32 < a0_7.tmps.size := by rw [ha7, sz_put]; exact qz6
  have f7_4 : a0_7.eval (.tmp 4) = .pointer (some ⟨z4, 0, none⟩) := by rw [ha7, ev_other _ _ _ _ (by decide)]; exact f6_4
  have f7_32 : a0_7.eval (.tmp 32) = .agg (st8 r).toArray := by rw [ha7]; exact ev_same _ _ _ (Nat.lt_of_le_of_lt (by decide) qz6)
  rw [← ha7] at h0 ⊢
  clear ha7
  refine wpAnyH_ready (rs := [7]) (by kernel_rfl) (by simp) ?_
  refine AllReadyH.cons (o := m8_7 s) (by kernel_rfl) (fun KQ hKQ => ?_) AllReadyH.nil
  rw [if_pos (wanted_none rfl)]
  refine step_skipE (w1.setCells z4 0 (st8 r).toArray.toList) (run_storeA rfl f7_4 f7_32 hk1 8 rfl rfl infoS8 (all_oneCell_toArray (st8_one r))) ?_
  have hst := setCells_blk hk1 (st8 r).toArray rfl
  refine hKQ.out _ _ (True.intro) (fun _ => ?_)
  clear hKQ KQ
  have h0 := h0 _ hst.1 hst.2
  refine wpAnyH_done (by kernel_rfl) ?_ _
  exact h0
end Go.Proofs.YtjmjnecobaoofaaDoor
