/- BloomNever: the region that holds two filters' bytes against one another, meets and joins. -/
import Derived.Test.YtbemmhngadpjcaaFO1
import Derived.Test.YtbemmhngadpjcaaFJ3
namespace Go.Proofs.Ytbemmhngadpjcaa
set_option linter.unusedVariables false
set_option linter.unusedSimpArgs false
open Go.RowKit

theorem run_neSame {op : Oper} {ev : Operand → Value} {x y : Operand} {u : TypeId} {s : ByteArray} (ho : op.op = .binOp .neq 9 x y u) (hx : ev x = .string s) (hy : ev y = .string s) (w : World) : (execOp ev op).run Try.prog w = .ok (.value (.bool false)) w := by
  simp only [execOp, ho, hx, hy]
  simp [go_sem]
theorem run_neZ {op : Oper} {ev : Operand → Value} {x : Operand} {t u : TypeId} (ho : op.op = .binOp .neq t x (.const (.int .i64 0)) u) (hx : ev x = .int .i64 0) (hc : ev (.const (.int .i64 0)) = .int .i64 0) (w : World) : (execOp ev op).run Try.prog w = .ok (.value (.bool false)) w := by
  simp only [execOp, ho, hx, hc]
  simp [go_sem]
theorem own_far {w w' : World} {B g : Nat} {v : Value} {xs : List UInt8} (h : w.ownsRow B 5 1 v xs.length (xs.map u8c)) (hg : w.grownBy w' (some g)) (hlt : g < B) : w'.ownsRow B 5 1 v xs.length (xs.map u8c) := by
  obtain ⟨h0, h1 | ⟨k, cap, cur, e, hb, hr⟩⟩ := h
  · exact ⟨h0, .inl h1⟩
  · have hk : v.ownBlock = some k := by rw [e]; rfl
    exact owns_grown ⟨h0, .inr ⟨k, cap, cur, e, hb, hr⟩⟩ hg (fun q hq => by
      rw [hk] at hq
      cases hq
      intro e2
      have := Option.some.inj e2
      omega)
def fn_0 (s : String) : Oper := { dst := some 144, op := Op.move (Operand.tmp 10), type := 27, pos := s, after := #[], guard := none }
def fn_1 (s : String) : Oper := { dst := some 145, op := Op.call { callee := Callee.value (Operand.func 19), args := #[Operand.tmp 144], argTypes := #[27] }, type := 49, pos := s, after := #[{ on := 0, ground := Ground.data }], guard := none }
def fn_2 (s : String) : Oper := { dst := some 146, op := Op.convert 49 9 (Operand.tmp 145), type := 9, pos := s, after := #[{ on := 1, ground := Ground.data }], guard := none }
def fn_3 (s : String) : Oper := { dst := some 147, op := Op.move (Operand.tmp 12), type := 27, pos := s, after := #[], guard := none }
def fn_4 (s : String) : Oper := { dst := some 148, op := Op.call { callee := Callee.value (Operand.func 19), args := #[Operand.tmp 147], argTypes := #[27] }, type := 49, pos := s, after := #[{ on := 3, ground := Ground.data }, { on := 1, ground := Ground.chain }], guard := none }
def fn_5 (s : String) : Oper := { dst := some 149, op := Op.convert 49 9 (Operand.tmp 148), type := 9, pos := s, after := #[{ on := 4, ground := Ground.data }], guard := none }
def fn_6 (s : String) : Oper := { dst := some 150, op := Op.binOp BinOp.neq 9 (Operand.tmp 146) (Operand.tmp 149) 9, type := 4, pos := s, after := #[{ on := 2, ground := Ground.data }, { on := 5, ground := Ground.data }], guard := none }
def fn_7 (s : String) : Oper := { dst := some 151, op := Op.move (Operand.tmp 150), type := 4, pos := s, after := #[{ on := 6, ground := Ground.data }, { on := 4, ground := Ground.chain }], guard := none }
def fn_8 (s : String) : Oper := { dst := some 152, op := Op.move (Operand.tmp 12), type := 27, pos := s, after := #[{ on := 7, ground := Ground.guard }], guard := some (7, false) }
def fn_9 (s : String) : Oper := { dst := some 153, op := Op.move (Operand.tmp 8), type := 27, pos := s, after := #[{ on := 7, ground := Ground.guard }], guard := some (7, false) }
def fn_10 (s : String) : Oper := { dst := some 154, op := Op.call { callee := Callee.value (Operand.func 24), args := #[Operand.tmp 152, Operand.tmp 153], argTypes := #[27, 27] }, type := 45, pos := s, after := #[{ on := 8, ground := Ground.data }, { on := 9, ground := Ground.data }, { on := 7, ground := Ground.chain }, { on := 7, ground := Ground.guard }], guard := some (7, false) }
def fn_11 (s : String) : Oper := { dst := some 155, op := Op.binOp BinOp.neq 45 (Operand.tmp 154) (Operand.const (Value.int IntKind.i64 0)) 45, type := 4, pos := s, after := #[{ on := 10, ground := Ground.data }, { on := 7, ground := Ground.guard }], guard := some (7, false) }
def fn_12 (s : String) : Oper := { dst := some 156, op := Op.pick (Operand.tmp 151) (Operand.const (Value.bool true)) (Operand.tmp 155), type := 4, pos := s, after := #[{ on := 7, ground := Ground.data }, { on := 11, ground := Ground.data }], guard := none }
def fn_13 (s : String) : Oper := { dst := some 157, op := Op.move (Operand.tmp 156), type := 4, pos := s, after := #[{ on := 12, ground := Ground.data }, { on := 10, ground := Ground.chain }], guard := none }
def fn_14 (s : String) : Oper := { dst := some 158, op := Op.move (Operand.tmp 10), type := 27, pos := s, after := #[{ on := 13, ground := Ground.guard }], guard := some (13, false) }
def fn_15 (s : String) : Oper := { dst := some 159, op := Op.move (Operand.tmp 8), type := 27, pos := s, after := #[{ on := 13, ground := Ground.guard }], guard := some (13, false) }
def fn_16 (s : String) : Oper := { dst := some 160, op := Op.call { callee := Callee.value (Operand.func 25), args := #[Operand.tmp 158, Operand.tmp 159], argTypes := #[27, 27] }, type := 45, pos := s, after := #[{ on := 14, ground := Ground.data }, { on := 15, ground := Ground.data }, { on := 13, ground := Ground.chain }, { on := 13, ground := Ground.guard }], guard := some (13, false) }
def fn_17 (s : String) : Oper := { dst := some 161, op := Op.binOp BinOp.neq 45 (Operand.tmp 160) (Operand.const (Value.int IntKind.i64 0)) 45, type := 4, pos := s, after := #[{ on := 16, ground := Ground.data }, { on := 13, ground := Ground.guard }], guard := some (13, false) }
def fn_18 (s : String) : Oper := { dst := some 162, op := Op.pick (Operand.tmp 157) (Operand.const (Value.bool true)) (Operand.tmp 161), type := 4, pos := s, after := #[{ on := 13, ground := Ground.data }, { on := 17, ground := Ground.data }], guard := none }
def fn_ops (s : String) : Array Oper := #[fn_0 s, fn_1 s, fn_2 s, fn_3 s, fn_4 s, fn_5 s, fn_6 s, fn_7 s, fn_8 s, fn_9 s, fn_10 s, fn_11 s, fn_12 s, fn_13 s, fn_14 s, fn_15 s, fn_16 s, fn_17 s, fn_18 s]
theorem fn_enter1 (s : String) (a : Act) (w : World) : (execOp a.eval (fn_1 s)).run Try.prog w = .ok (.enter 19 #[a.eval (.tmp 144)]) w := by kernel_rfl
theorem fn_enter4 (s : String) (a : Act) (w : World) : (execOp a.eval (fn_4 s)).run Try.prog w = .ok (.enter 19 #[a.eval (.tmp 147)]) w := by kernel_rfl
theorem fn_enter10 (s : String) (a : Act) (w : World) : (execOp a.eval (fn_10 s)).run Try.prog w = .ok (.enter 24 #[a.eval (.tmp 152), a.eval (.tmp 153)]) w := by kernel_rfl
theorem fn_enter16 (s : String) (a : Act) (w : World) : (execOp a.eval (fn_16 s)).run Try.prog w = .ok (.enter 25 #[a.eval (.tmp 158), a.eval (.tmp 159)]) w := by kernel_rfl
theorem fn_walk (s : String) {Q : Exit → Act → World → Prop} (hQ : ∀ c (a : Act) t v w, Q (.panic c) (a.put (some t) v) w → Q (.panic c) a w) (W : World) (zf zg zm gm gg : Nat) (M J : World → Prop) (hgm : gm < W.heap.size) (hgg : gg < W.heap.size) (xs : List UInt8) (hc1 : Calls Try.prog 19 #[.pointer (some ⟨zg, 0, none⟩)] W.drew (BytesC W.drew xs)) (hc2 : ∀ w1, Below W.heap.size W w1 → Calls Try.prog 19 #[.pointer (some ⟨zm, 0, none⟩)] w1 (BytesC w1 xs)) (hc3 : ∀ w2, Below W.heap.size W w2 → Calls Try.prog 24 #[.pointer (some ⟨zm, 0, none⟩), .pointer (some ⟨zf, 0, none⟩)] w2 fun e w' => e = .returned (.int .i64 0) ∧ w2.grownBy w' (some gm) ∧ M w') (hc4 : ∀ w3, M w3 → Calls Try.prog 25 #[.pointer (some ⟨zg, 0, none⟩), .pointer (some ⟨zf, 0, none⟩)] w3 fun e w' => e = .returned (.int .i64 0) ∧ w3.grownBy w' (some gg) ∧ J w')
    (a : Act) (hs : 162 < a.tmps.size) (e8 : a.eval (.tmp 8) = .pointer (some ⟨zf, 0, none⟩)) (e10 : a.eval (.tmp 10) = .pointer (some ⟨zg, 0, none⟩)) (e12 : a.eval (.tmp 12) = .pointer (some ⟨zm, 0, none⟩))
    (h0 : ∀ v1 v2 w4, J w4 → Q .normal (((((((((((((((((((a.put (some 144) (.pointer (some ⟨zg, 0, none⟩))).put (some 147) (.pointer (some ⟨zm, 0, none⟩))).put (some 145) (v1)).put (some 146) (.string ⟨xs.toArray⟩)).put (some 148) (v2)).put (some 149) (.string ⟨xs.toArray⟩)).put (some 150) (.bool false)).put (some 151) (.bool false)).put (some 152) (.pointer (some ⟨zm, 0, none⟩))).put (some 153) (.pointer (some ⟨zf, 0, none⟩))).put (some 154) (.int .i64 0)).put (some 155) (.bool false)).put (some 156) (.bool false)).put (some 157) (.bool false)).put (some 158) (.pointer (some ⟨zg, 0, none⟩))).put (some 159) (.pointer (some ⟨zf, 0, none⟩))).put (some 160) (.int .i64 0)).put (some 161) (.bool false)).put (some 162) (.bool false)) w4) :
    Code.wp Try.prog (.region 30 (fn_ops s) true) Q a W := by
  refine wp_region_held_drew (S := fun _ => True) (by kernel_rfl) trivial (fun hS => ?_)
  change wpAnyH _ _ _ _ _ _ _ _ (World.drew _)
  refine wpAnyH_take (i := 0) (oi := fn_0 s) (v := .pointer (some ⟨zg, 0, none⟩)) (by kernel_rfl) (by kernel_rfl) (by kernel_rfl) (by kernel_rfl) (fun c a w h => hQ c _ _ _ w h) (Or.inl ⟨wanted_none rfl, fun w hw => by simp only [execOp, fn_0, e10]; rfl⟩) hS ?_
  change wpAnyH _ _ _ _ _ _ _ (a.put (some 144) (.pointer (some ⟨zg, 0, none⟩))) _
  obtain ⟨a0_1, ha1⟩ : ∃ rr : Act, rr = a.put (some 144) (.pointer (some ⟨zg, 0, none⟩)) := ⟨_, rfl⟩
  have qz1 : 162 < a0_1.tmps.size := by rw [ha1, sz_put]; exact hs
  have f1_8 : a0_1.eval (.tmp 8) = .pointer (some ⟨zf, 0, none⟩) := by rw [ha1, ev_other _ _ _ _ (by decide)]; exact e8
  have f1_10 : a0_1.eval (.tmp 10) = .pointer (some ⟨zg, 0, none⟩) := by rw [ha1, ev_other _ _ _ _ (by decide)]; exact e10
  have f1_12 : a0_1.eval (.tmp 12) = .pointer (some ⟨zm, 0, none⟩) := by rw [ha1, ev_other _ _ _ _ (by decide)]; exact e12
  have f1_144 : a0_1.eval (.tmp 144) = .pointer (some ⟨zg, 0, none⟩) := by rw [ha1]; exact ev_same _ _ _ (Nat.lt_of_le_of_lt (by decide) hs)
  rw [← ha1] at h0 ⊢
  clear ha1
  refine wpAnyH_take (i := 3) (oi := fn_3 s) (v := .pointer (some ⟨zm, 0, none⟩)) (by kernel_rfl) (by kernel_rfl) (by kernel_rfl) (by kernel_rfl) (fun c a w h => hQ c _ _ _ w h) (Or.inl ⟨wanted_none rfl, fun w hw => by simp only [execOp, fn_3, f1_12]; rfl⟩) hS ?_
  change wpAnyH _ _ _ _ _ _ _ (a0_1.put (some 147) (.pointer (some ⟨zm, 0, none⟩))) _
  obtain ⟨a0_2, ha2⟩ : ∃ rr : Act, rr = a0_1.put (some 147) (.pointer (some ⟨zm, 0, none⟩)) := ⟨_, rfl⟩
  have qz2 : 162 < a0_2.tmps.size := by rw [ha2, sz_put]; exact qz1
  have f2_8 : a0_2.eval (.tmp 8) = .pointer (some ⟨zf, 0, none⟩) := by rw [ha2, ev_other _ _ _ _ (by decide)]; exact f1_8
  have f2_10 : a0_2.eval (.tmp 10) = .pointer (some ⟨zg, 0, none⟩) := by rw [ha2, ev_other _ _ _ _ (by decide)]; exact f1_10
  have f2_12 : a0_2.eval (.tmp 12) = .pointer (some ⟨zm, 0, none⟩) := by rw [ha2, ev_other _ _ _ _ (by decide)]; exact f1_12
  have f2_144 : a0_2.eval (.tmp 144) = .pointer (some ⟨zg, 0, none⟩) := by rw [ha2, ev_other _ _ _ _ (by decide)]; exact f1_144
  have f2_147 : a0_2.eval (.tmp 147) = .pointer (some ⟨zm, 0, none⟩) := by rw [ha2]; exact ev_same _ _ _ (Nat.lt_of_le_of_lt (by decide) qz1)
  rw [← ha2] at h0 ⊢
  clear ha2
  refine wpAnyH_ready (rs := [1]) (by kernel_rfl) (by simp) ?_
  refine AllReadyH.cons (o := fn_1 s) (by kernel_rfl) (fun KQ hKQ => ?_) AllReadyH.nil
  rw [if_pos (wanted_none rfl)]
  refine step_enterE 19 #[.pointer (some ⟨zg, 0, none⟩)] (by rw [fn_enter1, f2_144]) (fun V w' => w'.ownsRow W.heap.size 5 1 V xs.length (xs.map u8c) ∧ Below W.heap.size W w') (hc1.mono (fun e w' h => by obtain ⟨V, h1, h2, h3⟩ := h; exact ⟨V, h1, h2, ⟨h3.os, h3.tape, h3.output, h3.size, h3.block⟩⟩)) ?_
  rintro v1 w1 ⟨ho1, hb1⟩
  have hv1 := conv_rd w1 v1 xs (Rd_owned ho1)
  refine hKQ.out _ _ (trivial) (fun _ => ?_)
  clear hKQ KQ
  change wpAnyH _ _ _ _ _ _ _ (a0_2.put (some 145) (v1)) _
  refine wpAnyH_mono (S' := fun W' => (convert 49 9 v1).run Try.prog W' = .ok (.string ⟨xs.toArray⟩) W') (fun w h => trivial) _ _ _ _ ?_
  have hS3 : (fun W' => (convert 49 9 v1).run Try.prog W' = .ok (.string ⟨xs.toArray⟩) W') _ := hv1
  have h0 := h0 v1
  obtain ⟨a0_3, ha3⟩ : ∃ rr : Act, rr = a0_2.put (some 145) (v1) := ⟨_, rfl⟩
  have qz3 : 162 < a0_3.tmps.size := by rw [ha3, sz_put]; exact qz2
  have f3_8 : a0_3.eval (.tmp 8) = .pointer (some ⟨zf, 0, none⟩) := by rw [ha3, ev_other _ _ _ _ (by decide)]; exact f2_8
  have f3_10 : a0_3.eval (.tmp 10) = .pointer (some ⟨zg, 0, none⟩) := by rw [ha3, ev_other _ _ _ _ (by decide)]; exact f2_10
  have f3_12 : a0_3.eval (.tmp 12) = .pointer (some ⟨zm, 0, none⟩) := by rw [ha3, ev_other _ _ _ _ (by decide)]; exact f2_12
  have f3_145 : a0_3.eval (.tmp 145) = v1 := by rw [ha3]; exact ev_same _ _ _ (Nat.lt_of_le_of_lt (by decide) qz2)
  have f3_147 : a0_3.eval (.tmp 147) = .pointer (some ⟨zm, 0, none⟩) := by rw [ha3, ev_other _ _ _ _ (by decide)]; exact f2_147
  rw [← ha3] at h0 ⊢
  clear ha3
  refine wpAnyH_take (i := 2) (oi := fn_2 s) (v := .string ⟨xs.toArray⟩) (by kernel_rfl) (by kernel_rfl) (by kernel_rfl) (by kernel_rfl) (fun c a w h => hQ c _ _ _ w h) (Or.inl ⟨wanted_none rfl, fun w hw => run_conv rfl f3_145 hw⟩) hS3 ?_
  change wpAnyH _ _ _ _ _ _ _ (a0_3.put (some 146) (.string ⟨xs.toArray⟩)) _
  obtain ⟨a0_4, ha4⟩ : ∃ rr : Act, rr = a0_3.put (some 146) (.string ⟨xs.toArray⟩) := ⟨_, rfl⟩
  have qz4 : 162 < a0_4.tmps.size := by rw [ha4, sz_put]; exact qz3
  have f4_8 : a0_4.eval (.tmp 8) = .pointer (some ⟨zf, 0, none⟩) := by rw [ha4, ev_other _ _ _ _ (by decide)]; exact f3_8
  have f4_10 : a0_4.eval (.tmp 10) = .pointer (some ⟨zg, 0, none⟩) := by rw [ha4, ev_other _ _ _ _ (by decide)]; exact f3_10
  have f4_12 : a0_4.eval (.tmp 12) = .pointer (some ⟨zm, 0, none⟩) := by rw [ha4, ev_other _ _ _ _ (by decide)]; exact f3_12
  have f4_146 : a0_4.eval (.tmp 146) = .string ⟨xs.toArray⟩ := by rw [ha4]; exact ev_same _ _ _ (Nat.lt_of_le_of_lt (by decide) qz3)
  have f4_147 : a0_4.eval (.tmp 147) = .pointer (some ⟨zm, 0, none⟩) := by rw [ha4, ev_other _ _ _ _ (by decide)]; exact f3_147
  rw [← ha4] at h0 ⊢
  clear ha4
  refine wpAnyH_ready (rs := [4]) (by kernel_rfl) (by simp) ?_
  refine AllReadyH.cons (o := fn_4 s) (by kernel_rfl) (fun KQ hKQ => ?_) AllReadyH.nil
  rw [if_pos (wanted_none rfl)]
  refine step_enterE 19 #[.pointer (some ⟨zm, 0, none⟩)] (by rw [fn_enter4, f4_147]) (fun V w' => w'.ownsRow W.heap.size 5 1 V xs.length (xs.map u8c) ∧ Below w1.heap.size w1 w') ((hc2 w1 hb1).mono (fun e w' h => by obtain ⟨V, h1, h2, h3⟩ := h; exact ⟨V, h1, owns_lower h2 hb1.size, h3⟩)) ?_
  rintro v2 w2 ⟨ho2, hb2⟩
  have hv2 := conv_rd w2 v2 xs (Rd_owned ho2)
  have ho12 := owns_below ho1 hb2
  have hv12 := conv_rd w2 v1 xs (Rd_owned ho12)
  refine hKQ.out _ _ (hv12) (fun _ => ?_)
  clear hKQ KQ
  change wpAnyH _ _ _ _ _ _ _ (a0_4.put (some 148) (v2)) _
  refine wpAnyH_mono (S' := fun W' => (convert 49 9 v2).run Try.prog W' = .ok (.string ⟨xs.toArray⟩) W' ∧ (convert 49 9 v1).run Try.prog W' = .ok (.string ⟨xs.toArray⟩) W') (fun w h => h.2) _ _ _ _ ?_
  have hS5 : (fun W' => (convert 49 9 v2).run Try.prog W' = .ok (.string ⟨xs.toArray⟩) W' ∧ (convert 49 9 v1).run Try.prog W' = .ok (.string ⟨xs.toArray⟩) W') _ := ⟨hv2, hv12⟩
  have h0 := h0 v2
  obtain ⟨a0_5, ha5⟩ : ∃ rr : Act, rr = a0_4.put (some 148) (v2) := ⟨_, rfl⟩
  have qz5 : 162 < a0_5.tmps.size := by rw [ha5, sz_put]; exact qz4
  have f5_8 : a0_5.eval (.tmp 8) = .pointer (some ⟨zf, 0, none⟩) := by rw [ha5, ev_other _ _ _ _ (by decide)]; exact f4_8
  have f5_10 : a0_5.eval (.tmp 10) = .pointer (some ⟨zg, 0, none⟩) := by rw [ha5, ev_other _ _ _ _ (by decide)]; exact f4_10
  have f5_12 : a0_5.eval (.tmp 12) = .pointer (some ⟨zm, 0, none⟩) := by rw [ha5, ev_other _ _ _ _ (by decide)]; exact f4_12
  have f5_146 : a0_5.eval (.tmp 146) = .string ⟨xs.toArray⟩ := by rw [ha5, ev_other _ _ _ _ (by decide)]; exact f4_146
  have f5_148 : a0_5.eval (.tmp 148) = v2 := by rw [ha5]; exact ev_same _ _ _ (Nat.lt_of_le_of_lt (by decide) qz4)
  rw [← ha5] at h0 ⊢
  clear ha5
  refine wpAnyH_take (i := 5) (oi := fn_5 s) (v := .string ⟨xs.toArray⟩) (by kernel_rfl) (by kernel_rfl) (by kernel_rfl) (by kernel_rfl) (fun c a w h => hQ c _ _ _ w h) (Or.inl ⟨wanted_none rfl, fun w hw => run_conv rfl f5_148 hw.1⟩) hS5 ?_
  change wpAnyH _ _ _ _ _ _ _ (a0_5.put (some 149) (.string ⟨xs.toArray⟩)) _
  obtain ⟨a0_6, ha6⟩ : ∃ rr : Act, rr = a0_5.put (some 149) (.string ⟨xs.toArray⟩) := ⟨_, rfl⟩
  have qz6 : 162 < a0_6.tmps.size := by rw [ha6, sz_put]; exact qz5
  have f6_8 : a0_6.eval (.tmp 8) = .pointer (some ⟨zf, 0, none⟩) := by rw [ha6, ev_other _ _ _ _ (by decide)]; exact f5_8
  have f6_10 : a0_6.eval (.tmp 10) = .pointer (some ⟨zg, 0, none⟩) := by rw [ha6, ev_other _ _ _ _ (by decide)]; exact f5_10
  have f6_12 : a0_6.eval (.tmp 12) = .pointer (some ⟨zm, 0, none⟩) := by rw [ha6, ev_other _ _ _ _ (by decide)]; exact f5_12
  have f6_146 : a0_6.eval (.tmp 146) = .string ⟨xs.toArray⟩ := by rw [ha6, ev_other _ _ _ _ (by decide)]; exact f5_146
  have f6_149 : a0_6.eval (.tmp 149) = .string ⟨xs.toArray⟩ := by rw [ha6]; exact ev_same _ _ _ (Nat.lt_of_le_of_lt (by decide) qz5)
  rw [← ha6] at h0 ⊢
  clear ha6
  refine wpAnyH_take (i := 6) (oi := fn_6 s) (v := .bool false) (by kernel_rfl) (by kernel_rfl) (by kernel_rfl) (by kernel_rfl) (fun c a w h => hQ c _ _ _ w h) (Or.inl ⟨wanted_none rfl, fun w hw => run_neSame rfl f6_146 f6_149 w⟩) hS5 ?_
  change wpAnyH _ _ _ _ _ _ _ (a0_6.put (some 150) (.bool false)) _
  obtain ⟨a0_7, ha7⟩ : ∃ rr : Act, rr = a0_6.put (some 150) (.bool false) := ⟨_, rfl⟩
  have qz7 : 162 < a0_7.tmps.size := by rw [ha7, sz_put]; exact qz6
  have f7_8 : a0_7.eval (.tmp 8) = .pointer (some ⟨zf, 0, none⟩) := by rw [ha7, ev_other _ _ _ _ (by decide)]; exact f6_8
  have f7_10 : a0_7.eval (.tmp 10) = .pointer (some ⟨zg, 0, none⟩) := by rw [ha7, ev_other _ _ _ _ (by decide)]; exact f6_10
  have f7_12 : a0_7.eval (.tmp 12) = .pointer (some ⟨zm, 0, none⟩) := by rw [ha7, ev_other _ _ _ _ (by decide)]; exact f6_12
  have f7_150 : a0_7.eval (.tmp 150) = .bool false := by rw [ha7]; exact ev_same _ _ _ (Nat.lt_of_le_of_lt (by decide) qz6)
  rw [← ha7] at h0 ⊢
  clear ha7
  refine wpAnyH_take (i := 7) (oi := fn_7 s) (v := .bool false) (by kernel_rfl) (by kernel_rfl) (by kernel_rfl) (by kernel_rfl) (fun c a w h => hQ c _ _ _ w h) (Or.inl ⟨wanted_none rfl, fun w hw => by simp only [execOp, fn_7, f7_150]; rfl⟩) hS5 ?_
  change wpAnyH _ _ _ _ _ _ _ (a0_7.put (some 151) (.bool false)) _
  obtain ⟨a0_8, ha8⟩ : ∃ rr : Act, rr = a0_7.put (some 151) (.bool false) := ⟨_, rfl⟩
  have qz8 : 162 < a0_8.tmps.size := by rw [ha8, sz_put]; exact qz7
  have f8_8 : a0_8.eval (.tmp 8) = .pointer (some ⟨zf, 0, none⟩) := by rw [ha8, ev_other _ _ _ _ (by decide)]; exact f7_8
  have f8_10 : a0_8.eval (.tmp 10) = .pointer (some ⟨zg, 0, none⟩) := by rw [ha8, ev_other _ _ _ _ (by decide)]; exact f7_10
  have f8_12 : a0_8.eval (.tmp 12) = .pointer (some ⟨zm, 0, none⟩) := by rw [ha8, ev_other _ _ _ _ (by decide)]; exact f7_12
  have f8_151 : a0_8.eval (.tmp 151) = .bool false := by rw [ha8]; exact ev_same _ _ _ (Nat.lt_of_le_of_lt (by decide) qz7)
  rw [← ha8] at h0 ⊢
  clear ha8
  refine wpAnyH_take (i := 8) (oi := fn_8 s) (v := .pointer (some ⟨zm, 0, none⟩)) (by kernel_rfl) (by kernel_rfl) (by kernel_rfl) (by kernel_rfl) (fun c a w h => hQ c _ _ _ w h) (Or.inl ⟨wanted_some rfl (by kernel_rfl) f8_151 (Nat.lt_of_le_of_lt (by decide) qz8), fun w hw => by simp only [execOp, fn_8, f8_12]; rfl⟩) hS5 ?_
  change wpAnyH _ _ _ _ _ _ _ (a0_8.put (some 152) (.pointer (some ⟨zm, 0, none⟩))) _
  obtain ⟨a0_9, ha9⟩ : ∃ rr : Act, rr = a0_8.put (some 152) (.pointer (some ⟨zm, 0, none⟩)) := ⟨_, rfl⟩
  have qz9 : 162 < a0_9.tmps.size := by rw [ha9, sz_put]; exact qz8
  have f9_8 : a0_9.eval (.tmp 8) = .pointer (some ⟨zf, 0, none⟩) := by rw [ha9, ev_other _ _ _ _ (by decide)]; exact f8_8
  have f9_10 : a0_9.eval (.tmp 10) = .pointer (some ⟨zg, 0, none⟩) := by rw [ha9, ev_other _ _ _ _ (by decide)]; exact f8_10
  have f9_151 : a0_9.eval (.tmp 151) = .bool false := by rw [ha9, ev_other _ _ _ _ (by decide)]; exact f8_151
  have f9_152 : a0_9.eval (.tmp 152) = .pointer (some ⟨zm, 0, none⟩) := by rw [ha9]; exact ev_same _ _ _ (Nat.lt_of_le_of_lt (by decide) qz8)
  rw [← ha9] at h0 ⊢
  clear ha9
  refine wpAnyH_take (i := 9) (oi := fn_9 s) (v := .pointer (some ⟨zf, 0, none⟩)) (by kernel_rfl) (by kernel_rfl) (by kernel_rfl) (by kernel_rfl) (fun c a w h => hQ c _ _ _ w h) (Or.inl ⟨wanted_some rfl (by kernel_rfl) f9_151 (Nat.lt_of_le_of_lt (by decide) qz9), fun w hw => by simp only [execOp, fn_9, f9_8]; rfl⟩) hS5 ?_
  change wpAnyH _ _ _ _ _ _ _ (a0_9.put (some 153) (.pointer (some ⟨zf, 0, none⟩))) _
  obtain ⟨a0_10, ha10⟩ : ∃ rr : Act, rr = a0_9.put (some 153) (.pointer (some ⟨zf, 0, none⟩)) := ⟨_, rfl⟩
  have qz10 : 162 < a0_10.tmps.size := by rw [ha10, sz_put]; exact qz9
  have f10_8 : a0_10.eval (.tmp 8) = .pointer (some ⟨zf, 0, none⟩) := by rw [ha10, ev_other _ _ _ _ (by decide)]; exact f9_8
  have f10_10 : a0_10.eval (.tmp 10) = .pointer (some ⟨zg, 0, none⟩) := by rw [ha10, ev_other _ _ _ _ (by decide)]; exact f9_10
  have f10_151 : a0_10.eval (.tmp 151) = .bool false := by rw [ha10, ev_other _ _ _ _ (by decide)]; exact f9_151
  have f10_152 : a0_10.eval (.tmp 152) = .pointer (some ⟨zm, 0, none⟩) := by rw [ha10, ev_other _ _ _ _ (by decide)]; exact f9_152
  have f10_153 : a0_10.eval (.tmp 153) = .pointer (some ⟨zf, 0, none⟩) := by rw [ha10]; exact ev_same _ _ _ (Nat.lt_of_le_of_lt (by decide) qz9)
  rw [← ha10] at h0 ⊢
  clear ha10
  refine wpAnyH_ready (rs := [10]) (by kernel_rfl) (by simp) ?_
  refine AllReadyH.cons (o := fn_10 s) (by kernel_rfl) (fun KQ hKQ => ?_) AllReadyH.nil
  rw [if_pos (wanted_some rfl (by kernel_rfl) f10_151 (Nat.lt_of_le_of_lt (by decide) qz10))]
  refine step_enterE 24 #[.pointer (some ⟨zm, 0, none⟩), .pointer (some ⟨zf, 0, none⟩)] (by rw [fn_enter10, f10_152, f10_153]) (fun V w' => V = .int .i64 0 ∧ w2.grownBy w' (some gm) ∧ M w') ((hc3 w2 (bstep hb1 hb2)).mono (fun e w' h => ⟨_, h.1, rfl, h.2⟩)) ?_
  rintro _ w3 ⟨rfl, hg3, hM⟩
  have hov2 := own_far ho2 hg3 hgm
  have hov1 := own_far ho12 hg3 hgm
  refine hKQ.out _ _ (⟨conv_rd w3 v2 xs (Rd_owned hov2), conv_rd w3 v1 xs (Rd_owned hov1)⟩) (fun _ => ?_)
  clear hKQ KQ
  change wpAnyH _ _ _ _ _ _ _ (a0_10.put (some 154) (.int .i64 0)) _
  obtain ⟨a0_11, ha11⟩ : ∃ rr : Act, rr = a0_10.put (some 154) (.int .i64 0) := ⟨_, rfl⟩
  have qz11 : 162 < a0_11.tmps.size := by rw [ha11, sz_put]; exact qz10
  have f11_8 : a0_11.eval (.tmp 8) = .pointer (some ⟨zf, 0, none⟩) := by rw [ha11, ev_other _ _ _ _ (by decide)]; exact f10_8
  have f11_10 : a0_11.eval (.tmp 10) = .pointer (some ⟨zg, 0, none⟩) := by rw [ha11, ev_other _ _ _ _ (by decide)]; exact f10_10
  have f11_151 : a0_11.eval (.tmp 151) = .bool false := by rw [ha11, ev_other _ _ _ _ (by decide)]; exact f10_151
  have f11_154 : a0_11.eval (.tmp 154) = .int .i64 0 := by rw [ha11]; exact ev_same _ _ _ (Nat.lt_of_le_of_lt (by decide) qz10)
  rw [← ha11] at h0 ⊢
  clear ha11
  refine wpAnyH_take (i := 11) (oi := fn_11 s) (v := .bool false) (by kernel_rfl) (by kernel_rfl) (by kernel_rfl) (by kernel_rfl) (fun c a w h => hQ c _ _ _ w h) (Or.inl ⟨wanted_some rfl (by kernel_rfl) f11_151 (Nat.lt_of_le_of_lt (by decide) qz11), fun w hw => run_neZ rfl f11_154 rfl w⟩) (⟨conv_rd w3 v2 xs (Rd_owned hov2), conv_rd w3 v1 xs (Rd_owned hov1)⟩) ?_
  change wpAnyH _ _ _ _ _ _ _ (a0_11.put (some 155) (.bool false)) _
  obtain ⟨a0_12, ha12⟩ : ∃ rr : Act, rr = a0_11.put (some 155) (.bool false) := ⟨_, rfl⟩
  have qz12 : 162 < a0_12.tmps.size := by rw [ha12, sz_put]; exact qz11
  have f12_8 : a0_12.eval (.tmp 8) = .pointer (some ⟨zf, 0, none⟩) := by rw [ha12, ev_other _ _ _ _ (by decide)]; exact f11_8
  have f12_10 : a0_12.eval (.tmp 10) = .pointer (some ⟨zg, 0, none⟩) := by rw [ha12, ev_other _ _ _ _ (by decide)]; exact f11_10
  have f12_151 : a0_12.eval (.tmp 151) = .bool false := by rw [ha12, ev_other _ _ _ _ (by decide)]; exact f11_151
  have f12_155 : a0_12.eval (.tmp 155) = .bool false := by rw [ha12]; exact ev_same _ _ _ (Nat.lt_of_le_of_lt (by decide) qz11)
  rw [← ha12] at h0 ⊢
  clear ha12
  refine wpAnyH_take (i := 12) (oi := fn_12 s) (v := .bool false) (by kernel_rfl) (by kernel_rfl) (by kernel_rfl) (by kernel_rfl) (fun c a w h => hQ c _ _ _ w h) (Or.inl ⟨wanted_none rfl, fun w hw => by simp only [execOp, fn_12, f12_151, f12_155]; rfl⟩) (⟨conv_rd w3 v2 xs (Rd_owned hov2), conv_rd w3 v1 xs (Rd_owned hov1)⟩) ?_
  change wpAnyH _ _ _ _ _ _ _ (a0_12.put (some 156) (.bool false)) _
  obtain ⟨a0_13, ha13⟩ : ∃ rr : Act, rr = a0_12.put (some 156) (.bool false) := ⟨_, rfl⟩
  have qz13 : 162 < a0_13.tmps.size := by rw [ha13, sz_put]; exact qz12
  have f13_8 : a0_13.eval (.tmp 8) = .pointer (some ⟨zf, 0, none⟩) := by rw [ha13, ev_other _ _ _ _ (by decide)]; exact f12_8
  have f13_10 : a0_13.eval (.tmp 10) = .pointer (some ⟨zg, 0, none⟩) := by rw [ha13, ev_other _ _ _ _ (by decide)]; exact f12_10
  have f13_156 : a0_13.eval (.tmp 156) = .bool false := by rw [ha13]; exact ev_same _ _ _ (Nat.lt_of_le_of_lt (by decide) qz12)
  rw [← ha13] at h0 ⊢
  clear ha13
  refine wpAnyH_take (i := 13) (oi := fn_13 s) (v := .bool false) (by kernel_rfl) (by kernel_rfl) (by kernel_rfl) (by kernel_rfl) (fun c a w h => hQ c _ _ _ w h) (Or.inl ⟨wanted_none rfl, fun w hw => by simp only [execOp, fn_13, f13_156]; rfl⟩) (⟨conv_rd w3 v2 xs (Rd_owned hov2), conv_rd w3 v1 xs (Rd_owned hov1)⟩) ?_
  change wpAnyH _ _ _ _ _ _ _ (a0_13.put (some 157) (.bool false)) _
  obtain ⟨a0_14, ha14⟩ : ∃ rr : Act, rr = a0_13.put (some 157) (.bool false) := ⟨_, rfl⟩
  have qz14 : 162 < a0_14.tmps.size := by rw [ha14, sz_put]; exact qz13
  have f14_8 : a0_14.eval (.tmp 8) = .pointer (some ⟨zf, 0, none⟩) := by rw [ha14, ev_other _ _ _ _ (by decide)]; exact f13_8
  have f14_10 : a0_14.eval (.tmp 10) = .pointer (some ⟨zg, 0, none⟩) := by rw [ha14, ev_other _ _ _ _ (by decide)]; exact f13_10
  have f14_157 : a0_14.eval (.tmp 157) = .bool false := by rw [ha14]; exact ev_same _ _ _ (Nat.lt_of_le_of_lt (by decide) qz13)
  rw [← ha14] at h0 ⊢
  clear ha14
  refine wpAnyH_take (i := 14) (oi := fn_14 s) (v := .pointer (some ⟨zg, 0, none⟩)) (by kernel_rfl) (by kernel_rfl) (by kernel_rfl) (by kernel_rfl) (fun c a w h => hQ c _ _ _ w h) (Or.inl ⟨wanted_some rfl (by kernel_rfl) f14_157 (Nat.lt_of_le_of_lt (by decide) qz14), fun w hw => by simp only [execOp, fn_14, f14_10]; rfl⟩) (⟨conv_rd w3 v2 xs (Rd_owned hov2), conv_rd w3 v1 xs (Rd_owned hov1)⟩) ?_
  change wpAnyH _ _ _ _ _ _ _ (a0_14.put (some 158) (.pointer (some ⟨zg, 0, none⟩))) _
  obtain ⟨a0_15, ha15⟩ : ∃ rr : Act, rr = a0_14.put (some 158) (.pointer (some ⟨zg, 0, none⟩)) := ⟨_, rfl⟩
  have qz15 : 162 < a0_15.tmps.size := by rw [ha15, sz_put]; exact qz14
  have f15_8 : a0_15.eval (.tmp 8) = .pointer (some ⟨zf, 0, none⟩) := by rw [ha15, ev_other _ _ _ _ (by decide)]; exact f14_8
  have f15_157 : a0_15.eval (.tmp 157) = .bool false := by rw [ha15, ev_other _ _ _ _ (by decide)]; exact f14_157
  have f15_158 : a0_15.eval (.tmp 158) = .pointer (some ⟨zg, 0, none⟩) := by rw [ha15]; exact ev_same _ _ _ (Nat.lt_of_le_of_lt (by decide) qz14)
  rw [← ha15] at h0 ⊢
  clear ha15
  refine wpAnyH_take (i := 15) (oi := fn_15 s) (v := .pointer (some ⟨zf, 0, none⟩)) (by kernel_rfl) (by kernel_rfl) (by kernel_rfl) (by kernel_rfl) (fun c a w h => hQ c _ _ _ w h) (Or.inl ⟨wanted_some rfl (by kernel_rfl) f15_157 (Nat.lt_of_le_of_lt (by decide) qz15), fun w hw => by simp only [execOp, fn_15, f15_8]; rfl⟩) (⟨conv_rd w3 v2 xs (Rd_owned hov2), conv_rd w3 v1 xs (Rd_owned hov1)⟩) ?_
  change wpAnyH _ _ _ _ _ _ _ (a0_15.put (some 159) (.pointer (some ⟨zf, 0, none⟩))) _
  obtain ⟨a0_16, ha16⟩ : ∃ rr : Act, rr = a0_15.put (some 159) (.pointer (some ⟨zf, 0, none⟩)) := ⟨_, rfl⟩
  have qz16 : 162 < a0_16.tmps.size := by rw [ha16, sz_put]; exact qz15
  have f16_157 : a0_16.eval (.tmp 157) = .bool false := by rw [ha16, ev_other _ _ _ _ (by decide)]; exact f15_157
  have f16_158 : a0_16.eval (.tmp 158) = .pointer (some ⟨zg, 0, none⟩) := by rw [ha16, ev_other _ _ _ _ (by decide)]; exact f15_158
  have f16_159 : a0_16.eval (.tmp 159) = .pointer (some ⟨zf, 0, none⟩) := by rw [ha16]; exact ev_same _ _ _ (Nat.lt_of_le_of_lt (by decide) qz15)
  rw [← ha16] at h0 ⊢
  clear ha16
  refine wpAnyH_ready (rs := [16]) (by kernel_rfl) (by simp) ?_
  refine AllReadyH.cons (o := fn_16 s) (by kernel_rfl) (fun KQ hKQ => ?_) AllReadyH.nil
  rw [if_pos (wanted_some rfl (by kernel_rfl) f16_157 (Nat.lt_of_le_of_lt (by decide) qz16))]
  refine step_enterE 25 #[.pointer (some ⟨zg, 0, none⟩), .pointer (some ⟨zf, 0, none⟩)] (by rw [fn_enter16, f16_158, f16_159]) (fun V w' => V = .int .i64 0 ∧ w3.grownBy w' (some gg) ∧ J w') ((hc4 w3 hM).mono (fun e w' h => ⟨_, h.1, rfl, h.2⟩)) ?_
  rintro _ w4 ⟨rfl, hg4, hJ⟩
  have hp2 := own_far hov2 hg4 hgg
  have hp1 := own_far hov1 hg4 hgg
  refine hKQ.out _ _ (⟨conv_rd w4 v2 xs (Rd_owned hp2), conv_rd w4 v1 xs (Rd_owned hp1)⟩) (fun _ => ?_)
  clear hKQ KQ
  change wpAnyH _ _ _ _ _ _ _ (a0_16.put (some 160) (.int .i64 0)) _
  have h0 := h0 w4 hJ
  obtain ⟨a0_17, ha17⟩ : ∃ rr : Act, rr = a0_16.put (some 160) (.int .i64 0) := ⟨_, rfl⟩
  have qz17 : 162 < a0_17.tmps.size := by rw [ha17, sz_put]; exact qz16
  have f17_157 : a0_17.eval (.tmp 157) = .bool false := by rw [ha17, ev_other _ _ _ _ (by decide)]; exact f16_157
  have f17_160 : a0_17.eval (.tmp 160) = .int .i64 0 := by rw [ha17]; exact ev_same _ _ _ (Nat.lt_of_le_of_lt (by decide) qz16)
  rw [← ha17] at h0 ⊢
  clear ha17
  refine wpAnyH_take (i := 17) (oi := fn_17 s) (v := .bool false) (by kernel_rfl) (by kernel_rfl) (by kernel_rfl) (by kernel_rfl) (fun c a w h => hQ c _ _ _ w h) (Or.inl ⟨wanted_some rfl (by kernel_rfl) f17_157 (Nat.lt_of_le_of_lt (by decide) qz17), fun w hw => run_neZ rfl f17_160 rfl w⟩) (⟨conv_rd w4 v2 xs (Rd_owned hp2), conv_rd w4 v1 xs (Rd_owned hp1)⟩) ?_
  change wpAnyH _ _ _ _ _ _ _ (a0_17.put (some 161) (.bool false)) _
  obtain ⟨a0_18, ha18⟩ : ∃ rr : Act, rr = a0_17.put (some 161) (.bool false) := ⟨_, rfl⟩
  have qz18 : 162 < a0_18.tmps.size := by rw [ha18, sz_put]; exact qz17
  have f18_157 : a0_18.eval (.tmp 157) = .bool false := by rw [ha18, ev_other _ _ _ _ (by decide)]; exact f17_157
  have f18_161 : a0_18.eval (.tmp 161) = .bool false := by rw [ha18]; exact ev_same _ _ _ (Nat.lt_of_le_of_lt (by decide) qz17)
  rw [← ha18] at h0 ⊢
  clear ha18
  refine wpAnyH_take (i := 18) (oi := fn_18 s) (v := .bool false) (by kernel_rfl) (by kernel_rfl) (by kernel_rfl) (by kernel_rfl) (fun c a w h => hQ c _ _ _ w h) (Or.inl ⟨wanted_none rfl, fun w hw => by simp only [execOp, fn_18, f18_157, f18_161]; rfl⟩) (⟨conv_rd w4 v2 xs (Rd_owned hp2), conv_rd w4 v1 xs (Rd_owned hp1)⟩) ?_
  change wpAnyH _ _ _ _ _ _ _ (a0_18.put (some 162) (.bool false)) _
  obtain ⟨a0_19, ha19⟩ : ∃ rr : Act, rr = a0_18.put (some 162) (.bool false) := ⟨_, rfl⟩
  have qz19 : 162 < a0_19.tmps.size := by rw [ha19, sz_put]; exact qz18
  rw [← ha19] at h0 ⊢
  clear ha19
  refine wpAnyH_done (by kernel_rfl) ?_ _
  exact h0
end Go.Proofs.Ytbemmhngadpjcaa
