/- PinsPlays: Pin of both sides; the drawn regions of done and told. -/
import Derived.Test.YtagnglkkmdeicaaPA12
namespace Go.Proofs.Ytagnglkkmdeicaa
set_option linter.unusedVariables false
set_option linter.unusedSimpArgs false
open Go.RowKit Go.Shelf
set_option maxRecDepth 100000

theorem rising_insK {x : List UInt8} : ∀ {L : List (List UInt8)}, L.Pairwise (fun a b => cmpK a b < 0) → x ∉ L → (insK x L).Pairwise (fun a b => cmpK a b < 0)
  | [], _, _ => List.pairwise_singleton ..
  | y :: r, h, hx => by
    obtain ⟨h1, h2⟩ := List.pairwise_cons.1 h
    rw [insK]
    split
    · rename_i e
      refine List.pairwise_cons.2 ⟨fun q hq => ?_, h⟩
      rcases List.mem_cons.1 hq with rfl | hq
      · omega
      · exact cmpK_lt_le (by omega : cmpK x y < 0) (by have := h1 q hq; omega)
    · rename_i e
      have hyx : cmpK y x < 0 := by
        have h3 := cmpK_neg x y
        rcases cmpK_range x y with q | q | q
        · exact absurd q e
        · exact absurd (cmpK_zero x y q) (fun e2 => hx (by rw [e2]; exact List.mem_cons_self ..))
        · omega
      refine List.pairwise_cons.2 ⟨fun q hq => ?_, rising_insK h2 (fun h => hx (List.mem_cons_of_mem _ h))⟩
      rcases (mem_insK x r q).1 hq with rfl | hq
      · exact hyx
      · exact h1 q hq
theorem insK_ne (x : List UInt8) (L : List (List UInt8)) : insK x L ≠ [] := fun e => by
  have := len_insK x L
  rw [e] at this
  simp at this
section
variable {w : World} {zp zr n : Nat} {os : List (Option SesV)} {D : List RfV}
theorem two_pin (h : One w zp zr os D n) (s : Int) (x : List UInt8) (hx : x.length = 32) (hn : n ≤ 4398046510976) : TwoC 10 19 #[.pointer (some ⟨zp, 0, none⟩), .int .i64 s, keyV x] #[.pointer (some ⟨zr, 0, none⟩), .int .i64 s, keyV x] zp zr n os w := by
  rcases h.cases s with ⟨h1, h2⟩ | ⟨k, d, v, rfl, hk, hd, ho, a1, a2, a3, a4, a5, a6⟩
  · exact two_still h 140 (pin_no w _ s 140 x (by decide) (fun W hb => opened_no (h.p.below hb) h2)) (fun w1 q => rpin_no w1 zr D s x q.r h1)
  · have hlL := h.rel.few k d hd
    refine ⟨0, fun w1 => PinsAt w1 zp (os.set k (some { v with S := addK x v.S })) ∧ RfAt w1 zr D, (pin_yes w zp os k v x hk hx h.p a1 (by unfold maxLen; omega)).mono ?_, ?_⟩
    · rintro e w1 ⟨he, b6, b7⟩
      have hz := noB_map (h.p.ses k v a1)
      exact ⟨he, ⟨b6, h.r.keepB b7 hz (fun e => blk_map_ne h.r.blk (h.p.ses k v a1).set e)⟩, Chg.of_grown b7 (.inr (.inr ⟨k, v, a1, .inr rfl⟩))⟩
    · rintro w1 ⟨b5, b6⟩
      have hft : ∀ i, Ft zp zr (os.set k (some { v with S := addK x v.S })) i → Ft zp zr os i ∨ w.heap.size ≤ i := fun i hi => hi.set (fun u e q => by cases e; exact .inl (.inr (.inr ⟨k, v, a1, q⟩)))
      have hal := addK_len x v.S
      by_cases hin : x ∈ d.L
      · refine (rpin_has w1 zr D k d x hk hx b6 hd ho (by omega) hin).mono ?_
        rintro e w2 ⟨he, c1⟩
        have hS : addK x v.S = v.S := by unfold addK; rw [if_pos ((a4 x).1 hin)]
        refine ⟨he, Chg.of_below c1, _, D, ⟨b5.below c1, b6.below c1, ?_⟩, hft⟩
        have hr := h.rel.set (m := n + 1) (k := k) (d' := d) (o' := some { v with S := addK x v.S }) (by omega) h.r.len h.p.len hk (fun q => by rw [ho] at q; cases q) (fun _ => ⟨_, rfl, a2, a3, fun y => by rw [a4 y, hS], by show (addK x v.S).length ≤ n + 1; omega, by omega⟩) (by omega) (h.rel.none' k d hd)
        have hDs : D.set k d = D := by
          apply List.ext_getElem?
          intro i
          by_cases e : i = k
          · subst e; rw [List.getElem?_set_self (by rw [h.r.len]; exact hk), hd]
          · rw [List.getElem?_set_ne (fun e2 => e e2.symm)]
        rw [hDs] at hr
        exact hr
      · refine (rpin_new w1 zr D k d x hk hx b6 hd ho (by omega) hin).mono ?_
        rintro e w2 ⟨he, ao, cap, c1, c2, c3⟩
        have hS : addK x v.S = insK x v.S := by unfold addK; rw [if_neg (fun q => hin ((a4 x).2 q))]
        refine ⟨he, Chg.of_grown c3 (.inr (.inl rfl)), _, _, ⟨b5.keepD b6.blk c3, c1, ?_⟩, hft⟩
        refine h.rel.set (by omega) h.r.len h.p.len hk (fun q => by rw [show ({ d with ao := ao, cap := cap, L := insK x d.L } : RfV).op = d.op from rfl, ho] at q; cases q) (fun _ => ⟨_, rfl, a2, rising_insK a3 hin, fun y => ?_, by show (addK x v.S).length ≤ n + 1; omega, by show d.busy ≤ n + 1; omega⟩) (by show (insK x d.L).length ≤ n + 1; rw [len_insK]; omega) (fun q => absurd q (insK_ne x d.L))
        show y ∈ insK x d.L ↔ y ∈ addK x v.S
        rw [hS, mem_insK, mem_insK, a4 y]
end
theorem fldSt {op : Oper} {ev : Operand → Value} {x : Operand} {b : Nat} (ho : op.op = .fieldAddr 32 x 2) (hx : ev x = .pointer (some ⟨b, 0, none⟩)) (w : World) : (execOp ev op).run Try.prog w = .ok (.value (.pointer (some ⟨b, 2, none⟩))) w := by
  simp only [execOp, ho, hx]; kernel_rfl
theorem fldKt {op : Oper} {ev : Operand → Value} {x : Operand} {b : Nat} (ho : op.op = .fieldAddr 32 x 3) (hx : ev x = .pointer (some ⟨b, 0, none⟩)) (w : World) : (execOp ev op).run Try.prog w = .ok (.value (.pointer (some ⟨b, 3, none⟩))) w := by
  simp only [execOp, ho, hx]; kernel_rfl
theorem run_eqE {op : Oper} {ev : Operand → Value} {x y : Operand} {u : TypeId} {q : Int} (ho : op.op = .binOp .eql 37 x y u) (hx : ev x = .int .i64 q) (hy : ev y = .int .i64 q) (w : World) : (execOp ev op).run Try.prog w = .ok (.value (.bool true)) w := by
  have := Try.underlying37
  simp [execOp, ho, hx, hy, go_sem, this]
theorem run_eqIn {op : Oper} {ev : Operand → Value} {x y : Operand} {u : TypeId} {q : Int} (ho : op.op = .binOp .eql 3 x y u) (hx : ev x = .int .i64 q) (hy : ev y = .int .i64 q) (w : World) : (execOp ev op).run Try.prog w = .ok (.value (.bool true)) w := by
  have := Try.underlying3
  simp [execOp, ho, hx, hy, go_sem, this]
theorem run_eqBo {op : Oper} {ev : Operand → Value} {x y : Operand} {u : TypeId} {q : Bool} (ho : op.op = .binOp .eql 4 x y u) (hx : ev x = .bool q) (hy : ev y = .bool q) (w : World) : (execOp ev op).run Try.prog w = .ok (.value (.bool true)) w := by
  have := Try.underlying4
  simp [execOp, ho, hx, hy, go_sem, this]
def dn3_0 (s : String) : Oper := { dst := some 11, op := Op.move (Operand.tmp 0), type := 23, pos := s, after := #[], guard := none }
def dn3_1 (s : String) : Oper := { dst := some 12, op := Op.fieldAddr 32 (Operand.tmp 5) 2, type := 0, pos := s, after := #[], guard := none }
def dn3_2 (s : String) : Oper := { dst := some 13, op := Op.load 3 (Operand.tmp 12), type := 3, pos := s, after := #[{ on := 1, ground := Ground.data }], guard := none }
def dn3_3 (s : String) : Oper := { dst := some 14, op := Op.call { callee := Callee.value (Operand.func 9), args := #[Operand.tmp 11, Operand.tmp 13], argTypes := #[23, 3] }, type := 37, pos := s, after := #[{ on := 0, ground := Ground.data }, { on := 2, ground := Ground.data }], guard := none }
def dn3_4 (s : String) : Oper := { dst := some 15, op := Op.move (Operand.tmp 1), type := 25, pos := s, after := #[], guard := none }
def dn3_5 (s : String) : Oper := { dst := some 16, op := Op.fieldAddr 32 (Operand.tmp 5) 2, type := 0, pos := s, after := #[], guard := none }
def dn3_6 (s : String) : Oper := { dst := some 17, op := Op.load 3 (Operand.tmp 16), type := 3, pos := s, after := #[{ on := 5, ground := Ground.data }], guard := none }
def dn3_7 (s : String) : Oper := { dst := some 18, op := Op.call { callee := Callee.value (Operand.func 16), args := #[Operand.tmp 15, Operand.tmp 17], argTypes := #[25, 3] }, type := 37, pos := s, after := #[{ on := 4, ground := Ground.data }, { on := 6, ground := Ground.data }, { on := 3, ground := Ground.chain }], guard := none }
def dn3_8 (s : String) : Oper := { dst := some 19, op := Op.binOp BinOp.eql 37 (Operand.tmp 14) (Operand.tmp 18) 37, type := 4, pos := s, after := #[{ on := 3, ground := Ground.data }, { on := 7, ground := Ground.data }], guard := none }
def dn3_9 (s : String) : Oper := { dst := some 6, op := Op.assign (Operand.tmp 19), type := 4, pos := s, after := #[{ on := 8, ground := Ground.data }, { on := 7, ground := Ground.chain }, { on := 0, ground := Ground.phase }, { on := 1, ground := Ground.phase }, { on := 2, ground := Ground.phase }, { on := 3, ground := Ground.phase }, { on := 4, ground := Ground.phase }, { on := 5, ground := Ground.phase }, { on := 6, ground := Ground.phase }, { on := 7, ground := Ground.phase }, { on := 8, ground := Ground.phase }], guard := none }
def dn3_ops (s : String) : Array Oper := #[dn3_0 s, dn3_1 s, dn3_2 s, dn3_3 s, dn3_4 s, dn3_5 s, dn3_6 s, dn3_7 s, dn3_8 s, dn3_9 s]
theorem dn3_enter3 (s : String) (a : Act) (w : World) : (execOp a.eval (dn3_3 s)).run Try.prog w = .ok (.enter 9 #[a.eval (.tmp 11), a.eval (.tmp 13)]) w := by kernel_rfl
theorem dn3_enter7 (s : String) (a : Act) (w : World) : (execOp a.eval (dn3_7 s)).run Try.prog w = .ok (.enter 16 #[a.eval (.tmp 15), a.eval (.tmp 17)]) w := by kernel_rfl
theorem dn3_walk (s : String) {Q : Exit → Act → World → Prop} (hQ : ∀ c (a : Act) t v w, Q (.panic c) (a.put (some t) v) w → Q (.panic c) a w) (W : World) (zp zr zx : Nat) (si : Int) (x : List UInt8) (hxl : x.length = 32) (r : Int) (M1 M2 : World → Prop) (hS0 : W.drew.cell? ⟨zx, 2, none⟩ = some (.int .i64 si) ∧ W.drew.rangeAt zx 3 (x.map u8c)) (hc1 : Calls Try.prog 9 #[.pointer (some ⟨zp, 0, none⟩), .int .i64 si] W.drew fun e w' => e = .returned (.int .i64 r) ∧ M1 w') (hk1 : ∀ w1, M1 w1 → w1.cell? ⟨zx, 2, none⟩ = some (.int .i64 si) ∧ w1.rangeAt zx 3 (x.map u8c)) (hc2 : ∀ w1, M1 w1 → Calls Try.prog 16 #[.pointer (some ⟨zr, 0, none⟩), .int .i64 si] w1 fun e w' => e = .returned (.int .i64 r) ∧ M2 w') (hk2 : ∀ w2, M2 w2 → w2.cell? ⟨zx, 2, none⟩ = some (.int .i64 si) ∧ w2.rangeAt zx 3 (x.map u8c))
    (a : Act) (hs : 19 < a.tmps.size) (e0 : a.eval (.tmp 0) = .pointer (some ⟨zp, 0, none⟩)) (e1 : a.eval (.tmp 1) = .pointer (some ⟨zr, 0, none⟩)) (e5 : a.eval (.tmp 5) = .pointer (some ⟨zx, 0, none⟩))
    (h0 : ∀ w2, M2 w2 → Q .normal ((((((((((a.put (some 11) (.pointer (some ⟨zp, 0, none⟩))).put (some 12) (.pointer (some ⟨zx, 2, none⟩))).put (some 13) (.int .i64 si)).put (some 15) (.pointer (some ⟨zr, 0, none⟩))).put (some 16) (.pointer (some ⟨zx, 2, none⟩))).put (some 17) (.int .i64 si)).put (some 14) (.int .i64 r)).put (some 18) (.int .i64 r)).put (some 19) (.bool true)).put (some 6) (.bool true)) w2) :
    Code.wp Try.prog (.region 3 (dn3_ops s) true) Q a W := by
  refine wp_region_held_drew (S := fun w => w.cell? ⟨zx, 2, none⟩ = some (.int .i64 si) ∧ w.rangeAt zx 3 (x.map u8c)) (by kernel_rfl) hS0 (fun hS => ?_)
  change wpAnyH _ _ _ _ _ _ _ _ (World.drew _)
  refine wpAnyH_take (i := 0) (oi := dn3_0 s) (v := .pointer (some ⟨zp, 0, none⟩)) (by kernel_rfl) (by kernel_rfl) (by kernel_rfl) (by kernel_rfl) (fun c a w h => hQ c _ _ _ w h) (Or.inl ⟨wanted_none rfl, fun w hw => by simp only [execOp, dn3_0, e0]; rfl⟩) hS ?_
  change wpAnyH _ _ _ _ _ _ _ (a.put (some 11) (.pointer (some ⟨zp, 0, none⟩))) _
  obtain ⟨a0_1, ha1⟩ : ∃ rr : Act, rr = a.put (some 11) (.pointer (some ⟨zp, 0, none⟩)) := ⟨_, rfl⟩
  have qz1 : 19 < a0_1.tmps.size := by rw [ha1, sz_put]; exact hs
  have f1_1 : a0_1.eval (.tmp 1) = .pointer (some ⟨zr, 0, none⟩) := by rw [ha1, ev_other _ _ _ _ (by decide)]; exact e1
  have f1_5 : a0_1.eval (.tmp 5) = .pointer (some ⟨zx, 0, none⟩) := by rw [ha1, ev_other _ _ _ _ (by decide)]; exact e5
  have f1_11 : a0_1.eval (.tmp 11) = .pointer (some ⟨zp, 0, none⟩) := by rw [ha1]; exact ev_same _ _ _ (Nat.lt_of_le_of_lt (by decide) hs)
  rw [← ha1] at h0 ⊢
  clear ha1
  refine wpAnyH_take (i := 1) (oi := dn3_1 s) (v := .pointer (some ⟨zx, 2, none⟩)) (by kernel_rfl) (by kernel_rfl) (by kernel_rfl) (by kernel_rfl) (fun c a w h => hQ c _ _ _ w h) (Or.inl ⟨wanted_none rfl, fun w hw => fldSt rfl f1_5 w⟩) hS ?_
  change wpAnyH _ _ _ _ _ _ _ (a0_1.put (some 12) (.pointer (some ⟨zx, 2, none⟩))) _
  obtain ⟨a0_2, ha2⟩ : ∃ rr : Act, rr = a0_1.put (some 12) (.pointer (some ⟨zx, 2, none⟩)) := ⟨_, rfl⟩
  have qz2 : 19 < a0_2.tmps.size := by rw [ha2, sz_put]; exact qz1
  have f2_1 : a0_2.eval (.tmp 1) = .pointer (some ⟨zr, 0, none⟩) := by rw [ha2, ev_other _ _ _ _ (by decide)]; exact f1_1
  have f2_5 : a0_2.eval (.tmp 5) = .pointer (some ⟨zx, 0, none⟩) := by rw [ha2, ev_other _ _ _ _ (by decide)]; exact f1_5
  have f2_11 : a0_2.eval (.tmp 11) = .pointer (some ⟨zp, 0, none⟩) := by rw [ha2, ev_other _ _ _ _ (by decide)]; exact f1_11
  have f2_12 : a0_2.eval (.tmp 12) = .pointer (some ⟨zx, 2, none⟩) := by rw [ha2]; exact ev_same _ _ _ (Nat.lt_of_le_of_lt (by decide) qz1)
  rw [← ha2] at h0 ⊢
  clear ha2
  refine wpAnyH_take (i := 2) (oi := dn3_2 s) (v := .int .i64 si) (by kernel_rfl) (by kernel_rfl) (by kernel_rfl) (by kernel_rfl) (fun c a w h => hQ c _ _ _ w h) (Or.inl ⟨wanted_none rfl, fun w hw => run_load rfl f2_12 (load_intS hw.1)⟩) hS ?_
  change wpAnyH _ _ _ _ _ _ _ (a0_2.put (some 13) (.int .i64 si)) _
  obtain ⟨a0_3, ha3⟩ : ∃ rr : Act, rr = a0_2.put (some 13) (.int .i64 si) := ⟨_, rfl⟩
  have qz3 : 19 < a0_3.tmps.size := by rw [ha3, sz_put]; exact qz2
  have f3_1 : a0_3.eval (.tmp 1) = .pointer (some ⟨zr, 0, none⟩) := by rw [ha3, ev_other _ _ _ _ (by decide)]; exact f2_1
  have f3_5 : a0_3.eval (.tmp 5) = .pointer (some ⟨zx, 0, none⟩) := by rw [ha3, ev_other _ _ _ _ (by decide)]; exact f2_5
  have f3_11 : a0_3.eval (.tmp 11) = .pointer (some ⟨zp, 0, none⟩) := by rw [ha3, ev_other _ _ _ _ (by decide)]; exact f2_11
  have f3_13 : a0_3.eval (.tmp 13) = .int .i64 si := by rw [ha3]; exact ev_same _ _ _ (Nat.lt_of_le_of_lt (by decide) qz2)
  rw [← ha3] at h0 ⊢
  clear ha3
  refine wpAnyH_take (i := 4) (oi := dn3_4 s) (v := .pointer (some ⟨zr, 0, none⟩)) (by kernel_rfl) (by kernel_rfl) (by kernel_rfl) (by kernel_rfl) (fun c a w h => hQ c _ _ _ w h) (Or.inl ⟨wanted_none rfl, fun w hw => by simp only [execOp, dn3_4, f3_1]; rfl⟩) hS ?_
  change wpAnyH _ _ _ _ _ _ _ (a0_3.put (some 15) (.pointer (some ⟨zr, 0, none⟩))) _
  obtain ⟨a0_4, ha4⟩ : ∃ rr : Act, rr = a0_3.put (some 15) (.pointer (some ⟨zr, 0, none⟩)) := ⟨_, rfl⟩
  have qz4 : 19 < a0_4.tmps.size := by rw [ha4, sz_put]; exact qz3
  have f4_5 : a0_4.eval (.tmp 5) = .pointer (some ⟨zx, 0, none⟩) := by rw [ha4, ev_other _ _ _ _ (by decide)]; exact f3_5
  have f4_11 : a0_4.eval (.tmp 11) = .pointer (some ⟨zp, 0, none⟩) := by rw [ha4, ev_other _ _ _ _ (by decide)]; exact f3_11
  have f4_13 : a0_4.eval (.tmp 13) = .int .i64 si := by rw [ha4, ev_other _ _ _ _ (by decide)]; exact f3_13
  have f4_15 : a0_4.eval (.tmp 15) = .pointer (some ⟨zr, 0, none⟩) := by rw [ha4]; exact ev_same _ _ _ (Nat.lt_of_le_of_lt (by decide) qz3)
  rw [← ha4] at h0 ⊢
  clear ha4
  refine wpAnyH_take (i := 5) (oi := dn3_5 s) (v := .pointer (some ⟨zx, 2, none⟩)) (by kernel_rfl) (by kernel_rfl) (by kernel_rfl) (by kernel_rfl) (fun c a w h => hQ c _ _ _ w h) (Or.inl ⟨wanted_none rfl, fun w hw => fldSt rfl f4_5 w⟩) hS ?_
  change wpAnyH _ _ _ _ _ _ _ (a0_4.put (some 16) (.pointer (some ⟨zx, 2, none⟩))) _
  obtain ⟨a0_5, ha5⟩ : ∃ rr : Act, rr = a0_4.put (some 16) (.pointer (some ⟨zx, 2, none⟩)) := ⟨_, rfl⟩
  have qz5 : 19 < a0_5.tmps.size := by rw [ha5, sz_put]; exact qz4
  have f5_11 : a0_5.eval (.tmp 11) = .pointer (some ⟨zp, 0, none⟩) := by rw [ha5, ev_other _ _ _ _ (by decide)]; exact f4_11
  have f5_13 : a0_5.eval (.tmp 13) = .int .i64 si := by rw [ha5, ev_other _ _ _ _ (by decide)]; exact f4_13
  have f5_15 : a0_5.eval (.tmp 15) = .pointer (some ⟨zr, 0, none⟩) := by rw [ha5, ev_other _ _ _ _ (by decide)]; exact f4_15
  have f5_16 : a0_5.eval (.tmp 16) = .pointer (some ⟨zx, 2, none⟩) := by rw [ha5]; exact ev_same _ _ _ (Nat.lt_of_le_of_lt (by decide) qz4)
  rw [← ha5] at h0 ⊢
  clear ha5
  refine wpAnyH_take (i := 6) (oi := dn3_6 s) (v := .int .i64 si) (by kernel_rfl) (by kernel_rfl) (by kernel_rfl) (by kernel_rfl) (fun c a w h => hQ c _ _ _ w h) (Or.inl ⟨wanted_none rfl, fun w hw => run_load rfl f5_16 (load_intS hw.1)⟩) hS ?_
  change wpAnyH _ _ _ _ _ _ _ (a0_5.put (some 17) (.int .i64 si)) _
  obtain ⟨a0_6, ha6⟩ : ∃ rr : Act, rr = a0_5.put (some 17) (.int .i64 si) := ⟨_, rfl⟩
  have qz6 : 19 < a0_6.tmps.size := by rw [ha6, sz_put]; exact qz5
  have f6_11 : a0_6.eval (.tmp 11) = .pointer (some ⟨zp, 0, none⟩) := by rw [ha6, ev_other _ _ _ _ (by decide)]; exact f5_11
  have f6_13 : a0_6.eval (.tmp 13) = .int .i64 si := by rw [ha6, ev_other _ _ _ _ (by decide)]; exact f5_13
  have f6_15 : a0_6.eval (.tmp 15) = .pointer (some ⟨zr, 0, none⟩) := by rw [ha6, ev_other _ _ _ _ (by decide)]; exact f5_15
  have f6_17 : a0_6.eval (.tmp 17) = .int .i64 si := by rw [ha6]; exact ev_same _ _ _ (Nat.lt_of_le_of_lt (by decide) qz5)
  rw [← ha6] at h0 ⊢
  clear ha6
  refine wpAnyH_ready (rs := [3]) (by kernel_rfl) (by simp) ?_
  refine AllReadyH.cons (o := dn3_3 s) (by kernel_rfl) (fun KQ hKQ => ?_) AllReadyH.nil
  rw [if_pos (wanted_none rfl)]
  refine step_enterE 9 #[.pointer (some ⟨zp, 0, none⟩), .int .i64 si] (by rw [dn3_enter3, f6_11, f6_13]) (fun V w' => V = .int .i64 r ∧ M1 w') (hc1.mono (fun e w' h => ⟨_, h.1, rfl, h.2⟩)) ?_
  rintro _ w1 ⟨rfl, hM1⟩
  refine hKQ.out _ _ (hk1 w1 hM1) (fun _ => ?_)
  clear hKQ KQ
  change wpAnyH _ _ _ _ _ _ _ (a0_6.put (some 14) (.int .i64 r)) _
  obtain ⟨a0_7, ha7⟩ : ∃ rr : Act, rr = a0_6.put (some 14) (.int .i64 r) := ⟨_, rfl⟩
  have qz7 : 19 < a0_7.tmps.size := by rw [ha7, sz_put]; exact qz6
  have f7_14 : a0_7.eval (.tmp 14) = .int .i64 r := by rw [ha7]; exact ev_same _ _ _ (Nat.lt_of_le_of_lt (by decide) qz6)
  have f7_15 : a0_7.eval (.tmp 15) = .pointer (some ⟨zr, 0, none⟩) := by rw [ha7, ev_other _ _ _ _ (by decide)]; exact f6_15
  have f7_17 : a0_7.eval (.tmp 17) = .int .i64 si := by rw [ha7, ev_other _ _ _ _ (by decide)]; exact f6_17
  rw [← ha7] at h0 ⊢
  clear ha7
  refine wpAnyH_ready (rs := [7]) (by kernel_rfl) (by simp) ?_
  refine AllReadyH.cons (o := dn3_7 s) (by kernel_rfl) (fun KQ hKQ => ?_) AllReadyH.nil
  rw [if_pos (wanted_none rfl)]
  refine step_enterE 16 #[.pointer (some ⟨zr, 0, none⟩), .int .i64 si] (by rw [dn3_enter7, f7_15, f7_17]) (fun V w' => V = .int .i64 r ∧ M2 w') ((hc2 w1 hM1).mono (fun e w' h => ⟨_, h.1, rfl, h.2⟩)) ?_
  rintro _ w2 ⟨rfl, hM2⟩
  refine hKQ.out _ _ (hk2 w2 hM2) (fun _ => ?_)
  clear hKQ KQ
  change wpAnyH _ _ _ _ _ _ _ (a0_7.put (some 18) (.int .i64 r)) _
  have h0 := h0 w2 hM2
  obtain ⟨a0_8, ha8⟩ : ∃ rr : Act, rr = a0_7.put (some 18) (.int .i64 r) := ⟨_, rfl⟩
  have qz8 : 19 < a0_8.tmps.size := by rw [ha8, sz_put]; exact qz7
  have f8_14 : a0_8.eval (.tmp 14) = .int .i64 r := by rw [ha8, ev_other _ _ _ _ (by decide)]; exact f7_14
  have f8_18 : a0_8.eval (.tmp 18) = .int .i64 r := by rw [ha8]; exact ev_same _ _ _ (Nat.lt_of_le_of_lt (by decide) qz7)
  rw [← ha8] at h0 ⊢
  clear ha8
  refine wpAnyH_take (i := 8) (oi := dn3_8 s) (v := .bool true) (by kernel_rfl) (by kernel_rfl) (by kernel_rfl) (by kernel_rfl) (fun c a w h => hQ c _ _ _ w h) (Or.inl ⟨wanted_none rfl, fun w hw => run_eqE rfl f8_14 f8_18 w⟩) (hk2 w2 hM2) ?_
  change wpAnyH _ _ _ _ _ _ _ (a0_8.put (some 19) (.bool true)) _
  obtain ⟨a0_9, ha9⟩ : ∃ rr : Act, rr = a0_8.put (some 19) (.bool true) := ⟨_, rfl⟩
  have qz9 : 19 < a0_9.tmps.size := by rw [ha9, sz_put]; exact qz8
  have f9_19 : a0_9.eval (.tmp 19) = .bool true := by rw [ha9]; exact ev_same _ _ _ (Nat.lt_of_le_of_lt (by decide) qz8)
  rw [← ha9] at h0 ⊢
  clear ha9
  refine wpAnyH_take (i := 9) (oi := dn3_9 s) (v := .bool true) (by kernel_rfl) (by kernel_rfl) (by kernel_rfl) (by kernel_rfl) (fun c a w h => hQ c _ _ _ w h) (Or.inl ⟨wanted_none rfl, fun w hw => by simp only [execOp, dn3_9, f9_19]; rfl⟩) (hk2 w2 hM2) ?_
  change wpAnyH _ _ _ _ _ _ _ (a0_9.put (some 6) (.bool true)) _
  obtain ⟨a0_10, ha10⟩ : ∃ rr : Act, rr = a0_9.put (some 6) (.bool true) := ⟨_, rfl⟩
  have qz10 : 19 < a0_10.tmps.size := by rw [ha10, sz_put]; exact qz9
  rw [← ha10] at h0 ⊢
  clear ha10
  refine wpAnyH_done (by kernel_rfl) ?_ _
  exact h0
def dn5_0 (s : String) : Oper := { dst := some 22, op := Op.move (Operand.tmp 0), type := 23, pos := s, after := #[], guard := none }
def dn5_1 (s : String) : Oper := { dst := some 23, op := Op.fieldAddr 32 (Operand.tmp 5) 2, type := 0, pos := s, after := #[], guard := none }
def dn5_2 (s : String) : Oper := { dst := some 24, op := Op.load 3 (Operand.tmp 23), type := 3, pos := s, after := #[{ on := 1, ground := Ground.data }], guard := none }
def dn5_3 (s : String) : Oper := { dst := some 25, op := Op.call { callee := Callee.value (Operand.func 17), args := #[Operand.tmp 22, Operand.tmp 24], argTypes := #[23, 3] }, type := 37, pos := s, after := #[{ on := 0, ground := Ground.data }, { on := 2, ground := Ground.data }], guard := none }
def dn5_4 (s : String) : Oper := { dst := some 26, op := Op.move (Operand.tmp 1), type := 25, pos := s, after := #[], guard := none }
def dn5_5 (s : String) : Oper := { dst := some 27, op := Op.fieldAddr 32 (Operand.tmp 5) 2, type := 0, pos := s, after := #[], guard := none }
def dn5_6 (s : String) : Oper := { dst := some 28, op := Op.load 3 (Operand.tmp 27), type := 3, pos := s, after := #[{ on := 5, ground := Ground.data }], guard := none }
def dn5_7 (s : String) : Oper := { dst := some 29, op := Op.call { callee := Callee.value (Operand.func 18), args := #[Operand.tmp 26, Operand.tmp 28], argTypes := #[25, 3] }, type := 37, pos := s, after := #[{ on := 4, ground := Ground.data }, { on := 6, ground := Ground.data }, { on := 3, ground := Ground.chain }], guard := none }
def dn5_8 (s : String) : Oper := { dst := some 30, op := Op.binOp BinOp.eql 37 (Operand.tmp 25) (Operand.tmp 29) 37, type := 4, pos := s, after := #[{ on := 3, ground := Ground.data }, { on := 7, ground := Ground.data }], guard := none }
def dn5_9 (s : String) : Oper := { dst := some 6, op := Op.assign (Operand.tmp 30), type := 4, pos := s, after := #[{ on := 8, ground := Ground.data }, { on := 7, ground := Ground.chain }, { on := 0, ground := Ground.phase }, { on := 1, ground := Ground.phase }, { on := 2, ground := Ground.phase }, { on := 3, ground := Ground.phase }, { on := 4, ground := Ground.phase }, { on := 5, ground := Ground.phase }, { on := 6, ground := Ground.phase }, { on := 7, ground := Ground.phase }, { on := 8, ground := Ground.phase }], guard := none }
def dn5_ops (s : String) : Array Oper := #[dn5_0 s, dn5_1 s, dn5_2 s, dn5_3 s, dn5_4 s, dn5_5 s, dn5_6 s, dn5_7 s, dn5_8 s, dn5_9 s]
theorem dn5_enter3 (s : String) (a : Act) (w : World) : (execOp a.eval (dn5_3 s)).run Try.prog w = .ok (.enter 17 #[a.eval (.tmp 22), a.eval (.tmp 24)]) w := by kernel_rfl
theorem dn5_enter7 (s : String) (a : Act) (w : World) : (execOp a.eval (dn5_7 s)).run Try.prog w = .ok (.enter 18 #[a.eval (.tmp 26), a.eval (.tmp 28)]) w := by kernel_rfl
theorem dn5_walk (s : String) {Q : Exit → Act → World → Prop} (hQ : ∀ c (a : Act) t v w, Q (.panic c) (a.put (some t) v) w → Q (.panic c) a w) (W : World) (zp zr zx : Nat) (si : Int) (x : List UInt8) (hxl : x.length = 32) (r : Int) (M1 M2 : World → Prop) (hS0 : W.drew.cell? ⟨zx, 2, none⟩ = some (.int .i64 si) ∧ W.drew.rangeAt zx 3 (x.map u8c)) (hc1 : Calls Try.prog 17 #[.pointer (some ⟨zp, 0, none⟩), .int .i64 si] W.drew fun e w' => e = .returned (.int .i64 r) ∧ M1 w') (hk1 : ∀ w1, M1 w1 → w1.cell? ⟨zx, 2, none⟩ = some (.int .i64 si) ∧ w1.rangeAt zx 3 (x.map u8c)) (hc2 : ∀ w1, M1 w1 → Calls Try.prog 18 #[.pointer (some ⟨zr, 0, none⟩), .int .i64 si] w1 fun e w' => e = .returned (.int .i64 r) ∧ M2 w') (hk2 : ∀ w2, M2 w2 → w2.cell? ⟨zx, 2, none⟩ = some (.int .i64 si) ∧ w2.rangeAt zx 3 (x.map u8c))
    (a : Act) (hs : 30 < a.tmps.size) (e0 : a.eval (.tmp 0) = .pointer (some ⟨zp, 0, none⟩)) (e1 : a.eval (.tmp 1) = .pointer (some ⟨zr, 0, none⟩)) (e5 : a.eval (.tmp 5) = .pointer (some ⟨zx, 0, none⟩))
    (h0 : ∀ w2, M2 w2 → Q .normal ((((((((((a.put (some 22) (.pointer (some ⟨zp, 0, none⟩))).put (some 23) (.pointer (some ⟨zx, 2, none⟩))).put (some 24) (.int .i64 si)).put (some 26) (.pointer (some ⟨zr, 0, none⟩))).put (some 27) (.pointer (some ⟨zx, 2, none⟩))).put (some 28) (.int .i64 si)).put (some 25) (.int .i64 r)).put (some 29) (.int .i64 r)).put (some 30) (.bool true)).put (some 6) (.bool true)) w2) :
    Code.wp Try.prog (.region 5 (dn5_ops s) true) Q a W := by
  refine wp_region_held_drew (S := fun w => w.cell? ⟨zx, 2, none⟩ = some (.int .i64 si) ∧ w.rangeAt zx 3 (x.map u8c)) (by kernel_rfl) hS0 (fun hS => ?_)
  change wpAnyH _ _ _ _ _ _ _ _ (World.drew _)
  refine wpAnyH_take (i := 0) (oi := dn5_0 s) (v := .pointer (some ⟨zp, 0, none⟩)) (by kernel_rfl) (by kernel_rfl) (by kernel_rfl) (by kernel_rfl) (fun c a w h => hQ c _ _ _ w h) (Or.inl ⟨wanted_none rfl, fun w hw => by simp only [execOp, dn5_0, e0]; rfl⟩) hS ?_
  change wpAnyH _ _ _ _ _ _ _ (a.put (some 22) (.pointer (some ⟨zp, 0, none⟩))) _
  obtain ⟨a0_1, ha1⟩ : ∃ rr : Act, rr = a.put (some 22) (.pointer (some ⟨zp, 0, none⟩)) := ⟨_, rfl⟩
  have qz1 : 30 < a0_1.tmps.size := by rw [ha1, sz_put]; exact hs
  have f1_1 : a0_1.eval (.tmp 1) = .pointer (some ⟨zr, 0, none⟩) := by rw [ha1, ev_other _ _ _ _ (by decide)]; exact e1
  have f1_5 : a0_1.eval (.tmp 5) = .pointer (some ⟨zx, 0, none⟩) := by rw [ha1, ev_other _ _ _ _ (by decide)]; exact e5
  have f1_22 : a0_1.eval (.tmp 22) = .pointer (some ⟨zp, 0, none⟩) := by rw [ha1]; exact ev_same _ _ _ (Nat.lt_of_le_of_lt (by decide) hs)
  rw [← ha1] at h0 ⊢
  clear ha1
  refine wpAnyH_take (i := 1) (oi := dn5_1 s) (v := .pointer (some ⟨zx, 2, none⟩)) (by kernel_rfl) (by kernel_rfl) (by kernel_rfl) (by kernel_rfl) (fun c a w h => hQ c _ _ _ w h) (Or.inl ⟨wanted_none rfl, fun w hw => fldSt rfl f1_5 w⟩) hS ?_
  change wpAnyH _ _ _ _ _ _ _ (a0_1.put (some 23) (.pointer (some ⟨zx, 2, none⟩))) _
  obtain ⟨a0_2, ha2⟩ : ∃ rr : Act, rr = a0_1.put (some 23) (.pointer (some ⟨zx, 2, none⟩)) := ⟨_, rfl⟩
  have qz2 : 30 < a0_2.tmps.size := by rw [ha2, sz_put]; exact qz1
  have f2_1 : a0_2.eval (.tmp 1) = .pointer (some ⟨zr, 0, none⟩) := by rw [ha2, ev_other _ _ _ _ (by decide)]; exact f1_1
  have f2_5 : a0_2.eval (.tmp 5) = .pointer (some ⟨zx, 0, none⟩) := by rw [ha2, ev_other _ _ _ _ (by decide)]; exact f1_5
  have f2_22 : a0_2.eval (.tmp 22) = .pointer (some ⟨zp, 0, none⟩) := by rw [ha2, ev_other _ _ _ _ (by decide)]; exact f1_22
  have f2_23 : a0_2.eval (.tmp 23) = .pointer (some ⟨zx, 2, none⟩) := by rw [ha2]; exact ev_same _ _ _ (Nat.lt_of_le_of_lt (by decide) qz1)
  rw [← ha2] at h0 ⊢
  clear ha2
  refine wpAnyH_take (i := 2) (oi := dn5_2 s) (v := .int .i64 si) (by kernel_rfl) (by kernel_rfl) (by kernel_rfl) (by kernel_rfl) (fun c a w h => hQ c _ _ _ w h) (Or.inl ⟨wanted_none rfl, fun w hw => run_load rfl f2_23 (load_intS hw.1)⟩) hS ?_
  change wpAnyH _ _ _ _ _ _ _ (a0_2.put (some 24) (.int .i64 si)) _
  obtain ⟨a0_3, ha3⟩ : ∃ rr : Act, rr = a0_2.put (some 24) (.int .i64 si) := ⟨_, rfl⟩
  have qz3 : 30 < a0_3.tmps.size := by rw [ha3, sz_put]; exact qz2
  have f3_1 : a0_3.eval (.tmp 1) = .pointer (some ⟨zr, 0, none⟩) := by rw [ha3, ev_other _ _ _ _ (by decide)]; exact f2_1
  have f3_5 : a0_3.eval (.tmp 5) = .pointer (some ⟨zx, 0, none⟩) := by rw [ha3, ev_other _ _ _ _ (by decide)]; exact f2_5
  have f3_22 : a0_3.eval (.tmp 22) = .pointer (some ⟨zp, 0, none⟩) := by rw [ha3, ev_other _ _ _ _ (by decide)]; exact f2_22
  have f3_24 : a0_3.eval (.tmp 24) = .int .i64 si := by rw [ha3]; exact ev_same _ _ _ (Nat.lt_of_le_of_lt (by decide) qz2)
  rw [← ha3] at h0 ⊢
  clear ha3
  refine wpAnyH_take (i := 4) (oi := dn5_4 s) (v := .pointer (some ⟨zr, 0, none⟩)) (by kernel_rfl) (by kernel_rfl) (by kernel_rfl) (by kernel_rfl) (fun c a w h => hQ c _ _ _ w h) (Or.inl ⟨wanted_none rfl, fun w hw => by simp only [execOp, dn5_4, f3_1]; rfl⟩) hS ?_
  change wpAnyH _ _ _ _ _ _ _ (a0_3.put (some 26) (.pointer (some ⟨zr, 0, none⟩))) _
  obtain ⟨a0_4, ha4⟩ : ∃ rr : Act, rr = a0_3.put (some 26) (.pointer (some ⟨zr, 0, none⟩)) := ⟨_, rfl⟩
  have qz4 : 30 < a0_4.tmps.size := by rw [ha4, sz_put]; exact qz3
  have f4_5 : a0_4.eval (.tmp 5) = .pointer (some ⟨zx, 0, none⟩) := by rw [ha4, ev_other _ _ _ _ (by decide)]; exact f3_5
  have f4_22 : a0_4.eval (.tmp 22) = .pointer (some ⟨zp, 0, none⟩) := by rw [ha4, ev_other _ _ _ _ (by decide)]; exact f3_22
  have f4_24 : a0_4.eval (.tmp 24) = .int .i64 si := by rw [ha4, ev_other _ _ _ _ (by decide)]; exact f3_24
  have f4_26 : a0_4.eval (.tmp 26) = .pointer (some ⟨zr, 0, none⟩) := by rw [ha4]; exact ev_same _ _ _ (Nat.lt_of_le_of_lt (by decide) qz3)
  rw [← ha4] at h0 ⊢
  clear ha4
  refine wpAnyH_take (i := 5) (oi := dn5_5 s) (v := .pointer (some ⟨zx, 2, none⟩)) (by kernel_rfl) (by kernel_rfl) (by kernel_rfl) (by kernel_rfl) (fun c a w h => hQ c _ _ _ w h) (Or.inl ⟨wanted_none rfl, fun w hw => fldSt rfl f4_5 w⟩) hS ?_
  change wpAnyH _ _ _ _ _ _ _ (a0_4.put (some 27) (.pointer (some ⟨zx, 2, none⟩))) _
  obtain ⟨a0_5, ha5⟩ : ∃ rr : Act, rr = a0_4.put (some 27) (.pointer (some ⟨zx, 2, none⟩)) := ⟨_, rfl⟩
  have qz5 : 30 < a0_5.tmps.size := by rw [ha5, sz_put]; exact qz4
  have f5_22 : a0_5.eval (.tmp 22) = .pointer (some ⟨zp, 0, none⟩) := by rw [ha5, ev_other _ _ _ _ (by decide)]; exact f4_22
  have f5_24 : a0_5.eval (.tmp 24) = .int .i64 si := by rw [ha5, ev_other _ _ _ _ (by decide)]; exact f4_24
  have f5_26 : a0_5.eval (.tmp 26) = .pointer (some ⟨zr, 0, none⟩) := by rw [ha5, ev_other _ _ _ _ (by decide)]; exact f4_26
  have f5_27 : a0_5.eval (.tmp 27) = .pointer (some ⟨zx, 2, none⟩) := by rw [ha5]; exact ev_same _ _ _ (Nat.lt_of_le_of_lt (by decide) qz4)
  rw [← ha5] at h0 ⊢
  clear ha5
  refine wpAnyH_take (i := 6) (oi := dn5_6 s) (v := .int .i64 si) (by kernel_rfl) (by kernel_rfl) (by kernel_rfl) (by kernel_rfl) (fun c a w h => hQ c _ _ _ w h) (Or.inl ⟨wanted_none rfl, fun w hw => run_load rfl f5_27 (load_intS hw.1)⟩) hS ?_
  change wpAnyH _ _ _ _ _ _ _ (a0_5.put (some 28) (.int .i64 si)) _
  obtain ⟨a0_6, ha6⟩ : ∃ rr : Act, rr = a0_5.put (some 28) (.int .i64 si) := ⟨_, rfl⟩
  have qz6 : 30 < a0_6.tmps.size := by rw [ha6, sz_put]; exact qz5
  have f6_22 : a0_6.eval (.tmp 22) = .pointer (some ⟨zp, 0, none⟩) := by rw [ha6, ev_other _ _ _ _ (by decide)]; exact f5_22
  have f6_24 : a0_6.eval (.tmp 24) = .int .i64 si := by rw [ha6, ev_other _ _ _ _ (by decide)]; exact f5_24
  have f6_26 : a0_6.eval (.tmp 26) = .pointer (some ⟨zr, 0, none⟩) := by rw [ha6, ev_other _ _ _ _ (by decide)]; exact f5_26
  have f6_28 : a0_6.eval (.tmp 28) = .int .i64 si := by rw [ha6]; exact ev_same _ _ _ (Nat.lt_of_le_of_lt (by decide) qz5)
  rw [← ha6] at h0 ⊢
  clear ha6
  refine wpAnyH_ready (rs := [3]) (by kernel_rfl) (by simp) ?_
  refine AllReadyH.cons (o := dn5_3 s) (by kernel_rfl) (fun KQ hKQ => ?_) AllReadyH.nil
  rw [if_pos (wanted_none rfl)]
  refine step_enterE 17 #[.pointer (some ⟨zp, 0, none⟩), .int .i64 si] (by rw [dn5_enter3, f6_22, f6_24]) (fun V w' => V = .int .i64 r ∧ M1 w') (hc1.mono (fun e w' h => ⟨_, h.1, rfl, h.2⟩)) ?_
  rintro _ w1 ⟨rfl, hM1⟩
  refine hKQ.out _ _ (hk1 w1 hM1) (fun _ => ?_)
  clear hKQ KQ
  change wpAnyH _ _ _ _ _ _ _ (a0_6.put (some 25) (.int .i64 r)) _
  obtain ⟨a0_7, ha7⟩ : ∃ rr : Act, rr = a0_6.put (some 25) (.int .i64 r) := ⟨_, rfl⟩
  have qz7 : 30 < a0_7.tmps.size := by rw [ha7, sz_put]; exact qz6
  have f7_25 : a0_7.eval (.tmp 25) = .int .i64 r := by rw [ha7]; exact ev_same _ _ _ (Nat.lt_of_le_of_lt (by decide) qz6)
  have f7_26 : a0_7.eval (.tmp 26) = .pointer (some ⟨zr, 0, none⟩) := by rw [ha7, ev_other _ _ _ _ (by decide)]; exact f6_26
  have f7_28 : a0_7.eval (.tmp 28) = .int .i64 si := by rw [ha7, ev_other _ _ _ _ (by decide)]; exact f6_28
  rw [← ha7] at h0 ⊢
  clear ha7
  refine wpAnyH_ready (rs := [7]) (by kernel_rfl) (by simp) ?_
  refine AllReadyH.cons (o := dn5_7 s) (by kernel_rfl) (fun KQ hKQ => ?_) AllReadyH.nil
  rw [if_pos (wanted_none rfl)]
  refine step_enterE 18 #[.pointer (some ⟨zr, 0, none⟩), .int .i64 si] (by rw [dn5_enter7, f7_26, f7_28]) (fun V w' => V = .int .i64 r ∧ M2 w') ((hc2 w1 hM1).mono (fun e w' h => ⟨_, h.1, rfl, h.2⟩)) ?_
  rintro _ w2 ⟨rfl, hM2⟩
  refine hKQ.out _ _ (hk2 w2 hM2) (fun _ => ?_)
  clear hKQ KQ
  change wpAnyH _ _ _ _ _ _ _ (a0_7.put (some 29) (.int .i64 r)) _
  have h0 := h0 w2 hM2
  obtain ⟨a0_8, ha8⟩ : ∃ rr : Act, rr = a0_7.put (some 29) (.int .i64 r) := ⟨_, rfl⟩
  have qz8 : 30 < a0_8.tmps.size := by rw [ha8, sz_put]; exact qz7
  have f8_25 : a0_8.eval (.tmp 25) = .int .i64 r := by rw [ha8, ev_other _ _ _ _ (by decide)]; exact f7_25
  have f8_29 : a0_8.eval (.tmp 29) = .int .i64 r := by rw [ha8]; exact ev_same _ _ _ (Nat.lt_of_le_of_lt (by decide) qz7)
  rw [← ha8] at h0 ⊢
  clear ha8
  refine wpAnyH_take (i := 8) (oi := dn5_8 s) (v := .bool true) (by kernel_rfl) (by kernel_rfl) (by kernel_rfl) (by kernel_rfl) (fun c a w h => hQ c _ _ _ w h) (Or.inl ⟨wanted_none rfl, fun w hw => run_eqE rfl f8_25 f8_29 w⟩) (hk2 w2 hM2) ?_
  change wpAnyH _ _ _ _ _ _ _ (a0_8.put (some 30) (.bool true)) _
  obtain ⟨a0_9, ha9⟩ : ∃ rr : Act, rr = a0_8.put (some 30) (.bool true) := ⟨_, rfl⟩
  have qz9 : 30 < a0_9.tmps.size := by rw [ha9, sz_put]; exact qz8
  have f9_30 : a0_9.eval (.tmp 30) = .bool true := by rw [ha9]; exact ev_same _ _ _ (Nat.lt_of_le_of_lt (by decide) qz8)
  rw [← ha9] at h0 ⊢
  clear ha9
  refine wpAnyH_take (i := 9) (oi := dn5_9 s) (v := .bool true) (by kernel_rfl) (by kernel_rfl) (by kernel_rfl) (by kernel_rfl) (fun c a w h => hQ c _ _ _ w h) (Or.inl ⟨wanted_none rfl, fun w hw => by simp only [execOp, dn5_9, f9_30]; rfl⟩) (hk2 w2 hM2) ?_
  change wpAnyH _ _ _ _ _ _ _ (a0_9.put (some 6) (.bool true)) _
  obtain ⟨a0_10, ha10⟩ : ∃ rr : Act, rr = a0_9.put (some 6) (.bool true) := ⟨_, rfl⟩
  have qz10 : 30 < a0_10.tmps.size := by rw [ha10, sz_put]; exact qz9
  rw [← ha10] at h0 ⊢
  clear ha10
  refine wpAnyH_done (by kernel_rfl) ?_ _
  exact h0
def dn7_0 (s : String) : Oper := { dst := some 33, op := Op.move (Operand.tmp 0), type := 23, pos := s, after := #[], guard := none }
def dn7_1 (s : String) : Oper := { dst := some 34, op := Op.fieldAddr 32 (Operand.tmp 5) 2, type := 0, pos := s, after := #[], guard := none }
def dn7_2 (s : String) : Oper := { dst := some 35, op := Op.load 3 (Operand.tmp 34), type := 3, pos := s, after := #[{ on := 1, ground := Ground.data }], guard := none }
def dn7_3 (s : String) : Oper := { dst := some 36, op := Op.fieldAddr 32 (Operand.tmp 5) 3, type := 0, pos := s, after := #[], guard := none }
def dn7_4 (s : String) : Oper := { dst := some 37, op := Op.load 30 (Operand.tmp 36), type := 30, pos := s, after := #[{ on := 3, ground := Ground.data }], guard := none }
def dn7_5 (s : String) : Oper := { dst := some 38, op := Op.call { callee := Callee.value (Operand.func 10), args := #[Operand.tmp 33, Operand.tmp 35, Operand.tmp 37], argTypes := #[23, 3, 30] }, type := 37, pos := s, after := #[{ on := 0, ground := Ground.data }, { on := 2, ground := Ground.data }, { on := 4, ground := Ground.data }], guard := none }
def dn7_6 (s : String) : Oper := { dst := some 39, op := Op.move (Operand.tmp 1), type := 25, pos := s, after := #[], guard := none }
def dn7_7 (s : String) : Oper := { dst := some 40, op := Op.fieldAddr 32 (Operand.tmp 5) 2, type := 0, pos := s, after := #[], guard := none }
def dn7_8 (s : String) : Oper := { dst := some 41, op := Op.load 3 (Operand.tmp 40), type := 3, pos := s, after := #[{ on := 7, ground := Ground.data }], guard := none }
def dn7_9 (s : String) : Oper := { dst := some 42, op := Op.fieldAddr 32 (Operand.tmp 5) 3, type := 0, pos := s, after := #[], guard := none }
def dn7_10 (s : String) : Oper := { dst := some 43, op := Op.load 30 (Operand.tmp 42), type := 30, pos := s, after := #[{ on := 9, ground := Ground.data }], guard := none }
def dn7_11 (s : String) : Oper := { dst := some 44, op := Op.call { callee := Callee.value (Operand.func 19), args := #[Operand.tmp 39, Operand.tmp 41, Operand.tmp 43], argTypes := #[25, 3, 30] }, type := 37, pos := s, after := #[{ on := 6, ground := Ground.data }, { on := 8, ground := Ground.data }, { on := 10, ground := Ground.data }, { on := 5, ground := Ground.chain }], guard := none }
def dn7_12 (s : String) : Oper := { dst := some 45, op := Op.binOp BinOp.eql 37 (Operand.tmp 38) (Operand.tmp 44) 37, type := 4, pos := s, after := #[{ on := 5, ground := Ground.data }, { on := 11, ground := Ground.data }], guard := none }
def dn7_13 (s : String) : Oper := { dst := some 6, op := Op.assign (Operand.tmp 45), type := 4, pos := s, after := #[{ on := 12, ground := Ground.data }, { on := 11, ground := Ground.chain }, { on := 0, ground := Ground.phase }, { on := 1, ground := Ground.phase }, { on := 2, ground := Ground.phase }, { on := 3, ground := Ground.phase }, { on := 4, ground := Ground.phase }, { on := 5, ground := Ground.phase }, { on := 6, ground := Ground.phase }, { on := 7, ground := Ground.phase }, { on := 8, ground := Ground.phase }, { on := 9, ground := Ground.phase }, { on := 10, ground := Ground.phase }, { on := 11, ground := Ground.phase }, { on := 12, ground := Ground.phase }], guard := none }
def dn7_ops (s : String) : Array Oper := #[dn7_0 s, dn7_1 s, dn7_2 s, dn7_3 s, dn7_4 s, dn7_5 s, dn7_6 s, dn7_7 s, dn7_8 s, dn7_9 s, dn7_10 s, dn7_11 s, dn7_12 s, dn7_13 s]
theorem dn7_enter5 (s : String) (a : Act) (w : World) : (execOp a.eval (dn7_5 s)).run Try.prog w = .ok (.enter 10 #[a.eval (.tmp 33), a.eval (.tmp 35), a.eval (.tmp 37)]) w := by kernel_rfl
theorem dn7_enter11 (s : String) (a : Act) (w : World) : (execOp a.eval (dn7_11 s)).run Try.prog w = .ok (.enter 19 #[a.eval (.tmp 39), a.eval (.tmp 41), a.eval (.tmp 43)]) w := by kernel_rfl
theorem dn7_walk (s : String) {Q : Exit → Act → World → Prop} (hQ : ∀ c (a : Act) t v w, Q (.panic c) (a.put (some t) v) w → Q (.panic c) a w) (W : World) (zp zr zx : Nat) (si : Int) (x : List UInt8) (hxl : x.length = 32) (r : Int) (M1 M2 : World → Prop) (hS0 : W.drew.cell? ⟨zx, 2, none⟩ = some (.int .i64 si) ∧ W.drew.rangeAt zx 3 (x.map u8c)) (hc1 : Calls Try.prog 10 #[.pointer (some ⟨zp, 0, none⟩), .int .i64 si, keyV x] W.drew fun e w' => e = .returned (.int .i64 r) ∧ M1 w') (hk1 : ∀ w1, M1 w1 → w1.cell? ⟨zx, 2, none⟩ = some (.int .i64 si) ∧ w1.rangeAt zx 3 (x.map u8c)) (hc2 : ∀ w1, M1 w1 → Calls Try.prog 19 #[.pointer (some ⟨zr, 0, none⟩), .int .i64 si, keyV x] w1 fun e w' => e = .returned (.int .i64 r) ∧ M2 w') (hk2 : ∀ w2, M2 w2 → w2.cell? ⟨zx, 2, none⟩ = some (.int .i64 si) ∧ w2.rangeAt zx 3 (x.map u8c))
    (a : Act) (hs : 45 < a.tmps.size) (e0 : a.eval (.tmp 0) = .pointer (some ⟨zp, 0, none⟩)) (e1 : a.eval (.tmp 1) = .pointer (some ⟨zr, 0, none⟩)) (e5 : a.eval (.tmp 5) = .pointer (some ⟨zx, 0, none⟩))
    (h0 : ∀ w2, M2 w2 → Q .normal ((((((((((((((a.put (some 33) (.pointer (some ⟨zp, 0, none⟩))).put (some 34) (.pointer (some ⟨zx, 2, none⟩))).put (some 35) (.int .i64 si)).put (some 36) (.pointer (some ⟨zx, 3, none⟩))).put (some 37) (keyV x)).put (some 39) (.pointer (some ⟨zr, 0, none⟩))).put (some 40) (.pointer (some ⟨zx, 2, none⟩))).put (some 41) (.int .i64 si)).put (some 42) (.pointer (some ⟨zx, 3, none⟩))).put (some 43) (keyV x)).put (some 38) (.int .i64 r)).put (some 44) (.int .i64 r)).put (some 45) (.bool true)).put (some 6) (.bool true)) w2) :
    Code.wp Try.prog (.region 7 (dn7_ops s) true) Q a W := by
  refine wp_region_held_drew (S := fun w => w.cell? ⟨zx, 2, none⟩ = some (.int .i64 si) ∧ w.rangeAt zx 3 (x.map u8c)) (by kernel_rfl) hS0 (fun hS => ?_)
  change wpAnyH _ _ _ _ _ _ _ _ (World.drew _)
  refine wpAnyH_take (i := 0) (oi := dn7_0 s) (v := .pointer (some ⟨zp, 0, none⟩)) (by kernel_rfl) (by kernel_rfl) (by kernel_rfl) (by kernel_rfl) (fun c a w h => hQ c _ _ _ w h) (Or.inl ⟨wanted_none rfl, fun w hw => by simp only [execOp, dn7_0, e0]; rfl⟩) hS ?_
  change wpAnyH _ _ _ _ _ _ _ (a.put (some 33) (.pointer (some ⟨zp, 0, none⟩))) _
  obtain ⟨a0_1, ha1⟩ : ∃ rr : Act, rr = a.put (some 33) (.pointer (some ⟨zp, 0, none⟩)) := ⟨_, rfl⟩
  have qz1 : 45 < a0_1.tmps.size := by rw [ha1, sz_put]; exact hs
  have f1_1 : a0_1.eval (.tmp 1) = .pointer (some ⟨zr, 0, none⟩) := by rw [ha1, ev_other _ _ _ _ (by decide)]; exact e1
  have f1_5 : a0_1.eval (.tmp 5) = .pointer (some ⟨zx, 0, none⟩) := by rw [ha1, ev_other _ _ _ _ (by decide)]; exact e5
  have f1_33 : a0_1.eval (.tmp 33) = .pointer (some ⟨zp, 0, none⟩) := by rw [ha1]; exact ev_same _ _ _ (Nat.lt_of_le_of_lt (by decide) hs)
  rw [← ha1] at h0 ⊢
  clear ha1
  refine wpAnyH_take (i := 1) (oi := dn7_1 s) (v := .pointer (some ⟨zx, 2, none⟩)) (by kernel_rfl) (by kernel_rfl) (by kernel_rfl) (by kernel_rfl) (fun c a w h => hQ c _ _ _ w h) (Or.inl ⟨wanted_none rfl, fun w hw => fldSt rfl f1_5 w⟩) hS ?_
  change wpAnyH _ _ _ _ _ _ _ (a0_1.put (some 34) (.pointer (some ⟨zx, 2, none⟩))) _
  obtain ⟨a0_2, ha2⟩ : ∃ rr : Act, rr = a0_1.put (some 34) (.pointer (some ⟨zx, 2, none⟩)) := ⟨_, rfl⟩
  have qz2 : 45 < a0_2.tmps.size := by rw [ha2, sz_put]; exact qz1
  have f2_1 : a0_2.eval (.tmp 1) = .pointer (some ⟨zr, 0, none⟩) := by rw [ha2, ev_other _ _ _ _ (by decide)]; exact f1_1
  have f2_5 : a0_2.eval (.tmp 5) = .pointer (some ⟨zx, 0, none⟩) := by rw [ha2, ev_other _ _ _ _ (by decide)]; exact f1_5
  have f2_33 : a0_2.eval (.tmp 33) = .pointer (some ⟨zp, 0, none⟩) := by rw [ha2, ev_other _ _ _ _ (by decide)]; exact f1_33
  have f2_34 : a0_2.eval (.tmp 34) = .pointer (some ⟨zx, 2, none⟩) := by rw [ha2]; exact ev_same _ _ _ (Nat.lt_of_le_of_lt (by decide) qz1)
  rw [← ha2] at h0 ⊢
  clear ha2
  refine wpAnyH_take (i := 2) (oi := dn7_2 s) (v := .int .i64 si) (by kernel_rfl) (by kernel_rfl) (by kernel_rfl) (by kernel_rfl) (fun c a w h => hQ c _ _ _ w h) (Or.inl ⟨wanted_none rfl, fun w hw => run_load rfl f2_34 (load_intS hw.1)⟩) hS ?_
  change wpAnyH _ _ _ _ _ _ _ (a0_2.put (some 35) (.int .i64 si)) _
  obtain ⟨a0_3, ha3⟩ : ∃ rr : Act, rr = a0_2.put (some 35) (.int .i64 si) := ⟨_, rfl⟩
  have qz3 : 45 < a0_3.tmps.size := by rw [ha3, sz_put]; exact qz2
  have f3_1 : a0_3.eval (.tmp 1) = .pointer (some ⟨zr, 0, none⟩) := by rw [ha3, ev_other _ _ _ _ (by decide)]; exact f2_1
  have f3_5 : a0_3.eval (.tmp 5) = .pointer (some ⟨zx, 0, none⟩) := by rw [ha3, ev_other _ _ _ _ (by decide)]; exact f2_5
  have f3_33 : a0_3.eval (.tmp 33) = .pointer (some ⟨zp, 0, none⟩) := by rw [ha3, ev_other _ _ _ _ (by decide)]; exact f2_33
  have f3_35 : a0_3.eval (.tmp 35) = .int .i64 si := by rw [ha3]; exact ev_same _ _ _ (Nat.lt_of_le_of_lt (by decide) qz2)
  rw [← ha3] at h0 ⊢
  clear ha3
  refine wpAnyH_take (i := 3) (oi := dn7_3 s) (v := .pointer (some ⟨zx, 3, none⟩)) (by kernel_rfl) (by kernel_rfl) (by kernel_rfl) (by kernel_rfl) (fun c a w h => hQ c _ _ _ w h) (Or.inl ⟨wanted_none rfl, fun w hw => fldKt rfl f3_5 w⟩) hS ?_
  change wpAnyH _ _ _ _ _ _ _ (a0_3.put (some 36) (.pointer (some ⟨zx, 3, none⟩))) _
  obtain ⟨a0_4, ha4⟩ : ∃ rr : Act, rr = a0_3.put (some 36) (.pointer (some ⟨zx, 3, none⟩)) := ⟨_, rfl⟩
  have qz4 : 45 < a0_4.tmps.size := by rw [ha4, sz_put]; exact qz3
  have f4_1 : a0_4.eval (.tmp 1) = .pointer (some ⟨zr, 0, none⟩) := by rw [ha4, ev_other _ _ _ _ (by decide)]; exact f3_1
  have f4_5 : a0_4.eval (.tmp 5) = .pointer (some ⟨zx, 0, none⟩) := by rw [ha4, ev_other _ _ _ _ (by decide)]; exact f3_5
  have f4_33 : a0_4.eval (.tmp 33) = .pointer (some ⟨zp, 0, none⟩) := by rw [ha4, ev_other _ _ _ _ (by decide)]; exact f3_33
  have f4_35 : a0_4.eval (.tmp 35) = .int .i64 si := by rw [ha4, ev_other _ _ _ _ (by decide)]; exact f3_35
  have f4_36 : a0_4.eval (.tmp 36) = .pointer (some ⟨zx, 3, none⟩) := by rw [ha4]; exact ev_same _ _ _ (Nat.lt_of_le_of_lt (by decide) qz3)
  rw [← ha4] at h0 ⊢
  clear ha4
  refine wpAnyH_take (i := 4) (oi := dn7_4 s) (v := keyV x) (by kernel_rfl) (by kernel_rfl) (by kernel_rfl) (by kernel_rfl) (fun c a w h => hQ c _ _ _ w h) (Or.inl ⟨wanted_none rfl, fun w hw => run_load rfl f4_36 (loadAt_key hxl hw.2)⟩) hS ?_
  change wpAnyH _ _ _ _ _ _ _ (a0_4.put (some 37) (keyV x)) _
  obtain ⟨a0_5, ha5⟩ : ∃ rr : Act, rr = a0_4.put (some 37) (keyV x) := ⟨_, rfl⟩
  have qz5 : 45 < a0_5.tmps.size := by rw [ha5, sz_put]; exact qz4
  have f5_1 : a0_5.eval (.tmp 1) = .pointer (some ⟨zr, 0, none⟩) := by rw [ha5, ev_other _ _ _ _ (by decide)]; exact f4_1
  have f5_5 : a0_5.eval (.tmp 5) = .pointer (some ⟨zx, 0, none⟩) := by rw [ha5, ev_other _ _ _ _ (by decide)]; exact f4_5
  have f5_33 : a0_5.eval (.tmp 33) = .pointer (some ⟨zp, 0, none⟩) := by rw [ha5, ev_other _ _ _ _ (by decide)]; exact f4_33
  have f5_35 : a0_5.eval (.tmp 35) = .int .i64 si := by rw [ha5, ev_other _ _ _ _ (by decide)]; exact f4_35
  have f5_37 : a0_5.eval (.tmp 37) = keyV x := by rw [ha5]; exact ev_same _ _ _ (Nat.lt_of_le_of_lt (by decide) qz4)
  rw [← ha5] at h0 ⊢
  clear ha5
  refine wpAnyH_take (i := 6) (oi := dn7_6 s) (v := .pointer (some ⟨zr, 0, none⟩)) (by kernel_rfl) (by kernel_rfl) (by kernel_rfl) (by kernel_rfl) (fun c a w h => hQ c _ _ _ w h) (Or.inl ⟨wanted_none rfl, fun w hw => by simp only [execOp, dn7_6, f5_1]; rfl⟩) hS ?_
  change wpAnyH _ _ _ _ _ _ _ (a0_5.put (some 39) (.pointer (some ⟨zr, 0, none⟩))) _
  obtain ⟨a0_6, ha6⟩ : ∃ rr : Act, rr = a0_5.put (some 39) (.pointer (some ⟨zr, 0, none⟩)) := ⟨_, rfl⟩
  have qz6 : 45 < a0_6.tmps.size := by rw [ha6, sz_put]; exact qz5
  have f6_5 : a0_6.eval (.tmp 5) = .pointer (some ⟨zx, 0, none⟩) := by rw [ha6, ev_other _ _ _ _ (by decide)]; exact f5_5
  have f6_33 : a0_6.eval (.tmp 33) = .pointer (some ⟨zp, 0, none⟩) := by rw [ha6, ev_other _ _ _ _ (by decide)]; exact f5_33
  have f6_35 : a0_6.eval (.tmp 35) = .int .i64 si := by rw [ha6, ev_other _ _ _ _ (by decide)]; exact f5_35
  have f6_37 : a0_6.eval (.tmp 37) = keyV x := by rw [ha6, ev_other _ _ _ _ (by decide)]; exact f5_37
  have f6_39 : a0_6.eval (.tmp 39) = .pointer (some ⟨zr, 0, none⟩) := by rw [ha6]; exact ev_same _ _ _ (Nat.lt_of_le_of_lt (by decide) qz5)
  rw [← ha6] at h0 ⊢
  clear ha6
  refine wpAnyH_take (i := 7) (oi := dn7_7 s) (v := .pointer (some ⟨zx, 2, none⟩)) (by kernel_rfl) (by kernel_rfl) (by kernel_rfl) (by kernel_rfl) (fun c a w h => hQ c _ _ _ w h) (Or.inl ⟨wanted_none rfl, fun w hw => fldSt rfl f6_5 w⟩) hS ?_
  change wpAnyH _ _ _ _ _ _ _ (a0_6.put (some 40) (.pointer (some ⟨zx, 2, none⟩))) _
  obtain ⟨a0_7, ha7⟩ : ∃ rr : Act, rr = a0_6.put (some 40) (.pointer (some ⟨zx, 2, none⟩)) := ⟨_, rfl⟩
  have qz7 : 45 < a0_7.tmps.size := by rw [ha7, sz_put]; exact qz6
  have f7_5 : a0_7.eval (.tmp 5) = .pointer (some ⟨zx, 0, none⟩) := by rw [ha7, ev_other _ _ _ _ (by decide)]; exact f6_5
  have f7_33 : a0_7.eval (.tmp 33) = .pointer (some ⟨zp, 0, none⟩) := by rw [ha7, ev_other _ _ _ _ (by decide)]; exact f6_33
  have f7_35 : a0_7.eval (.tmp 35) = .int .i64 si := by rw [ha7, ev_other _ _ _ _ (by decide)]; exact f6_35
  have f7_37 : a0_7.eval (.tmp 37) = keyV x := by rw [ha7, ev_other _ _ _ _ (by decide)]; exact f6_37
  have f7_39 : a0_7.eval (.tmp 39) = .pointer (some ⟨zr, 0, none⟩) := by rw [ha7, ev_other _ _ _ _ (by decide)]; exact f6_39
  have f7_40 : a0_7.eval (.tmp 40) = .pointer (some ⟨zx, 2, none⟩) := by rw [ha7]; exact ev_same _ _ _ (Nat.lt_of_le_of_lt (by decide) qz6)
  rw [← ha7] at h0 ⊢
  clear ha7
  refine wpAnyH_take (i := 8) (oi := dn7_8 s) (v := .int .i64 si) (by kernel_rfl) (by kernel_rfl) (by kernel_rfl) (by kernel_rfl) (fun c a w h => hQ c _ _ _ w h) (Or.inl ⟨wanted_none rfl, fun w hw => run_load rfl f7_40 (load_intS hw.1)⟩) hS ?_
  change wpAnyH _ _ _ _ _ _ _ (a0_7.put (some 41) (.int .i64 si)) _
  obtain ⟨a0_8, ha8⟩ : ∃ rr : Act, rr = a0_7.put (some 41) (.int .i64 si) := ⟨_, rfl⟩
  have qz8 : 45 < a0_8.tmps.size := by rw [ha8, sz_put]; exact qz7
  have f8_5 : a0_8.eval (.tmp 5) = .pointer (some ⟨zx, 0, none⟩) := by rw [ha8, ev_other _ _ _ _ (by decide)]; exact f7_5
  have f8_33 : a0_8.eval (.tmp 33) = .pointer (some ⟨zp, 0, none⟩) := by rw [ha8, ev_other _ _ _ _ (by decide)]; exact f7_33
  have f8_35 : a0_8.eval (.tmp 35) = .int .i64 si := by rw [ha8, ev_other _ _ _ _ (by decide)]; exact f7_35
  have f8_37 : a0_8.eval (.tmp 37) = keyV x := by rw [ha8, ev_other _ _ _ _ (by decide)]; exact f7_37
  have f8_39 : a0_8.eval (.tmp 39) = .pointer (some ⟨zr, 0, none⟩) := by rw [ha8, ev_other _ _ _ _ (by decide)]; exact f7_39
  have f8_41 : a0_8.eval (.tmp 41) = .int .i64 si := by rw [ha8]; exact ev_same _ _ _ (Nat.lt_of_le_of_lt (by decide) qz7)
  rw [← ha8] at h0 ⊢
  clear ha8
  refine wpAnyH_take (i := 9) (oi := dn7_9 s) (v := .pointer (some ⟨zx, 3, none⟩)) (by kernel_rfl) (by kernel_rfl) (by kernel_rfl) (by kernel_rfl) (fun c a w h => hQ c _ _ _ w h) (Or.inl ⟨wanted_none rfl, fun w hw => fldKt rfl f8_5 w⟩) hS ?_
  change wpAnyH _ _ _ _ _ _ _ (a0_8.put (some 42) (.pointer (some ⟨zx, 3, none⟩))) _
  obtain ⟨a0_9, ha9⟩ : ∃ rr : Act, rr = a0_8.put (some 42) (.pointer (some ⟨zx, 3, none⟩)) := ⟨_, rfl⟩
  have qz9 : 45 < a0_9.tmps.size := by rw [ha9, sz_put]; exact qz8
  have f9_33 : a0_9.eval (.tmp 33) = .pointer (some ⟨zp, 0, none⟩) := by rw [ha9, ev_other _ _ _ _ (by decide)]; exact f8_33
  have f9_35 : a0_9.eval (.tmp 35) = .int .i64 si := by rw [ha9, ev_other _ _ _ _ (by decide)]; exact f8_35
  have f9_37 : a0_9.eval (.tmp 37) = keyV x := by rw [ha9, ev_other _ _ _ _ (by decide)]; exact f8_37
  have f9_39 : a0_9.eval (.tmp 39) = .pointer (some ⟨zr, 0, none⟩) := by rw [ha9, ev_other _ _ _ _ (by decide)]; exact f8_39
  have f9_41 : a0_9.eval (.tmp 41) = .int .i64 si := by rw [ha9, ev_other _ _ _ _ (by decide)]; exact f8_41
  have f9_42 : a0_9.eval (.tmp 42) = .pointer (some ⟨zx, 3, none⟩) := by rw [ha9]; exact ev_same _ _ _ (Nat.lt_of_le_of_lt (by decide) qz8)
  rw [← ha9] at h0 ⊢
  clear ha9
  refine wpAnyH_take (i := 10) (oi := dn7_10 s) (v := keyV x) (by kernel_rfl) (by kernel_rfl) (by kernel_rfl) (by kernel_rfl) (fun c a w h => hQ c _ _ _ w h) (Or.inl ⟨wanted_none rfl, fun w hw => run_load rfl f9_42 (loadAt_key hxl hw.2)⟩) hS ?_
  change wpAnyH _ _ _ _ _ _ _ (a0_9.put (some 43) (keyV x)) _
  obtain ⟨a0_10, ha10⟩ : ∃ rr : Act, rr = a0_9.put (some 43) (keyV x) := ⟨_, rfl⟩
  have qz10 : 45 < a0_10.tmps.size := by rw [ha10, sz_put]; exact qz9
  have f10_33 : a0_10.eval (.tmp 33) = .pointer (some ⟨zp, 0, none⟩) := by rw [ha10, ev_other _ _ _ _ (by decide)]; exact f9_33
  have f10_35 : a0_10.eval (.tmp 35) = .int .i64 si := by rw [ha10, ev_other _ _ _ _ (by decide)]; exact f9_35
  have f10_37 : a0_10.eval (.tmp 37) = keyV x := by rw [ha10, ev_other _ _ _ _ (by decide)]; exact f9_37
  have f10_39 : a0_10.eval (.tmp 39) = .pointer (some ⟨zr, 0, none⟩) := by rw [ha10, ev_other _ _ _ _ (by decide)]; exact f9_39
  have f10_41 : a0_10.eval (.tmp 41) = .int .i64 si := by rw [ha10, ev_other _ _ _ _ (by decide)]; exact f9_41
  have f10_43 : a0_10.eval (.tmp 43) = keyV x := by rw [ha10]; exact ev_same _ _ _ (Nat.lt_of_le_of_lt (by decide) qz9)
  rw [← ha10] at h0 ⊢
  clear ha10
  refine wpAnyH_ready (rs := [5]) (by kernel_rfl) (by simp) ?_
  refine AllReadyH.cons (o := dn7_5 s) (by kernel_rfl) (fun KQ hKQ => ?_) AllReadyH.nil
  rw [if_pos (wanted_none rfl)]
  refine step_enterE 10 #[.pointer (some ⟨zp, 0, none⟩), .int .i64 si, keyV x] (by rw [dn7_enter5, f10_33, f10_35, f10_37]) (fun V w' => V = .int .i64 r ∧ M1 w') (hc1.mono (fun e w' h => ⟨_, h.1, rfl, h.2⟩)) ?_
  rintro _ w1 ⟨rfl, hM1⟩
  refine hKQ.out _ _ (hk1 w1 hM1) (fun _ => ?_)
  clear hKQ KQ
  change wpAnyH _ _ _ _ _ _ _ (a0_10.put (some 38) (.int .i64 r)) _
  obtain ⟨a0_11, ha11⟩ : ∃ rr : Act, rr = a0_10.put (some 38) (.int .i64 r) := ⟨_, rfl⟩
  have qz11 : 45 < a0_11.tmps.size := by rw [ha11, sz_put]; exact qz10
  have f11_38 : a0_11.eval (.tmp 38) = .int .i64 r := by rw [ha11]; exact ev_same _ _ _ (Nat.lt_of_le_of_lt (by decide) qz10)
  have f11_39 : a0_11.eval (.tmp 39) = .pointer (some ⟨zr, 0, none⟩) := by rw [ha11, ev_other _ _ _ _ (by decide)]; exact f10_39
  have f11_41 : a0_11.eval (.tmp 41) = .int .i64 si := by rw [ha11, ev_other _ _ _ _ (by decide)]; exact f10_41
  have f11_43 : a0_11.eval (.tmp 43) = keyV x := by rw [ha11, ev_other _ _ _ _ (by decide)]; exact f10_43
  rw [← ha11] at h0 ⊢
  clear ha11
  refine wpAnyH_ready (rs := [11]) (by kernel_rfl) (by simp) ?_
  refine AllReadyH.cons (o := dn7_11 s) (by kernel_rfl) (fun KQ hKQ => ?_) AllReadyH.nil
  rw [if_pos (wanted_none rfl)]
  refine step_enterE 19 #[.pointer (some ⟨zr, 0, none⟩), .int .i64 si, keyV x] (by rw [dn7_enter11, f11_39, f11_41, f11_43]) (fun V w' => V = .int .i64 r ∧ M2 w') ((hc2 w1 hM1).mono (fun e w' h => ⟨_, h.1, rfl, h.2⟩)) ?_
  rintro _ w2 ⟨rfl, hM2⟩
  refine hKQ.out _ _ (hk2 w2 hM2) (fun _ => ?_)
  clear hKQ KQ
  change wpAnyH _ _ _ _ _ _ _ (a0_11.put (some 44) (.int .i64 r)) _
  have h0 := h0 w2 hM2
  obtain ⟨a0_12, ha12⟩ : ∃ rr : Act, rr = a0_11.put (some 44) (.int .i64 r) := ⟨_, rfl⟩
  have qz12 : 45 < a0_12.tmps.size := by rw [ha12, sz_put]; exact qz11
  have f12_38 : a0_12.eval (.tmp 38) = .int .i64 r := by rw [ha12, ev_other _ _ _ _ (by decide)]; exact f11_38
  have f12_44 : a0_12.eval (.tmp 44) = .int .i64 r := by rw [ha12]; exact ev_same _ _ _ (Nat.lt_of_le_of_lt (by decide) qz11)
  rw [← ha12] at h0 ⊢
  clear ha12
  refine wpAnyH_take (i := 12) (oi := dn7_12 s) (v := .bool true) (by kernel_rfl) (by kernel_rfl) (by kernel_rfl) (by kernel_rfl) (fun c a w h => hQ c _ _ _ w h) (Or.inl ⟨wanted_none rfl, fun w hw => run_eqE rfl f12_38 f12_44 w⟩) (hk2 w2 hM2) ?_
  change wpAnyH _ _ _ _ _ _ _ (a0_12.put (some 45) (.bool true)) _
  obtain ⟨a0_13, ha13⟩ : ∃ rr : Act, rr = a0_12.put (some 45) (.bool true) := ⟨_, rfl⟩
  have qz13 : 45 < a0_13.tmps.size := by rw [ha13, sz_put]; exact qz12
  have f13_45 : a0_13.eval (.tmp 45) = .bool true := by rw [ha13]; exact ev_same _ _ _ (Nat.lt_of_le_of_lt (by decide) qz12)
  rw [← ha13] at h0 ⊢
  clear ha13
  refine wpAnyH_take (i := 13) (oi := dn7_13 s) (v := .bool true) (by kernel_rfl) (by kernel_rfl) (by kernel_rfl) (by kernel_rfl) (fun c a w h => hQ c _ _ _ w h) (Or.inl ⟨wanted_none rfl, fun w hw => by simp only [execOp, dn7_13, f13_45]; rfl⟩) (hk2 w2 hM2) ?_
  change wpAnyH _ _ _ _ _ _ _ (a0_13.put (some 6) (.bool true)) _
  obtain ⟨a0_14, ha14⟩ : ∃ rr : Act, rr = a0_13.put (some 6) (.bool true) := ⟨_, rfl⟩
  have qz14 : 45 < a0_14.tmps.size := by rw [ha14, sz_put]; exact qz13
  rw [← ha14] at h0 ⊢
  clear ha14
  refine wpAnyH_done (by kernel_rfl) ?_ _
  exact h0
def dn9_0 (s : String) : Oper := { dst := some 48, op := Op.move (Operand.tmp 0), type := 23, pos := s, after := #[], guard := none }
def dn9_1 (s : String) : Oper := { dst := some 49, op := Op.fieldAddr 32 (Operand.tmp 5) 2, type := 0, pos := s, after := #[], guard := none }
def dn9_2 (s : String) : Oper := { dst := some 50, op := Op.load 3 (Operand.tmp 49), type := 3, pos := s, after := #[{ on := 1, ground := Ground.data }], guard := none }
def dn9_3 (s : String) : Oper := { dst := some 51, op := Op.call { callee := Callee.value (Operand.func 20), args := #[Operand.tmp 48, Operand.tmp 50], argTypes := #[23, 3] }, type := 37, pos := s, after := #[{ on := 0, ground := Ground.data }, { on := 2, ground := Ground.data }], guard := none }
def dn9_4 (s : String) : Oper := { dst := some 52, op := Op.move (Operand.tmp 1), type := 25, pos := s, after := #[], guard := none }
def dn9_5 (s : String) : Oper := { dst := some 53, op := Op.fieldAddr 32 (Operand.tmp 5) 2, type := 0, pos := s, after := #[], guard := none }
def dn9_6 (s : String) : Oper := { dst := some 54, op := Op.load 3 (Operand.tmp 53), type := 3, pos := s, after := #[{ on := 5, ground := Ground.data }], guard := none }
def dn9_7 (s : String) : Oper := { dst := some 55, op := Op.call { callee := Callee.value (Operand.func 21), args := #[Operand.tmp 52, Operand.tmp 54], argTypes := #[25, 3] }, type := 37, pos := s, after := #[{ on := 4, ground := Ground.data }, { on := 6, ground := Ground.data }, { on := 3, ground := Ground.chain }], guard := none }
def dn9_8 (s : String) : Oper := { dst := some 56, op := Op.binOp BinOp.eql 37 (Operand.tmp 51) (Operand.tmp 55) 37, type := 4, pos := s, after := #[{ on := 3, ground := Ground.data }, { on := 7, ground := Ground.data }], guard := none }
def dn9_9 (s : String) : Oper := { dst := some 6, op := Op.assign (Operand.tmp 56), type := 4, pos := s, after := #[{ on := 8, ground := Ground.data }, { on := 7, ground := Ground.chain }, { on := 0, ground := Ground.phase }, { on := 1, ground := Ground.phase }, { on := 2, ground := Ground.phase }, { on := 3, ground := Ground.phase }, { on := 4, ground := Ground.phase }, { on := 5, ground := Ground.phase }, { on := 6, ground := Ground.phase }, { on := 7, ground := Ground.phase }, { on := 8, ground := Ground.phase }], guard := none }
def dn9_ops (s : String) : Array Oper := #[dn9_0 s, dn9_1 s, dn9_2 s, dn9_3 s, dn9_4 s, dn9_5 s, dn9_6 s, dn9_7 s, dn9_8 s, dn9_9 s]
theorem dn9_enter3 (s : String) (a : Act) (w : World) : (execOp a.eval (dn9_3 s)).run Try.prog w = .ok (.enter 20 #[a.eval (.tmp 48), a.eval (.tmp 50)]) w := by kernel_rfl
theorem dn9_enter7 (s : String) (a : Act) (w : World) : (execOp a.eval (dn9_7 s)).run Try.prog w = .ok (.enter 21 #[a.eval (.tmp 52), a.eval (.tmp 54)]) w := by kernel_rfl
theorem dn9_walk (s : String) {Q : Exit → Act → World → Prop} (hQ : ∀ c (a : Act) t v w, Q (.panic c) (a.put (some t) v) w → Q (.panic c) a w) (W : World) (zp zr zx : Nat) (si : Int) (x : List UInt8) (hxl : x.length = 32) (r : Int) (M1 M2 : World → Prop) (hS0 : W.drew.cell? ⟨zx, 2, none⟩ = some (.int .i64 si) ∧ W.drew.rangeAt zx 3 (x.map u8c)) (hc1 : Calls Try.prog 20 #[.pointer (some ⟨zp, 0, none⟩), .int .i64 si] W.drew fun e w' => e = .returned (.int .i64 r) ∧ M1 w') (hk1 : ∀ w1, M1 w1 → w1.cell? ⟨zx, 2, none⟩ = some (.int .i64 si) ∧ w1.rangeAt zx 3 (x.map u8c)) (hc2 : ∀ w1, M1 w1 → Calls Try.prog 21 #[.pointer (some ⟨zr, 0, none⟩), .int .i64 si] w1 fun e w' => e = .returned (.int .i64 r) ∧ M2 w') (hk2 : ∀ w2, M2 w2 → w2.cell? ⟨zx, 2, none⟩ = some (.int .i64 si) ∧ w2.rangeAt zx 3 (x.map u8c))
    (a : Act) (hs : 56 < a.tmps.size) (e0 : a.eval (.tmp 0) = .pointer (some ⟨zp, 0, none⟩)) (e1 : a.eval (.tmp 1) = .pointer (some ⟨zr, 0, none⟩)) (e5 : a.eval (.tmp 5) = .pointer (some ⟨zx, 0, none⟩))
    (h0 : ∀ w2, M2 w2 → Q .normal ((((((((((a.put (some 48) (.pointer (some ⟨zp, 0, none⟩))).put (some 49) (.pointer (some ⟨zx, 2, none⟩))).put (some 50) (.int .i64 si)).put (some 52) (.pointer (some ⟨zr, 0, none⟩))).put (some 53) (.pointer (some ⟨zx, 2, none⟩))).put (some 54) (.int .i64 si)).put (some 51) (.int .i64 r)).put (some 55) (.int .i64 r)).put (some 56) (.bool true)).put (some 6) (.bool true)) w2) :
    Code.wp Try.prog (.region 9 (dn9_ops s) true) Q a W := by
  refine wp_region_held_drew (S := fun w => w.cell? ⟨zx, 2, none⟩ = some (.int .i64 si) ∧ w.rangeAt zx 3 (x.map u8c)) (by kernel_rfl) hS0 (fun hS => ?_)
  change wpAnyH _ _ _ _ _ _ _ _ (World.drew _)
  refine wpAnyH_take (i := 0) (oi := dn9_0 s) (v := .pointer (some ⟨zp, 0, none⟩)) (by kernel_rfl) (by kernel_rfl) (by kernel_rfl) (by kernel_rfl) (fun c a w h => hQ c _ _ _ w h) (Or.inl ⟨wanted_none rfl, fun w hw => by simp only [execOp, dn9_0, e0]; rfl⟩) hS ?_
  change wpAnyH _ _ _ _ _ _ _ (a.put (some 48) (.pointer (some ⟨zp, 0, none⟩))) _
  obtain ⟨a0_1, ha1⟩ : ∃ rr : Act, rr = a.put (some 48) (.pointer (some ⟨zp, 0, none⟩)) := ⟨_, rfl⟩
  have qz1 : 56 < a0_1.tmps.size := by rw [ha1, sz_put]; exact hs
  have f1_1 : a0_1.eval (.tmp 1) = .pointer (some ⟨zr, 0, none⟩) := by rw [ha1, ev_other _ _ _ _ (by decide)]; exact e1
  have f1_5 : a0_1.eval (.tmp 5) = .pointer (some ⟨zx, 0, none⟩) := by rw [ha1, ev_other _ _ _ _ (by decide)]; exact e5
  have f1_48 : a0_1.eval (.tmp 48) = .pointer (some ⟨zp, 0, none⟩) := by rw [ha1]; exact ev_same _ _ _ (Nat.lt_of_le_of_lt (by decide) hs)
  rw [← ha1] at h0 ⊢
  clear ha1
  refine wpAnyH_take (i := 1) (oi := dn9_1 s) (v := .pointer (some ⟨zx, 2, none⟩)) (by kernel_rfl) (by kernel_rfl) (by kernel_rfl) (by kernel_rfl) (fun c a w h => hQ c _ _ _ w h) (Or.inl ⟨wanted_none rfl, fun w hw => fldSt rfl f1_5 w⟩) hS ?_
  change wpAnyH _ _ _ _ _ _ _ (a0_1.put (some 49) (.pointer (some ⟨zx, 2, none⟩))) _
  obtain ⟨a0_2, ha2⟩ : ∃ rr : Act, rr = a0_1.put (some 49) (.pointer (some ⟨zx, 2, none⟩)) := ⟨_, rfl⟩
  have qz2 : 56 < a0_2.tmps.size := by rw [ha2, sz_put]; exact qz1
  have f2_1 : a0_2.eval (.tmp 1) = .pointer (some ⟨zr, 0, none⟩) := by rw [ha2, ev_other _ _ _ _ (by decide)]; exact f1_1
  have f2_5 : a0_2.eval (.tmp 5) = .pointer (some ⟨zx, 0, none⟩) := by rw [ha2, ev_other _ _ _ _ (by decide)]; exact f1_5
  have f2_48 : a0_2.eval (.tmp 48) = .pointer (some ⟨zp, 0, none⟩) := by rw [ha2, ev_other _ _ _ _ (by decide)]; exact f1_48
  have f2_49 : a0_2.eval (.tmp 49) = .pointer (some ⟨zx, 2, none⟩) := by rw [ha2]; exact ev_same _ _ _ (Nat.lt_of_le_of_lt (by decide) qz1)
  rw [← ha2] at h0 ⊢
  clear ha2
  refine wpAnyH_take (i := 2) (oi := dn9_2 s) (v := .int .i64 si) (by kernel_rfl) (by kernel_rfl) (by kernel_rfl) (by kernel_rfl) (fun c a w h => hQ c _ _ _ w h) (Or.inl ⟨wanted_none rfl, fun w hw => run_load rfl f2_49 (load_intS hw.1)⟩) hS ?_
  change wpAnyH _ _ _ _ _ _ _ (a0_2.put (some 50) (.int .i64 si)) _
  obtain ⟨a0_3, ha3⟩ : ∃ rr : Act, rr = a0_2.put (some 50) (.int .i64 si) := ⟨_, rfl⟩
  have qz3 : 56 < a0_3.tmps.size := by rw [ha3, sz_put]; exact qz2
  have f3_1 : a0_3.eval (.tmp 1) = .pointer (some ⟨zr, 0, none⟩) := by rw [ha3, ev_other _ _ _ _ (by decide)]; exact f2_1
  have f3_5 : a0_3.eval (.tmp 5) = .pointer (some ⟨zx, 0, none⟩) := by rw [ha3, ev_other _ _ _ _ (by decide)]; exact f2_5
  have f3_48 : a0_3.eval (.tmp 48) = .pointer (some ⟨zp, 0, none⟩) := by rw [ha3, ev_other _ _ _ _ (by decide)]; exact f2_48
  have f3_50 : a0_3.eval (.tmp 50) = .int .i64 si := by rw [ha3]; exact ev_same _ _ _ (Nat.lt_of_le_of_lt (by decide) qz2)
  rw [← ha3] at h0 ⊢
  clear ha3
  refine wpAnyH_take (i := 4) (oi := dn9_4 s) (v := .pointer (some ⟨zr, 0, none⟩)) (by kernel_rfl) (by kernel_rfl) (by kernel_rfl) (by kernel_rfl) (fun c a w h => hQ c _ _ _ w h) (Or.inl ⟨wanted_none rfl, fun w hw => by simp only [execOp, dn9_4, f3_1]; rfl⟩) hS ?_
  change wpAnyH _ _ _ _ _ _ _ (a0_3.put (some 52) (.pointer (some ⟨zr, 0, none⟩))) _
  obtain ⟨a0_4, ha4⟩ : ∃ rr : Act, rr = a0_3.put (some 52) (.pointer (some ⟨zr, 0, none⟩)) := ⟨_, rfl⟩
  have qz4 : 56 < a0_4.tmps.size := by rw [ha4, sz_put]; exact qz3
  have f4_5 : a0_4.eval (.tmp 5) = .pointer (some ⟨zx, 0, none⟩) := by rw [ha4, ev_other _ _ _ _ (by decide)]; exact f3_5
  have f4_48 : a0_4.eval (.tmp 48) = .pointer (some ⟨zp, 0, none⟩) := by rw [ha4, ev_other _ _ _ _ (by decide)]; exact f3_48
  have f4_50 : a0_4.eval (.tmp 50) = .int .i64 si := by rw [ha4, ev_other _ _ _ _ (by decide)]; exact f3_50
  have f4_52 : a0_4.eval (.tmp 52) = .pointer (some ⟨zr, 0, none⟩) := by rw [ha4]; exact ev_same _ _ _ (Nat.lt_of_le_of_lt (by decide) qz3)
  rw [← ha4] at h0 ⊢
  clear ha4
  refine wpAnyH_take (i := 5) (oi := dn9_5 s) (v := .pointer (some ⟨zx, 2, none⟩)) (by kernel_rfl) (by kernel_rfl) (by kernel_rfl) (by kernel_rfl) (fun c a w h => hQ c _ _ _ w h) (Or.inl ⟨wanted_none rfl, fun w hw => fldSt rfl f4_5 w⟩) hS ?_
  change wpAnyH _ _ _ _ _ _ _ (a0_4.put (some 53) (.pointer (some ⟨zx, 2, none⟩))) _
  obtain ⟨a0_5, ha5⟩ : ∃ rr : Act, rr = a0_4.put (some 53) (.pointer (some ⟨zx, 2, none⟩)) := ⟨_, rfl⟩
  have qz5 : 56 < a0_5.tmps.size := by rw [ha5, sz_put]; exact qz4
  have f5_48 : a0_5.eval (.tmp 48) = .pointer (some ⟨zp, 0, none⟩) := by rw [ha5, ev_other _ _ _ _ (by decide)]; exact f4_48
  have f5_50 : a0_5.eval (.tmp 50) = .int .i64 si := by rw [ha5, ev_other _ _ _ _ (by decide)]; exact f4_50
  have f5_52 : a0_5.eval (.tmp 52) = .pointer (some ⟨zr, 0, none⟩) := by rw [ha5, ev_other _ _ _ _ (by decide)]; exact f4_52
  have f5_53 : a0_5.eval (.tmp 53) = .pointer (some ⟨zx, 2, none⟩) := by rw [ha5]; exact ev_same _ _ _ (Nat.lt_of_le_of_lt (by decide) qz4)
  rw [← ha5] at h0 ⊢
  clear ha5
  refine wpAnyH_take (i := 6) (oi := dn9_6 s) (v := .int .i64 si) (by kernel_rfl) (by kernel_rfl) (by kernel_rfl) (by kernel_rfl) (fun c a w h => hQ c _ _ _ w h) (Or.inl ⟨wanted_none rfl, fun w hw => run_load rfl f5_53 (load_intS hw.1)⟩) hS ?_
  change wpAnyH _ _ _ _ _ _ _ (a0_5.put (some 54) (.int .i64 si)) _
  obtain ⟨a0_6, ha6⟩ : ∃ rr : Act, rr = a0_5.put (some 54) (.int .i64 si) := ⟨_, rfl⟩
  have qz6 : 56 < a0_6.tmps.size := by rw [ha6, sz_put]; exact qz5
  have f6_48 : a0_6.eval (.tmp 48) = .pointer (some ⟨zp, 0, none⟩) := by rw [ha6, ev_other _ _ _ _ (by decide)]; exact f5_48
  have f6_50 : a0_6.eval (.tmp 50) = .int .i64 si := by rw [ha6, ev_other _ _ _ _ (by decide)]; exact f5_50
  have f6_52 : a0_6.eval (.tmp 52) = .pointer (some ⟨zr, 0, none⟩) := by rw [ha6, ev_other _ _ _ _ (by decide)]; exact f5_52
  have f6_54 : a0_6.eval (.tmp 54) = .int .i64 si := by rw [ha6]; exact ev_same _ _ _ (Nat.lt_of_le_of_lt (by decide) qz5)
  rw [← ha6] at h0 ⊢
  clear ha6
  refine wpAnyH_ready (rs := [3]) (by kernel_rfl) (by simp) ?_
  refine AllReadyH.cons (o := dn9_3 s) (by kernel_rfl) (fun KQ hKQ => ?_) AllReadyH.nil
  rw [if_pos (wanted_none rfl)]
  refine step_enterE 20 #[.pointer (some ⟨zp, 0, none⟩), .int .i64 si] (by rw [dn9_enter3, f6_48, f6_50]) (fun V w' => V = .int .i64 r ∧ M1 w') (hc1.mono (fun e w' h => ⟨_, h.1, rfl, h.2⟩)) ?_
  rintro _ w1 ⟨rfl, hM1⟩
  refine hKQ.out _ _ (hk1 w1 hM1) (fun _ => ?_)
  clear hKQ KQ
  change wpAnyH _ _ _ _ _ _ _ (a0_6.put (some 51) (.int .i64 r)) _
  obtain ⟨a0_7, ha7⟩ : ∃ rr : Act, rr = a0_6.put (some 51) (.int .i64 r) := ⟨_, rfl⟩
  have qz7 : 56 < a0_7.tmps.size := by rw [ha7, sz_put]; exact qz6
  have f7_51 : a0_7.eval (.tmp 51) = .int .i64 r := by rw [ha7]; exact ev_same _ _ _ (Nat.lt_of_le_of_lt (by decide) qz6)
  have f7_52 : a0_7.eval (.tmp 52) = .pointer (some ⟨zr, 0, none⟩) := by rw [ha7, ev_other _ _ _ _ (by decide)]; exact f6_52
  have f7_54 : a0_7.eval (.tmp 54) = .int .i64 si := by rw [ha7, ev_other _ _ _ _ (by decide)]; exact f6_54
  rw [← ha7] at h0 ⊢
  clear ha7
  refine wpAnyH_ready (rs := [7]) (by kernel_rfl) (by simp) ?_
  refine AllReadyH.cons (o := dn9_7 s) (by kernel_rfl) (fun KQ hKQ => ?_) AllReadyH.nil
  rw [if_pos (wanted_none rfl)]
  refine step_enterE 21 #[.pointer (some ⟨zr, 0, none⟩), .int .i64 si] (by rw [dn9_enter7, f7_52, f7_54]) (fun V w' => V = .int .i64 r ∧ M2 w') ((hc2 w1 hM1).mono (fun e w' h => ⟨_, h.1, rfl, h.2⟩)) ?_
  rintro _ w2 ⟨rfl, hM2⟩
  refine hKQ.out _ _ (hk2 w2 hM2) (fun _ => ?_)
  clear hKQ KQ
  change wpAnyH _ _ _ _ _ _ _ (a0_7.put (some 55) (.int .i64 r)) _
  have h0 := h0 w2 hM2
  obtain ⟨a0_8, ha8⟩ : ∃ rr : Act, rr = a0_7.put (some 55) (.int .i64 r) := ⟨_, rfl⟩
  have qz8 : 56 < a0_8.tmps.size := by rw [ha8, sz_put]; exact qz7
  have f8_51 : a0_8.eval (.tmp 51) = .int .i64 r := by rw [ha8, ev_other _ _ _ _ (by decide)]; exact f7_51
  have f8_55 : a0_8.eval (.tmp 55) = .int .i64 r := by rw [ha8]; exact ev_same _ _ _ (Nat.lt_of_le_of_lt (by decide) qz7)
  rw [← ha8] at h0 ⊢
  clear ha8
  refine wpAnyH_take (i := 8) (oi := dn9_8 s) (v := .bool true) (by kernel_rfl) (by kernel_rfl) (by kernel_rfl) (by kernel_rfl) (fun c a w h => hQ c _ _ _ w h) (Or.inl ⟨wanted_none rfl, fun w hw => run_eqE rfl f8_51 f8_55 w⟩) (hk2 w2 hM2) ?_
  change wpAnyH _ _ _ _ _ _ _ (a0_8.put (some 56) (.bool true)) _
  obtain ⟨a0_9, ha9⟩ : ∃ rr : Act, rr = a0_8.put (some 56) (.bool true) := ⟨_, rfl⟩
  have qz9 : 56 < a0_9.tmps.size := by rw [ha9, sz_put]; exact qz8
  have f9_56 : a0_9.eval (.tmp 56) = .bool true := by rw [ha9]; exact ev_same _ _ _ (Nat.lt_of_le_of_lt (by decide) qz8)
  rw [← ha9] at h0 ⊢
  clear ha9
  refine wpAnyH_take (i := 9) (oi := dn9_9 s) (v := .bool true) (by kernel_rfl) (by kernel_rfl) (by kernel_rfl) (by kernel_rfl) (fun c a w h => hQ c _ _ _ w h) (Or.inl ⟨wanted_none rfl, fun w hw => by simp only [execOp, dn9_9, f9_56]; rfl⟩) (hk2 w2 hM2) ?_
  change wpAnyH _ _ _ _ _ _ _ (a0_9.put (some 6) (.bool true)) _
  obtain ⟨a0_10, ha10⟩ : ∃ rr : Act, rr = a0_9.put (some 6) (.bool true) := ⟨_, rfl⟩
  have qz10 : 56 < a0_10.tmps.size := by rw [ha10, sz_put]; exact qz9
  rw [← ha10] at h0 ⊢
  clear ha10
  refine wpAnyH_done (by kernel_rfl) ?_ _
  exact h0
def dn11_0 (s : String) : Oper := { dst := some 59, op := Op.move (Operand.tmp 0), type := 23, pos := s, after := #[], guard := none }
def dn11_1 (s : String) : Oper := { dst := some 60, op := Op.fieldAddr 32 (Operand.tmp 5) 2, type := 0, pos := s, after := #[], guard := none }
def dn11_2 (s : String) : Oper := { dst := some 61, op := Op.load 3 (Operand.tmp 60), type := 3, pos := s, after := #[{ on := 1, ground := Ground.data }], guard := none }
def dn11_3 (s : String) : Oper := { dst := some 62, op := Op.call { callee := Callee.value (Operand.func 22), args := #[Operand.tmp 59, Operand.tmp 61], argTypes := #[23, 3] }, type := 37, pos := s, after := #[{ on := 0, ground := Ground.data }, { on := 2, ground := Ground.data }], guard := none }
def dn11_4 (s : String) : Oper := { dst := some 63, op := Op.move (Operand.tmp 1), type := 25, pos := s, after := #[], guard := none }
def dn11_5 (s : String) : Oper := { dst := some 64, op := Op.fieldAddr 32 (Operand.tmp 5) 2, type := 0, pos := s, after := #[], guard := none }
def dn11_6 (s : String) : Oper := { dst := some 65, op := Op.load 3 (Operand.tmp 64), type := 3, pos := s, after := #[{ on := 5, ground := Ground.data }], guard := none }
def dn11_7 (s : String) : Oper := { dst := some 66, op := Op.call { callee := Callee.value (Operand.func 23), args := #[Operand.tmp 63, Operand.tmp 65], argTypes := #[25, 3] }, type := 37, pos := s, after := #[{ on := 4, ground := Ground.data }, { on := 6, ground := Ground.data }, { on := 3, ground := Ground.chain }], guard := none }
def dn11_8 (s : String) : Oper := { dst := some 67, op := Op.binOp BinOp.eql 37 (Operand.tmp 62) (Operand.tmp 66) 37, type := 4, pos := s, after := #[{ on := 3, ground := Ground.data }, { on := 7, ground := Ground.data }], guard := none }
def dn11_9 (s : String) : Oper := { dst := some 6, op := Op.assign (Operand.tmp 67), type := 4, pos := s, after := #[{ on := 8, ground := Ground.data }, { on := 7, ground := Ground.chain }, { on := 0, ground := Ground.phase }, { on := 1, ground := Ground.phase }, { on := 2, ground := Ground.phase }, { on := 3, ground := Ground.phase }, { on := 4, ground := Ground.phase }, { on := 5, ground := Ground.phase }, { on := 6, ground := Ground.phase }, { on := 7, ground := Ground.phase }, { on := 8, ground := Ground.phase }], guard := none }
def dn11_ops (s : String) : Array Oper := #[dn11_0 s, dn11_1 s, dn11_2 s, dn11_3 s, dn11_4 s, dn11_5 s, dn11_6 s, dn11_7 s, dn11_8 s, dn11_9 s]
theorem dn11_enter3 (s : String) (a : Act) (w : World) : (execOp a.eval (dn11_3 s)).run Try.prog w = .ok (.enter 22 #[a.eval (.tmp 59), a.eval (.tmp 61)]) w := by kernel_rfl
theorem dn11_enter7 (s : String) (a : Act) (w : World) : (execOp a.eval (dn11_7 s)).run Try.prog w = .ok (.enter 23 #[a.eval (.tmp 63), a.eval (.tmp 65)]) w := by kernel_rfl
theorem dn11_walk (s : String) {Q : Exit → Act → World → Prop} (hQ : ∀ c (a : Act) t v w, Q (.panic c) (a.put (some t) v) w → Q (.panic c) a w) (W : World) (zp zr zx : Nat) (si : Int) (x : List UInt8) (hxl : x.length = 32) (r : Int) (M1 M2 : World → Prop) (hS0 : W.drew.cell? ⟨zx, 2, none⟩ = some (.int .i64 si) ∧ W.drew.rangeAt zx 3 (x.map u8c)) (hc1 : Calls Try.prog 22 #[.pointer (some ⟨zp, 0, none⟩), .int .i64 si] W.drew fun e w' => e = .returned (.int .i64 r) ∧ M1 w') (hk1 : ∀ w1, M1 w1 → w1.cell? ⟨zx, 2, none⟩ = some (.int .i64 si) ∧ w1.rangeAt zx 3 (x.map u8c)) (hc2 : ∀ w1, M1 w1 → Calls Try.prog 23 #[.pointer (some ⟨zr, 0, none⟩), .int .i64 si] w1 fun e w' => e = .returned (.int .i64 r) ∧ M2 w') (hk2 : ∀ w2, M2 w2 → w2.cell? ⟨zx, 2, none⟩ = some (.int .i64 si) ∧ w2.rangeAt zx 3 (x.map u8c))
    (a : Act) (hs : 67 < a.tmps.size) (e0 : a.eval (.tmp 0) = .pointer (some ⟨zp, 0, none⟩)) (e1 : a.eval (.tmp 1) = .pointer (some ⟨zr, 0, none⟩)) (e5 : a.eval (.tmp 5) = .pointer (some ⟨zx, 0, none⟩))
    (h0 : ∀ w2, M2 w2 → Q .normal ((((((((((a.put (some 59) (.pointer (some ⟨zp, 0, none⟩))).put (some 60) (.pointer (some ⟨zx, 2, none⟩))).put (some 61) (.int .i64 si)).put (some 63) (.pointer (some ⟨zr, 0, none⟩))).put (some 64) (.pointer (some ⟨zx, 2, none⟩))).put (some 65) (.int .i64 si)).put (some 62) (.int .i64 r)).put (some 66) (.int .i64 r)).put (some 67) (.bool true)).put (some 6) (.bool true)) w2) :
    Code.wp Try.prog (.region 11 (dn11_ops s) true) Q a W := by
  refine wp_region_held_drew (S := fun w => w.cell? ⟨zx, 2, none⟩ = some (.int .i64 si) ∧ w.rangeAt zx 3 (x.map u8c)) (by kernel_rfl) hS0 (fun hS => ?_)
  change wpAnyH _ _ _ _ _ _ _ _ (World.drew _)
  refine wpAnyH_take (i := 0) (oi := dn11_0 s) (v := .pointer (some ⟨zp, 0, none⟩)) (by kernel_rfl) (by kernel_rfl) (by kernel_rfl) (by kernel_rfl) (fun c a w h => hQ c _ _ _ w h) (Or.inl ⟨wanted_none rfl, fun w hw => by simp only [execOp, dn11_0, e0]; rfl⟩) hS ?_
  change wpAnyH _ _ _ _ _ _ _ (a.put (some 59) (.pointer (some ⟨zp, 0, none⟩))) _
  obtain ⟨a0_1, ha1⟩ : ∃ rr : Act, rr = a.put (some 59) (.pointer (some ⟨zp, 0, none⟩)) := ⟨_, rfl⟩
  have qz1 : 67 < a0_1.tmps.size := by rw [ha1, sz_put]; exact hs
  have f1_1 : a0_1.eval (.tmp 1) = .pointer (some ⟨zr, 0, none⟩) := by rw [ha1, ev_other _ _ _ _ (by decide)]; exact e1
  have f1_5 : a0_1.eval (.tmp 5) = .pointer (some ⟨zx, 0, none⟩) := by rw [ha1, ev_other _ _ _ _ (by decide)]; exact e5
  have f1_59 : a0_1.eval (.tmp 59) = .pointer (some ⟨zp, 0, none⟩) := by rw [ha1]; exact ev_same _ _ _ (Nat.lt_of_le_of_lt (by decide) hs)
  rw [← ha1] at h0 ⊢
  clear ha1
  refine wpAnyH_take (i := 1) (oi := dn11_1 s) (v := .pointer (some ⟨zx, 2, none⟩)) (by kernel_rfl) (by kernel_rfl) (by kernel_rfl) (by kernel_rfl) (fun c a w h => hQ c _ _ _ w h) (Or.inl ⟨wanted_none rfl, fun w hw => fldSt rfl f1_5 w⟩) hS ?_
  change wpAnyH _ _ _ _ _ _ _ (a0_1.put (some 60) (.pointer (some ⟨zx, 2, none⟩))) _
  obtain ⟨a0_2, ha2⟩ : ∃ rr : Act, rr = a0_1.put (some 60) (.pointer (some ⟨zx, 2, none⟩)) := ⟨_, rfl⟩
  have qz2 : 67 < a0_2.tmps.size := by rw [ha2, sz_put]; exact qz1
  have f2_1 : a0_2.eval (.tmp 1) = .pointer (some ⟨zr, 0, none⟩) := by rw [ha2, ev_other _ _ _ _ (by decide)]; exact f1_1
  have f2_5 : a0_2.eval (.tmp 5) = .pointer (some ⟨zx, 0, none⟩) := by rw [ha2, ev_other _ _ _ _ (by decide)]; exact f1_5
  have f2_59 : a0_2.eval (.tmp 59) = .pointer (some ⟨zp, 0, none⟩) := by rw [ha2, ev_other _ _ _ _ (by decide)]; exact f1_59
  have f2_60 : a0_2.eval (.tmp 60) = .pointer (some ⟨zx, 2, none⟩) := by rw [ha2]; exact ev_same _ _ _ (Nat.lt_of_le_of_lt (by decide) qz1)
  rw [← ha2] at h0 ⊢
  clear ha2
  refine wpAnyH_take (i := 2) (oi := dn11_2 s) (v := .int .i64 si) (by kernel_rfl) (by kernel_rfl) (by kernel_rfl) (by kernel_rfl) (fun c a w h => hQ c _ _ _ w h) (Or.inl ⟨wanted_none rfl, fun w hw => run_load rfl f2_60 (load_intS hw.1)⟩) hS ?_
  change wpAnyH _ _ _ _ _ _ _ (a0_2.put (some 61) (.int .i64 si)) _
  obtain ⟨a0_3, ha3⟩ : ∃ rr : Act, rr = a0_2.put (some 61) (.int .i64 si) := ⟨_, rfl⟩
  have qz3 : 67 < a0_3.tmps.size := by rw [ha3, sz_put]; exact qz2
  have f3_1 : a0_3.eval (.tmp 1) = .pointer (some ⟨zr, 0, none⟩) := by rw [ha3, ev_other _ _ _ _ (by decide)]; exact f2_1
  have f3_5 : a0_3.eval (.tmp 5) = .pointer (some ⟨zx, 0, none⟩) := by rw [ha3, ev_other _ _ _ _ (by decide)]; exact f2_5
  have f3_59 : a0_3.eval (.tmp 59) = .pointer (some ⟨zp, 0, none⟩) := by rw [ha3, ev_other _ _ _ _ (by decide)]; exact f2_59
  have f3_61 : a0_3.eval (.tmp 61) = .int .i64 si := by rw [ha3]; exact ev_same _ _ _ (Nat.lt_of_le_of_lt (by decide) qz2)
  rw [← ha3] at h0 ⊢
  clear ha3
  refine wpAnyH_take (i := 4) (oi := dn11_4 s) (v := .pointer (some ⟨zr, 0, none⟩)) (by kernel_rfl) (by kernel_rfl) (by kernel_rfl) (by kernel_rfl) (fun c a w h => hQ c _ _ _ w h) (Or.inl ⟨wanted_none rfl, fun w hw => by simp only [execOp, dn11_4, f3_1]; rfl⟩) hS ?_
  change wpAnyH _ _ _ _ _ _ _ (a0_3.put (some 63) (.pointer (some ⟨zr, 0, none⟩))) _
  obtain ⟨a0_4, ha4⟩ : ∃ rr : Act, rr = a0_3.put (some 63) (.pointer (some ⟨zr, 0, none⟩)) := ⟨_, rfl⟩
  have qz4 : 67 < a0_4.tmps.size := by rw [ha4, sz_put]; exact qz3
  have f4_5 : a0_4.eval (.tmp 5) = .pointer (some ⟨zx, 0, none⟩) := by rw [ha4, ev_other _ _ _ _ (by decide)]; exact f3_5
  have f4_59 : a0_4.eval (.tmp 59) = .pointer (some ⟨zp, 0, none⟩) := by rw [ha4, ev_other _ _ _ _ (by decide)]; exact f3_59
  have f4_61 : a0_4.eval (.tmp 61) = .int .i64 si := by rw [ha4, ev_other _ _ _ _ (by decide)]; exact f3_61
  have f4_63 : a0_4.eval (.tmp 63) = .pointer (some ⟨zr, 0, none⟩) := by rw [ha4]; exact ev_same _ _ _ (Nat.lt_of_le_of_lt (by decide) qz3)
  rw [← ha4] at h0 ⊢
  clear ha4
  refine wpAnyH_take (i := 5) (oi := dn11_5 s) (v := .pointer (some ⟨zx, 2, none⟩)) (by kernel_rfl) (by kernel_rfl) (by kernel_rfl) (by kernel_rfl) (fun c a w h => hQ c _ _ _ w h) (Or.inl ⟨wanted_none rfl, fun w hw => fldSt rfl f4_5 w⟩) hS ?_
  change wpAnyH _ _ _ _ _ _ _ (a0_4.put (some 64) (.pointer (some ⟨zx, 2, none⟩))) _
  obtain ⟨a0_5, ha5⟩ : ∃ rr : Act, rr = a0_4.put (some 64) (.pointer (some ⟨zx, 2, none⟩)) := ⟨_, rfl⟩
  have qz5 : 67 < a0_5.tmps.size := by rw [ha5, sz_put]; exact qz4
  have f5_59 : a0_5.eval (.tmp 59) = .pointer (some ⟨zp, 0, none⟩) := by rw [ha5, ev_other _ _ _ _ (by decide)]; exact f4_59
  have f5_61 : a0_5.eval (.tmp 61) = .int .i64 si := by rw [ha5, ev_other _ _ _ _ (by decide)]; exact f4_61
  have f5_63 : a0_5.eval (.tmp 63) = .pointer (some ⟨zr, 0, none⟩) := by rw [ha5, ev_other _ _ _ _ (by decide)]; exact f4_63
  have f5_64 : a0_5.eval (.tmp 64) = .pointer (some ⟨zx, 2, none⟩) := by rw [ha5]; exact ev_same _ _ _ (Nat.lt_of_le_of_lt (by decide) qz4)
  rw [← ha5] at h0 ⊢
  clear ha5
  refine wpAnyH_take (i := 6) (oi := dn11_6 s) (v := .int .i64 si) (by kernel_rfl) (by kernel_rfl) (by kernel_rfl) (by kernel_rfl) (fun c a w h => hQ c _ _ _ w h) (Or.inl ⟨wanted_none rfl, fun w hw => run_load rfl f5_64 (load_intS hw.1)⟩) hS ?_
  change wpAnyH _ _ _ _ _ _ _ (a0_5.put (some 65) (.int .i64 si)) _
  obtain ⟨a0_6, ha6⟩ : ∃ rr : Act, rr = a0_5.put (some 65) (.int .i64 si) := ⟨_, rfl⟩
  have qz6 : 67 < a0_6.tmps.size := by rw [ha6, sz_put]; exact qz5
  have f6_59 : a0_6.eval (.tmp 59) = .pointer (some ⟨zp, 0, none⟩) := by rw [ha6, ev_other _ _ _ _ (by decide)]; exact f5_59
  have f6_61 : a0_6.eval (.tmp 61) = .int .i64 si := by rw [ha6, ev_other _ _ _ _ (by decide)]; exact f5_61
  have f6_63 : a0_6.eval (.tmp 63) = .pointer (some ⟨zr, 0, none⟩) := by rw [ha6, ev_other _ _ _ _ (by decide)]; exact f5_63
  have f6_65 : a0_6.eval (.tmp 65) = .int .i64 si := by rw [ha6]; exact ev_same _ _ _ (Nat.lt_of_le_of_lt (by decide) qz5)
  rw [← ha6] at h0 ⊢
  clear ha6
  refine wpAnyH_ready (rs := [3]) (by kernel_rfl) (by simp) ?_
  refine AllReadyH.cons (o := dn11_3 s) (by kernel_rfl) (fun KQ hKQ => ?_) AllReadyH.nil
  rw [if_pos (wanted_none rfl)]
  refine step_enterE 22 #[.pointer (some ⟨zp, 0, none⟩), .int .i64 si] (by rw [dn11_enter3, f6_59, f6_61]) (fun V w' => V = .int .i64 r ∧ M1 w') (hc1.mono (fun e w' h => ⟨_, h.1, rfl, h.2⟩)) ?_
  rintro _ w1 ⟨rfl, hM1⟩
  refine hKQ.out _ _ (hk1 w1 hM1) (fun _ => ?_)
  clear hKQ KQ
  change wpAnyH _ _ _ _ _ _ _ (a0_6.put (some 62) (.int .i64 r)) _
  obtain ⟨a0_7, ha7⟩ : ∃ rr : Act, rr = a0_6.put (some 62) (.int .i64 r) := ⟨_, rfl⟩
  have qz7 : 67 < a0_7.tmps.size := by rw [ha7, sz_put]; exact qz6
  have f7_62 : a0_7.eval (.tmp 62) = .int .i64 r := by rw [ha7]; exact ev_same _ _ _ (Nat.lt_of_le_of_lt (by decide) qz6)
  have f7_63 : a0_7.eval (.tmp 63) = .pointer (some ⟨zr, 0, none⟩) := by rw [ha7, ev_other _ _ _ _ (by decide)]; exact f6_63
  have f7_65 : a0_7.eval (.tmp 65) = .int .i64 si := by rw [ha7, ev_other _ _ _ _ (by decide)]; exact f6_65
  rw [← ha7] at h0 ⊢
  clear ha7
  refine wpAnyH_ready (rs := [7]) (by kernel_rfl) (by simp) ?_
  refine AllReadyH.cons (o := dn11_7 s) (by kernel_rfl) (fun KQ hKQ => ?_) AllReadyH.nil
  rw [if_pos (wanted_none rfl)]
  refine step_enterE 23 #[.pointer (some ⟨zr, 0, none⟩), .int .i64 si] (by rw [dn11_enter7, f7_63, f7_65]) (fun V w' => V = .int .i64 r ∧ M2 w') ((hc2 w1 hM1).mono (fun e w' h => ⟨_, h.1, rfl, h.2⟩)) ?_
  rintro _ w2 ⟨rfl, hM2⟩
  refine hKQ.out _ _ (hk2 w2 hM2) (fun _ => ?_)
  clear hKQ KQ
  change wpAnyH _ _ _ _ _ _ _ (a0_7.put (some 66) (.int .i64 r)) _
  have h0 := h0 w2 hM2
  obtain ⟨a0_8, ha8⟩ : ∃ rr : Act, rr = a0_7.put (some 66) (.int .i64 r) := ⟨_, rfl⟩
  have qz8 : 67 < a0_8.tmps.size := by rw [ha8, sz_put]; exact qz7
  have f8_62 : a0_8.eval (.tmp 62) = .int .i64 r := by rw [ha8, ev_other _ _ _ _ (by decide)]; exact f7_62
  have f8_66 : a0_8.eval (.tmp 66) = .int .i64 r := by rw [ha8]; exact ev_same _ _ _ (Nat.lt_of_le_of_lt (by decide) qz7)
  rw [← ha8] at h0 ⊢
  clear ha8
  refine wpAnyH_take (i := 8) (oi := dn11_8 s) (v := .bool true) (by kernel_rfl) (by kernel_rfl) (by kernel_rfl) (by kernel_rfl) (fun c a w h => hQ c _ _ _ w h) (Or.inl ⟨wanted_none rfl, fun w hw => run_eqE rfl f8_62 f8_66 w⟩) (hk2 w2 hM2) ?_
  change wpAnyH _ _ _ _ _ _ _ (a0_8.put (some 67) (.bool true)) _
  obtain ⟨a0_9, ha9⟩ : ∃ rr : Act, rr = a0_8.put (some 67) (.bool true) := ⟨_, rfl⟩
  have qz9 : 67 < a0_9.tmps.size := by rw [ha9, sz_put]; exact qz8
  have f9_67 : a0_9.eval (.tmp 67) = .bool true := by rw [ha9]; exact ev_same _ _ _ (Nat.lt_of_le_of_lt (by decide) qz8)
  rw [← ha9] at h0 ⊢
  clear ha9
  refine wpAnyH_take (i := 9) (oi := dn11_9 s) (v := .bool true) (by kernel_rfl) (by kernel_rfl) (by kernel_rfl) (by kernel_rfl) (fun c a w h => hQ c _ _ _ w h) (Or.inl ⟨wanted_none rfl, fun w hw => by simp only [execOp, dn11_9, f9_67]; rfl⟩) (hk2 w2 hM2) ?_
  change wpAnyH _ _ _ _ _ _ _ (a0_9.put (some 6) (.bool true)) _
  obtain ⟨a0_10, ha10⟩ : ∃ rr : Act, rr = a0_9.put (some 6) (.bool true) := ⟨_, rfl⟩
  have qz10 : 67 < a0_10.tmps.size := by rw [ha10, sz_put]; exact qz9
  rw [← ha10] at h0 ⊢
  clear ha10
  refine wpAnyH_done (by kernel_rfl) ?_ _
  exact h0
def tl3_0 (s : String) : Oper := { dst := some 19, op := Op.move (Operand.tmp 0), type := 23, pos := s, after := #[], guard := none }
def tl3_1 (s : String) : Oper := { dst := some 20, op := Op.fieldAddr 32 (Operand.tmp 5) 2, type := 0, pos := s, after := #[], guard := none }
def tl3_2 (s : String) : Oper := { dst := some 21, op := Op.load 3 (Operand.tmp 20), type := 3, pos := s, after := #[{ on := 1, ground := Ground.data }], guard := none }
def tl3_3 (s : String) : Oper := { dst := some 22, op := Op.call { callee := Callee.value (Operand.func 25), args := #[Operand.tmp 19, Operand.tmp 21], argTypes := #[23, 3] }, type := 4, pos := s, after := #[{ on := 0, ground := Ground.data }, { on := 2, ground := Ground.data }], guard := none }
def tl3_4 (s : String) : Oper := { dst := some 23, op := Op.move (Operand.tmp 1), type := 25, pos := s, after := #[], guard := none }
def tl3_5 (s : String) : Oper := { dst := some 24, op := Op.fieldAddr 32 (Operand.tmp 5) 2, type := 0, pos := s, after := #[], guard := none }
def tl3_6 (s : String) : Oper := { dst := some 25, op := Op.load 3 (Operand.tmp 24), type := 3, pos := s, after := #[{ on := 5, ground := Ground.data }], guard := none }
def tl3_7 (s : String) : Oper := { dst := some 26, op := Op.call { callee := Callee.value (Operand.func 37), args := #[Operand.tmp 23, Operand.tmp 25], argTypes := #[25, 3] }, type := 4, pos := s, after := #[{ on := 4, ground := Ground.data }, { on := 6, ground := Ground.data }, { on := 3, ground := Ground.chain }], guard := none }
def tl3_8 (s : String) : Oper := { dst := some 27, op := Op.binOp BinOp.eql 4 (Operand.tmp 22) (Operand.tmp 26) 4, type := 4, pos := s, after := #[{ on := 3, ground := Ground.data }, { on := 7, ground := Ground.data }], guard := none }
def tl3_9 (s : String) : Oper := { dst := some 6, op := Op.assign (Operand.tmp 27), type := 4, pos := s, after := #[{ on := 8, ground := Ground.data }, { on := 7, ground := Ground.chain }, { on := 0, ground := Ground.phase }, { on := 1, ground := Ground.phase }, { on := 2, ground := Ground.phase }, { on := 3, ground := Ground.phase }, { on := 4, ground := Ground.phase }, { on := 5, ground := Ground.phase }, { on := 6, ground := Ground.phase }, { on := 7, ground := Ground.phase }, { on := 8, ground := Ground.phase }], guard := none }
def tl3_ops (s : String) : Array Oper := #[tl3_0 s, tl3_1 s, tl3_2 s, tl3_3 s, tl3_4 s, tl3_5 s, tl3_6 s, tl3_7 s, tl3_8 s, tl3_9 s]
theorem tl3_enter3 (s : String) (a : Act) (w : World) : (execOp a.eval (tl3_3 s)).run Try.prog w = .ok (.enter 25 #[a.eval (.tmp 19), a.eval (.tmp 21)]) w := by kernel_rfl
theorem tl3_enter7 (s : String) (a : Act) (w : World) : (execOp a.eval (tl3_7 s)).run Try.prog w = .ok (.enter 37 #[a.eval (.tmp 23), a.eval (.tmp 25)]) w := by kernel_rfl
theorem tl3_walk (s : String) {Q : Exit → Act → World → Prop} (hQ : ∀ c (a : Act) t v w, Q (.panic c) (a.put (some t) v) w → Q (.panic c) a w) (W : World) (zp zr zx : Nat) (si : Int) (x : List UInt8) (hxl : x.length = 32) (r : Bool) (M1 M2 : World → Prop) (hS0 : W.drew.cell? ⟨zx, 2, none⟩ = some (.int .i64 si) ∧ W.drew.rangeAt zx 3 (x.map u8c)) (hc1 : Calls Try.prog 25 #[.pointer (some ⟨zp, 0, none⟩), .int .i64 si] W.drew fun e w' => e = .returned (.bool r) ∧ M1 w') (hk1 : ∀ w1, M1 w1 → w1.cell? ⟨zx, 2, none⟩ = some (.int .i64 si) ∧ w1.rangeAt zx 3 (x.map u8c)) (hc2 : ∀ w1, M1 w1 → Calls Try.prog 37 #[.pointer (some ⟨zr, 0, none⟩), .int .i64 si] w1 fun e w' => e = .returned (.bool r) ∧ M2 w') (hk2 : ∀ w2, M2 w2 → w2.cell? ⟨zx, 2, none⟩ = some (.int .i64 si) ∧ w2.rangeAt zx 3 (x.map u8c))
    (a : Act) (hs : 27 < a.tmps.size) (e0 : a.eval (.tmp 0) = .pointer (some ⟨zp, 0, none⟩)) (e1 : a.eval (.tmp 1) = .pointer (some ⟨zr, 0, none⟩)) (e5 : a.eval (.tmp 5) = .pointer (some ⟨zx, 0, none⟩))
    (h0 : ∀ w2, M2 w2 → Q .normal ((((((((((a.put (some 19) (.pointer (some ⟨zp, 0, none⟩))).put (some 20) (.pointer (some ⟨zx, 2, none⟩))).put (some 21) (.int .i64 si)).put (some 23) (.pointer (some ⟨zr, 0, none⟩))).put (some 24) (.pointer (some ⟨zx, 2, none⟩))).put (some 25) (.int .i64 si)).put (some 22) (.bool r)).put (some 26) (.bool r)).put (some 27) (.bool true)).put (some 6) (.bool true)) w2) :
    Code.wp Try.prog (.region 3 (tl3_ops s) true) Q a W := by
  refine wp_region_held_drew (S := fun w => w.cell? ⟨zx, 2, none⟩ = some (.int .i64 si) ∧ w.rangeAt zx 3 (x.map u8c)) (by kernel_rfl) hS0 (fun hS => ?_)
  change wpAnyH _ _ _ _ _ _ _ _ (World.drew _)
  refine wpAnyH_take (i := 0) (oi := tl3_0 s) (v := .pointer (some ⟨zp, 0, none⟩)) (by kernel_rfl) (by kernel_rfl) (by kernel_rfl) (by kernel_rfl) (fun c a w h => hQ c _ _ _ w h) (Or.inl ⟨wanted_none rfl, fun w hw => by simp only [execOp, tl3_0, e0]; rfl⟩) hS ?_
  change wpAnyH _ _ _ _ _ _ _ (a.put (some 19) (.pointer (some ⟨zp, 0, none⟩))) _
  obtain ⟨a0_1, ha1⟩ : ∃ rr : Act, rr = a.put (some 19) (.pointer (some ⟨zp, 0, none⟩)) := ⟨_, rfl⟩
  have qz1 : 27 < a0_1.tmps.size := by rw [ha1, sz_put]; exact hs
  have f1_1 : a0_1.eval (.tmp 1) = .pointer (some ⟨zr, 0, none⟩) := by rw [ha1, ev_other _ _ _ _ (by decide)]; exact e1
  have f1_5 : a0_1.eval (.tmp 5) = .pointer (some ⟨zx, 0, none⟩) := by rw [ha1, ev_other _ _ _ _ (by decide)]; exact e5
  have f1_19 : a0_1.eval (.tmp 19) = .pointer (some ⟨zp, 0, none⟩) := by rw [ha1]; exact ev_same _ _ _ (Nat.lt_of_le_of_lt (by decide) hs)
  rw [← ha1] at h0 ⊢
  clear ha1
  refine wpAnyH_take (i := 1) (oi := tl3_1 s) (v := .pointer (some ⟨zx, 2, none⟩)) (by kernel_rfl) (by kernel_rfl) (by kernel_rfl) (by kernel_rfl) (fun c a w h => hQ c _ _ _ w h) (Or.inl ⟨wanted_none rfl, fun w hw => fldSt rfl f1_5 w⟩) hS ?_
  change wpAnyH _ _ _ _ _ _ _ (a0_1.put (some 20) (.pointer (some ⟨zx, 2, none⟩))) _
  obtain ⟨a0_2, ha2⟩ : ∃ rr : Act, rr = a0_1.put (some 20) (.pointer (some ⟨zx, 2, none⟩)) := ⟨_, rfl⟩
  have qz2 : 27 < a0_2.tmps.size := by rw [ha2, sz_put]; exact qz1
  have f2_1 : a0_2.eval (.tmp 1) = .pointer (some ⟨zr, 0, none⟩) := by rw [ha2, ev_other _ _ _ _ (by decide)]; exact f1_1
  have f2_5 : a0_2.eval (.tmp 5) = .pointer (some ⟨zx, 0, none⟩) := by rw [ha2, ev_other _ _ _ _ (by decide)]; exact f1_5
  have f2_19 : a0_2.eval (.tmp 19) = .pointer (some ⟨zp, 0, none⟩) := by rw [ha2, ev_other _ _ _ _ (by decide)]; exact f1_19
  have f2_20 : a0_2.eval (.tmp 20) = .pointer (some ⟨zx, 2, none⟩) := by rw [ha2]; exact ev_same _ _ _ (Nat.lt_of_le_of_lt (by decide) qz1)
  rw [← ha2] at h0 ⊢
  clear ha2
  refine wpAnyH_take (i := 2) (oi := tl3_2 s) (v := .int .i64 si) (by kernel_rfl) (by kernel_rfl) (by kernel_rfl) (by kernel_rfl) (fun c a w h => hQ c _ _ _ w h) (Or.inl ⟨wanted_none rfl, fun w hw => run_load rfl f2_20 (load_intS hw.1)⟩) hS ?_
  change wpAnyH _ _ _ _ _ _ _ (a0_2.put (some 21) (.int .i64 si)) _
  obtain ⟨a0_3, ha3⟩ : ∃ rr : Act, rr = a0_2.put (some 21) (.int .i64 si) := ⟨_, rfl⟩
  have qz3 : 27 < a0_3.tmps.size := by rw [ha3, sz_put]; exact qz2
  have f3_1 : a0_3.eval (.tmp 1) = .pointer (some ⟨zr, 0, none⟩) := by rw [ha3, ev_other _ _ _ _ (by decide)]; exact f2_1
  have f3_5 : a0_3.eval (.tmp 5) = .pointer (some ⟨zx, 0, none⟩) := by rw [ha3, ev_other _ _ _ _ (by decide)]; exact f2_5
  have f3_19 : a0_3.eval (.tmp 19) = .pointer (some ⟨zp, 0, none⟩) := by rw [ha3, ev_other _ _ _ _ (by decide)]; exact f2_19
  have f3_21 : a0_3.eval (.tmp 21) = .int .i64 si := by rw [ha3]; exact ev_same _ _ _ (Nat.lt_of_le_of_lt (by decide) qz2)
  rw [← ha3] at h0 ⊢
  clear ha3
  refine wpAnyH_take (i := 4) (oi := tl3_4 s) (v := .pointer (some ⟨zr, 0, none⟩)) (by kernel_rfl) (by kernel_rfl) (by kernel_rfl) (by kernel_rfl) (fun c a w h => hQ c _ _ _ w h) (Or.inl ⟨wanted_none rfl, fun w hw => by simp only [execOp, tl3_4, f3_1]; rfl⟩) hS ?_
  change wpAnyH _ _ _ _ _ _ _ (a0_3.put (some 23) (.pointer (some ⟨zr, 0, none⟩))) _
  obtain ⟨a0_4, ha4⟩ : ∃ rr : Act, rr = a0_3.put (some 23) (.pointer (some ⟨zr, 0, none⟩)) := ⟨_, rfl⟩
  have qz4 : 27 < a0_4.tmps.size := by rw [ha4, sz_put]; exact qz3
  have f4_5 : a0_4.eval (.tmp 5) = .pointer (some ⟨zx, 0, none⟩) := by rw [ha4, ev_other _ _ _ _ (by decide)]; exact f3_5
  have f4_19 : a0_4.eval (.tmp 19) = .pointer (some ⟨zp, 0, none⟩) := by rw [ha4, ev_other _ _ _ _ (by decide)]; exact f3_19
  have f4_21 : a0_4.eval (.tmp 21) = .int .i64 si := by rw [ha4, ev_other _ _ _ _ (by decide)]; exact f3_21
  have f4_23 : a0_4.eval (.tmp 23) = .pointer (some ⟨zr, 0, none⟩) := by rw [ha4]; exact ev_same _ _ _ (Nat.lt_of_le_of_lt (by decide) qz3)
  rw [← ha4] at h0 ⊢
  clear ha4
  refine wpAnyH_take (i := 5) (oi := tl3_5 s) (v := .pointer (some ⟨zx, 2, none⟩)) (by kernel_rfl) (by kernel_rfl) (by kernel_rfl) (by kernel_rfl) (fun c a w h => hQ c _ _ _ w h) (Or.inl ⟨wanted_none rfl, fun w hw => fldSt rfl f4_5 w⟩) hS ?_
  change wpAnyH _ _ _ _ _ _ _ (a0_4.put (some 24) (.pointer (some ⟨zx, 2, none⟩))) _
  obtain ⟨a0_5, ha5⟩ : ∃ rr : Act, rr = a0_4.put (some 24) (.pointer (some ⟨zx, 2, none⟩)) := ⟨_, rfl⟩
  have qz5 : 27 < a0_5.tmps.size := by rw [ha5, sz_put]; exact qz4
  have f5_19 : a0_5.eval (.tmp 19) = .pointer (some ⟨zp, 0, none⟩) := by rw [ha5, ev_other _ _ _ _ (by decide)]; exact f4_19
  have f5_21 : a0_5.eval (.tmp 21) = .int .i64 si := by rw [ha5, ev_other _ _ _ _ (by decide)]; exact f4_21
  have f5_23 : a0_5.eval (.tmp 23) = .pointer (some ⟨zr, 0, none⟩) := by rw [ha5, ev_other _ _ _ _ (by decide)]; exact f4_23
  have f5_24 : a0_5.eval (.tmp 24) = .pointer (some ⟨zx, 2, none⟩) := by rw [ha5]; exact ev_same _ _ _ (Nat.lt_of_le_of_lt (by decide) qz4)
  rw [← ha5] at h0 ⊢
  clear ha5
  refine wpAnyH_take (i := 6) (oi := tl3_6 s) (v := .int .i64 si) (by kernel_rfl) (by kernel_rfl) (by kernel_rfl) (by kernel_rfl) (fun c a w h => hQ c _ _ _ w h) (Or.inl ⟨wanted_none rfl, fun w hw => run_load rfl f5_24 (load_intS hw.1)⟩) hS ?_
  change wpAnyH _ _ _ _ _ _ _ (a0_5.put (some 25) (.int .i64 si)) _
  obtain ⟨a0_6, ha6⟩ : ∃ rr : Act, rr = a0_5.put (some 25) (.int .i64 si) := ⟨_, rfl⟩
  have qz6 : 27 < a0_6.tmps.size := by rw [ha6, sz_put]; exact qz5
  have f6_19 : a0_6.eval (.tmp 19) = .pointer (some ⟨zp, 0, none⟩) := by rw [ha6, ev_other _ _ _ _ (by decide)]; exact f5_19
  have f6_21 : a0_6.eval (.tmp 21) = .int .i64 si := by rw [ha6, ev_other _ _ _ _ (by decide)]; exact f5_21
  have f6_23 : a0_6.eval (.tmp 23) = .pointer (some ⟨zr, 0, none⟩) := by rw [ha6, ev_other _ _ _ _ (by decide)]; exact f5_23
  have f6_25 : a0_6.eval (.tmp 25) = .int .i64 si := by rw [ha6]; exact ev_same _ _ _ (Nat.lt_of_le_of_lt (by decide) qz5)
  rw [← ha6] at h0 ⊢
  clear ha6
  refine wpAnyH_ready (rs := [3]) (by kernel_rfl) (by simp) ?_
  refine AllReadyH.cons (o := tl3_3 s) (by kernel_rfl) (fun KQ hKQ => ?_) AllReadyH.nil
  rw [if_pos (wanted_none rfl)]
  refine step_enterE 25 #[.pointer (some ⟨zp, 0, none⟩), .int .i64 si] (by rw [tl3_enter3, f6_19, f6_21]) (fun V w' => V = .bool r ∧ M1 w') (hc1.mono (fun e w' h => ⟨_, h.1, rfl, h.2⟩)) ?_
  rintro _ w1 ⟨rfl, hM1⟩
  refine hKQ.out _ _ (hk1 w1 hM1) (fun _ => ?_)
  clear hKQ KQ
  change wpAnyH _ _ _ _ _ _ _ (a0_6.put (some 22) (.bool r)) _
  obtain ⟨a0_7, ha7⟩ : ∃ rr : Act, rr = a0_6.put (some 22) (.bool r) := ⟨_, rfl⟩
  have qz7 : 27 < a0_7.tmps.size := by rw [ha7, sz_put]; exact qz6
  have f7_22 : a0_7.eval (.tmp 22) = .bool r := by rw [ha7]; exact ev_same _ _ _ (Nat.lt_of_le_of_lt (by decide) qz6)
  have f7_23 : a0_7.eval (.tmp 23) = .pointer (some ⟨zr, 0, none⟩) := by rw [ha7, ev_other _ _ _ _ (by decide)]; exact f6_23
  have f7_25 : a0_7.eval (.tmp 25) = .int .i64 si := by rw [ha7, ev_other _ _ _ _ (by decide)]; exact f6_25
  rw [← ha7] at h0 ⊢
  clear ha7
  refine wpAnyH_ready (rs := [7]) (by kernel_rfl) (by simp) ?_
  refine AllReadyH.cons (o := tl3_7 s) (by kernel_rfl) (fun KQ hKQ => ?_) AllReadyH.nil
  rw [if_pos (wanted_none rfl)]
  refine step_enterE 37 #[.pointer (some ⟨zr, 0, none⟩), .int .i64 si] (by rw [tl3_enter7, f7_23, f7_25]) (fun V w' => V = .bool r ∧ M2 w') ((hc2 w1 hM1).mono (fun e w' h => ⟨_, h.1, rfl, h.2⟩)) ?_
  rintro _ w2 ⟨rfl, hM2⟩
  refine hKQ.out _ _ (hk2 w2 hM2) (fun _ => ?_)
  clear hKQ KQ
  change wpAnyH _ _ _ _ _ _ _ (a0_7.put (some 26) (.bool r)) _
  have h0 := h0 w2 hM2
  obtain ⟨a0_8, ha8⟩ : ∃ rr : Act, rr = a0_7.put (some 26) (.bool r) := ⟨_, rfl⟩
  have qz8 : 27 < a0_8.tmps.size := by rw [ha8, sz_put]; exact qz7
  have f8_22 : a0_8.eval (.tmp 22) = .bool r := by rw [ha8, ev_other _ _ _ _ (by decide)]; exact f7_22
  have f8_26 : a0_8.eval (.tmp 26) = .bool r := by rw [ha8]; exact ev_same _ _ _ (Nat.lt_of_le_of_lt (by decide) qz7)
  rw [← ha8] at h0 ⊢
  clear ha8
  refine wpAnyH_take (i := 8) (oi := tl3_8 s) (v := .bool true) (by kernel_rfl) (by kernel_rfl) (by kernel_rfl) (by kernel_rfl) (fun c a w h => hQ c _ _ _ w h) (Or.inl ⟨wanted_none rfl, fun w hw => run_eqBo rfl f8_22 f8_26 w⟩) (hk2 w2 hM2) ?_
  change wpAnyH _ _ _ _ _ _ _ (a0_8.put (some 27) (.bool true)) _
  obtain ⟨a0_9, ha9⟩ : ∃ rr : Act, rr = a0_8.put (some 27) (.bool true) := ⟨_, rfl⟩
  have qz9 : 27 < a0_9.tmps.size := by rw [ha9, sz_put]; exact qz8
  have f9_27 : a0_9.eval (.tmp 27) = .bool true := by rw [ha9]; exact ev_same _ _ _ (Nat.lt_of_le_of_lt (by decide) qz8)
  rw [← ha9] at h0 ⊢
  clear ha9
  refine wpAnyH_take (i := 9) (oi := tl3_9 s) (v := .bool true) (by kernel_rfl) (by kernel_rfl) (by kernel_rfl) (by kernel_rfl) (fun c a w h => hQ c _ _ _ w h) (Or.inl ⟨wanted_none rfl, fun w hw => by simp only [execOp, tl3_9, f9_27]; rfl⟩) (hk2 w2 hM2) ?_
  change wpAnyH _ _ _ _ _ _ _ (a0_9.put (some 6) (.bool true)) _
  obtain ⟨a0_10, ha10⟩ : ∃ rr : Act, rr = a0_9.put (some 6) (.bool true) := ⟨_, rfl⟩
  have qz10 : 27 < a0_10.tmps.size := by rw [ha10, sz_put]; exact qz9
  rw [← ha10] at h0 ⊢
  clear ha10
  refine wpAnyH_done (by kernel_rfl) ?_ _
  exact h0
def tl5_0 (s : String) : Oper := { dst := some 30, op := Op.move (Operand.tmp 0), type := 23, pos := s, after := #[], guard := none }
def tl5_1 (s : String) : Oper := { dst := some 31, op := Op.fieldAddr 32 (Operand.tmp 5) 2, type := 0, pos := s, after := #[], guard := none }
def tl5_2 (s : String) : Oper := { dst := some 32, op := Op.load 3 (Operand.tmp 31), type := 3, pos := s, after := #[{ on := 1, ground := Ground.data }], guard := none }
def tl5_3 (s : String) : Oper := { dst := some 33, op := Op.fieldAddr 32 (Operand.tmp 5) 3, type := 0, pos := s, after := #[], guard := none }
def tl5_4 (s : String) : Oper := { dst := some 34, op := Op.load 30 (Operand.tmp 33), type := 30, pos := s, after := #[{ on := 3, ground := Ground.data }], guard := none }
def tl5_5 (s : String) : Oper := { dst := some 35, op := Op.call { callee := Callee.value (Operand.func 13), args := #[Operand.tmp 30, Operand.tmp 32, Operand.tmp 34], argTypes := #[23, 3, 30] }, type := 4, pos := s, after := #[{ on := 0, ground := Ground.data }, { on := 2, ground := Ground.data }, { on := 4, ground := Ground.data }], guard := none }
def tl5_6 (s : String) : Oper := { dst := some 36, op := Op.move (Operand.tmp 1), type := 25, pos := s, after := #[], guard := none }
def tl5_7 (s : String) : Oper := { dst := some 37, op := Op.fieldAddr 32 (Operand.tmp 5) 2, type := 0, pos := s, after := #[], guard := none }
def tl5_8 (s : String) : Oper := { dst := some 38, op := Op.load 3 (Operand.tmp 37), type := 3, pos := s, after := #[{ on := 7, ground := Ground.data }], guard := none }
def tl5_9 (s : String) : Oper := { dst := some 39, op := Op.fieldAddr 32 (Operand.tmp 5) 3, type := 0, pos := s, after := #[], guard := none }
def tl5_10 (s : String) : Oper := { dst := some 40, op := Op.load 30 (Operand.tmp 39), type := 30, pos := s, after := #[{ on := 9, ground := Ground.data }], guard := none }
def tl5_11 (s : String) : Oper := { dst := some 41, op := Op.call { callee := Callee.value (Operand.func 38), args := #[Operand.tmp 36, Operand.tmp 38, Operand.tmp 40], argTypes := #[25, 3, 30] }, type := 4, pos := s, after := #[{ on := 6, ground := Ground.data }, { on := 8, ground := Ground.data }, { on := 10, ground := Ground.data }, { on := 5, ground := Ground.chain }], guard := none }
def tl5_12 (s : String) : Oper := { dst := some 42, op := Op.binOp BinOp.eql 4 (Operand.tmp 35) (Operand.tmp 41) 4, type := 4, pos := s, after := #[{ on := 5, ground := Ground.data }, { on := 11, ground := Ground.data }], guard := none }
def tl5_13 (s : String) : Oper := { dst := some 6, op := Op.assign (Operand.tmp 42), type := 4, pos := s, after := #[{ on := 12, ground := Ground.data }, { on := 11, ground := Ground.chain }, { on := 0, ground := Ground.phase }, { on := 1, ground := Ground.phase }, { on := 2, ground := Ground.phase }, { on := 3, ground := Ground.phase }, { on := 4, ground := Ground.phase }, { on := 5, ground := Ground.phase }, { on := 6, ground := Ground.phase }, { on := 7, ground := Ground.phase }, { on := 8, ground := Ground.phase }, { on := 9, ground := Ground.phase }, { on := 10, ground := Ground.phase }, { on := 11, ground := Ground.phase }, { on := 12, ground := Ground.phase }], guard := none }
def tl5_ops (s : String) : Array Oper := #[tl5_0 s, tl5_1 s, tl5_2 s, tl5_3 s, tl5_4 s, tl5_5 s, tl5_6 s, tl5_7 s, tl5_8 s, tl5_9 s, tl5_10 s, tl5_11 s, tl5_12 s, tl5_13 s]
theorem tl5_enter5 (s : String) (a : Act) (w : World) : (execOp a.eval (tl5_5 s)).run Try.prog w = .ok (.enter 13 #[a.eval (.tmp 30), a.eval (.tmp 32), a.eval (.tmp 34)]) w := by kernel_rfl
theorem tl5_enter11 (s : String) (a : Act) (w : World) : (execOp a.eval (tl5_11 s)).run Try.prog w = .ok (.enter 38 #[a.eval (.tmp 36), a.eval (.tmp 38), a.eval (.tmp 40)]) w := by kernel_rfl
theorem tl5_walk (s : String) {Q : Exit → Act → World → Prop} (hQ : ∀ c (a : Act) t v w, Q (.panic c) (a.put (some t) v) w → Q (.panic c) a w) (W : World) (zp zr zx : Nat) (si : Int) (x : List UInt8) (hxl : x.length = 32) (r : Bool) (M1 M2 : World → Prop) (hS0 : W.drew.cell? ⟨zx, 2, none⟩ = some (.int .i64 si) ∧ W.drew.rangeAt zx 3 (x.map u8c)) (hc1 : Calls Try.prog 13 #[.pointer (some ⟨zp, 0, none⟩), .int .i64 si, keyV x] W.drew fun e w' => e = .returned (.bool r) ∧ M1 w') (hk1 : ∀ w1, M1 w1 → w1.cell? ⟨zx, 2, none⟩ = some (.int .i64 si) ∧ w1.rangeAt zx 3 (x.map u8c)) (hc2 : ∀ w1, M1 w1 → Calls Try.prog 38 #[.pointer (some ⟨zr, 0, none⟩), .int .i64 si, keyV x] w1 fun e w' => e = .returned (.bool r) ∧ M2 w') (hk2 : ∀ w2, M2 w2 → w2.cell? ⟨zx, 2, none⟩ = some (.int .i64 si) ∧ w2.rangeAt zx 3 (x.map u8c))
    (a : Act) (hs : 42 < a.tmps.size) (e0 : a.eval (.tmp 0) = .pointer (some ⟨zp, 0, none⟩)) (e1 : a.eval (.tmp 1) = .pointer (some ⟨zr, 0, none⟩)) (e5 : a.eval (.tmp 5) = .pointer (some ⟨zx, 0, none⟩))
    (h0 : ∀ w2, M2 w2 → Q .normal ((((((((((((((a.put (some 30) (.pointer (some ⟨zp, 0, none⟩))).put (some 31) (.pointer (some ⟨zx, 2, none⟩))).put (some 32) (.int .i64 si)).put (some 33) (.pointer (some ⟨zx, 3, none⟩))).put (some 34) (keyV x)).put (some 36) (.pointer (some ⟨zr, 0, none⟩))).put (some 37) (.pointer (some ⟨zx, 2, none⟩))).put (some 38) (.int .i64 si)).put (some 39) (.pointer (some ⟨zx, 3, none⟩))).put (some 40) (keyV x)).put (some 35) (.bool r)).put (some 41) (.bool r)).put (some 42) (.bool true)).put (some 6) (.bool true)) w2) :
    Code.wp Try.prog (.region 5 (tl5_ops s) true) Q a W := by
  refine wp_region_held_drew (S := fun w => w.cell? ⟨zx, 2, none⟩ = some (.int .i64 si) ∧ w.rangeAt zx 3 (x.map u8c)) (by kernel_rfl) hS0 (fun hS => ?_)
  change wpAnyH _ _ _ _ _ _ _ _ (World.drew _)
  refine wpAnyH_take (i := 0) (oi := tl5_0 s) (v := .pointer (some ⟨zp, 0, none⟩)) (by kernel_rfl) (by kernel_rfl) (by kernel_rfl) (by kernel_rfl) (fun c a w h => hQ c _ _ _ w h) (Or.inl ⟨wanted_none rfl, fun w hw => by simp only [execOp, tl5_0, e0]; rfl⟩) hS ?_
  change wpAnyH _ _ _ _ _ _ _ (a.put (some 30) (.pointer (some ⟨zp, 0, none⟩))) _
  obtain ⟨a0_1, ha1⟩ : ∃ rr : Act, rr = a.put (some 30) (.pointer (some ⟨zp, 0, none⟩)) := ⟨_, rfl⟩
  have qz1 : 42 < a0_1.tmps.size := by rw [ha1, sz_put]; exact hs
  have f1_1 : a0_1.eval (.tmp 1) = .pointer (some ⟨zr, 0, none⟩) := by rw [ha1, ev_other _ _ _ _ (by decide)]; exact e1
  have f1_5 : a0_1.eval (.tmp 5) = .pointer (some ⟨zx, 0, none⟩) := by rw [ha1, ev_other _ _ _ _ (by decide)]; exact e5
  have f1_30 : a0_1.eval (.tmp 30) = .pointer (some ⟨zp, 0, none⟩) := by rw [ha1]; exact ev_same _ _ _ (Nat.lt_of_le_of_lt (by decide) hs)
  rw [← ha1] at h0 ⊢
  clear ha1
  refine wpAnyH_take (i := 1) (oi := tl5_1 s) (v := .pointer (some ⟨zx, 2, none⟩)) (by kernel_rfl) (by kernel_rfl) (by kernel_rfl) (by kernel_rfl) (fun c a w h => hQ c _ _ _ w h) (Or.inl ⟨wanted_none rfl, fun w hw => fldSt rfl f1_5 w⟩) hS ?_
  change wpAnyH _ _ _ _ _ _ _ (a0_1.put (some 31) (.pointer (some ⟨zx, 2, none⟩))) _
  obtain ⟨a0_2, ha2⟩ : ∃ rr : Act, rr = a0_1.put (some 31) (.pointer (some ⟨zx, 2, none⟩)) := ⟨_, rfl⟩
  have qz2 : 42 < a0_2.tmps.size := by rw [ha2, sz_put]; exact qz1
  have f2_1 : a0_2.eval (.tmp 1) = .pointer (some ⟨zr, 0, none⟩) := by rw [ha2, ev_other _ _ _ _ (by decide)]; exact f1_1
  have f2_5 : a0_2.eval (.tmp 5) = .pointer (some ⟨zx, 0, none⟩) := by rw [ha2, ev_other _ _ _ _ (by decide)]; exact f1_5
  have f2_30 : a0_2.eval (.tmp 30) = .pointer (some ⟨zp, 0, none⟩) := by rw [ha2, ev_other _ _ _ _ (by decide)]; exact f1_30
  have f2_31 : a0_2.eval (.tmp 31) = .pointer (some ⟨zx, 2, none⟩) := by rw [ha2]; exact ev_same _ _ _ (Nat.lt_of_le_of_lt (by decide) qz1)
  rw [← ha2] at h0 ⊢
  clear ha2
  refine wpAnyH_take (i := 2) (oi := tl5_2 s) (v := .int .i64 si) (by kernel_rfl) (by kernel_rfl) (by kernel_rfl) (by kernel_rfl) (fun c a w h => hQ c _ _ _ w h) (Or.inl ⟨wanted_none rfl, fun w hw => run_load rfl f2_31 (load_intS hw.1)⟩) hS ?_
  change wpAnyH _ _ _ _ _ _ _ (a0_2.put (some 32) (.int .i64 si)) _
  obtain ⟨a0_3, ha3⟩ : ∃ rr : Act, rr = a0_2.put (some 32) (.int .i64 si) := ⟨_, rfl⟩
  have qz3 : 42 < a0_3.tmps.size := by rw [ha3, sz_put]; exact qz2
  have f3_1 : a0_3.eval (.tmp 1) = .pointer (some ⟨zr, 0, none⟩) := by rw [ha3, ev_other _ _ _ _ (by decide)]; exact f2_1
  have f3_5 : a0_3.eval (.tmp 5) = .pointer (some ⟨zx, 0, none⟩) := by rw [ha3, ev_other _ _ _ _ (by decide)]; exact f2_5
  have f3_30 : a0_3.eval (.tmp 30) = .pointer (some ⟨zp, 0, none⟩) := by rw [ha3, ev_other _ _ _ _ (by decide)]; exact f2_30
  have f3_32 : a0_3.eval (.tmp 32) = .int .i64 si := by rw [ha3]; exact ev_same _ _ _ (Nat.lt_of_le_of_lt (by decide) qz2)
  rw [← ha3] at h0 ⊢
  clear ha3
  refine wpAnyH_take (i := 3) (oi := tl5_3 s) (v := .pointer (some ⟨zx, 3, none⟩)) (by kernel_rfl) (by kernel_rfl) (by kernel_rfl) (by kernel_rfl) (fun c a w h => hQ c _ _ _ w h) (Or.inl ⟨wanted_none rfl, fun w hw => fldKt rfl f3_5 w⟩) hS ?_
  change wpAnyH _ _ _ _ _ _ _ (a0_3.put (some 33) (.pointer (some ⟨zx, 3, none⟩))) _
  obtain ⟨a0_4, ha4⟩ : ∃ rr : Act, rr = a0_3.put (some 33) (.pointer (some ⟨zx, 3, none⟩)) := ⟨_, rfl⟩
  have qz4 : 42 < a0_4.tmps.size := by rw [ha4, sz_put]; exact qz3
  have f4_1 : a0_4.eval (.tmp 1) = .pointer (some ⟨zr, 0, none⟩) := by rw [ha4, ev_other _ _ _ _ (by decide)]; exact f3_1
  have f4_5 : a0_4.eval (.tmp 5) = .pointer (some ⟨zx, 0, none⟩) := by rw [ha4, ev_other _ _ _ _ (by decide)]; exact f3_5
  have f4_30 : a0_4.eval (.tmp 30) = .pointer (some ⟨zp, 0, none⟩) := by rw [ha4, ev_other _ _ _ _ (by decide)]; exact f3_30
  have f4_32 : a0_4.eval (.tmp 32) = .int .i64 si := by rw [ha4, ev_other _ _ _ _ (by decide)]; exact f3_32
  have f4_33 : a0_4.eval (.tmp 33) = .pointer (some ⟨zx, 3, none⟩) := by rw [ha4]; exact ev_same _ _ _ (Nat.lt_of_le_of_lt (by decide) qz3)
  rw [← ha4] at h0 ⊢
  clear ha4
  refine wpAnyH_take (i := 4) (oi := tl5_4 s) (v := keyV x) (by kernel_rfl) (by kernel_rfl) (by kernel_rfl) (by kernel_rfl) (fun c a w h => hQ c _ _ _ w h) (Or.inl ⟨wanted_none rfl, fun w hw => run_load rfl f4_33 (loadAt_key hxl hw.2)⟩) hS ?_
  change wpAnyH _ _ _ _ _ _ _ (a0_4.put (some 34) (keyV x)) _
  obtain ⟨a0_5, ha5⟩ : ∃ rr : Act, rr = a0_4.put (some 34) (keyV x) := ⟨_, rfl⟩
  have qz5 : 42 < a0_5.tmps.size := by rw [ha5, sz_put]; exact qz4
  have f5_1 : a0_5.eval (.tmp 1) = .pointer (some ⟨zr, 0, none⟩) := by rw [ha5, ev_other _ _ _ _ (by decide)]; exact f4_1
  have f5_5 : a0_5.eval (.tmp 5) = .pointer (some ⟨zx, 0, none⟩) := by rw [ha5, ev_other _ _ _ _ (by decide)]; exact f4_5
  have f5_30 : a0_5.eval (.tmp 30) = .pointer (some ⟨zp, 0, none⟩) := by rw [ha5, ev_other _ _ _ _ (by decide)]; exact f4_30
  have f5_32 : a0_5.eval (.tmp 32) = .int .i64 si := by rw [ha5, ev_other _ _ _ _ (by decide)]; exact f4_32
  have f5_34 : a0_5.eval (.tmp 34) = keyV x := by rw [ha5]; exact ev_same _ _ _ (Nat.lt_of_le_of_lt (by decide) qz4)
  rw [← ha5] at h0 ⊢
  clear ha5
  refine wpAnyH_take (i := 6) (oi := tl5_6 s) (v := .pointer (some ⟨zr, 0, none⟩)) (by kernel_rfl) (by kernel_rfl) (by kernel_rfl) (by kernel_rfl) (fun c a w h => hQ c _ _ _ w h) (Or.inl ⟨wanted_none rfl, fun w hw => by simp only [execOp, tl5_6, f5_1]; rfl⟩) hS ?_
  change wpAnyH _ _ _ _ _ _ _ (a0_5.put (some 36) (.pointer (some ⟨zr, 0, none⟩))) _
  obtain ⟨a0_6, ha6⟩ : ∃ rr : Act, rr = a0_5.put (some 36) (.pointer (some ⟨zr, 0, none⟩)) := ⟨_, rfl⟩
  have qz6 : 42 < a0_6.tmps.size := by rw [ha6, sz_put]; exact qz5
  have f6_5 : a0_6.eval (.tmp 5) = .pointer (some ⟨zx, 0, none⟩) := by rw [ha6, ev_other _ _ _ _ (by decide)]; exact f5_5
  have f6_30 : a0_6.eval (.tmp 30) = .pointer (some ⟨zp, 0, none⟩) := by rw [ha6, ev_other _ _ _ _ (by decide)]; exact f5_30
  have f6_32 : a0_6.eval (.tmp 32) = .int .i64 si := by rw [ha6, ev_other _ _ _ _ (by decide)]; exact f5_32
  have f6_34 : a0_6.eval (.tmp 34) = keyV x := by rw [ha6, ev_other _ _ _ _ (by decide)]; exact f5_34
  have f6_36 : a0_6.eval (.tmp 36) = .pointer (some ⟨zr, 0, none⟩) := by rw [ha6]; exact ev_same _ _ _ (Nat.lt_of_le_of_lt (by decide) qz5)
  rw [← ha6] at h0 ⊢
  clear ha6
  refine wpAnyH_take (i := 7) (oi := tl5_7 s) (v := .pointer (some ⟨zx, 2, none⟩)) (by kernel_rfl) (by kernel_rfl) (by kernel_rfl) (by kernel_rfl) (fun c a w h => hQ c _ _ _ w h) (Or.inl ⟨wanted_none rfl, fun w hw => fldSt rfl f6_5 w⟩) hS ?_
  change wpAnyH _ _ _ _ _ _ _ (a0_6.put (some 37) (.pointer (some ⟨zx, 2, none⟩))) _
  obtain ⟨a0_7, ha7⟩ : ∃ rr : Act, rr = a0_6.put (some 37) (.pointer (some ⟨zx, 2, none⟩)) := ⟨_, rfl⟩
  have qz7 : 42 < a0_7.tmps.size := by rw [ha7, sz_put]; exact qz6
  have f7_5 : a0_7.eval (.tmp 5) = .pointer (some ⟨zx, 0, none⟩) := by rw [ha7, ev_other _ _ _ _ (by decide)]; exact f6_5
  have f7_30 : a0_7.eval (.tmp 30) = .pointer (some ⟨zp, 0, none⟩) := by rw [ha7, ev_other _ _ _ _ (by decide)]; exact f6_30
  have f7_32 : a0_7.eval (.tmp 32) = .int .i64 si := by rw [ha7, ev_other _ _ _ _ (by decide)]; exact f6_32
  have f7_34 : a0_7.eval (.tmp 34) = keyV x := by rw [ha7, ev_other _ _ _ _ (by decide)]; exact f6_34
  have f7_36 : a0_7.eval (.tmp 36) = .pointer (some ⟨zr, 0, none⟩) := by rw [ha7, ev_other _ _ _ _ (by decide)]; exact f6_36
  have f7_37 : a0_7.eval (.tmp 37) = .pointer (some ⟨zx, 2, none⟩) := by rw [ha7]; exact ev_same _ _ _ (Nat.lt_of_le_of_lt (by decide) qz6)
  rw [← ha7] at h0 ⊢
  clear ha7
  refine wpAnyH_take (i := 8) (oi := tl5_8 s) (v := .int .i64 si) (by kernel_rfl) (by kernel_rfl) (by kernel_rfl) (by kernel_rfl) (fun c a w h => hQ c _ _ _ w h) (Or.inl ⟨wanted_none rfl, fun w hw => run_load rfl f7_37 (load_intS hw.1)⟩) hS ?_
  change wpAnyH _ _ _ _ _ _ _ (a0_7.put (some 38) (.int .i64 si)) _
  obtain ⟨a0_8, ha8⟩ : ∃ rr : Act, rr = a0_7.put (some 38) (.int .i64 si) := ⟨_, rfl⟩
  have qz8 : 42 < a0_8.tmps.size := by rw [ha8, sz_put]; exact qz7
  have f8_5 : a0_8.eval (.tmp 5) = .pointer (some ⟨zx, 0, none⟩) := by rw [ha8, ev_other _ _ _ _ (by decide)]; exact f7_5
  have f8_30 : a0_8.eval (.tmp 30) = .pointer (some ⟨zp, 0, none⟩) := by rw [ha8, ev_other _ _ _ _ (by decide)]; exact f7_30
  have f8_32 : a0_8.eval (.tmp 32) = .int .i64 si := by rw [ha8, ev_other _ _ _ _ (by decide)]; exact f7_32
  have f8_34 : a0_8.eval (.tmp 34) = keyV x := by rw [ha8, ev_other _ _ _ _ (by decide)]; exact f7_34
  have f8_36 : a0_8.eval (.tmp 36) = .pointer (some ⟨zr, 0, none⟩) := by rw [ha8, ev_other _ _ _ _ (by decide)]; exact f7_36
  have f8_38 : a0_8.eval (.tmp 38) = .int .i64 si := by rw [ha8]; exact ev_same _ _ _ (Nat.lt_of_le_of_lt (by decide) qz7)
  rw [← ha8] at h0 ⊢
  clear ha8
  refine wpAnyH_take (i := 9) (oi := tl5_9 s) (v := .pointer (some ⟨zx, 3, none⟩)) (by kernel_rfl) (by kernel_rfl) (by kernel_rfl) (by kernel_rfl) (fun c a w h => hQ c _ _ _ w h) (Or.inl ⟨wanted_none rfl, fun w hw => fldKt rfl f8_5 w⟩) hS ?_
  change wpAnyH _ _ _ _ _ _ _ (a0_8.put (some 39) (.pointer (some ⟨zx, 3, none⟩))) _
  obtain ⟨a0_9, ha9⟩ : ∃ rr : Act, rr = a0_8.put (some 39) (.pointer (some ⟨zx, 3, none⟩)) := ⟨_, rfl⟩
  have qz9 : 42 < a0_9.tmps.size := by rw [ha9, sz_put]; exact qz8
  have f9_30 : a0_9.eval (.tmp 30) = .pointer (some ⟨zp, 0, none⟩) := by rw [ha9, ev_other _ _ _ _ (by decide)]; exact f8_30
  have f9_32 : a0_9.eval (.tmp 32) = .int .i64 si := by rw [ha9, ev_other _ _ _ _ (by decide)]; exact f8_32
  have f9_34 : a0_9.eval (.tmp 34) = keyV x := by rw [ha9, ev_other _ _ _ _ (by decide)]; exact f8_34
  have f9_36 : a0_9.eval (.tmp 36) = .pointer (some ⟨zr, 0, none⟩) := by rw [ha9, ev_other _ _ _ _ (by decide)]; exact f8_36
  have f9_38 : a0_9.eval (.tmp 38) = .int .i64 si := by rw [ha9, ev_other _ _ _ _ (by decide)]; exact f8_38
  have f9_39 : a0_9.eval (.tmp 39) = .pointer (some ⟨zx, 3, none⟩) := by rw [ha9]; exact ev_same _ _ _ (Nat.lt_of_le_of_lt (by decide) qz8)
  rw [← ha9] at h0 ⊢
  clear ha9
  refine wpAnyH_take (i := 10) (oi := tl5_10 s) (v := keyV x) (by kernel_rfl) (by kernel_rfl) (by kernel_rfl) (by kernel_rfl) (fun c a w h => hQ c _ _ _ w h) (Or.inl ⟨wanted_none rfl, fun w hw => run_load rfl f9_39 (loadAt_key hxl hw.2)⟩) hS ?_
  change wpAnyH _ _ _ _ _ _ _ (a0_9.put (some 40) (keyV x)) _
  obtain ⟨a0_10, ha10⟩ : ∃ rr : Act, rr = a0_9.put (some 40) (keyV x) := ⟨_, rfl⟩
  have qz10 : 42 < a0_10.tmps.size := by rw [ha10, sz_put]; exact qz9
  have f10_30 : a0_10.eval (.tmp 30) = .pointer (some ⟨zp, 0, none⟩) := by rw [ha10, ev_other _ _ _ _ (by decide)]; exact f9_30
  have f10_32 : a0_10.eval (.tmp 32) = .int .i64 si := by rw [ha10, ev_other _ _ _ _ (by decide)]; exact f9_32
  have f10_34 : a0_10.eval (.tmp 34) = keyV x := by rw [ha10, ev_other _ _ _ _ (by decide)]; exact f9_34
  have f10_36 : a0_10.eval (.tmp 36) = .pointer (some ⟨zr, 0, none⟩) := by rw [ha10, ev_other _ _ _ _ (by decide)]; exact f9_36
  have f10_38 : a0_10.eval (.tmp 38) = .int .i64 si := by rw [ha10, ev_other _ _ _ _ (by decide)]; exact f9_38
  have f10_40 : a0_10.eval (.tmp 40) = keyV x := by rw [ha10]; exact ev_same _ _ _ (Nat.lt_of_le_of_lt (by decide) qz9)
  rw [← ha10] at h0 ⊢
  clear ha10
  refine wpAnyH_ready (rs := [5]) (by kernel_rfl) (by simp) ?_
  refine AllReadyH.cons (o := tl5_5 s) (by kernel_rfl) (fun KQ hKQ => ?_) AllReadyH.nil
  rw [if_pos (wanted_none rfl)]
  refine step_enterE 13 #[.pointer (some ⟨zp, 0, none⟩), .int .i64 si, keyV x] (by rw [tl5_enter5, f10_30, f10_32, f10_34]) (fun V w' => V = .bool r ∧ M1 w') (hc1.mono (fun e w' h => ⟨_, h.1, rfl, h.2⟩)) ?_
  rintro _ w1 ⟨rfl, hM1⟩
  refine hKQ.out _ _ (hk1 w1 hM1) (fun _ => ?_)
  clear hKQ KQ
  change wpAnyH _ _ _ _ _ _ _ (a0_10.put (some 35) (.bool r)) _
  obtain ⟨a0_11, ha11⟩ : ∃ rr : Act, rr = a0_10.put (some 35) (.bool r) := ⟨_, rfl⟩
  have qz11 : 42 < a0_11.tmps.size := by rw [ha11, sz_put]; exact qz10
  have f11_35 : a0_11.eval (.tmp 35) = .bool r := by rw [ha11]; exact ev_same _ _ _ (Nat.lt_of_le_of_lt (by decide) qz10)
  have f11_36 : a0_11.eval (.tmp 36) = .pointer (some ⟨zr, 0, none⟩) := by rw [ha11, ev_other _ _ _ _ (by decide)]; exact f10_36
  have f11_38 : a0_11.eval (.tmp 38) = .int .i64 si := by rw [ha11, ev_other _ _ _ _ (by decide)]; exact f10_38
  have f11_40 : a0_11.eval (.tmp 40) = keyV x := by rw [ha11, ev_other _ _ _ _ (by decide)]; exact f10_40
  rw [← ha11] at h0 ⊢
  clear ha11
  refine wpAnyH_ready (rs := [11]) (by kernel_rfl) (by simp) ?_
  refine AllReadyH.cons (o := tl5_11 s) (by kernel_rfl) (fun KQ hKQ => ?_) AllReadyH.nil
  rw [if_pos (wanted_none rfl)]
  refine step_enterE 38 #[.pointer (some ⟨zr, 0, none⟩), .int .i64 si, keyV x] (by rw [tl5_enter11, f11_36, f11_38, f11_40]) (fun V w' => V = .bool r ∧ M2 w') ((hc2 w1 hM1).mono (fun e w' h => ⟨_, h.1, rfl, h.2⟩)) ?_
  rintro _ w2 ⟨rfl, hM2⟩
  refine hKQ.out _ _ (hk2 w2 hM2) (fun _ => ?_)
  clear hKQ KQ
  change wpAnyH _ _ _ _ _ _ _ (a0_11.put (some 41) (.bool r)) _
  have h0 := h0 w2 hM2
  obtain ⟨a0_12, ha12⟩ : ∃ rr : Act, rr = a0_11.put (some 41) (.bool r) := ⟨_, rfl⟩
  have qz12 : 42 < a0_12.tmps.size := by rw [ha12, sz_put]; exact qz11
  have f12_35 : a0_12.eval (.tmp 35) = .bool r := by rw [ha12, ev_other _ _ _ _ (by decide)]; exact f11_35
  have f12_41 : a0_12.eval (.tmp 41) = .bool r := by rw [ha12]; exact ev_same _ _ _ (Nat.lt_of_le_of_lt (by decide) qz11)
  rw [← ha12] at h0 ⊢
  clear ha12
  refine wpAnyH_take (i := 12) (oi := tl5_12 s) (v := .bool true) (by kernel_rfl) (by kernel_rfl) (by kernel_rfl) (by kernel_rfl) (fun c a w h => hQ c _ _ _ w h) (Or.inl ⟨wanted_none rfl, fun w hw => run_eqBo rfl f12_35 f12_41 w⟩) (hk2 w2 hM2) ?_
  change wpAnyH _ _ _ _ _ _ _ (a0_12.put (some 42) (.bool true)) _
  obtain ⟨a0_13, ha13⟩ : ∃ rr : Act, rr = a0_12.put (some 42) (.bool true) := ⟨_, rfl⟩
  have qz13 : 42 < a0_13.tmps.size := by rw [ha13, sz_put]; exact qz12
  have f13_42 : a0_13.eval (.tmp 42) = .bool true := by rw [ha13]; exact ev_same _ _ _ (Nat.lt_of_le_of_lt (by decide) qz12)
  rw [← ha13] at h0 ⊢
  clear ha13
  refine wpAnyH_take (i := 13) (oi := tl5_13 s) (v := .bool true) (by kernel_rfl) (by kernel_rfl) (by kernel_rfl) (by kernel_rfl) (fun c a w h => hQ c _ _ _ w h) (Or.inl ⟨wanted_none rfl, fun w hw => by simp only [execOp, tl5_13, f13_42]; rfl⟩) (hk2 w2 hM2) ?_
  change wpAnyH _ _ _ _ _ _ _ (a0_13.put (some 6) (.bool true)) _
  obtain ⟨a0_14, ha14⟩ : ∃ rr : Act, rr = a0_13.put (some 6) (.bool true) := ⟨_, rfl⟩
  have qz14 : 42 < a0_14.tmps.size := by rw [ha14, sz_put]; exact qz13
  rw [← ha14] at h0 ⊢
  clear ha14
  refine wpAnyH_done (by kernel_rfl) ?_ _
  exact h0
def tl7_0 (s : String) : Oper := { dst := some 45, op := Op.move (Operand.tmp 0), type := 23, pos := s, after := #[], guard := none }
def tl7_1 (s : String) : Oper := { dst := some 46, op := Op.fieldAddr 32 (Operand.tmp 5) 2, type := 0, pos := s, after := #[], guard := none }
def tl7_2 (s : String) : Oper := { dst := some 47, op := Op.load 3 (Operand.tmp 46), type := 3, pos := s, after := #[{ on := 1, ground := Ground.data }], guard := none }
def tl7_3 (s : String) : Oper := { dst := some 48, op := Op.call { callee := Callee.value (Operand.func 26), args := #[Operand.tmp 45, Operand.tmp 47], argTypes := #[23, 3] }, type := 3, pos := s, after := #[{ on := 0, ground := Ground.data }, { on := 2, ground := Ground.data }], guard := none }
def tl7_4 (s : String) : Oper := { dst := some 49, op := Op.move (Operand.tmp 1), type := 25, pos := s, after := #[], guard := none }
def tl7_5 (s : String) : Oper := { dst := some 50, op := Op.fieldAddr 32 (Operand.tmp 5) 2, type := 0, pos := s, after := #[], guard := none }
def tl7_6 (s : String) : Oper := { dst := some 51, op := Op.load 3 (Operand.tmp 50), type := 3, pos := s, after := #[{ on := 5, ground := Ground.data }], guard := none }
def tl7_7 (s : String) : Oper := { dst := some 52, op := Op.call { callee := Callee.value (Operand.func 39), args := #[Operand.tmp 49, Operand.tmp 51], argTypes := #[25, 3] }, type := 3, pos := s, after := #[{ on := 4, ground := Ground.data }, { on := 6, ground := Ground.data }, { on := 3, ground := Ground.chain }], guard := none }
def tl7_8 (s : String) : Oper := { dst := some 53, op := Op.binOp BinOp.eql 3 (Operand.tmp 48) (Operand.tmp 52) 3, type := 4, pos := s, after := #[{ on := 3, ground := Ground.data }, { on := 7, ground := Ground.data }], guard := none }
def tl7_9 (s : String) : Oper := { dst := some 6, op := Op.assign (Operand.tmp 53), type := 4, pos := s, after := #[{ on := 8, ground := Ground.data }, { on := 7, ground := Ground.chain }, { on := 0, ground := Ground.phase }, { on := 1, ground := Ground.phase }, { on := 2, ground := Ground.phase }, { on := 3, ground := Ground.phase }, { on := 4, ground := Ground.phase }, { on := 5, ground := Ground.phase }, { on := 6, ground := Ground.phase }, { on := 7, ground := Ground.phase }, { on := 8, ground := Ground.phase }], guard := none }
def tl7_ops (s : String) : Array Oper := #[tl7_0 s, tl7_1 s, tl7_2 s, tl7_3 s, tl7_4 s, tl7_5 s, tl7_6 s, tl7_7 s, tl7_8 s, tl7_9 s]
theorem tl7_enter3 (s : String) (a : Act) (w : World) : (execOp a.eval (tl7_3 s)).run Try.prog w = .ok (.enter 26 #[a.eval (.tmp 45), a.eval (.tmp 47)]) w := by kernel_rfl
theorem tl7_enter7 (s : String) (a : Act) (w : World) : (execOp a.eval (tl7_7 s)).run Try.prog w = .ok (.enter 39 #[a.eval (.tmp 49), a.eval (.tmp 51)]) w := by kernel_rfl
theorem tl7_walk (s : String) {Q : Exit → Act → World → Prop} (hQ : ∀ c (a : Act) t v w, Q (.panic c) (a.put (some t) v) w → Q (.panic c) a w) (W : World) (zp zr zx : Nat) (si : Int) (x : List UInt8) (hxl : x.length = 32) (r : Int) (M1 M2 : World → Prop) (hS0 : W.drew.cell? ⟨zx, 2, none⟩ = some (.int .i64 si) ∧ W.drew.rangeAt zx 3 (x.map u8c)) (hc1 : Calls Try.prog 26 #[.pointer (some ⟨zp, 0, none⟩), .int .i64 si] W.drew fun e w' => e = .returned (.int .i64 r) ∧ M1 w') (hk1 : ∀ w1, M1 w1 → w1.cell? ⟨zx, 2, none⟩ = some (.int .i64 si) ∧ w1.rangeAt zx 3 (x.map u8c)) (hc2 : ∀ w1, M1 w1 → Calls Try.prog 39 #[.pointer (some ⟨zr, 0, none⟩), .int .i64 si] w1 fun e w' => e = .returned (.int .i64 r) ∧ M2 w') (hk2 : ∀ w2, M2 w2 → w2.cell? ⟨zx, 2, none⟩ = some (.int .i64 si) ∧ w2.rangeAt zx 3 (x.map u8c))
    (a : Act) (hs : 53 < a.tmps.size) (e0 : a.eval (.tmp 0) = .pointer (some ⟨zp, 0, none⟩)) (e1 : a.eval (.tmp 1) = .pointer (some ⟨zr, 0, none⟩)) (e5 : a.eval (.tmp 5) = .pointer (some ⟨zx, 0, none⟩))
    (h0 : ∀ w2, M2 w2 → Q .normal ((((((((((a.put (some 45) (.pointer (some ⟨zp, 0, none⟩))).put (some 46) (.pointer (some ⟨zx, 2, none⟩))).put (some 47) (.int .i64 si)).put (some 49) (.pointer (some ⟨zr, 0, none⟩))).put (some 50) (.pointer (some ⟨zx, 2, none⟩))).put (some 51) (.int .i64 si)).put (some 48) (.int .i64 r)).put (some 52) (.int .i64 r)).put (some 53) (.bool true)).put (some 6) (.bool true)) w2) :
    Code.wp Try.prog (.region 7 (tl7_ops s) true) Q a W := by
  refine wp_region_held_drew (S := fun w => w.cell? ⟨zx, 2, none⟩ = some (.int .i64 si) ∧ w.rangeAt zx 3 (x.map u8c)) (by kernel_rfl) hS0 (fun hS => ?_)
  change wpAnyH _ _ _ _ _ _ _ _ (World.drew _)
  refine wpAnyH_take (i := 0) (oi := tl7_0 s) (v := .pointer (some ⟨zp, 0, none⟩)) (by kernel_rfl) (by kernel_rfl) (by kernel_rfl) (by kernel_rfl) (fun c a w h => hQ c _ _ _ w h) (Or.inl ⟨wanted_none rfl, fun w hw => by simp only [execOp, tl7_0, e0]; rfl⟩) hS ?_
  change wpAnyH _ _ _ _ _ _ _ (a.put (some 45) (.pointer (some ⟨zp, 0, none⟩))) _
  obtain ⟨a0_1, ha1⟩ : ∃ rr : Act, rr = a.put (some 45) (.pointer (some ⟨zp, 0, none⟩)) := ⟨_, rfl⟩
  have qz1 : 53 < a0_1.tmps.size := by rw [ha1, sz_put]; exact hs
  have f1_1 : a0_1.eval (.tmp 1) = .pointer (some ⟨zr, 0, none⟩) := by rw [ha1, ev_other _ _ _ _ (by decide)]; exact e1
  have f1_5 : a0_1.eval (.tmp 5) = .pointer (some ⟨zx, 0, none⟩) := by rw [ha1, ev_other _ _ _ _ (by decide)]; exact e5
  have f1_45 : a0_1.eval (.tmp 45) = .pointer (some ⟨zp, 0, none⟩) := by rw [ha1]; exact ev_same _ _ _ (Nat.lt_of_le_of_lt (by decide) hs)
  rw [← ha1] at h0 ⊢
  clear ha1
  refine wpAnyH_take (i := 1) (oi := tl7_1 s) (v := .pointer (some ⟨zx, 2, none⟩)) (by kernel_rfl) (by kernel_rfl) (by kernel_rfl) (by kernel_rfl) (fun c a w h => hQ c _ _ _ w h) (Or.inl ⟨wanted_none rfl, fun w hw => fldSt rfl f1_5 w⟩) hS ?_
  change wpAnyH _ _ _ _ _ _ _ (a0_1.put (some 46) (.pointer (some ⟨zx, 2, none⟩))) _
  obtain ⟨a0_2, ha2⟩ : ∃ rr : Act, rr = a0_1.put (some 46) (.pointer (some ⟨zx, 2, none⟩)) := ⟨_, rfl⟩
  have qz2 : 53 < a0_2.tmps.size := by rw [ha2, sz_put]; exact qz1
  have f2_1 : a0_2.eval (.tmp 1) = .pointer (some ⟨zr, 0, none⟩) := by rw [ha2, ev_other _ _ _ _ (by decide)]; exact f1_1
  have f2_5 : a0_2.eval (.tmp 5) = .pointer (some ⟨zx, 0, none⟩) := by rw [ha2, ev_other _ _ _ _ (by decide)]; exact f1_5
  have f2_45 : a0_2.eval (.tmp 45) = .pointer (some ⟨zp, 0, none⟩) := by rw [ha2, ev_other _ _ _ _ (by decide)]; exact f1_45
  have f2_46 : a0_2.eval (.tmp 46) = .pointer (some ⟨zx, 2, none⟩) := by rw [ha2]; exact ev_same _ _ _ (Nat.lt_of_le_of_lt (by decide) qz1)
  rw [← ha2] at h0 ⊢
  clear ha2
  refine wpAnyH_take (i := 2) (oi := tl7_2 s) (v := .int .i64 si) (by kernel_rfl) (by kernel_rfl) (by kernel_rfl) (by kernel_rfl) (fun c a w h => hQ c _ _ _ w h) (Or.inl ⟨wanted_none rfl, fun w hw => run_load rfl f2_46 (load_intS hw.1)⟩) hS ?_
  change wpAnyH _ _ _ _ _ _ _ (a0_2.put (some 47) (.int .i64 si)) _
  obtain ⟨a0_3, ha3⟩ : ∃ rr : Act, rr = a0_2.put (some 47) (.int .i64 si) := ⟨_, rfl⟩
  have qz3 : 53 < a0_3.tmps.size := by rw [ha3, sz_put]; exact qz2
  have f3_1 : a0_3.eval (.tmp 1) = .pointer (some ⟨zr, 0, none⟩) := by rw [ha3, ev_other _ _ _ _ (by decide)]; exact f2_1
  have f3_5 : a0_3.eval (.tmp 5) = .pointer (some ⟨zx, 0, none⟩) := by rw [ha3, ev_other _ _ _ _ (by decide)]; exact f2_5
  have f3_45 : a0_3.eval (.tmp 45) = .pointer (some ⟨zp, 0, none⟩) := by rw [ha3, ev_other _ _ _ _ (by decide)]; exact f2_45
  have f3_47 : a0_3.eval (.tmp 47) = .int .i64 si := by rw [ha3]; exact ev_same _ _ _ (Nat.lt_of_le_of_lt (by decide) qz2)
  rw [← ha3] at h0 ⊢
  clear ha3
  refine wpAnyH_take (i := 4) (oi := tl7_4 s) (v := .pointer (some ⟨zr, 0, none⟩)) (by kernel_rfl) (by kernel_rfl) (by kernel_rfl) (by kernel_rfl) (fun c a w h => hQ c _ _ _ w h) (Or.inl ⟨wanted_none rfl, fun w hw => by simp only [execOp, tl7_4, f3_1]; rfl⟩) hS ?_
  change wpAnyH _ _ _ _ _ _ _ (a0_3.put (some 49) (.pointer (some ⟨zr, 0, none⟩))) _
  obtain ⟨a0_4, ha4⟩ : ∃ rr : Act, rr = a0_3.put (some 49) (.pointer (some ⟨zr, 0, none⟩)) := ⟨_, rfl⟩
  have qz4 : 53 < a0_4.tmps.size := by rw [ha4, sz_put]; exact qz3
  have f4_5 : a0_4.eval (.tmp 5) = .pointer (some ⟨zx, 0, none⟩) := by rw [ha4, ev_other _ _ _ _ (by decide)]; exact f3_5
  have f4_45 : a0_4.eval (.tmp 45) = .pointer (some ⟨zp, 0, none⟩) := by rw [ha4, ev_other _ _ _ _ (by decide)]; exact f3_45
  have f4_47 : a0_4.eval (.tmp 47) = .int .i64 si := by rw [ha4, ev_other _ _ _ _ (by decide)]; exact f3_47
  have f4_49 : a0_4.eval (.tmp 49) = .pointer (some ⟨zr, 0, none⟩) := by rw [ha4]; exact ev_same _ _ _ (Nat.lt_of_le_of_lt (by decide) qz3)
  rw [← ha4] at h0 ⊢
  clear ha4
  refine wpAnyH_take (i := 5) (oi := tl7_5 s) (v := .pointer (some ⟨zx, 2, none⟩)) (by kernel_rfl) (by kernel_rfl) (by kernel_rfl) (by kernel_rfl) (fun c a w h => hQ c _ _ _ w h) (Or.inl ⟨wanted_none rfl, fun w hw => fldSt rfl f4_5 w⟩) hS ?_
  change wpAnyH _ _ _ _ _ _ _ (a0_4.put (some 50) (.pointer (some ⟨zx, 2, none⟩))) _
  obtain ⟨a0_5, ha5⟩ : ∃ rr : Act, rr = a0_4.put (some 50) (.pointer (some ⟨zx, 2, none⟩)) := ⟨_, rfl⟩
  have qz5 : 53 < a0_5.tmps.size := by rw [ha5, sz_put]; exact qz4
  have f5_45 : a0_5.eval (.tmp 45) = .pointer (some ⟨zp, 0, none⟩) := by rw [ha5, ev_other _ _ _ _ (by decide)]; exact f4_45
  have f5_47 : a0_5.eval (.tmp 47) = .int .i64 si := by rw [ha5, ev_other _ _ _ _ (by decide)]; exact f4_47
  have f5_49 : a0_5.eval (.tmp 49) = .pointer (some ⟨zr, 0, none⟩) := by rw [ha5, ev_other _ _ _ _ (by decide)]; exact f4_49
  have f5_50 : a0_5.eval (.tmp 50) = .pointer (some ⟨zx, 2, none⟩) := by rw [ha5]; exact ev_same _ _ _ (Nat.lt_of_le_of_lt (by decide) qz4)
  rw [← ha5] at h0 ⊢
  clear ha5
  refine wpAnyH_take (i := 6) (oi := tl7_6 s) (v := .int .i64 si) (by kernel_rfl) (by kernel_rfl) (by kernel_rfl) (by kernel_rfl) (fun c a w h => hQ c _ _ _ w h) (Or.inl ⟨wanted_none rfl, fun w hw => run_load rfl f5_50 (load_intS hw.1)⟩) hS ?_
  change wpAnyH _ _ _ _ _ _ _ (a0_5.put (some 51) (.int .i64 si)) _
  obtain ⟨a0_6, ha6⟩ : ∃ rr : Act, rr = a0_5.put (some 51) (.int .i64 si) := ⟨_, rfl⟩
  have qz6 : 53 < a0_6.tmps.size := by rw [ha6, sz_put]; exact qz5
  have f6_45 : a0_6.eval (.tmp 45) = .pointer (some ⟨zp, 0, none⟩) := by rw [ha6, ev_other _ _ _ _ (by decide)]; exact f5_45
  have f6_47 : a0_6.eval (.tmp 47) = .int .i64 si := by rw [ha6, ev_other _ _ _ _ (by decide)]; exact f5_47
  have f6_49 : a0_6.eval (.tmp 49) = .pointer (some ⟨zr, 0, none⟩) := by rw [ha6, ev_other _ _ _ _ (by decide)]; exact f5_49
  have f6_51 : a0_6.eval (.tmp 51) = .int .i64 si := by rw [ha6]; exact ev_same _ _ _ (Nat.lt_of_le_of_lt (by decide) qz5)
  rw [← ha6] at h0 ⊢
  clear ha6
  refine wpAnyH_ready (rs := [3]) (by kernel_rfl) (by simp) ?_
  refine AllReadyH.cons (o := tl7_3 s) (by kernel_rfl) (fun KQ hKQ => ?_) AllReadyH.nil
  rw [if_pos (wanted_none rfl)]
  refine step_enterE 26 #[.pointer (some ⟨zp, 0, none⟩), .int .i64 si] (by rw [tl7_enter3, f6_45, f6_47]) (fun V w' => V = .int .i64 r ∧ M1 w') (hc1.mono (fun e w' h => ⟨_, h.1, rfl, h.2⟩)) ?_
  rintro _ w1 ⟨rfl, hM1⟩
  refine hKQ.out _ _ (hk1 w1 hM1) (fun _ => ?_)
  clear hKQ KQ
  change wpAnyH _ _ _ _ _ _ _ (a0_6.put (some 48) (.int .i64 r)) _
  obtain ⟨a0_7, ha7⟩ : ∃ rr : Act, rr = a0_6.put (some 48) (.int .i64 r) := ⟨_, rfl⟩
  have qz7 : 53 < a0_7.tmps.size := by rw [ha7, sz_put]; exact qz6
  have f7_48 : a0_7.eval (.tmp 48) = .int .i64 r := by rw [ha7]; exact ev_same _ _ _ (Nat.lt_of_le_of_lt (by decide) qz6)
  have f7_49 : a0_7.eval (.tmp 49) = .pointer (some ⟨zr, 0, none⟩) := by rw [ha7, ev_other _ _ _ _ (by decide)]; exact f6_49
  have f7_51 : a0_7.eval (.tmp 51) = .int .i64 si := by rw [ha7, ev_other _ _ _ _ (by decide)]; exact f6_51
  rw [← ha7] at h0 ⊢
  clear ha7
  refine wpAnyH_ready (rs := [7]) (by kernel_rfl) (by simp) ?_
  refine AllReadyH.cons (o := tl7_7 s) (by kernel_rfl) (fun KQ hKQ => ?_) AllReadyH.nil
  rw [if_pos (wanted_none rfl)]
  refine step_enterE 39 #[.pointer (some ⟨zr, 0, none⟩), .int .i64 si] (by rw [tl7_enter7, f7_49, f7_51]) (fun V w' => V = .int .i64 r ∧ M2 w') ((hc2 w1 hM1).mono (fun e w' h => ⟨_, h.1, rfl, h.2⟩)) ?_
  rintro _ w2 ⟨rfl, hM2⟩
  refine hKQ.out _ _ (hk2 w2 hM2) (fun _ => ?_)
  clear hKQ KQ
  change wpAnyH _ _ _ _ _ _ _ (a0_7.put (some 52) (.int .i64 r)) _
  have h0 := h0 w2 hM2
  obtain ⟨a0_8, ha8⟩ : ∃ rr : Act, rr = a0_7.put (some 52) (.int .i64 r) := ⟨_, rfl⟩
  have qz8 : 53 < a0_8.tmps.size := by rw [ha8, sz_put]; exact qz7
  have f8_48 : a0_8.eval (.tmp 48) = .int .i64 r := by rw [ha8, ev_other _ _ _ _ (by decide)]; exact f7_48
  have f8_52 : a0_8.eval (.tmp 52) = .int .i64 r := by rw [ha8]; exact ev_same _ _ _ (Nat.lt_of_le_of_lt (by decide) qz7)
  rw [← ha8] at h0 ⊢
  clear ha8
  refine wpAnyH_take (i := 8) (oi := tl7_8 s) (v := .bool true) (by kernel_rfl) (by kernel_rfl) (by kernel_rfl) (by kernel_rfl) (fun c a w h => hQ c _ _ _ w h) (Or.inl ⟨wanted_none rfl, fun w hw => run_eqIn rfl f8_48 f8_52 w⟩) (hk2 w2 hM2) ?_
  change wpAnyH _ _ _ _ _ _ _ (a0_8.put (some 53) (.bool true)) _
  obtain ⟨a0_9, ha9⟩ : ∃ rr : Act, rr = a0_8.put (some 53) (.bool true) := ⟨_, rfl⟩
  have qz9 : 53 < a0_9.tmps.size := by rw [ha9, sz_put]; exact qz8
  have f9_53 : a0_9.eval (.tmp 53) = .bool true := by rw [ha9]; exact ev_same _ _ _ (Nat.lt_of_le_of_lt (by decide) qz8)
  rw [← ha9] at h0 ⊢
  clear ha9
  refine wpAnyH_take (i := 9) (oi := tl7_9 s) (v := .bool true) (by kernel_rfl) (by kernel_rfl) (by kernel_rfl) (by kernel_rfl) (fun c a w h => hQ c _ _ _ w h) (Or.inl ⟨wanted_none rfl, fun w hw => by simp only [execOp, tl7_9, f9_53]; rfl⟩) (hk2 w2 hM2) ?_
  change wpAnyH _ _ _ _ _ _ _ (a0_9.put (some 6) (.bool true)) _
  obtain ⟨a0_10, ha10⟩ : ∃ rr : Act, rr = a0_9.put (some 6) (.bool true) := ⟨_, rfl⟩
  have qz10 : 53 < a0_10.tmps.size := by rw [ha10, sz_put]; exact qz9
  rw [← ha10] at h0 ⊢
  clear ha10
  refine wpAnyH_done (by kernel_rfl) ?_ _
  exact h0
def tl13_0 (s : String) : Oper := { dst := some 88, op := Op.move (Operand.tmp 0), type := 23, pos := s, after := #[], guard := none }
def tl13_1 (s : String) : Oper := { dst := some 89, op := Op.fieldAddr 32 (Operand.tmp 5) 3, type := 0, pos := s, after := #[], guard := none }
def tl13_2 (s : String) : Oper := { dst := some 90, op := Op.load 30 (Operand.tmp 89), type := 30, pos := s, after := #[{ on := 1, ground := Ground.data }], guard := none }
def tl13_3 (s : String) : Oper := { dst := some 91, op := Op.call { callee := Callee.value (Operand.func 14), args := #[Operand.tmp 88, Operand.tmp 90], argTypes := #[23, 30] }, type := 3, pos := s, after := #[{ on := 0, ground := Ground.data }, { on := 2, ground := Ground.data }], guard := none }
def tl13_4 (s : String) : Oper := { dst := some 92, op := Op.move (Operand.tmp 1), type := 25, pos := s, after := #[], guard := none }
def tl13_5 (s : String) : Oper := { dst := some 93, op := Op.fieldAddr 32 (Operand.tmp 5) 3, type := 0, pos := s, after := #[], guard := none }
def tl13_6 (s : String) : Oper := { dst := some 94, op := Op.load 30 (Operand.tmp 93), type := 30, pos := s, after := #[{ on := 5, ground := Ground.data }], guard := none }
def tl13_7 (s : String) : Oper := { dst := some 95, op := Op.call { callee := Callee.value (Operand.func 41), args := #[Operand.tmp 92, Operand.tmp 94], argTypes := #[25, 30] }, type := 3, pos := s, after := #[{ on := 4, ground := Ground.data }, { on := 6, ground := Ground.data }, { on := 3, ground := Ground.chain }], guard := none }
def tl13_8 (s : String) : Oper := { dst := some 96, op := Op.binOp BinOp.eql 3 (Operand.tmp 91) (Operand.tmp 95) 3, type := 4, pos := s, after := #[{ on := 3, ground := Ground.data }, { on := 7, ground := Ground.data }], guard := none }
def tl13_9 (s : String) : Oper := { dst := some 6, op := Op.assign (Operand.tmp 96), type := 4, pos := s, after := #[{ on := 8, ground := Ground.data }, { on := 7, ground := Ground.chain }, { on := 0, ground := Ground.phase }, { on := 1, ground := Ground.phase }, { on := 2, ground := Ground.phase }, { on := 3, ground := Ground.phase }, { on := 4, ground := Ground.phase }, { on := 5, ground := Ground.phase }, { on := 6, ground := Ground.phase }, { on := 7, ground := Ground.phase }, { on := 8, ground := Ground.phase }], guard := none }
def tl13_ops (s : String) : Array Oper := #[tl13_0 s, tl13_1 s, tl13_2 s, tl13_3 s, tl13_4 s, tl13_5 s, tl13_6 s, tl13_7 s, tl13_8 s, tl13_9 s]
theorem tl13_enter3 (s : String) (a : Act) (w : World) : (execOp a.eval (tl13_3 s)).run Try.prog w = .ok (.enter 14 #[a.eval (.tmp 88), a.eval (.tmp 90)]) w := by kernel_rfl
theorem tl13_enter7 (s : String) (a : Act) (w : World) : (execOp a.eval (tl13_7 s)).run Try.prog w = .ok (.enter 41 #[a.eval (.tmp 92), a.eval (.tmp 94)]) w := by kernel_rfl
theorem tl13_walk (s : String) {Q : Exit → Act → World → Prop} (hQ : ∀ c (a : Act) t v w, Q (.panic c) (a.put (some t) v) w → Q (.panic c) a w) (W : World) (zp zr zx : Nat) (si : Int) (x : List UInt8) (hxl : x.length = 32) (r : Int) (M1 M2 : World → Prop) (hS0 : W.drew.cell? ⟨zx, 2, none⟩ = some (.int .i64 si) ∧ W.drew.rangeAt zx 3 (x.map u8c)) (hc1 : Calls Try.prog 14 #[.pointer (some ⟨zp, 0, none⟩), keyV x] W.drew fun e w' => e = .returned (.int .i64 r) ∧ M1 w') (hk1 : ∀ w1, M1 w1 → w1.cell? ⟨zx, 2, none⟩ = some (.int .i64 si) ∧ w1.rangeAt zx 3 (x.map u8c)) (hc2 : ∀ w1, M1 w1 → Calls Try.prog 41 #[.pointer (some ⟨zr, 0, none⟩), keyV x] w1 fun e w' => e = .returned (.int .i64 r) ∧ M2 w') (hk2 : ∀ w2, M2 w2 → w2.cell? ⟨zx, 2, none⟩ = some (.int .i64 si) ∧ w2.rangeAt zx 3 (x.map u8c))
    (a : Act) (hs : 96 < a.tmps.size) (e0 : a.eval (.tmp 0) = .pointer (some ⟨zp, 0, none⟩)) (e1 : a.eval (.tmp 1) = .pointer (some ⟨zr, 0, none⟩)) (e5 : a.eval (.tmp 5) = .pointer (some ⟨zx, 0, none⟩))
    (h0 : ∀ w2, M2 w2 → Q .normal ((((((((((a.put (some 88) (.pointer (some ⟨zp, 0, none⟩))).put (some 89) (.pointer (some ⟨zx, 3, none⟩))).put (some 90) (keyV x)).put (some 92) (.pointer (some ⟨zr, 0, none⟩))).put (some 93) (.pointer (some ⟨zx, 3, none⟩))).put (some 94) (keyV x)).put (some 91) (.int .i64 r)).put (some 95) (.int .i64 r)).put (some 96) (.bool true)).put (some 6) (.bool true)) w2) :
    Code.wp Try.prog (.region 13 (tl13_ops s) true) Q a W := by
  refine wp_region_held_drew (S := fun w => w.cell? ⟨zx, 2, none⟩ = some (.int .i64 si) ∧ w.rangeAt zx 3 (x.map u8c)) (by kernel_rfl) hS0 (fun hS => ?_)
  change wpAnyH _ _ _ _ _ _ _ _ (World.drew _)
  refine wpAnyH_take (i := 0) (oi := tl13_0 s) (v := .pointer (some ⟨zp, 0, none⟩)) (by kernel_rfl) (by kernel_rfl) (by kernel_rfl) (by kernel_rfl) (fun c a w h => hQ c _ _ _ w h) (Or.inl ⟨wanted_none rfl, fun w hw => by simp only [execOp, tl13_0, e0]; rfl⟩) hS ?_
  change wpAnyH _ _ _ _ _ _ _ (a.put (some 88) (.pointer (some ⟨zp, 0, none⟩))) _
  obtain ⟨a0_1, ha1⟩ : ∃ rr : Act, rr = a.put (some 88) (.pointer (some ⟨zp, 0, none⟩)) := ⟨_, rfl⟩
  have qz1 : 96 < a0_1.tmps.size := by rw [ha1, sz_put]; exact hs
  have f1_1 : a0_1.eval (.tmp 1) = .pointer (some ⟨zr, 0, none⟩) := by rw [ha1, ev_other _ _ _ _ (by decide)]; exact e1
  have f1_5 : a0_1.eval (.tmp 5) = .pointer (some ⟨zx, 0, none⟩) := by rw [ha1, ev_other _ _ _ _ (by decide)]; exact e5
  have f1_88 : a0_1.eval (.tmp 88) = .pointer (some ⟨zp, 0, none⟩) := by rw [ha1]; exact ev_same _ _ _ (Nat.lt_of_le_of_lt (by decide) hs)
  rw [← ha1] at h0 ⊢
  clear ha1
  refine wpAnyH_take (i := 1) (oi := tl13_1 s) (v := .pointer (some ⟨zx, 3, none⟩)) (by kernel_rfl) (by kernel_rfl) (by kernel_rfl) (by kernel_rfl) (fun c a w h => hQ c _ _ _ w h) (Or.inl ⟨wanted_none rfl, fun w hw => fldKt rfl f1_5 w⟩) hS ?_
  change wpAnyH _ _ _ _ _ _ _ (a0_1.put (some 89) (.pointer (some ⟨zx, 3, none⟩))) _
  obtain ⟨a0_2, ha2⟩ : ∃ rr : Act, rr = a0_1.put (some 89) (.pointer (some ⟨zx, 3, none⟩)) := ⟨_, rfl⟩
  have qz2 : 96 < a0_2.tmps.size := by rw [ha2, sz_put]; exact qz1
  have f2_1 : a0_2.eval (.tmp 1) = .pointer (some ⟨zr, 0, none⟩) := by rw [ha2, ev_other _ _ _ _ (by decide)]; exact f1_1
  have f2_5 : a0_2.eval (.tmp 5) = .pointer (some ⟨zx, 0, none⟩) := by rw [ha2, ev_other _ _ _ _ (by decide)]; exact f1_5
  have f2_88 : a0_2.eval (.tmp 88) = .pointer (some ⟨zp, 0, none⟩) := by rw [ha2, ev_other _ _ _ _ (by decide)]; exact f1_88
  have f2_89 : a0_2.eval (.tmp 89) = .pointer (some ⟨zx, 3, none⟩) := by rw [ha2]; exact ev_same _ _ _ (Nat.lt_of_le_of_lt (by decide) qz1)
  rw [← ha2] at h0 ⊢
  clear ha2
  refine wpAnyH_take (i := 2) (oi := tl13_2 s) (v := keyV x) (by kernel_rfl) (by kernel_rfl) (by kernel_rfl) (by kernel_rfl) (fun c a w h => hQ c _ _ _ w h) (Or.inl ⟨wanted_none rfl, fun w hw => run_load rfl f2_89 (loadAt_key hxl hw.2)⟩) hS ?_
  change wpAnyH _ _ _ _ _ _ _ (a0_2.put (some 90) (keyV x)) _
  obtain ⟨a0_3, ha3⟩ : ∃ rr : Act, rr = a0_2.put (some 90) (keyV x) := ⟨_, rfl⟩
  have qz3 : 96 < a0_3.tmps.size := by rw [ha3, sz_put]; exact qz2
  have f3_1 : a0_3.eval (.tmp 1) = .pointer (some ⟨zr, 0, none⟩) := by rw [ha3, ev_other _ _ _ _ (by decide)]; exact f2_1
  have f3_5 : a0_3.eval (.tmp 5) = .pointer (some ⟨zx, 0, none⟩) := by rw [ha3, ev_other _ _ _ _ (by decide)]; exact f2_5
  have f3_88 : a0_3.eval (.tmp 88) = .pointer (some ⟨zp, 0, none⟩) := by rw [ha3, ev_other _ _ _ _ (by decide)]; exact f2_88
  have f3_90 : a0_3.eval (.tmp 90) = keyV x := by rw [ha3]; exact ev_same _ _ _ (Nat.lt_of_le_of_lt (by decide) qz2)
  rw [← ha3] at h0 ⊢
  clear ha3
  refine wpAnyH_take (i := 4) (oi := tl13_4 s) (v := .pointer (some ⟨zr, 0, none⟩)) (by kernel_rfl) (by kernel_rfl) (by kernel_rfl) (by kernel_rfl) (fun c a w h => hQ c _ _ _ w h) (Or.inl ⟨wanted_none rfl, fun w hw => by simp only [execOp, tl13_4, f3_1]; rfl⟩) hS ?_
  change wpAnyH _ _ _ _ _ _ _ (a0_3.put (some 92) (.pointer (some ⟨zr, 0, none⟩))) _
  obtain ⟨a0_4, ha4⟩ : ∃ rr : Act, rr = a0_3.put (some 92) (.pointer (some ⟨zr, 0, none⟩)) := ⟨_, rfl⟩
  have qz4 : 96 < a0_4.tmps.size := by rw [ha4, sz_put]; exact qz3
  have f4_5 : a0_4.eval (.tmp 5) = .pointer (some ⟨zx, 0, none⟩) := by rw [ha4, ev_other _ _ _ _ (by decide)]; exact f3_5
  have f4_88 : a0_4.eval (.tmp 88) = .pointer (some ⟨zp, 0, none⟩) := by rw [ha4, ev_other _ _ _ _ (by decide)]; exact f3_88
  have f4_90 : a0_4.eval (.tmp 90) = keyV x := by rw [ha4, ev_other _ _ _ _ (by decide)]; exact f3_90
  have f4_92 : a0_4.eval (.tmp 92) = .pointer (some ⟨zr, 0, none⟩) := by rw [ha4]; exact ev_same _ _ _ (Nat.lt_of_le_of_lt (by decide) qz3)
  rw [← ha4] at h0 ⊢
  clear ha4
  refine wpAnyH_take (i := 5) (oi := tl13_5 s) (v := .pointer (some ⟨zx, 3, none⟩)) (by kernel_rfl) (by kernel_rfl) (by kernel_rfl) (by kernel_rfl) (fun c a w h => hQ c _ _ _ w h) (Or.inl ⟨wanted_none rfl, fun w hw => fldKt rfl f4_5 w⟩) hS ?_
  change wpAnyH _ _ _ _ _ _ _ (a0_4.put (some 93) (.pointer (some ⟨zx, 3, none⟩))) _
  obtain ⟨a0_5, ha5⟩ : ∃ rr : Act, rr = a0_4.put (some 93) (.pointer (some ⟨zx, 3, none⟩)) := ⟨_, rfl⟩
  have qz5 : 96 < a0_5.tmps.size := by rw [ha5, sz_put]; exact qz4
  have f5_88 : a0_5.eval (.tmp 88) = .pointer (some ⟨zp, 0, none⟩) := by rw [ha5, ev_other _ _ _ _ (by decide)]; exact f4_88
  have f5_90 : a0_5.eval (.tmp 90) = keyV x := by rw [ha5, ev_other _ _ _ _ (by decide)]; exact f4_90
  have f5_92 : a0_5.eval (.tmp 92) = .pointer (some ⟨zr, 0, none⟩) := by rw [ha5, ev_other _ _ _ _ (by decide)]; exact f4_92
  have f5_93 : a0_5.eval (.tmp 93) = .pointer (some ⟨zx, 3, none⟩) := by rw [ha5]; exact ev_same _ _ _ (Nat.lt_of_le_of_lt (by decide) qz4)
  rw [← ha5] at h0 ⊢
  clear ha5
  refine wpAnyH_take (i := 6) (oi := tl13_6 s) (v := keyV x) (by kernel_rfl) (by kernel_rfl) (by kernel_rfl) (by kernel_rfl) (fun c a w h => hQ c _ _ _ w h) (Or.inl ⟨wanted_none rfl, fun w hw => run_load rfl f5_93 (loadAt_key hxl hw.2)⟩) hS ?_
  change wpAnyH _ _ _ _ _ _ _ (a0_5.put (some 94) (keyV x)) _
  obtain ⟨a0_6, ha6⟩ : ∃ rr : Act, rr = a0_5.put (some 94) (keyV x) := ⟨_, rfl⟩
  have qz6 : 96 < a0_6.tmps.size := by rw [ha6, sz_put]; exact qz5
  have f6_88 : a0_6.eval (.tmp 88) = .pointer (some ⟨zp, 0, none⟩) := by rw [ha6, ev_other _ _ _ _ (by decide)]; exact f5_88
  have f6_90 : a0_6.eval (.tmp 90) = keyV x := by rw [ha6, ev_other _ _ _ _ (by decide)]; exact f5_90
  have f6_92 : a0_6.eval (.tmp 92) = .pointer (some ⟨zr, 0, none⟩) := by rw [ha6, ev_other _ _ _ _ (by decide)]; exact f5_92
  have f6_94 : a0_6.eval (.tmp 94) = keyV x := by rw [ha6]; exact ev_same _ _ _ (Nat.lt_of_le_of_lt (by decide) qz5)
  rw [← ha6] at h0 ⊢
  clear ha6
  refine wpAnyH_ready (rs := [3]) (by kernel_rfl) (by simp) ?_
  refine AllReadyH.cons (o := tl13_3 s) (by kernel_rfl) (fun KQ hKQ => ?_) AllReadyH.nil
  rw [if_pos (wanted_none rfl)]
  refine step_enterE 14 #[.pointer (some ⟨zp, 0, none⟩), keyV x] (by rw [tl13_enter3, f6_88, f6_90]) (fun V w' => V = .int .i64 r ∧ M1 w') (hc1.mono (fun e w' h => ⟨_, h.1, rfl, h.2⟩)) ?_
  rintro _ w1 ⟨rfl, hM1⟩
  refine hKQ.out _ _ (hk1 w1 hM1) (fun _ => ?_)
  clear hKQ KQ
  change wpAnyH _ _ _ _ _ _ _ (a0_6.put (some 91) (.int .i64 r)) _
  obtain ⟨a0_7, ha7⟩ : ∃ rr : Act, rr = a0_6.put (some 91) (.int .i64 r) := ⟨_, rfl⟩
  have qz7 : 96 < a0_7.tmps.size := by rw [ha7, sz_put]; exact qz6
  have f7_91 : a0_7.eval (.tmp 91) = .int .i64 r := by rw [ha7]; exact ev_same _ _ _ (Nat.lt_of_le_of_lt (by decide) qz6)
  have f7_92 : a0_7.eval (.tmp 92) = .pointer (some ⟨zr, 0, none⟩) := by rw [ha7, ev_other _ _ _ _ (by decide)]; exact f6_92
  have f7_94 : a0_7.eval (.tmp 94) = keyV x := by rw [ha7, ev_other _ _ _ _ (by decide)]; exact f6_94
  rw [← ha7] at h0 ⊢
  clear ha7
  refine wpAnyH_ready (rs := [7]) (by kernel_rfl) (by simp) ?_
  refine AllReadyH.cons (o := tl13_7 s) (by kernel_rfl) (fun KQ hKQ => ?_) AllReadyH.nil
  rw [if_pos (wanted_none rfl)]
  refine step_enterE 41 #[.pointer (some ⟨zr, 0, none⟩), keyV x] (by rw [tl13_enter7, f7_92, f7_94]) (fun V w' => V = .int .i64 r ∧ M2 w') ((hc2 w1 hM1).mono (fun e w' h => ⟨_, h.1, rfl, h.2⟩)) ?_
  rintro _ w2 ⟨rfl, hM2⟩
  refine hKQ.out _ _ (hk2 w2 hM2) (fun _ => ?_)
  clear hKQ KQ
  change wpAnyH _ _ _ _ _ _ _ (a0_7.put (some 95) (.int .i64 r)) _
  have h0 := h0 w2 hM2
  obtain ⟨a0_8, ha8⟩ : ∃ rr : Act, rr = a0_7.put (some 95) (.int .i64 r) := ⟨_, rfl⟩
  have qz8 : 96 < a0_8.tmps.size := by rw [ha8, sz_put]; exact qz7
  have f8_91 : a0_8.eval (.tmp 91) = .int .i64 r := by rw [ha8, ev_other _ _ _ _ (by decide)]; exact f7_91
  have f8_95 : a0_8.eval (.tmp 95) = .int .i64 r := by rw [ha8]; exact ev_same _ _ _ (Nat.lt_of_le_of_lt (by decide) qz7)
  rw [← ha8] at h0 ⊢
  clear ha8
  refine wpAnyH_take (i := 8) (oi := tl13_8 s) (v := .bool true) (by kernel_rfl) (by kernel_rfl) (by kernel_rfl) (by kernel_rfl) (fun c a w h => hQ c _ _ _ w h) (Or.inl ⟨wanted_none rfl, fun w hw => run_eqIn rfl f8_91 f8_95 w⟩) (hk2 w2 hM2) ?_
  change wpAnyH _ _ _ _ _ _ _ (a0_8.put (some 96) (.bool true)) _
  obtain ⟨a0_9, ha9⟩ : ∃ rr : Act, rr = a0_8.put (some 96) (.bool true) := ⟨_, rfl⟩
  have qz9 : 96 < a0_9.tmps.size := by rw [ha9, sz_put]; exact qz8
  have f9_96 : a0_9.eval (.tmp 96) = .bool true := by rw [ha9]; exact ev_same _ _ _ (Nat.lt_of_le_of_lt (by decide) qz8)
  rw [← ha9] at h0 ⊢
  clear ha9
  refine wpAnyH_take (i := 9) (oi := tl13_9 s) (v := .bool true) (by kernel_rfl) (by kernel_rfl) (by kernel_rfl) (by kernel_rfl) (fun c a w h => hQ c _ _ _ w h) (Or.inl ⟨wanted_none rfl, fun w hw => by simp only [execOp, tl13_9, f9_96]; rfl⟩) (hk2 w2 hM2) ?_
  change wpAnyH _ _ _ _ _ _ _ (a0_9.put (some 6) (.bool true)) _
  obtain ⟨a0_10, ha10⟩ : ∃ rr : Act, rr = a0_9.put (some 6) (.bool true) := ⟨_, rfl⟩
  have qz10 : 96 < a0_10.tmps.size := by rw [ha10, sz_put]; exact qz9
  rw [← ha10] at h0 ⊢
  clear ha10
  refine wpAnyH_done (by kernel_rfl) ?_ _
  exact h0
end Go.Proofs.Ytagnglkkmdeicaa
