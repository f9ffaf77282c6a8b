/- BloomPlays: done's region that joins or meets. -/
import Derived.Test.YtbemmhngadpjcaaFQ6
namespace Go.Proofs.Ytbemmhngadpjcaa
set_option linter.unusedVariables false
set_option linter.unusedSimpArgs false
open Go.RowKit

theorem ld_pair {w : World} {b o : Nat} {u v : Value} (h0 : w.cell? ⟨b, o, none⟩ = some u) (h1 : w.cell? ⟨b, o + 1, none⟩ = some v) : (Instr.loadAt 30 (.pointer (some ⟨b, o, none⟩))).run Try.prog w = .ok (.agg #[u, v]) w :=
  run_loadAt_mid (P := Try.prog) w b o 30 [u, v] _ (fun j x hj => by
    match j, hj with
    | 0, hj => cases hj; exact h0
    | 1, hj => cases hj; exact h1
    | n + 2, hj => simp at hj) Try.underlying30 rfl infoPair
theorem ld_int {w : World} {b o : Nat} {v : Value} (hc : w.cell? ⟨b, o, none⟩ = some v) : (Instr.loadAt 3 (.pointer (some ⟨b, o, none⟩))).run Try.prog w = .ok v w := by
  have hu := Try.underlying3
  simp [go_sem, hu, hc]
structure DW (w : World) (b3 b6 q i : Nat) (SC : Array Value) (s t : Option Sl) : Prop where
  d : DS w b3 b6 SC (.pointer (ptF s)) (.pointer (ptR s))
  q : Blk w q (cells2 i s t) 30
theorem DW.keep {w w' : World} {b3 b6 q i : Nat} {SC : Array Value} {s t : Option Sl} (d : DW w b3 b6 q i SC s t) (k : KeepT w w') : DW w' b3 b6 q i SC s t := ⟨d.d.keep k, k.blk _ _ _ (.inl rfl) d.q⟩
def dw03_0 (s : String) : Oper := { dst := some 69, op := Op.load 30 (Operand.tmp 6), type := 30, pos := s, after := #[], guard := none }
def dw03_1 (s : String) : Oper := { dst := some 70, op := Op.move (Operand.tmp 0), type := 33, pos := s, after := #[], guard := none }
def dw03_2 (s : String) : Oper := { dst := some 71, op := Op.move (Operand.tmp 5), type := 3, pos := s, after := #[], guard := none }
def dw03_3 (s : String) : Oper := { dst := some 72, op := Op.binOp BinOp.sub 3 (Operand.const (Value.int IntKind.i64 1)) (Operand.tmp 71) 3, type := 3, pos := s, after := #[{ on := 2, ground := Ground.data }], guard := none }
def dw03_4 (s : String) : Oper := { dst := some 73, op := Op.indexAddr 33 (Operand.tmp 70) (Operand.tmp 72), type := 0, pos := s, after := #[{ on := 1, ground := Ground.data }, { on := 3, ground := Ground.data }], guard := none }
def dw03_5 (s : String) : Oper := { dst := some 74, op := Op.load 30 (Operand.tmp 73), type := 30, pos := s, after := #[{ on := 4, ground := Ground.data }], guard := none }
def dw03_6 (s : String) : Oper := { dst := some 75, op := Op.fieldAddr 38 (Operand.tmp 3) 0, type := 0, pos := s, after := #[], guard := none }
def dw03_7 (s : String) : Oper := { dst := some 76, op := Op.load 3 (Operand.tmp 75), type := 3, pos := s, after := #[{ on := 6, ground := Ground.data }], guard := none }
def dw03_8 (s : String) : Oper := { dst := some 77, op := Op.binOp BinOp.eql 3 (Operand.tmp 76) (Operand.const (Value.int IntKind.i64 4)) 3, type := 4, pos := s, after := #[{ on := 7, ground := Ground.data }], guard := none }
def dw03_9 (s : String) : Oper := { dst := some 78, op := Op.call { callee := Callee.value (Operand.func 32), args := #[Operand.tmp 69, Operand.tmp 74, Operand.tmp 77], argTypes := #[30, 30, 4] }, type := 4, pos := s, after := #[{ on := 0, ground := Ground.data }, { on := 5, ground := Ground.data }, { on := 8, ground := Ground.data }], guard := none }
def dw03_10 (s : String) : Oper := { dst := some 4, op := Op.assign (Operand.tmp 78), type := 4, pos := s, after := #[{ on := 9, ground := Ground.data }, { on := 9, ground := Ground.chain }, { on := 0, ground := Ground.phase }, { on := 1, ground := Ground.phase }, { on := 2, ground := Ground.phase }, { on := 3, ground := Ground.phase }, { on := 4, ground := Ground.phase }, { on := 5, ground := Ground.phase }, { on := 6, ground := Ground.phase }, { on := 7, ground := Ground.phase }, { on := 8, ground := Ground.phase }, { on := 9, ground := Ground.phase }], guard := none }
def dw03_ops (s : String) : Array Oper := #[dw03_0 s, dw03_1 s, dw03_2 s, dw03_3 s, dw03_4 s, dw03_5 s, dw03_6 s, dw03_7 s, dw03_8 s, dw03_9 s, dw03_10 s]
theorem dw03_enter9 (s : String) (a : Act) (w : World) : (execOp a.eval (dw03_9 s)).run Try.prog w = .ok (.enter 32 #[a.eval (.tmp 69), a.eval (.tmp 74), a.eval (.tmp 77)]) w := by kernel_rfl
set_option maxRecDepth 20000 in
set_option maxHeartbeats 2000000 in
theorem dw03_walk (s : String) {Q : Exit → Act → World → Prop} (hQ : ∀ c (a : Act) t v w, Q (.panic c) (a.put (some t) v) w → Q (.panic c) a w) (W : World) (b3 b6 q : Nat) (SC : Array Value) (F B H : Int) (kb : List UInt8) (sl t : Option Sl) (J : World → Prop) (hk : ∀ w', J w' → KeepT W.drew w') (sa : StepAt SC 3 F B H kb) (hT : DW W b3 b6 q 0 SC sl t) (hc1 : Calls Try.prog 32 #[.agg #[.pointer (ptF sl), .pointer (ptR sl)], .agg #[.pointer (ptF t), .pointer (ptR t)], .bool false] W.drew fun e w' => e = .returned (.bool true) ∧ J w')
    (a : Act) (hs : 78 < a.tmps.size) (e0 : a.eval (.tmp 0) = .slice (some ⟨q, 0, none⟩) 2 2) (e3 : a.eval (.tmp 3) = .pointer (some ⟨b3, 0, none⟩)) (e5 : a.eval (.tmp 5) = .int .i64 0) (e6 : a.eval (.tmp 6) = .pointer (some ⟨b6, 0, none⟩))
    (h0 : ∀ w1, J w1 → Q .normal (((((((((((a.put (some 69) (.agg #[.pointer (ptF sl), .pointer (ptR sl)])).put (some 70) (.slice (some ⟨q, 0, none⟩) 2 2)).put (some 71) (.int .i64 0)).put (some 72) (.int .i64 1)).put (some 73) (.pointer (some ⟨q, 2, none⟩))).put (some 74) (.agg #[.pointer (ptF t), .pointer (ptR t)])).put (some 75) (.pointer (some ⟨b3, 0, none⟩))).put (some 76) (.int .i64 3)).put (some 77) (.bool false)).put (some 78) (.bool true)).put (some 4) (.bool true)) w1) :
    Code.wp Try.prog (.region 14 (dw03_ops s) true) Q a W := by
  refine wp_region_held_drew (S := fun W' => DW W' b3 b6 q 0 SC sl t) (by kernel_rfl) ⟨⟨hT.d.st, hT.d.pr⟩, hT.q⟩ (fun hS => ?_)
  change wpAnyH _ _ _ _ _ _ _ _ (World.drew _)
  refine wpAnyH_take (i := 0) (oi := dw03_0 s) (v := .agg #[.pointer (ptF sl), .pointer (ptR sl)]) (by kernel_rfl) (by kernel_rfl) (by kernel_rfl) (by kernel_rfl) (fun c a w h => hQ c _ _ _ w h) (Or.inl ⟨wanted_none rfl, fun w hw => run_load rfl e6 (ld_pair (hw.d.pr.cell 0) (hw.d.pr.cell 1))⟩) hS ?_
  change wpAnyH _ _ _ _ _ _ _ (a.put (some 69) (.agg #[.pointer (ptF sl), .pointer (ptR sl)])) _
  obtain ⟨a0_1, ha1⟩ : ∃ rr : Act, rr = a.put (some 69) (.agg #[.pointer (ptF sl), .pointer (ptR sl)]) := ⟨_, rfl⟩
  have qz1 : 78 < a0_1.tmps.size := by rw [ha1, sz_put]; exact hs
  have f1_0 : a0_1.eval (.tmp 0) = .slice (some ⟨q, 0, none⟩) 2 2 := by rw [ha1, ev_other _ _ _ _ (by decide)]; exact e0
  have f1_3 : a0_1.eval (.tmp 3) = .pointer (some ⟨b3, 0, none⟩) := by rw [ha1, ev_other _ _ _ _ (by decide)]; exact e3
  have f1_5 : a0_1.eval (.tmp 5) = .int .i64 0 := by rw [ha1, ev_other _ _ _ _ (by decide)]; exact e5
  have f1_69 : a0_1.eval (.tmp 69) = .agg #[.pointer (ptF sl), .pointer (ptR sl)] := by rw [ha1]; exact ev_same _ _ _ (Nat.lt_of_le_of_lt (by decide) hs)
  rw [← ha1] at h0 ⊢
  clear ha1
  refine wpAnyH_take (i := 1) (oi := dw03_1 s) (v := .slice (some ⟨q, 0, none⟩) 2 2) (by kernel_rfl) (by kernel_rfl) (by kernel_rfl) (by kernel_rfl) (fun c a w h => hQ c _ _ _ w h) (Or.inl ⟨wanted_none rfl, fun w hw => by simp only [execOp, dw03_1, f1_0]; rfl⟩) hS ?_
  change wpAnyH _ _ _ _ _ _ _ (a0_1.put (some 70) (.slice (some ⟨q, 0, none⟩) 2 2)) _
  obtain ⟨a0_2, ha2⟩ : ∃ rr : Act, rr = a0_1.put (some 70) (.slice (some ⟨q, 0, none⟩) 2 2) := ⟨_, rfl⟩
  have qz2 : 78 < a0_2.tmps.size := by rw [ha2, sz_put]; exact qz1
  have f2_3 : a0_2.eval (.tmp 3) = .pointer (some ⟨b3, 0, none⟩) := by rw [ha2, ev_other _ _ _ _ (by decide)]; exact f1_3
  have f2_5 : a0_2.eval (.tmp 5) = .int .i64 0 := by rw [ha2, ev_other _ _ _ _ (by decide)]; exact f1_5
  have f2_69 : a0_2.eval (.tmp 69) = .agg #[.pointer (ptF sl), .pointer (ptR sl)] := by rw [ha2, ev_other _ _ _ _ (by decide)]; exact f1_69
  have f2_70 : a0_2.eval (.tmp 70) = .slice (some ⟨q, 0, none⟩) 2 2 := by rw [ha2]; exact ev_same _ _ _ (Nat.lt_of_le_of_lt (by decide) qz1)
  rw [← ha2] at h0 ⊢
  clear ha2
  refine wpAnyH_take (i := 2) (oi := dw03_2 s) (v := .int .i64 0) (by kernel_rfl) (by kernel_rfl) (by kernel_rfl) (by kernel_rfl) (fun c a w h => hQ c _ _ _ w h) (Or.inl ⟨wanted_none rfl, fun w hw => by simp only [execOp, dw03_2, f2_5]; rfl⟩) hS ?_
  change wpAnyH _ _ _ _ _ _ _ (a0_2.put (some 71) (.int .i64 0)) _
  obtain ⟨a0_3, ha3⟩ : ∃ rr : Act, rr = a0_2.put (some 71) (.int .i64 0) := ⟨_, rfl⟩
  have qz3 : 78 < a0_3.tmps.size := by rw [ha3, sz_put]; exact qz2
  have f3_3 : a0_3.eval (.tmp 3) = .pointer (some ⟨b3, 0, none⟩) := by rw [ha3, ev_other _ _ _ _ (by decide)]; exact f2_3
  have f3_69 : a0_3.eval (.tmp 69) = .agg #[.pointer (ptF sl), .pointer (ptR sl)] := by rw [ha3, ev_other _ _ _ _ (by decide)]; exact f2_69
  have f3_70 : a0_3.eval (.tmp 70) = .slice (some ⟨q, 0, none⟩) 2 2 := by rw [ha3, ev_other _ _ _ _ (by decide)]; exact f2_70
  have f3_71 : a0_3.eval (.tmp 71) = .int .i64 0 := by rw [ha3]; exact ev_same _ _ _ (Nat.lt_of_le_of_lt (by decide) qz2)
  rw [← ha3] at h0 ⊢
  clear ha3
  refine wpAnyH_take (i := 3) (oi := dw03_3 s) (v := .int .i64 1) (by kernel_rfl) (by kernel_rfl) (by kernel_rfl) (by kernel_rfl) (fun c a w h => hQ c _ _ _ w h) (Or.inl ⟨wanted_none rfl, fun w hw => by simp only [execOp, dw03_3, f3_71]; kernel_rfl⟩) hS ?_
  change wpAnyH _ _ _ _ _ _ _ (a0_3.put (some 72) (.int .i64 1)) _
  obtain ⟨a0_4, ha4⟩ : ∃ rr : Act, rr = a0_3.put (some 72) (.int .i64 1) := ⟨_, rfl⟩
  have qz4 : 78 < a0_4.tmps.size := by rw [ha4, sz_put]; exact qz3
  have f4_3 : a0_4.eval (.tmp 3) = .pointer (some ⟨b3, 0, none⟩) := by rw [ha4, ev_other _ _ _ _ (by decide)]; exact f3_3
  have f4_69 : a0_4.eval (.tmp 69) = .agg #[.pointer (ptF sl), .pointer (ptR sl)] := by rw [ha4, ev_other _ _ _ _ (by decide)]; exact f3_69
  have f4_70 : a0_4.eval (.tmp 70) = .slice (some ⟨q, 0, none⟩) 2 2 := by rw [ha4, ev_other _ _ _ _ (by decide)]; exact f3_70
  have f4_72 : a0_4.eval (.tmp 72) = .int .i64 1 := by rw [ha4]; exact ev_same _ _ _ (Nat.lt_of_le_of_lt (by decide) qz3)
  rw [← ha4] at h0 ⊢
  clear ha4
  refine wpAnyH_take (i := 4) (oi := dw03_4 s) (v := .pointer (some ⟨q, 2, none⟩)) (by kernel_rfl) (by kernel_rfl) (by kernel_rfl) (by kernel_rfl) (fun c a w h => hQ c _ _ _ w h) (Or.inl ⟨wanted_none rfl, fun w hw => by simp only [execOp, dw03_4, f4_70, f4_72]; kernel_rfl⟩) hS ?_
  change wpAnyH _ _ _ _ _ _ _ (a0_4.put (some 73) (.pointer (some ⟨q, 2, none⟩))) _
  obtain ⟨a0_5, ha5⟩ : ∃ rr : Act, rr = a0_4.put (some 73) (.pointer (some ⟨q, 2, none⟩)) := ⟨_, rfl⟩
  have qz5 : 78 < a0_5.tmps.size := by rw [ha5, sz_put]; exact qz4
  have f5_3 : a0_5.eval (.tmp 3) = .pointer (some ⟨b3, 0, none⟩) := by rw [ha5, ev_other _ _ _ _ (by decide)]; exact f4_3
  have f5_69 : a0_5.eval (.tmp 69) = .agg #[.pointer (ptF sl), .pointer (ptR sl)] := by rw [ha5, ev_other _ _ _ _ (by decide)]; exact f4_69
  have f5_73 : a0_5.eval (.tmp 73) = .pointer (some ⟨q, 2, none⟩) := by rw [ha5]; exact ev_same _ _ _ (Nat.lt_of_le_of_lt (by decide) qz4)
  rw [← ha5] at h0 ⊢
  clear ha5
  refine wpAnyH_take (i := 5) (oi := dw03_5 s) (v := .agg #[.pointer (ptF t), .pointer (ptR t)]) (by kernel_rfl) (by kernel_rfl) (by kernel_rfl) (by kernel_rfl) (fun c a w h => hQ c _ _ _ w h) (Or.inl ⟨wanted_none rfl, fun w hw => run_load rfl f5_73 (ld_pair (hw.q.cell 2) (hw.q.cell 3))⟩) hS ?_
  change wpAnyH _ _ _ _ _ _ _ (a0_5.put (some 74) (.agg #[.pointer (ptF t), .pointer (ptR t)])) _
  obtain ⟨a0_6, ha6⟩ : ∃ rr : Act, rr = a0_5.put (some 74) (.agg #[.pointer (ptF t), .pointer (ptR t)]) := ⟨_, rfl⟩
  have qz6 : 78 < a0_6.tmps.size := by rw [ha6, sz_put]; exact qz5
  have f6_3 : a0_6.eval (.tmp 3) = .pointer (some ⟨b3, 0, none⟩) := by rw [ha6, ev_other _ _ _ _ (by decide)]; exact f5_3
  have f6_69 : a0_6.eval (.tmp 69) = .agg #[.pointer (ptF sl), .pointer (ptR sl)] := by rw [ha6, ev_other _ _ _ _ (by decide)]; exact f5_69
  have f6_74 : a0_6.eval (.tmp 74) = .agg #[.pointer (ptF t), .pointer (ptR t)] := by rw [ha6]; exact ev_same _ _ _ (Nat.lt_of_le_of_lt (by decide) qz5)
  rw [← ha6] at h0 ⊢
  clear ha6
  refine wpAnyH_take (i := 6) (oi := dw03_6 s) (v := .pointer (some ⟨b3, 0, none⟩)) (by kernel_rfl) (by kernel_rfl) (by kernel_rfl) (by kernel_rfl) (fun c a w h => hQ c _ _ _ w h) (Or.inl ⟨wanted_none rfl, fun w hw => by simp only [execOp, dw03_6, f6_3]; kernel_rfl⟩) hS ?_
  change wpAnyH _ _ _ _ _ _ _ (a0_6.put (some 75) (.pointer (some ⟨b3, 0, none⟩))) _
  obtain ⟨a0_7, ha7⟩ : ∃ rr : Act, rr = a0_6.put (some 75) (.pointer (some ⟨b3, 0, none⟩)) := ⟨_, rfl⟩
  have qz7 : 78 < a0_7.tmps.size := by rw [ha7, sz_put]; exact qz6
  have f7_69 : a0_7.eval (.tmp 69) = .agg #[.pointer (ptF sl), .pointer (ptR sl)] := by rw [ha7, ev_other _ _ _ _ (by decide)]; exact f6_69
  have f7_74 : a0_7.eval (.tmp 74) = .agg #[.pointer (ptF t), .pointer (ptR t)] := by rw [ha7, ev_other _ _ _ _ (by decide)]; exact f6_74
  have f7_75 : a0_7.eval (.tmp 75) = .pointer (some ⟨b3, 0, none⟩) := by rw [ha7]; exact ev_same _ _ _ (Nat.lt_of_le_of_lt (by decide) qz6)
  rw [← ha7] at h0 ⊢
  clear ha7
  refine wpAnyH_take (i := 7) (oi := dw03_7 s) (v := .int .i64 3) (by kernel_rfl) (by kernel_rfl) (by kernel_rfl) (by kernel_rfl) (fun c a w h => hQ c _ _ _ w h) (Or.inl ⟨wanted_none rfl, fun w hw => run_load rfl f7_75 (ld_int ((hw.d.st.cell 0).trans sa.c0))⟩) hS ?_
  change wpAnyH _ _ _ _ _ _ _ (a0_7.put (some 76) (.int .i64 3)) _
  obtain ⟨a0_8, ha8⟩ : ∃ rr : Act, rr = a0_7.put (some 76) (.int .i64 3) := ⟨_, rfl⟩
  have qz8 : 78 < a0_8.tmps.size := by rw [ha8, sz_put]; exact qz7
  have f8_69 : a0_8.eval (.tmp 69) = .agg #[.pointer (ptF sl), .pointer (ptR sl)] := by rw [ha8, ev_other _ _ _ _ (by decide)]; exact f7_69
  have f8_74 : a0_8.eval (.tmp 74) = .agg #[.pointer (ptF t), .pointer (ptR t)] := by rw [ha8, ev_other _ _ _ _ (by decide)]; exact f7_74
  have f8_76 : a0_8.eval (.tmp 76) = .int .i64 3 := by rw [ha8]; exact ev_same _ _ _ (Nat.lt_of_le_of_lt (by decide) qz7)
  rw [← ha8] at h0 ⊢
  clear ha8
  refine wpAnyH_take (i := 8) (oi := dw03_8 s) (v := .bool false) (by kernel_rfl) (by kernel_rfl) (by kernel_rfl) (by kernel_rfl) (fun c a w h => hQ c _ _ _ w h) (Or.inl ⟨wanted_none rfl, fun w hw => by simp only [execOp, dw03_8, f8_76]; kernel_rfl⟩) hS ?_
  change wpAnyH _ _ _ _ _ _ _ (a0_8.put (some 77) (.bool false)) _
  obtain ⟨a0_9, ha9⟩ : ∃ rr : Act, rr = a0_8.put (some 77) (.bool false) := ⟨_, rfl⟩
  have qz9 : 78 < a0_9.tmps.size := by rw [ha9, sz_put]; exact qz8
  have f9_69 : a0_9.eval (.tmp 69) = .agg #[.pointer (ptF sl), .pointer (ptR sl)] := by rw [ha9, ev_other _ _ _ _ (by decide)]; exact f8_69
  have f9_74 : a0_9.eval (.tmp 74) = .agg #[.pointer (ptF t), .pointer (ptR t)] := by rw [ha9, ev_other _ _ _ _ (by decide)]; exact f8_74
  have f9_77 : a0_9.eval (.tmp 77) = .bool false := by rw [ha9]; exact ev_same _ _ _ (Nat.lt_of_le_of_lt (by decide) qz8)
  rw [← ha9] at h0 ⊢
  clear ha9
  refine wpAnyH_ready (rs := [9]) (by kernel_rfl) (by simp) ?_
  refine AllReadyH.cons (o := dw03_9 s) (by kernel_rfl) (fun KQ hKQ => ?_) AllReadyH.nil
  rw [if_pos (wanted_none rfl)]
  refine step_enterE 32 #[.agg #[.pointer (ptF sl), .pointer (ptR sl)], .agg #[.pointer (ptF t), .pointer (ptR t)], .bool false] (by rw [dw03_enter9, f9_69, f9_74, f9_77]) (fun V w' => V = .bool true ∧ J w') (hc1.mono (fun e w' h => ⟨_, h.1, rfl, h.2⟩)) ?_
  rintro _ w1 ⟨rfl, hJ⟩
  have hT1 := hS.keep (hk _ hJ)
  refine hKQ.out _ _ (hT1) (fun _ => ?_)
  clear hKQ KQ
  change wpAnyH _ _ _ _ _ _ _ (a0_9.put (some 78) (.bool true)) _
  have h0 := h0 w1 hJ
  obtain ⟨a0_10, ha10⟩ : ∃ rr : Act, rr = a0_9.put (some 78) (.bool true) := ⟨_, rfl⟩
  have qz10 : 78 < a0_10.tmps.size := by rw [ha10, sz_put]; exact qz9
  have f10_78 : a0_10.eval (.tmp 78) = .bool true := by rw [ha10]; exact ev_same _ _ _ (Nat.lt_of_le_of_lt (by decide) qz9)
  rw [← ha10] at h0 ⊢
  clear ha10
  refine wpAnyH_take (i := 10) (oi := dw03_10 s) (v := .bool true) (by kernel_rfl) (by kernel_rfl) (by kernel_rfl) (by kernel_rfl) (fun c a w h => hQ c _ _ _ w h) (Or.inl ⟨wanted_none rfl, fun w hw => by simp only [execOp, dw03_10, f10_78]; rfl⟩) hT1 ?_
  change wpAnyH _ _ _ _ _ _ _ (a0_10.put (some 4) (.bool true)) _
  obtain ⟨a0_11, ha11⟩ : ∃ rr : Act, rr = a0_10.put (some 4) (.bool true) := ⟨_, rfl⟩
  have qz11 : 78 < a0_11.tmps.size := by rw [ha11, sz_put]; exact qz10
  rw [← ha11] at h0 ⊢
  clear ha11
  refine wpAnyH_done (by kernel_rfl) ?_ _
  exact h0
def dw04_0 (s : String) : Oper := { dst := some 69, op := Op.load 30 (Operand.tmp 6), type := 30, pos := s, after := #[], guard := none }
def dw04_1 (s : String) : Oper := { dst := some 70, op := Op.move (Operand.tmp 0), type := 33, pos := s, after := #[], guard := none }
def dw04_2 (s : String) : Oper := { dst := some 71, op := Op.move (Operand.tmp 5), type := 3, pos := s, after := #[], guard := none }
def dw04_3 (s : String) : Oper := { dst := some 72, op := Op.binOp BinOp.sub 3 (Operand.const (Value.int IntKind.i64 1)) (Operand.tmp 71) 3, type := 3, pos := s, after := #[{ on := 2, ground := Ground.data }], guard := none }
def dw04_4 (s : String) : Oper := { dst := some 73, op := Op.indexAddr 33 (Operand.tmp 70) (Operand.tmp 72), type := 0, pos := s, after := #[{ on := 1, ground := Ground.data }, { on := 3, ground := Ground.data }], guard := none }
def dw04_5 (s : String) : Oper := { dst := some 74, op := Op.load 30 (Operand.tmp 73), type := 30, pos := s, after := #[{ on := 4, ground := Ground.data }], guard := none }
def dw04_6 (s : String) : Oper := { dst := some 75, op := Op.fieldAddr 38 (Operand.tmp 3) 0, type := 0, pos := s, after := #[], guard := none }
def dw04_7 (s : String) : Oper := { dst := some 76, op := Op.load 3 (Operand.tmp 75), type := 3, pos := s, after := #[{ on := 6, ground := Ground.data }], guard := none }
def dw04_8 (s : String) : Oper := { dst := some 77, op := Op.binOp BinOp.eql 3 (Operand.tmp 76) (Operand.const (Value.int IntKind.i64 4)) 3, type := 4, pos := s, after := #[{ on := 7, ground := Ground.data }], guard := none }
def dw04_9 (s : String) : Oper := { dst := some 78, op := Op.call { callee := Callee.value (Operand.func 32), args := #[Operand.tmp 69, Operand.tmp 74, Operand.tmp 77], argTypes := #[30, 30, 4] }, type := 4, pos := s, after := #[{ on := 0, ground := Ground.data }, { on := 5, ground := Ground.data }, { on := 8, ground := Ground.data }], guard := none }
def dw04_10 (s : String) : Oper := { dst := some 4, op := Op.assign (Operand.tmp 78), type := 4, pos := s, after := #[{ on := 9, ground := Ground.data }, { on := 9, ground := Ground.chain }, { on := 0, ground := Ground.phase }, { on := 1, ground := Ground.phase }, { on := 2, ground := Ground.phase }, { on := 3, ground := Ground.phase }, { on := 4, ground := Ground.phase }, { on := 5, ground := Ground.phase }, { on := 6, ground := Ground.phase }, { on := 7, ground := Ground.phase }, { on := 8, ground := Ground.phase }, { on := 9, ground := Ground.phase }], guard := none }
def dw04_ops (s : String) : Array Oper := #[dw04_0 s, dw04_1 s, dw04_2 s, dw04_3 s, dw04_4 s, dw04_5 s, dw04_6 s, dw04_7 s, dw04_8 s, dw04_9 s, dw04_10 s]
theorem dw04_enter9 (s : String) (a : Act) (w : World) : (execOp a.eval (dw04_9 s)).run Try.prog w = .ok (.enter 32 #[a.eval (.tmp 69), a.eval (.tmp 74), a.eval (.tmp 77)]) w := by kernel_rfl
set_option maxRecDepth 20000 in
set_option maxHeartbeats 2000000 in
theorem dw04_walk (s : String) {Q : Exit → Act → World → Prop} (hQ : ∀ c (a : Act) t v w, Q (.panic c) (a.put (some t) v) w → Q (.panic c) a w) (W : World) (b3 b6 q : Nat) (SC : Array Value) (F B H : Int) (kb : List UInt8) (sl t : Option Sl) (J : World → Prop) (hk : ∀ w', J w' → KeepT W.drew w') (sa : StepAt SC 4 F B H kb) (hT : DW W b3 b6 q 0 SC sl t) (hc1 : Calls Try.prog 32 #[.agg #[.pointer (ptF sl), .pointer (ptR sl)], .agg #[.pointer (ptF t), .pointer (ptR t)], .bool true] W.drew fun e w' => e = .returned (.bool true) ∧ J w')
    (a : Act) (hs : 78 < a.tmps.size) (e0 : a.eval (.tmp 0) = .slice (some ⟨q, 0, none⟩) 2 2) (e3 : a.eval (.tmp 3) = .pointer (some ⟨b3, 0, none⟩)) (e5 : a.eval (.tmp 5) = .int .i64 0) (e6 : a.eval (.tmp 6) = .pointer (some ⟨b6, 0, none⟩))
    (h0 : ∀ w1, J w1 → Q .normal (((((((((((a.put (some 69) (.agg #[.pointer (ptF sl), .pointer (ptR sl)])).put (some 70) (.slice (some ⟨q, 0, none⟩) 2 2)).put (some 71) (.int .i64 0)).put (some 72) (.int .i64 1)).put (some 73) (.pointer (some ⟨q, 2, none⟩))).put (some 74) (.agg #[.pointer (ptF t), .pointer (ptR t)])).put (some 75) (.pointer (some ⟨b3, 0, none⟩))).put (some 76) (.int .i64 4)).put (some 77) (.bool true)).put (some 78) (.bool true)).put (some 4) (.bool true)) w1) :
    Code.wp Try.prog (.region 14 (dw04_ops s) true) Q a W := by
  refine wp_region_held_drew (S := fun W' => DW W' b3 b6 q 0 SC sl t) (by kernel_rfl) ⟨⟨hT.d.st, hT.d.pr⟩, hT.q⟩ (fun hS => ?_)
  change wpAnyH _ _ _ _ _ _ _ _ (World.drew _)
  refine wpAnyH_take (i := 0) (oi := dw04_0 s) (v := .agg #[.pointer (ptF sl), .pointer (ptR sl)]) (by kernel_rfl) (by kernel_rfl) (by kernel_rfl) (by kernel_rfl) (fun c a w h => hQ c _ _ _ w h) (Or.inl ⟨wanted_none rfl, fun w hw => run_load rfl e6 (ld_pair (hw.d.pr.cell 0) (hw.d.pr.cell 1))⟩) hS ?_
  change wpAnyH _ _ _ _ _ _ _ (a.put (some 69) (.agg #[.pointer (ptF sl), .pointer (ptR sl)])) _
  obtain ⟨a0_1, ha1⟩ : ∃ rr : Act, rr = a.put (some 69) (.agg #[.pointer (ptF sl), .pointer (ptR sl)]) := ⟨_, rfl⟩
  have qz1 : 78 < a0_1.tmps.size := by rw [ha1, sz_put]; exact hs
  have f1_0 : a0_1.eval (.tmp 0) = .slice (some ⟨q, 0, none⟩) 2 2 := by rw [ha1, ev_other _ _ _ _ (by decide)]; exact e0
  have f1_3 : a0_1.eval (.tmp 3) = .pointer (some ⟨b3, 0, none⟩) := by rw [ha1, ev_other _ _ _ _ (by decide)]; exact e3
  have f1_5 : a0_1.eval (.tmp 5) = .int .i64 0 := by rw [ha1, ev_other _ _ _ _ (by decide)]; exact e5
  have f1_69 : a0_1.eval (.tmp 69) = .agg #[.pointer (ptF sl), .pointer (ptR sl)] := by rw [ha1]; exact ev_same _ _ _ (Nat.lt_of_le_of_lt (by decide) hs)
  rw [← ha1] at h0 ⊢
  clear ha1
  refine wpAnyH_take (i := 1) (oi := dw04_1 s) (v := .slice (some ⟨q, 0, none⟩) 2 2) (by kernel_rfl) (by kernel_rfl) (by kernel_rfl) (by kernel_rfl) (fun c a w h => hQ c _ _ _ w h) (Or.inl ⟨wanted_none rfl, fun w hw => by simp only [execOp, dw04_1, f1_0]; rfl⟩) hS ?_
  change wpAnyH _ _ _ _ _ _ _ (a0_1.put (some 70) (.slice (some ⟨q, 0, none⟩) 2 2)) _
  obtain ⟨a0_2, ha2⟩ : ∃ rr : Act, rr = a0_1.put (some 70) (.slice (some ⟨q, 0, none⟩) 2 2) := ⟨_, rfl⟩
  have qz2 : 78 < a0_2.tmps.size := by rw [ha2, sz_put]; exact qz1
  have f2_3 : a0_2.eval (.tmp 3) = .pointer (some ⟨b3, 0, none⟩) := by rw [ha2, ev_other _ _ _ _ (by decide)]; exact f1_3
  have f2_5 : a0_2.eval (.tmp 5) = .int .i64 0 := by rw [ha2, ev_other _ _ _ _ (by decide)]; exact f1_5
  have f2_69 : a0_2.eval (.tmp 69) = .agg #[.pointer (ptF sl), .pointer (ptR sl)] := by rw [ha2, ev_other _ _ _ _ (by decide)]; exact f1_69
  have f2_70 : a0_2.eval (.tmp 70) = .slice (some ⟨q, 0, none⟩) 2 2 := by rw [ha2]; exact ev_same _ _ _ (Nat.lt_of_le_of_lt (by decide) qz1)
  rw [← ha2] at h0 ⊢
  clear ha2
  refine wpAnyH_take (i := 2) (oi := dw04_2 s) (v := .int .i64 0) (by kernel_rfl) (by kernel_rfl) (by kernel_rfl) (by kernel_rfl) (fun c a w h => hQ c _ _ _ w h) (Or.inl ⟨wanted_none rfl, fun w hw => by simp only [execOp, dw04_2, f2_5]; rfl⟩) hS ?_
  change wpAnyH _ _ _ _ _ _ _ (a0_2.put (some 71) (.int .i64 0)) _
  obtain ⟨a0_3, ha3⟩ : ∃ rr : Act, rr = a0_2.put (some 71) (.int .i64 0) := ⟨_, rfl⟩
  have qz3 : 78 < a0_3.tmps.size := by rw [ha3, sz_put]; exact qz2
  have f3_3 : a0_3.eval (.tmp 3) = .pointer (some ⟨b3, 0, none⟩) := by rw [ha3, ev_other _ _ _ _ (by decide)]; exact f2_3
  have f3_69 : a0_3.eval (.tmp 69) = .agg #[.pointer (ptF sl), .pointer (ptR sl)] := by rw [ha3, ev_other _ _ _ _ (by decide)]; exact f2_69
  have f3_70 : a0_3.eval (.tmp 70) = .slice (some ⟨q, 0, none⟩) 2 2 := by rw [ha3, ev_other _ _ _ _ (by decide)]; exact f2_70
  have f3_71 : a0_3.eval (.tmp 71) = .int .i64 0 := by rw [ha3]; exact ev_same _ _ _ (Nat.lt_of_le_of_lt (by decide) qz2)
  rw [← ha3] at h0 ⊢
  clear ha3
  refine wpAnyH_take (i := 3) (oi := dw04_3 s) (v := .int .i64 1) (by kernel_rfl) (by kernel_rfl) (by kernel_rfl) (by kernel_rfl) (fun c a w h => hQ c _ _ _ w h) (Or.inl ⟨wanted_none rfl, fun w hw => by simp only [execOp, dw04_3, f3_71]; kernel_rfl⟩) hS ?_
  change wpAnyH _ _ _ _ _ _ _ (a0_3.put (some 72) (.int .i64 1)) _
  obtain ⟨a0_4, ha4⟩ : ∃ rr : Act, rr = a0_3.put (some 72) (.int .i64 1) := ⟨_, rfl⟩
  have qz4 : 78 < a0_4.tmps.size := by rw [ha4, sz_put]; exact qz3
  have f4_3 : a0_4.eval (.tmp 3) = .pointer (some ⟨b3, 0, none⟩) := by rw [ha4, ev_other _ _ _ _ (by decide)]; exact f3_3
  have f4_69 : a0_4.eval (.tmp 69) = .agg #[.pointer (ptF sl), .pointer (ptR sl)] := by rw [ha4, ev_other _ _ _ _ (by decide)]; exact f3_69
  have f4_70 : a0_4.eval (.tmp 70) = .slice (some ⟨q, 0, none⟩) 2 2 := by rw [ha4, ev_other _ _ _ _ (by decide)]; exact f3_70
  have f4_72 : a0_4.eval (.tmp 72) = .int .i64 1 := by rw [ha4]; exact ev_same _ _ _ (Nat.lt_of_le_of_lt (by decide) qz3)
  rw [← ha4] at h0 ⊢
  clear ha4
  refine wpAnyH_take (i := 4) (oi := dw04_4 s) (v := .pointer (some ⟨q, 2, none⟩)) (by kernel_rfl) (by kernel_rfl) (by kernel_rfl) (by kernel_rfl) (fun c a w h => hQ c _ _ _ w h) (Or.inl ⟨wanted_none rfl, fun w hw => by simp only [execOp, dw04_4, f4_70, f4_72]; kernel_rfl⟩) hS ?_
  change wpAnyH _ _ _ _ _ _ _ (a0_4.put (some 73) (.pointer (some ⟨q, 2, none⟩))) _
  obtain ⟨a0_5, ha5⟩ : ∃ rr : Act, rr = a0_4.put (some 73) (.pointer (some ⟨q, 2, none⟩)) := ⟨_, rfl⟩
  have qz5 : 78 < a0_5.tmps.size := by rw [ha5, sz_put]; exact qz4
  have f5_3 : a0_5.eval (.tmp 3) = .pointer (some ⟨b3, 0, none⟩) := by rw [ha5, ev_other _ _ _ _ (by decide)]; exact f4_3
  have f5_69 : a0_5.eval (.tmp 69) = .agg #[.pointer (ptF sl), .pointer (ptR sl)] := by rw [ha5, ev_other _ _ _ _ (by decide)]; exact f4_69
  have f5_73 : a0_5.eval (.tmp 73) = .pointer (some ⟨q, 2, none⟩) := by rw [ha5]; exact ev_same _ _ _ (Nat.lt_of_le_of_lt (by decide) qz4)
  rw [← ha5] at h0 ⊢
  clear ha5
  refine wpAnyH_take (i := 5) (oi := dw04_5 s) (v := .agg #[.pointer (ptF t), .pointer (ptR t)]) (by kernel_rfl) (by kernel_rfl) (by kernel_rfl) (by kernel_rfl) (fun c a w h => hQ c _ _ _ w h) (Or.inl ⟨wanted_none rfl, fun w hw => run_load rfl f5_73 (ld_pair (hw.q.cell 2) (hw.q.cell 3))⟩) hS ?_
  change wpAnyH _ _ _ _ _ _ _ (a0_5.put (some 74) (.agg #[.pointer (ptF t), .pointer (ptR t)])) _
  obtain ⟨a0_6, ha6⟩ : ∃ rr : Act, rr = a0_5.put (some 74) (.agg #[.pointer (ptF t), .pointer (ptR t)]) := ⟨_, rfl⟩
  have qz6 : 78 < a0_6.tmps.size := by rw [ha6, sz_put]; exact qz5
  have f6_3 : a0_6.eval (.tmp 3) = .pointer (some ⟨b3, 0, none⟩) := by rw [ha6, ev_other _ _ _ _ (by decide)]; exact f5_3
  have f6_69 : a0_6.eval (.tmp 69) = .agg #[.pointer (ptF sl), .pointer (ptR sl)] := by rw [ha6, ev_other _ _ _ _ (by decide)]; exact f5_69
  have f6_74 : a0_6.eval (.tmp 74) = .agg #[.pointer (ptF t), .pointer (ptR t)] := by rw [ha6]; exact ev_same _ _ _ (Nat.lt_of_le_of_lt (by decide) qz5)
  rw [← ha6] at h0 ⊢
  clear ha6
  refine wpAnyH_take (i := 6) (oi := dw04_6 s) (v := .pointer (some ⟨b3, 0, none⟩)) (by kernel_rfl) (by kernel_rfl) (by kernel_rfl) (by kernel_rfl) (fun c a w h => hQ c _ _ _ w h) (Or.inl ⟨wanted_none rfl, fun w hw => by simp only [execOp, dw04_6, f6_3]; kernel_rfl⟩) hS ?_
  change wpAnyH _ _ _ _ _ _ _ (a0_6.put (some 75) (.pointer (some ⟨b3, 0, none⟩))) _
  obtain ⟨a0_7, ha7⟩ : ∃ rr : Act, rr = a0_6.put (some 75) (.pointer (some ⟨b3, 0, none⟩)) := ⟨_, rfl⟩
  have qz7 : 78 < a0_7.tmps.size := by rw [ha7, sz_put]; exact qz6
  have f7_69 : a0_7.eval (.tmp 69) = .agg #[.pointer (ptF sl), .pointer (ptR sl)] := by rw [ha7, ev_other _ _ _ _ (by decide)]; exact f6_69
  have f7_74 : a0_7.eval (.tmp 74) = .agg #[.pointer (ptF t), .pointer (ptR t)] := by rw [ha7, ev_other _ _ _ _ (by decide)]; exact f6_74
  have f7_75 : a0_7.eval (.tmp 75) = .pointer (some ⟨b3, 0, none⟩) := by rw [ha7]; exact ev_same _ _ _ (Nat.lt_of_le_of_lt (by decide) qz6)
  rw [← ha7] at h0 ⊢
  clear ha7
  refine wpAnyH_take (i := 7) (oi := dw04_7 s) (v := .int .i64 4) (by kernel_rfl) (by kernel_rfl) (by kernel_rfl) (by kernel_rfl) (fun c a w h => hQ c _ _ _ w h) (Or.inl ⟨wanted_none rfl, fun w hw => run_load rfl f7_75 (ld_int ((hw.d.st.cell 0).trans sa.c0))⟩) hS ?_
  change wpAnyH _ _ _ _ _ _ _ (a0_7.put (some 76) (.int .i64 4)) _
  obtain ⟨a0_8, ha8⟩ : ∃ rr : Act, rr = a0_7.put (some 76) (.int .i64 4) := ⟨_, rfl⟩
  have qz8 : 78 < a0_8.tmps.size := by rw [ha8, sz_put]; exact qz7
  have f8_69 : a0_8.eval (.tmp 69) = .agg #[.pointer (ptF sl), .pointer (ptR sl)] := by rw [ha8, ev_other _ _ _ _ (by decide)]; exact f7_69
  have f8_74 : a0_8.eval (.tmp 74) = .agg #[.pointer (ptF t), .pointer (ptR t)] := by rw [ha8, ev_other _ _ _ _ (by decide)]; exact f7_74
  have f8_76 : a0_8.eval (.tmp 76) = .int .i64 4 := by rw [ha8]; exact ev_same _ _ _ (Nat.lt_of_le_of_lt (by decide) qz7)
  rw [← ha8] at h0 ⊢
  clear ha8
  refine wpAnyH_take (i := 8) (oi := dw04_8 s) (v := .bool true) (by kernel_rfl) (by kernel_rfl) (by kernel_rfl) (by kernel_rfl) (fun c a w h => hQ c _ _ _ w h) (Or.inl ⟨wanted_none rfl, fun w hw => by simp only [execOp, dw04_8, f8_76]; kernel_rfl⟩) hS ?_
  change wpAnyH _ _ _ _ _ _ _ (a0_8.put (some 77) (.bool true)) _
  obtain ⟨a0_9, ha9⟩ : ∃ rr : Act, rr = a0_8.put (some 77) (.bool true) := ⟨_, rfl⟩
  have qz9 : 78 < a0_9.tmps.size := by rw [ha9, sz_put]; exact qz8
  have f9_69 : a0_9.eval (.tmp 69) = .agg #[.pointer (ptF sl), .pointer (ptR sl)] := by rw [ha9, ev_other _ _ _ _ (by decide)]; exact f8_69
  have f9_74 : a0_9.eval (.tmp 74) = .agg #[.pointer (ptF t), .pointer (ptR t)] := by rw [ha9, ev_other _ _ _ _ (by decide)]; exact f8_74
  have f9_77 : a0_9.eval (.tmp 77) = .bool true := by rw [ha9]; exact ev_same _ _ _ (Nat.lt_of_le_of_lt (by decide) qz8)
  rw [← ha9] at h0 ⊢
  clear ha9
  refine wpAnyH_ready (rs := [9]) (by kernel_rfl) (by simp) ?_
  refine AllReadyH.cons (o := dw04_9 s) (by kernel_rfl) (fun KQ hKQ => ?_) AllReadyH.nil
  rw [if_pos (wanted_none rfl)]
  refine step_enterE 32 #[.agg #[.pointer (ptF sl), .pointer (ptR sl)], .agg #[.pointer (ptF t), .pointer (ptR t)], .bool true] (by rw [dw04_enter9, f9_69, f9_74, f9_77]) (fun V w' => V = .bool true ∧ J w') (hc1.mono (fun e w' h => ⟨_, h.1, rfl, h.2⟩)) ?_
  rintro _ w1 ⟨rfl, hJ⟩
  have hT1 := hS.keep (hk _ hJ)
  refine hKQ.out _ _ (hT1) (fun _ => ?_)
  clear hKQ KQ
  change wpAnyH _ _ _ _ _ _ _ (a0_9.put (some 78) (.bool true)) _
  have h0 := h0 w1 hJ
  obtain ⟨a0_10, ha10⟩ : ∃ rr : Act, rr = a0_9.put (some 78) (.bool true) := ⟨_, rfl⟩
  have qz10 : 78 < a0_10.tmps.size := by rw [ha10, sz_put]; exact qz9
  have f10_78 : a0_10.eval (.tmp 78) = .bool true := by rw [ha10]; exact ev_same _ _ _ (Nat.lt_of_le_of_lt (by decide) qz9)
  rw [← ha10] at h0 ⊢
  clear ha10
  refine wpAnyH_take (i := 10) (oi := dw04_10 s) (v := .bool true) (by kernel_rfl) (by kernel_rfl) (by kernel_rfl) (by kernel_rfl) (fun c a w h => hQ c _ _ _ w h) (Or.inl ⟨wanted_none rfl, fun w hw => by simp only [execOp, dw04_10, f10_78]; rfl⟩) hT1 ?_
  change wpAnyH _ _ _ _ _ _ _ (a0_10.put (some 4) (.bool true)) _
  obtain ⟨a0_11, ha11⟩ : ∃ rr : Act, rr = a0_10.put (some 4) (.bool true) := ⟨_, rfl⟩
  have qz11 : 78 < a0_11.tmps.size := by rw [ha11, sz_put]; exact qz10
  rw [← ha11] at h0 ⊢
  clear ha11
  refine wpAnyH_done (by kernel_rfl) ?_ _
  exact h0
def dw13_0 (s : String) : Oper := { dst := some 69, op := Op.load 30 (Operand.tmp 6), type := 30, pos := s, after := #[], guard := none }
def dw13_1 (s : String) : Oper := { dst := some 70, op := Op.move (Operand.tmp 0), type := 33, pos := s, after := #[], guard := none }
def dw13_2 (s : String) : Oper := { dst := some 71, op := Op.move (Operand.tmp 5), type := 3, pos := s, after := #[], guard := none }
def dw13_3 (s : String) : Oper := { dst := some 72, op := Op.binOp BinOp.sub 3 (Operand.const (Value.int IntKind.i64 1)) (Operand.tmp 71) 3, type := 3, pos := s, after := #[{ on := 2, ground := Ground.data }], guard := none }
def dw13_4 (s : String) : Oper := { dst := some 73, op := Op.indexAddr 33 (Operand.tmp 70) (Operand.tmp 72), type := 0, pos := s, after := #[{ on := 1, ground := Ground.data }, { on := 3, ground := Ground.data }], guard := none }
def dw13_5 (s : String) : Oper := { dst := some 74, op := Op.load 30 (Operand.tmp 73), type := 30, pos := s, after := #[{ on := 4, ground := Ground.data }], guard := none }
def dw13_6 (s : String) : Oper := { dst := some 75, op := Op.fieldAddr 38 (Operand.tmp 3) 0, type := 0, pos := s, after := #[], guard := none }
def dw13_7 (s : String) : Oper := { dst := some 76, op := Op.load 3 (Operand.tmp 75), type := 3, pos := s, after := #[{ on := 6, ground := Ground.data }], guard := none }
def dw13_8 (s : String) : Oper := { dst := some 77, op := Op.binOp BinOp.eql 3 (Operand.tmp 76) (Operand.const (Value.int IntKind.i64 4)) 3, type := 4, pos := s, after := #[{ on := 7, ground := Ground.data }], guard := none }
def dw13_9 (s : String) : Oper := { dst := some 78, op := Op.call { callee := Callee.value (Operand.func 32), args := #[Operand.tmp 69, Operand.tmp 74, Operand.tmp 77], argTypes := #[30, 30, 4] }, type := 4, pos := s, after := #[{ on := 0, ground := Ground.data }, { on := 5, ground := Ground.data }, { on := 8, ground := Ground.data }], guard := none }
def dw13_10 (s : String) : Oper := { dst := some 4, op := Op.assign (Operand.tmp 78), type := 4, pos := s, after := #[{ on := 9, ground := Ground.data }, { on := 9, ground := Ground.chain }, { on := 0, ground := Ground.phase }, { on := 1, ground := Ground.phase }, { on := 2, ground := Ground.phase }, { on := 3, ground := Ground.phase }, { on := 4, ground := Ground.phase }, { on := 5, ground := Ground.phase }, { on := 6, ground := Ground.phase }, { on := 7, ground := Ground.phase }, { on := 8, ground := Ground.phase }, { on := 9, ground := Ground.phase }], guard := none }
def dw13_ops (s : String) : Array Oper := #[dw13_0 s, dw13_1 s, dw13_2 s, dw13_3 s, dw13_4 s, dw13_5 s, dw13_6 s, dw13_7 s, dw13_8 s, dw13_9 s, dw13_10 s]
theorem dw13_enter9 (s : String) (a : Act) (w : World) : (execOp a.eval (dw13_9 s)).run Try.prog w = .ok (.enter 32 #[a.eval (.tmp 69), a.eval (.tmp 74), a.eval (.tmp 77)]) w := by kernel_rfl
set_option maxRecDepth 20000 in
set_option maxHeartbeats 2000000 in
theorem dw13_walk (s : String) {Q : Exit → Act → World → Prop} (hQ : ∀ c (a : Act) t v w, Q (.panic c) (a.put (some t) v) w → Q (.panic c) a w) (W : World) (b3 b6 q : Nat) (SC : Array Value) (F B H : Int) (kb : List UInt8) (sl t : Option Sl) (J : World → Prop) (hk : ∀ w', J w' → KeepT W.drew w') (sa : StepAt SC 3 F B H kb) (hT : DW W b3 b6 q 1 SC sl t) (hc1 : Calls Try.prog 32 #[.agg #[.pointer (ptF sl), .pointer (ptR sl)], .agg #[.pointer (ptF t), .pointer (ptR t)], .bool false] W.drew fun e w' => e = .returned (.bool true) ∧ J w')
    (a : Act) (hs : 78 < a.tmps.size) (e0 : a.eval (.tmp 0) = .slice (some ⟨q, 0, none⟩) 2 2) (e3 : a.eval (.tmp 3) = .pointer (some ⟨b3, 0, none⟩)) (e5 : a.eval (.tmp 5) = .int .i64 1) (e6 : a.eval (.tmp 6) = .pointer (some ⟨b6, 0, none⟩))
    (h0 : ∀ w1, J w1 → Q .normal (((((((((((a.put (some 69) (.agg #[.pointer (ptF sl), .pointer (ptR sl)])).put (some 70) (.slice (some ⟨q, 0, none⟩) 2 2)).put (some 71) (.int .i64 1)).put (some 72) (.int .i64 0)).put (some 73) (.pointer (some ⟨q, 0, none⟩))).put (some 74) (.agg #[.pointer (ptF t), .pointer (ptR t)])).put (some 75) (.pointer (some ⟨b3, 0, none⟩))).put (some 76) (.int .i64 3)).put (some 77) (.bool false)).put (some 78) (.bool true)).put (some 4) (.bool true)) w1) :
    Code.wp Try.prog (.region 14 (dw13_ops s) true) Q a W := by
  refine wp_region_held_drew (S := fun W' => DW W' b3 b6 q 1 SC sl t) (by kernel_rfl) ⟨⟨hT.d.st, hT.d.pr⟩, hT.q⟩ (fun hS => ?_)
  change wpAnyH _ _ _ _ _ _ _ _ (World.drew _)
  refine wpAnyH_take (i := 0) (oi := dw13_0 s) (v := .agg #[.pointer (ptF sl), .pointer (ptR sl)]) (by kernel_rfl) (by kernel_rfl) (by kernel_rfl) (by kernel_rfl) (fun c a w h => hQ c _ _ _ w h) (Or.inl ⟨wanted_none rfl, fun w hw => run_load rfl e6 (ld_pair (hw.d.pr.cell 0) (hw.d.pr.cell 1))⟩) hS ?_
  change wpAnyH _ _ _ _ _ _ _ (a.put (some 69) (.agg #[.pointer (ptF sl), .pointer (ptR sl)])) _
  obtain ⟨a0_1, ha1⟩ : ∃ rr : Act, rr = a.put (some 69) (.agg #[.pointer (ptF sl), .pointer (ptR sl)]) := ⟨_, rfl⟩
  have qz1 : 78 < a0_1.tmps.size := by rw [ha1, sz_put]; exact hs
  have f1_0 : a0_1.eval (.tmp 0) = .slice (some ⟨q, 0, none⟩) 2 2 := by rw [ha1, ev_other _ _ _ _ (by decide)]; exact e0
  have f1_3 : a0_1.eval (.tmp 3) = .pointer (some ⟨b3, 0, none⟩) := by rw [ha1, ev_other _ _ _ _ (by decide)]; exact e3
  have f1_5 : a0_1.eval (.tmp 5) = .int .i64 1 := by rw [ha1, ev_other _ _ _ _ (by decide)]; exact e5
  have f1_69 : a0_1.eval (.tmp 69) = .agg #[.pointer (ptF sl), .pointer (ptR sl)] := by rw [ha1]; exact ev_same _ _ _ (Nat.lt_of_le_of_lt (by decide) hs)
  rw [← ha1] at h0 ⊢
  clear ha1
  refine wpAnyH_take (i := 1) (oi := dw13_1 s) (v := .slice (some ⟨q, 0, none⟩) 2 2) (by kernel_rfl) (by kernel_rfl) (by kernel_rfl) (by kernel_rfl) (fun c a w h => hQ c _ _ _ w h) (Or.inl ⟨wanted_none rfl, fun w hw => by simp only [execOp, dw13_1, f1_0]; rfl⟩) hS ?_
  change wpAnyH _ _ _ _ _ _ _ (a0_1.put (some 70) (.slice (some ⟨q, 0, none⟩) 2 2)) _
  obtain ⟨a0_2, ha2⟩ : ∃ rr : Act, rr = a0_1.put (some 70) (.slice (some ⟨q, 0, none⟩) 2 2) := ⟨_, rfl⟩
  have qz2 : 78 < a0_2.tmps.size := by rw [ha2, sz_put]; exact qz1
  have f2_3 : a0_2.eval (.tmp 3) = .pointer (some ⟨b3, 0, none⟩) := by rw [ha2, ev_other _ _ _ _ (by decide)]; exact f1_3
  have f2_5 : a0_2.eval (.tmp 5) = .int .i64 1 := by rw [ha2, ev_other _ _ _ _ (by decide)]; exact f1_5
  have f2_69 : a0_2.eval (.tmp 69) = .agg #[.pointer (ptF sl), .pointer (ptR sl)] := by rw [ha2, ev_other _ _ _ _ (by decide)]; exact f1_69
  have f2_70 : a0_2.eval (.tmp 70) = .slice (some ⟨q, 0, none⟩) 2 2 := by rw [ha2]; exact ev_same _ _ _ (Nat.lt_of_le_of_lt (by decide) qz1)
  rw [← ha2] at h0 ⊢
  clear ha2
  refine wpAnyH_take (i := 2) (oi := dw13_2 s) (v := .int .i64 1) (by kernel_rfl) (by kernel_rfl) (by kernel_rfl) (by kernel_rfl) (fun c a w h => hQ c _ _ _ w h) (Or.inl ⟨wanted_none rfl, fun w hw => by simp only [execOp, dw13_2, f2_5]; rfl⟩) hS ?_
  change wpAnyH _ _ _ _ _ _ _ (a0_2.put (some 71) (.int .i64 1)) _
  obtain ⟨a0_3, ha3⟩ : ∃ rr : Act, rr = a0_2.put (some 71) (.int .i64 1) := ⟨_, rfl⟩
  have qz3 : 78 < a0_3.tmps.size := by rw [ha3, sz_put]; exact qz2
  have f3_3 : a0_3.eval (.tmp 3) = .pointer (some ⟨b3, 0, none⟩) := by rw [ha3, ev_other _ _ _ _ (by decide)]; exact f2_3
  have f3_69 : a0_3.eval (.tmp 69) = .agg #[.pointer (ptF sl), .pointer (ptR sl)] := by rw [ha3, ev_other _ _ _ _ (by decide)]; exact f2_69
  have f3_70 : a0_3.eval (.tmp 70) = .slice (some ⟨q, 0, none⟩) 2 2 := by rw [ha3, ev_other _ _ _ _ (by decide)]; exact f2_70
  have f3_71 : a0_3.eval (.tmp 71) = .int .i64 1 := by rw [ha3]; exact ev_same _ _ _ (Nat.lt_of_le_of_lt (by decide) qz2)
  rw [← ha3] at h0 ⊢
  clear ha3
  refine wpAnyH_take (i := 3) (oi := dw13_3 s) (v := .int .i64 0) (by kernel_rfl) (by kernel_rfl) (by kernel_rfl) (by kernel_rfl) (fun c a w h => hQ c _ _ _ w h) (Or.inl ⟨wanted_none rfl, fun w hw => by simp only [execOp, dw13_3, f3_71]; kernel_rfl⟩) hS ?_
  change wpAnyH _ _ _ _ _ _ _ (a0_3.put (some 72) (.int .i64 0)) _
  obtain ⟨a0_4, ha4⟩ : ∃ rr : Act, rr = a0_3.put (some 72) (.int .i64 0) := ⟨_, rfl⟩
  have qz4 : 78 < a0_4.tmps.size := by rw [ha4, sz_put]; exact qz3
  have f4_3 : a0_4.eval (.tmp 3) = .pointer (some ⟨b3, 0, none⟩) := by rw [ha4, ev_other _ _ _ _ (by decide)]; exact f3_3
  have f4_69 : a0_4.eval (.tmp 69) = .agg #[.pointer (ptF sl), .pointer (ptR sl)] := by rw [ha4, ev_other _ _ _ _ (by decide)]; exact f3_69
  have f4_70 : a0_4.eval (.tmp 70) = .slice (some ⟨q, 0, none⟩) 2 2 := by rw [ha4, ev_other _ _ _ _ (by decide)]; exact f3_70
  have f4_72 : a0_4.eval (.tmp 72) = .int .i64 0 := by rw [ha4]; exact ev_same _ _ _ (Nat.lt_of_le_of_lt (by decide) qz3)
  rw [← ha4] at h0 ⊢
  clear ha4
  refine wpAnyH_take (i := 4) (oi := dw13_4 s) (v := .pointer (some ⟨q, 0, none⟩)) (by kernel_rfl) (by kernel_rfl) (by kernel_rfl) (by kernel_rfl) (fun c a w h => hQ c _ _ _ w h) (Or.inl ⟨wanted_none rfl, fun w hw => by simp only [execOp, dw13_4, f4_70, f4_72]; kernel_rfl⟩) hS ?_
  change wpAnyH _ _ _ _ _ _ _ (a0_4.put (some 73) (.pointer (some ⟨q, 0, none⟩))) _
  obtain ⟨a0_5, ha5⟩ : ∃ rr : Act, rr = a0_4.put (some 73) (.pointer (some ⟨q, 0, none⟩)) := ⟨_, rfl⟩
  have qz5 : 78 < a0_5.tmps.size := by rw [ha5, sz_put]; exact qz4
  have f5_3 : a0_5.eval (.tmp 3) = .pointer (some ⟨b3, 0, none⟩) := by rw [ha5, ev_other _ _ _ _ (by decide)]; exact f4_3
  have f5_69 : a0_5.eval (.tmp 69) = .agg #[.pointer (ptF sl), .pointer (ptR sl)] := by rw [ha5, ev_other _ _ _ _ (by decide)]; exact f4_69
  have f5_73 : a0_5.eval (.tmp 73) = .pointer (some ⟨q, 0, none⟩) := by rw [ha5]; exact ev_same _ _ _ (Nat.lt_of_le_of_lt (by decide) qz4)
  rw [← ha5] at h0 ⊢
  clear ha5
  refine wpAnyH_take (i := 5) (oi := dw13_5 s) (v := .agg #[.pointer (ptF t), .pointer (ptR t)]) (by kernel_rfl) (by kernel_rfl) (by kernel_rfl) (by kernel_rfl) (fun c a w h => hQ c _ _ _ w h) (Or.inl ⟨wanted_none rfl, fun w hw => run_load rfl f5_73 (ld_pair (hw.q.cell 0) (hw.q.cell 1))⟩) hS ?_
  change wpAnyH _ _ _ _ _ _ _ (a0_5.put (some 74) (.agg #[.pointer (ptF t), .pointer (ptR t)])) _
  obtain ⟨a0_6, ha6⟩ : ∃ rr : Act, rr = a0_5.put (some 74) (.agg #[.pointer (ptF t), .pointer (ptR t)]) := ⟨_, rfl⟩
  have qz6 : 78 < a0_6.tmps.size := by rw [ha6, sz_put]; exact qz5
  have f6_3 : a0_6.eval (.tmp 3) = .pointer (some ⟨b3, 0, none⟩) := by rw [ha6, ev_other _ _ _ _ (by decide)]; exact f5_3
  have f6_69 : a0_6.eval (.tmp 69) = .agg #[.pointer (ptF sl), .pointer (ptR sl)] := by rw [ha6, ev_other _ _ _ _ (by decide)]; exact f5_69
  have f6_74 : a0_6.eval (.tmp 74) = .agg #[.pointer (ptF t), .pointer (ptR t)] := by rw [ha6]; exact ev_same _ _ _ (Nat.lt_of_le_of_lt (by decide) qz5)
  rw [← ha6] at h0 ⊢
  clear ha6
  refine wpAnyH_take (i := 6) (oi := dw13_6 s) (v := .pointer (some ⟨b3, 0, none⟩)) (by kernel_rfl) (by kernel_rfl) (by kernel_rfl) (by kernel_rfl) (fun c a w h => hQ c _ _ _ w h) (Or.inl ⟨wanted_none rfl, fun w hw => by simp only [execOp, dw13_6, f6_3]; kernel_rfl⟩) hS ?_
  change wpAnyH _ _ _ _ _ _ _ (a0_6.put (some 75) (.pointer (some ⟨b3, 0, none⟩))) _
  obtain ⟨a0_7, ha7⟩ : ∃ rr : Act, rr = a0_6.put (some 75) (.pointer (some ⟨b3, 0, none⟩)) := ⟨_, rfl⟩
  have qz7 : 78 < a0_7.tmps.size := by rw [ha7, sz_put]; exact qz6
  have f7_69 : a0_7.eval (.tmp 69) = .agg #[.pointer (ptF sl), .pointer (ptR sl)] := by rw [ha7, ev_other _ _ _ _ (by decide)]; exact f6_69
  have f7_74 : a0_7.eval (.tmp 74) = .agg #[.pointer (ptF t), .pointer (ptR t)] := by rw [ha7, ev_other _ _ _ _ (by decide)]; exact f6_74
  have f7_75 : a0_7.eval (.tmp 75) = .pointer (some ⟨b3, 0, none⟩) := by rw [ha7]; exact ev_same _ _ _ (Nat.lt_of_le_of_lt (by decide) qz6)
  rw [← ha7] at h0 ⊢
  clear ha7
  refine wpAnyH_take (i := 7) (oi := dw13_7 s) (v := .int .i64 3) (by kernel_rfl) (by kernel_rfl) (by kernel_rfl) (by kernel_rfl) (fun c a w h => hQ c _ _ _ w h) (Or.inl ⟨wanted_none rfl, fun w hw => run_load rfl f7_75 (ld_int ((hw.d.st.cell 0).trans sa.c0))⟩) hS ?_
  change wpAnyH _ _ _ _ _ _ _ (a0_7.put (some 76) (.int .i64 3)) _
  obtain ⟨a0_8, ha8⟩ : ∃ rr : Act, rr = a0_7.put (some 76) (.int .i64 3) := ⟨_, rfl⟩
  have qz8 : 78 < a0_8.tmps.size := by rw [ha8, sz_put]; exact qz7
  have f8_69 : a0_8.eval (.tmp 69) = .agg #[.pointer (ptF sl), .pointer (ptR sl)] := by rw [ha8, ev_other _ _ _ _ (by decide)]; exact f7_69
  have f8_74 : a0_8.eval (.tmp 74) = .agg #[.pointer (ptF t), .pointer (ptR t)] := by rw [ha8, ev_other _ _ _ _ (by decide)]; exact f7_74
  have f8_76 : a0_8.eval (.tmp 76) = .int .i64 3 := by rw [ha8]; exact ev_same _ _ _ (Nat.lt_of_le_of_lt (by decide) qz7)
  rw [← ha8] at h0 ⊢
  clear ha8
  refine wpAnyH_take (i := 8) (oi := dw13_8 s) (v := .bool false) (by kernel_rfl) (by kernel_rfl) (by kernel_rfl) (by kernel_rfl) (fun c a w h => hQ c _ _ _ w h) (Or.inl ⟨wanted_none rfl, fun w hw => by simp only [execOp, dw13_8, f8_76]; kernel_rfl⟩) hS ?_
  change wpAnyH _ _ _ _ _ _ _ (a0_8.put (some 77) (.bool false)) _
  obtain ⟨a0_9, ha9⟩ : ∃ rr : Act, rr = a0_8.put (some 77) (.bool false) := ⟨_, rfl⟩
  have qz9 : 78 < a0_9.tmps.size := by rw [ha9, sz_put]; exact qz8
  have f9_69 : a0_9.eval (.tmp 69) = .agg #[.pointer (ptF sl), .pointer (ptR sl)] := by rw [ha9, ev_other _ _ _ _ (by decide)]; exact f8_69
  have f9_74 : a0_9.eval (.tmp 74) = .agg #[.pointer (ptF t), .pointer (ptR t)] := by rw [ha9, ev_other _ _ _ _ (by decide)]; exact f8_74
  have f9_77 : a0_9.eval (.tmp 77) = .bool false := by rw [ha9]; exact ev_same _ _ _ (Nat.lt_of_le_of_lt (by decide) qz8)
  rw [← ha9] at h0 ⊢
  clear ha9
  refine wpAnyH_ready (rs := [9]) (by kernel_rfl) (by simp) ?_
  refine AllReadyH.cons (o := dw13_9 s) (by kernel_rfl) (fun KQ hKQ => ?_) AllReadyH.nil
  rw [if_pos (wanted_none rfl)]
  refine step_enterE 32 #[.agg #[.pointer (ptF sl), .pointer (ptR sl)], .agg #[.pointer (ptF t), .pointer (ptR t)], .bool false] (by rw [dw13_enter9, f9_69, f9_74, f9_77]) (fun V w' => V = .bool true ∧ J w') (hc1.mono (fun e w' h => ⟨_, h.1, rfl, h.2⟩)) ?_
  rintro _ w1 ⟨rfl, hJ⟩
  have hT1 := hS.keep (hk _ hJ)
  refine hKQ.out _ _ (hT1) (fun _ => ?_)
  clear hKQ KQ
  change wpAnyH _ _ _ _ _ _ _ (a0_9.put (some 78) (.bool true)) _
  have h0 := h0 w1 hJ
  obtain ⟨a0_10, ha10⟩ : ∃ rr : Act, rr = a0_9.put (some 78) (.bool true) := ⟨_, rfl⟩
  have qz10 : 78 < a0_10.tmps.size := by rw [ha10, sz_put]; exact qz9
  have f10_78 : a0_10.eval (.tmp 78) = .bool true := by rw [ha10]; exact ev_same _ _ _ (Nat.lt_of_le_of_lt (by decide) qz9)
  rw [← ha10] at h0 ⊢
  clear ha10
  refine wpAnyH_take (i := 10) (oi := dw13_10 s) (v := .bool true) (by kernel_rfl) (by kernel_rfl) (by kernel_rfl) (by kernel_rfl) (fun c a w h => hQ c _ _ _ w h) (Or.inl ⟨wanted_none rfl, fun w hw => by simp only [execOp, dw13_10, f10_78]; rfl⟩) hT1 ?_
  change wpAnyH _ _ _ _ _ _ _ (a0_10.put (some 4) (.bool true)) _
  obtain ⟨a0_11, ha11⟩ : ∃ rr : Act, rr = a0_10.put (some 4) (.bool true) := ⟨_, rfl⟩
  have qz11 : 78 < a0_11.tmps.size := by rw [ha11, sz_put]; exact qz10
  rw [← ha11] at h0 ⊢
  clear ha11
  refine wpAnyH_done (by kernel_rfl) ?_ _
  exact h0
def dw14_0 (s : String) : Oper := { dst := some 69, op := Op.load 30 (Operand.tmp 6), type := 30, pos := s, after := #[], guard := none }
def dw14_1 (s : String) : Oper := { dst := some 70, op := Op.move (Operand.tmp 0), type := 33, pos := s, after := #[], guard := none }
def dw14_2 (s : String) : Oper := { dst := some 71, op := Op.move (Operand.tmp 5), type := 3, pos := s, after := #[], guard := none }
def dw14_3 (s : String) : Oper := { dst := some 72, op := Op.binOp BinOp.sub 3 (Operand.const (Value.int IntKind.i64 1)) (Operand.tmp 71) 3, type := 3, pos := s, after := #[{ on := 2, ground := Ground.data }], guard := none }
def dw14_4 (s : String) : Oper := { dst := some 73, op := Op.indexAddr 33 (Operand.tmp 70) (Operand.tmp 72), type := 0, pos := s, after := #[{ on := 1, ground := Ground.data }, { on := 3, ground := Ground.data }], guard := none }
def dw14_5 (s : String) : Oper := { dst := some 74, op := Op.load 30 (Operand.tmp 73), type := 30, pos := s, after := #[{ on := 4, ground := Ground.data }], guard := none }
def dw14_6 (s : String) : Oper := { dst := some 75, op := Op.fieldAddr 38 (Operand.tmp 3) 0, type := 0, pos := s, after := #[], guard := none }
def dw14_7 (s : String) : Oper := { dst := some 76, op := Op.load 3 (Operand.tmp 75), type := 3, pos := s, after := #[{ on := 6, ground := Ground.data }], guard := none }
def dw14_8 (s : String) : Oper := { dst := some 77, op := Op.binOp BinOp.eql 3 (Operand.tmp 76) (Operand.const (Value.int IntKind.i64 4)) 3, type := 4, pos := s, after := #[{ on := 7, ground := Ground.data }], guard := none }
def dw14_9 (s : String) : Oper := { dst := some 78, op := Op.call { callee := Callee.value (Operand.func 32), args := #[Operand.tmp 69, Operand.tmp 74, Operand.tmp 77], argTypes := #[30, 30, 4] }, type := 4, pos := s, after := #[{ on := 0, ground := Ground.data }, { on := 5, ground := Ground.data }, { on := 8, ground := Ground.data }], guard := none }
def dw14_10 (s : String) : Oper := { dst := some 4, op := Op.assign (Operand.tmp 78), type := 4, pos := s, after := #[{ on := 9, ground := Ground.data }, { on := 9, ground := Ground.chain }, { on := 0, ground := Ground.phase }, { on := 1, ground := Ground.phase }, { on := 2, ground := Ground.phase }, { on := 3, ground := Ground.phase }, { on := 4, ground := Ground.phase }, { on := 5, ground := Ground.phase }, { on := 6, ground := Ground.phase }, { on := 7, ground := Ground.phase }, { on := 8, ground := Ground.phase }, { on := 9, ground := Ground.phase }], guard := none }
def dw14_ops (s : String) : Array Oper := #[dw14_0 s, dw14_1 s, dw14_2 s, dw14_3 s, dw14_4 s, dw14_5 s, dw14_6 s, dw14_7 s, dw14_8 s, dw14_9 s, dw14_10 s]
theorem dw14_enter9 (s : String) (a : Act) (w : World) : (execOp a.eval (dw14_9 s)).run Try.prog w = .ok (.enter 32 #[a.eval (.tmp 69), a.eval (.tmp 74), a.eval (.tmp 77)]) w := by kernel_rfl
set_option maxRecDepth 20000 in
set_option maxHeartbeats 2000000 in
theorem dw14_walk (s : String) {Q : Exit → Act → World → Prop} (hQ : ∀ c (a : Act) t v w, Q (.panic c) (a.put (some t) v) w → Q (.panic c) a w) (W : World) (b3 b6 q : Nat) (SC : Array Value) (F B H : Int) (kb : List UInt8) (sl t : Option Sl) (J : World → Prop) (hk : ∀ w', J w' → KeepT W.drew w') (sa : StepAt SC 4 F B H kb) (hT : DW W b3 b6 q 1 SC sl t) (hc1 : Calls Try.prog 32 #[.agg #[.pointer (ptF sl), .pointer (ptR sl)], .agg #[.pointer (ptF t), .pointer (ptR t)], .bool true] W.drew fun e w' => e = .returned (.bool true) ∧ J w')
    (a : Act) (hs : 78 < a.tmps.size) (e0 : a.eval (.tmp 0) = .slice (some ⟨q, 0, none⟩) 2 2) (e3 : a.eval (.tmp 3) = .pointer (some ⟨b3, 0, none⟩)) (e5 : a.eval (.tmp 5) = .int .i64 1) (e6 : a.eval (.tmp 6) = .pointer (some ⟨b6, 0, none⟩))
    (h0 : ∀ w1, J w1 → Q .normal (((((((((((a.put (some 69) (.agg #[.pointer (ptF sl), .pointer (ptR sl)])).put (some 70) (.slice (some ⟨q, 0, none⟩) 2 2)).put (some 71) (.int .i64 1)).put (some 72) (.int .i64 0)).put (some 73) (.pointer (some ⟨q, 0, none⟩))).put (some 74) (.agg #[.pointer (ptF t), .pointer (ptR t)])).put (some 75) (.pointer (some ⟨b3, 0, none⟩))).put (some 76) (.int .i64 4)).put (some 77) (.bool true)).put (some 78) (.bool true)).put (some 4) (.bool true)) w1) :
    Code.wp Try.prog (.region 14 (dw14_ops s) true) Q a W := by
  refine wp_region_held_drew (S := fun W' => DW W' b3 b6 q 1 SC sl t) (by kernel_rfl) ⟨⟨hT.d.st, hT.d.pr⟩, hT.q⟩ (fun hS => ?_)
  change wpAnyH _ _ _ _ _ _ _ _ (World.drew _)
  refine wpAnyH_take (i := 0) (oi := dw14_0 s) (v := .agg #[.pointer (ptF sl), .pointer (ptR sl)]) (by kernel_rfl) (by kernel_rfl) (by kernel_rfl) (by kernel_rfl) (fun c a w h => hQ c _ _ _ w h) (Or.inl ⟨wanted_none rfl, fun w hw => run_load rfl e6 (ld_pair (hw.d.pr.cell 0) (hw.d.pr.cell 1))⟩) hS ?_
  change wpAnyH _ _ _ _ _ _ _ (a.put (some 69) (.agg #[.pointer (ptF sl), .pointer (ptR sl)])) _
  obtain ⟨a0_1, ha1⟩ : ∃ rr : Act, rr = a.put (some 69) (.agg #[.pointer (ptF sl), .pointer (ptR sl)]) := ⟨_, rfl⟩
  have qz1 : 78 < a0_1.tmps.size := by rw [ha1, sz_put]; exact hs
  have f1_0 : a0_1.eval (.tmp 0) = .slice (some ⟨q, 0, none⟩) 2 2 := by rw [ha1, ev_other _ _ _ _ (by decide)]; exact e0
  have f1_3 : a0_1.eval (.tmp 3) = .pointer (some ⟨b3, 0, none⟩) := by rw [ha1, ev_other _ _ _ _ (by decide)]; exact e3
  have f1_5 : a0_1.eval (.tmp 5) = .int .i64 1 := by rw [ha1, ev_other _ _ _ _ (by decide)]; exact e5
  have f1_69 : a0_1.eval (.tmp 69) = .agg #[.pointer (ptF sl), .pointer (ptR sl)] := by rw [ha1]; exact ev_same _ _ _ (Nat.lt_of_le_of_lt (by decide) hs)
  rw [← ha1] at h0 ⊢
  clear ha1
  refine wpAnyH_take (i := 1) (oi := dw14_1 s) (v := .slice (some ⟨q, 0, none⟩) 2 2) (by kernel_rfl) (by kernel_rfl) (by kernel_rfl) (by kernel_rfl) (fun c a w h => hQ c _ _ _ w h) (Or.inl ⟨wanted_none rfl, fun w hw => by simp only [execOp, dw14_1, f1_0]; rfl⟩) hS ?_
  change wpAnyH _ _ _ _ _ _ _ (a0_1.put (some 70) (.slice (some ⟨q, 0, none⟩) 2 2)) _
  obtain ⟨a0_2, ha2⟩ : ∃ rr : Act, rr = a0_1.put (some 70) (.slice (some ⟨q, 0, none⟩) 2 2) := ⟨_, rfl⟩
  have qz2 : 78 < a0_2.tmps.size := by rw [ha2, sz_put]; exact qz1
  have f2_3 : a0_2.eval (.tmp 3) = .pointer (some ⟨b3, 0, none⟩) := by rw [ha2, ev_other _ _ _ _ (by decide)]; exact f1_3
  have f2_5 : a0_2.eval (.tmp 5) = .int .i64 1 := by rw [ha2, ev_other _ _ _ _ (by decide)]; exact f1_5
  have f2_69 : a0_2.eval (.tmp 69) = .agg #[.pointer (ptF sl), .pointer (ptR sl)] := by rw [ha2, ev_other _ _ _ _ (by decide)]; exact f1_69
  have f2_70 : a0_2.eval (.tmp 70) = .slice (some ⟨q, 0, none⟩) 2 2 := by rw [ha2]; exact ev_same _ _ _ (Nat.lt_of_le_of_lt (by decide) qz1)
  rw [← ha2] at h0 ⊢
  clear ha2
  refine wpAnyH_take (i := 2) (oi := dw14_2 s) (v := .int .i64 1) (by kernel_rfl) (by kernel_rfl) (by kernel_rfl) (by kernel_rfl) (fun c a w h => hQ c _ _ _ w h) (Or.inl ⟨wanted_none rfl, fun w hw => by simp only [execOp, dw14_2, f2_5]; rfl⟩) hS ?_
  change wpAnyH _ _ _ _ _ _ _ (a0_2.put (some 71) (.int .i64 1)) _
  obtain ⟨a0_3, ha3⟩ : ∃ rr : Act, rr = a0_2.put (some 71) (.int .i64 1) := ⟨_, rfl⟩
  have qz3 : 78 < a0_3.tmps.size := by rw [ha3, sz_put]; exact qz2
  have f3_3 : a0_3.eval (.tmp 3) = .pointer (some ⟨b3, 0, none⟩) := by rw [ha3, ev_other _ _ _ _ (by decide)]; exact f2_3
  have f3_69 : a0_3.eval (.tmp 69) = .agg #[.pointer (ptF sl), .pointer (ptR sl)] := by rw [ha3, ev_other _ _ _ _ (by decide)]; exact f2_69
  have f3_70 : a0_3.eval (.tmp 70) = .slice (some ⟨q, 0, none⟩) 2 2 := by rw [ha3, ev_other _ _ _ _ (by decide)]; exact f2_70
  have f3_71 : a0_3.eval (.tmp 71) = .int .i64 1 := by rw [ha3]; exact ev_same _ _ _ (Nat.lt_of_le_of_lt (by decide) qz2)
  rw [← ha3] at h0 ⊢
  clear ha3
  refine wpAnyH_take (i := 3) (oi := dw14_3 s) (v := .int .i64 0) (by kernel_rfl) (by kernel_rfl) (by kernel_rfl) (by kernel_rfl) (fun c a w h => hQ c _ _ _ w h) (Or.inl ⟨wanted_none rfl, fun w hw => by simp only [execOp, dw14_3, f3_71]; kernel_rfl⟩) hS ?_
  change wpAnyH _ _ _ _ _ _ _ (a0_3.put (some 72) (.int .i64 0)) _
  obtain ⟨a0_4, ha4⟩ : ∃ rr : Act, rr = a0_3.put (some 72) (.int .i64 0) := ⟨_, rfl⟩
  have qz4 : 78 < a0_4.tmps.size := by rw [ha4, sz_put]; exact qz3
  have f4_3 : a0_4.eval (.tmp 3) = .pointer (some ⟨b3, 0, none⟩) := by rw [ha4, ev_other _ _ _ _ (by decide)]; exact f3_3
  have f4_69 : a0_4.eval (.tmp 69) = .agg #[.pointer (ptF sl), .pointer (ptR sl)] := by rw [ha4, ev_other _ _ _ _ (by decide)]; exact f3_69
  have f4_70 : a0_4.eval (.tmp 70) = .slice (some ⟨q, 0, none⟩) 2 2 := by rw [ha4, ev_other _ _ _ _ (by decide)]; exact f3_70
  have f4_72 : a0_4.eval (.tmp 72) = .int .i64 0 := by rw [ha4]; exact ev_same _ _ _ (Nat.lt_of_le_of_lt (by decide) qz3)
  rw [← ha4] at h0 ⊢
  clear ha4
  refine wpAnyH_take (i := 4) (oi := dw14_4 s) (v := .pointer (some ⟨q, 0, none⟩)) (by kernel_rfl) (by kernel_rfl) (by kernel_rfl) (by kernel_rfl) (fun c a w h => hQ c _ _ _ w h) (Or.inl ⟨wanted_none rfl, fun w hw => by simp only [execOp, dw14_4, f4_70, f4_72]; kernel_rfl⟩) hS ?_
  change wpAnyH _ _ _ _ _ _ _ (a0_4.put (some 73) (.pointer (some ⟨q, 0, none⟩))) _
  obtain ⟨a0_5, ha5⟩ : ∃ rr : Act, rr = a0_4.put (some 73) (.pointer (some ⟨q, 0, none⟩)) := ⟨_, rfl⟩
  have qz5 : 78 < a0_5.tmps.size := by rw [ha5, sz_put]; exact qz4
  have f5_3 : a0_5.eval (.tmp 3) = .pointer (some ⟨b3, 0, none⟩) := by rw [ha5, ev_other _ _ _ _ (by decide)]; exact f4_3
  have f5_69 : a0_5.eval (.tmp 69) = .agg #[.pointer (ptF sl), .pointer (ptR sl)] := by rw [ha5, ev_other _ _ _ _ (by decide)]; exact f4_69
  have f5_73 : a0_5.eval (.tmp 73) = .pointer (some ⟨q, 0, none⟩) := by rw [ha5]; exact ev_same _ _ _ (Nat.lt_of_le_of_lt (by decide) qz4)
  rw [← ha5] at h0 ⊢
  clear ha5
  refine wpAnyH_take (i := 5) (oi := dw14_5 s) (v := .agg #[.pointer (ptF t), .pointer (ptR t)]) (by kernel_rfl) (by kernel_rfl) (by kernel_rfl) (by kernel_rfl) (fun c a w h => hQ c _ _ _ w h) (Or.inl ⟨wanted_none rfl, fun w hw => run_load rfl f5_73 (ld_pair (hw.q.cell 0) (hw.q.cell 1))⟩) hS ?_
  change wpAnyH _ _ _ _ _ _ _ (a0_5.put (some 74) (.agg #[.pointer (ptF t), .pointer (ptR t)])) _
  obtain ⟨a0_6, ha6⟩ : ∃ rr : Act, rr = a0_5.put (some 74) (.agg #[.pointer (ptF t), .pointer (ptR t)]) := ⟨_, rfl⟩
  have qz6 : 78 < a0_6.tmps.size := by rw [ha6, sz_put]; exact qz5
  have f6_3 : a0_6.eval (.tmp 3) = .pointer (some ⟨b3, 0, none⟩) := by rw [ha6, ev_other _ _ _ _ (by decide)]; exact f5_3
  have f6_69 : a0_6.eval (.tmp 69) = .agg #[.pointer (ptF sl), .pointer (ptR sl)] := by rw [ha6, ev_other _ _ _ _ (by decide)]; exact f5_69
  have f6_74 : a0_6.eval (.tmp 74) = .agg #[.pointer (ptF t), .pointer (ptR t)] := by rw [ha6]; exact ev_same _ _ _ (Nat.lt_of_le_of_lt (by decide) qz5)
  rw [← ha6] at h0 ⊢
  clear ha6
  refine wpAnyH_take (i := 6) (oi := dw14_6 s) (v := .pointer (some ⟨b3, 0, none⟩)) (by kernel_rfl) (by kernel_rfl) (by kernel_rfl) (by kernel_rfl) (fun c a w h => hQ c _ _ _ w h) (Or.inl ⟨wanted_none rfl, fun w hw => by simp only [execOp, dw14_6, f6_3]; kernel_rfl⟩) hS ?_
  change wpAnyH _ _ _ _ _ _ _ (a0_6.put (some 75) (.pointer (some ⟨b3, 0, none⟩))) _
  obtain ⟨a0_7, ha7⟩ : ∃ rr : Act, rr = a0_6.put (some 75) (.pointer (some ⟨b3, 0, none⟩)) := ⟨_, rfl⟩
  have qz7 : 78 < a0_7.tmps.size := by rw [ha7, sz_put]; exact qz6
  have f7_69 : a0_7.eval (.tmp 69) = .agg #[.pointer (ptF sl), .pointer (ptR sl)] := by rw [ha7, ev_other _ _ _ _ (by decide)]; exact f6_69
  have f7_74 : a0_7.eval (.tmp 74) = .agg #[.pointer (ptF t), .pointer (ptR t)] := by rw [ha7, ev_other _ _ _ _ (by decide)]; exact f6_74
  have f7_75 : a0_7.eval (.tmp 75) = .pointer (some ⟨b3, 0, none⟩) := by rw [ha7]; exact ev_same _ _ _ (Nat.lt_of_le_of_lt (by decide) qz6)
  rw [← ha7] at h0 ⊢
  clear ha7
  refine wpAnyH_take (i := 7) (oi := dw14_7 s) (v := .int .i64 4) (by kernel_rfl) (by kernel_rfl) (by kernel_rfl) (by kernel_rfl) (fun c a w h => hQ c _ _ _ w h) (Or.inl ⟨wanted_none rfl, fun w hw => run_load rfl f7_75 (ld_int ((hw.d.st.cell 0).trans sa.c0))⟩) hS ?_
  change wpAnyH _ _ _ _ _ _ _ (a0_7.put (some 76) (.int .i64 4)) _
  obtain ⟨a0_8, ha8⟩ : ∃ rr : Act, rr = a0_7.put (some 76) (.int .i64 4) := ⟨_, rfl⟩
  have qz8 : 78 < a0_8.tmps.size := by rw [ha8, sz_put]; exact qz7
  have f8_69 : a0_8.eval (.tmp 69) = .agg #[.pointer (ptF sl), .pointer (ptR sl)] := by rw [ha8, ev_other _ _ _ _ (by decide)]; exact f7_69
  have f8_74 : a0_8.eval (.tmp 74) = .agg #[.pointer (ptF t), .pointer (ptR t)] := by rw [ha8, ev_other _ _ _ _ (by decide)]; exact f7_74
  have f8_76 : a0_8.eval (.tmp 76) = .int .i64 4 := by rw [ha8]; exact ev_same _ _ _ (Nat.lt_of_le_of_lt (by decide) qz7)
  rw [← ha8] at h0 ⊢
  clear ha8
  refine wpAnyH_take (i := 8) (oi := dw14_8 s) (v := .bool true) (by kernel_rfl) (by kernel_rfl) (by kernel_rfl) (by kernel_rfl) (fun c a w h => hQ c _ _ _ w h) (Or.inl ⟨wanted_none rfl, fun w hw => by simp only [execOp, dw14_8, f8_76]; kernel_rfl⟩) hS ?_
  change wpAnyH _ _ _ _ _ _ _ (a0_8.put (some 77) (.bool true)) _
  obtain ⟨a0_9, ha9⟩ : ∃ rr : Act, rr = a0_8.put (some 77) (.bool true) := ⟨_, rfl⟩
  have qz9 : 78 < a0_9.tmps.size := by rw [ha9, sz_put]; exact qz8
  have f9_69 : a0_9.eval (.tmp 69) = .agg #[.pointer (ptF sl), .pointer (ptR sl)] := by rw [ha9, ev_other _ _ _ _ (by decide)]; exact f8_69
  have f9_74 : a0_9.eval (.tmp 74) = .agg #[.pointer (ptF t), .pointer (ptR t)] := by rw [ha9, ev_other _ _ _ _ (by decide)]; exact f8_74
  have f9_77 : a0_9.eval (.tmp 77) = .bool true := by rw [ha9]; exact ev_same _ _ _ (Nat.lt_of_le_of_lt (by decide) qz8)
  rw [← ha9] at h0 ⊢
  clear ha9
  refine wpAnyH_ready (rs := [9]) (by kernel_rfl) (by simp) ?_
  refine AllReadyH.cons (o := dw14_9 s) (by kernel_rfl) (fun KQ hKQ => ?_) AllReadyH.nil
  rw [if_pos (wanted_none rfl)]
  refine step_enterE 32 #[.agg #[.pointer (ptF sl), .pointer (ptR sl)], .agg #[.pointer (ptF t), .pointer (ptR t)], .bool true] (by rw [dw14_enter9, f9_69, f9_74, f9_77]) (fun V w' => V = .bool true ∧ J w') (hc1.mono (fun e w' h => ⟨_, h.1, rfl, h.2⟩)) ?_
  rintro _ w1 ⟨rfl, hJ⟩
  have hT1 := hS.keep (hk _ hJ)
  refine hKQ.out _ _ (hT1) (fun _ => ?_)
  clear hKQ KQ
  change wpAnyH _ _ _ _ _ _ _ (a0_9.put (some 78) (.bool true)) _
  have h0 := h0 w1 hJ
  obtain ⟨a0_10, ha10⟩ : ∃ rr : Act, rr = a0_9.put (some 78) (.bool true) := ⟨_, rfl⟩
  have qz10 : 78 < a0_10.tmps.size := by rw [ha10, sz_put]; exact qz9
  have f10_78 : a0_10.eval (.tmp 78) = .bool true := by rw [ha10]; exact ev_same _ _ _ (Nat.lt_of_le_of_lt (by decide) qz9)
  rw [← ha10] at h0 ⊢
  clear ha10
  refine wpAnyH_take (i := 10) (oi := dw14_10 s) (v := .bool true) (by kernel_rfl) (by kernel_rfl) (by kernel_rfl) (by kernel_rfl) (fun c a w h => hQ c _ _ _ w h) (Or.inl ⟨wanted_none rfl, fun w hw => by simp only [execOp, dw14_10, f10_78]; rfl⟩) hT1 ?_
  change wpAnyH _ _ _ _ _ _ _ (a0_10.put (some 4) (.bool true)) _
  obtain ⟨a0_11, ha11⟩ : ∃ rr : Act, rr = a0_10.put (some 4) (.bool true) := ⟨_, rfl⟩
  have qz11 : 78 < a0_11.tmps.size := by rw [ha11, sz_put]; exact qz10
  rw [← ha11] at h0 ⊢
  clear ha11
  refine wpAnyH_done (by kernel_rfl) ?_ _
  exact h0
end Go.Proofs.Ytbemmhngadpjcaa
