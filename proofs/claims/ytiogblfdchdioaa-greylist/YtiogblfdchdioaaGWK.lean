/- works: what was put on is taken off. -/
import Derived.Test.YtiogblfdchdioaaGTi
import Derived.Test.YtiogblfdchdioaaGLg
namespace Go.Proofs.Ytiogblfdchdioaa
set_option linter.unusedVariables false
set_option linter.unusedSimpArgs false
open Go.RowKit
set_option maxRecDepth 100000

def key4 : List UInt8 := 4 :: List.replicate 31 0
theorem key4_len : key4.length = 32 := rfl
theorem wpList_val {ops : Array Oper} {rest : List Oper} {op : Oper} {a : Act} {w : World} {Q : Exit → Act → World → Prop} (v : Value) (hg : Region.wanted op (yielded ops a.tmps) = true) (hr : (execOp a.eval op).run Try.prog w = .ok (.value v) w) (h : wpList Try.prog ops Q rest (a.put op.dst v) w) : wpList Try.prog ops Q (op :: rest) a w := by
  unfold wpList
  rw [if_pos hg]
  refine .inl ?_
  unfold Oper.wp
  rw [hr]
  exact h
theorem run_key4 {op : Oper} {a : Act} (ho : op.op = .build 31 #[(0, .const (.int .u8 4))]) (w : World) : (execOp a.eval op).run Try.prog w = .ok (.value (.agg (RG.kA key4))) w := by
  simp only [execOp, ho, List.map_toArray, List.map_cons, List.map_nil]
  kernel_rfl
theorem wpList_key4 {ops : Array Oper} {rest : List Oper} {op : Oper} {a : Act} {w : World} {Q : Exit → Act → World → Prop} (ho : op.op = .build 31 #[(0, .const (.int .u8 4))]) (hg : Region.wanted op (yielded ops a.tmps) = true)
    (h : wpList Try.prog ops Q rest (a.put op.dst (.agg (RG.kA key4))) w) : wpList Try.prog ops Q (op :: rest) a w :=
  wpList_val _ hg (run_key4 ho w) h
theorem run_keyOf {op : Oper} {ev : Operand → Value} {x : Operand} {k : Nat} {v : RG.EL} {w : World} (ho : op.op = .load 31 x) (hx : ev x = .pointer (some ⟨k, 0, none⟩)) (h : RG.BoxEl w k v) : (execOp ev op).run Try.prog w = .ok (.value (.agg (RG.kA v.key))) w := by
  have hr : w.rangeAt k 0 (v.key.map RG.u8c) := fun j u hj => by
    have hjl := (List.getElem?_eq_some_iff.1 hj).1
    have hb : Blk w k (RG.elA v) RG.elT := h
    rw [Nat.zero_add, hb.cell]
    unfold RG.elA RG.elC
    rw [← Array.getElem?_toList, List.getElem?_append_left hjl]
    exact hj
  have hl := run_loadVar_mid (P := Try.prog) w k 0 31 (v.key.map RG.u8c) _ hr Try.underlying31 rfl (by rw [List.length_map, v.k32]; kernel_rfl)
  exact run_load ho hx (by simp only [Instr.loadAt, Instr.sureAddr, Sem.run_bind, Sem.run_pure, Result.andThen_ok]; exact hl)
theorem wpList_keyOf {ops : Array Oper} {rest : List Oper} {op : Oper} {a : Act} {w : World} {Q : Exit → Act → World → Prop} (x : Operand) (ho : op.op = .load 31 x) (k : Nat) (hx : a.eval x = .pointer (some ⟨k, 0, none⟩)) (v : RG.EL) (hb : RG.BoxEl w k v) (ks : List UInt8) (hv : v.key = ks) (hg : Region.wanted op (yielded ops a.tmps) = true)
    (h : wpList Try.prog ops Q rest (a.put op.dst (.agg (RG.kA ks))) w) : wpList Try.prog ops Q (op :: rest) a w :=
  wpList_val _ hg (by rw [← hv]; exact run_keyOf ho hx hb) h
/-- Between two steps of works. -/
structure WkS (w W : World) (z1 g1 z2 g2 : Nat) (V1 : List RI.EL) (V2 : List RG.EL) : Prop where
  r1 : RI.RgAt W z1 g1 RI.DT 1 V1
  r2 : RG.RgAt W z2 g2 RG.LT 1 V2
  l1 : w.heap.size ≤ z1
  m1 : w.heap.size ≤ g1
  l2 : w.heap.size ≤ z2
  m2 : w.heap.size ≤ g2
  a1 : z1 ≠ z2
  a2 : z1 ≠ g2
  a3 : g1 ≠ z2
  a4 : g1 ≠ g2
  bel : Below w.heap.size w W
theorem WkS.keep {w W W' : World} {z1 g1 z2 g2 : Nat} {V1 : List RI.EL} {V2 : List RG.EL} (h : WkS w W z1 g1 z2 g2 V1 V2) (hb : Below W.heap.size W W') : WkS w W' z1 g1 z2 g2 V1 V2 :=
  ⟨h.r1.below hb, h.r2.below hb, h.l1, h.m1, h.l2, h.m2, h.a1, h.a2, h.a3, h.a4, h.bel.trans (hb.mono h.bel.size)⟩
theorem WkS.one {w W W' : World} {z1 g1 z2 g2 : Nat} {V1 V1' : List RI.EL} {V2 : List RG.EL} (h : WkS w W z1 g1 z2 g2 V1 V2) (k : RI.RgS W W' z1 g1 RI.DT 1 V1') : ∃ g1', WkS w W' z1 g1' z2 g2 V1' V2 := by
  obtain ⟨⟨g', h1, h2⟩, h3⟩ := k
  have l2 := h.r2.lt
  have sz := h.bel.size
  have q1 := h.l1
  have q2 := h.m1
  refine ⟨g', h1, h.r2.same (h3.block _ l2.1 (fun e => ?_)) (h3.block _ l2.2 (fun e => ?_)), h.l1, ?_, h.l2, h.m2, h.a1, h.a2, ?_, ?_, h.bel.trans (h3.below (by omega) (fun k e => ?_))⟩
  · rcases e with e | e
    · exact h.a1 e.symm
    · exact h.a3 e.symm
  · rcases e with e | e
    · exact h.a2 e.symm
    · exact h.a4 e.symm
  · rcases h2 with e | e
    · rw [e]; exact h.m1
    · omega
  · rcases h2 with e | e
    · rw [e]; exact h.a3
    · omega
  · rcases h2 with e | e
    · rw [e]; exact h.a4
    · omega
  · rcases e with e | e
    · omega
    · omega
theorem WkS.two {w W W' : World} {z1 g1 z2 g2 : Nat} {V1 : List RI.EL} {V2 V2' : List RG.EL} (h : WkS w W z1 g1 z2 g2 V1 V2) (k : RG.RgS W W' z2 g2 RG.LT 1 V2') : ∃ g2', WkS w W' z1 g1 z2 g2' V1 V2' := by
  obtain ⟨⟨g', h1, h2⟩, h3⟩ := k
  have l1 := h.r1.lt
  have sz := h.bel.size
  have q1 := h.l2
  have q2 := h.m2
  refine ⟨g', h.r1.same (h3.block _ l1.1 (fun e => ?_)) (h3.block _ l1.2 (fun e => ?_)), h1, h.l1, h.m1, h.l2, ?_, h.a1, ?_, h.a3, ?_, h.bel.trans (h3.below (by omega) (fun k e => ?_))⟩
  · rcases e with e | e
    · exact h.a1 e
    · exact h.a2 e
  · rcases e with e | e
    · exact h.a3 e
    · exact h.a4 e
  · rcases h2 with e | e
    · rw [e]; exact h.m2
    · omega
  · rcases h2 with e | e
    · rw [e]; exact h.a2
    · omega
  · rcases h2 with e | e
    · rw [e]; exact h.a4
    · omega
  · rcases e with e | e
    · omega
    · omega
theorem works_any (w : World) : Calls Try.prog 6 #[] w fun e w' => e = .returned (.bool true) ∧ Below w.heap.size w w' := by
  obtain ⟨W0, hW0⟩ : ∃ W, W = w.alloc (.cells #[.int .i64 7] 3) := ⟨_, rfl⟩
  have hb0 : Below w.heap.size w W0 := by rw [hW0]; exact below_alloc w _
  have hr0 : RI.RowR W0 (.slice (some ⟨w.heap.size, 0, none⟩) 1 1) [7] := ⟨_, 1, rfl, fun _ => ⟨w.heap.size, 0, rfl, fun j x hx => by
    cases j with
    | zero =>
      cases hx
      intro q u hu
      cases q with
      | zero =>
        cases hu
        rw [hW0]
        exact (Blk.made w #[.int .i64 7] 3).cell 0
      | succ q => cases hu
    | succ j => cases hx⟩⟩
  have HB0 := hide hb0
  have HD := hide (RI.newDeque_any (M := 1) W0 _ [7] hr0 (by decide) (by decide))
  rw [hW0] at HD HB0
  clear hb0 hr0 hW0
  have hn1 : ∀ (z : Nat) W, (binOp .eql 39 (.pointer (some ⟨z, 0, none⟩)) (.pointer none)).run Try.prog W = .ok (.bool false) W := fun z W => by kernel_rfl
  go_enter Try.func6, Try.ntmps6
  go_upto_region 2 with (go_at_call 10; (with_reducible refine HD.out.mono ?_); rintro e w1 ⟨z1, g1, rfl, h1, h2, h3, h4⟩; have H1 := hide h1; have H2 := hide h2; have H3 := hide h3; have H4 := hide (HB0.out.trans (h4.mono HB0.out.size)); have HL := hide (RG.newList_any (M := 1) w1); clear h1 h2 h3 h4)
  go_upto_region 3 with (go_at_call 5; (with_reducible refine HL.out.mono ?_); rintro e w2 ⟨z2, g2, rfl, h1, h2, h3, h4⟩; have K1 := hide h1; have K2 := hide h2; have K3 := hide h3; have K4 := hide h4; clear h1 h2 h3 h4)
  have HS : Hid (WkS w w2 z1 g1 z2 g2 [7] []) := hide (by
    have s1 := HB0.out.size
    have s2 := H4.out.size
    have l1 := H1.out.lt
    have q2 := H2.out
    have q3 := H3.out
    have q4 := K2.out
    have q5 := K3.out
    exact ⟨H1.out.below K4.out, K1.out, by omega, by omega, by omega, by omega, by omega, by omega, by omega, by omega, H4.out.trans (K4.out.mono s2)⟩)
  clear H1 H2 H3 H4 K1 K2 K3 K4 HL HD HB0
  have HP := hide (RI.popTop_any (M := 1) (V := []) 7 HS.out.r1 (by decide))
  go_upto_region 6 with (go_at_call 15; (with_reducible refine HP.out.mono ?_); rintro e w3 ⟨rfl, h1⟩; have H1 := hide h1; clear h1)
  simp only [RI.elV]
  obtain ⟨g1', hS3⟩ := HS.out.one H1.out
  have HS3 := hide hS3
  have HPU := hide (RG.lpush_any (M := 1) hS3.r2 (by decide) (by decide) key4 key4_len)
  clear hS3 HS H1 HP
  go_upto_region 7 with (first | ((with_reducible refine wpList_key4 ?_ ?_ ?_); rfl; rfl) | (go_at_call 18; (with_reducible refine HPU.out.mono ?_); rintro e w4 ⟨rfl, h1⟩; have H1 := hide h1; clear h1))
  obtain ⟨g2', hS4⟩ := HS3.out.two H1.out
  have HS4 := hide hS4
  have hBT := RG.lbottom_any (M := 1) hS4.r2 (by decide)
  rw [show RG.endV true ([] ++ [RG.greyOf key4 key4_len]) = some (RG.greyOf key4 key4_len) from rfl] at hBT
  have HBT := hide hBT
  have hz0 := RG.zero_el
  clear hS4 HS3 H1 HPU hBT
  go_upto_region 8 with (first | (go_at_call 19; (with_reducible refine HBT.out.mono ?_); rintro e w5 ⟨rfl, h1⟩; have H5 := hide h1; have HBX := hide (RG.BoxEl.made w5 RG.elZ); clear h1) | ((with_reducible refine RG.wpList_stB ?_ (.tmp 5) (.tmp 27) ?_ w5.heap.size ?_ (RG.greyOf key4 key4_len) RG.elZ ?_ HBX.out ?_); rfl; rfl; rfl; rfl; intro w6 hk6 hg6))
  have hb6 : Below w4.heap.size w4 w6 := by
    have s1 := H5.out.size
    exact (H5.out.alloc s1 _).trans (below_grownBy hg6.out s1 (by simp; omega))
  have HS6 := hide (HS4.out.keep hb6)
  have hLN := RG.llen_any HS6.out.r2
  rw [show ((([] ++ [RG.greyOf key4 key4_len] : List RG.EL).length : Nat) : Int) = 1 from rfl] at hLN
  have HLN := hide hLN
  have hg4 : ∀ x y W, (eqGuard .eql 31 x y (.agg (RG.kA key4)) (.agg (RG.kA key4))).run Try.prog W = .ok () W := fun x y W => by kernel_rfl
  have he4 : ∀ W, (binOp .eql 31 (.agg (RG.kA key4)) (.agg (RG.kA key4))).run Try.prog W = .ok (.bool true) W := fun W => by kernel_rfl
  obtain ⟨k, hk⟩ : ∃ k, k = w5.heap.size := ⟨_, rfl⟩
  rw [← hk] at hk6 ⊢
  clear hb6 hLN hg6 hk HBX H5 hz0 HS4
  go_wp2_with (first | ((with_reducible refine wpList_keyOf (.tmp 38) ?_ k ?_ (RG.greyOf key4 key4_len) hk6.out key4 ?_ ?_ ?_); rfl; rfl; rfl; rfl) | ((with_reducible refine wpList_key4 ?_ ?_ ?_); rfl; rfl) | (go_at_call 9; (with_reducible refine HLN.out.mono ?_); rintro e w' ⟨rfl, hw⟩; rw [hw]; clear hw))
  go_ret
  exact ⟨rfl, HS6.out.bel⟩
end Go.Proofs.Ytiogblfdchdioaa
