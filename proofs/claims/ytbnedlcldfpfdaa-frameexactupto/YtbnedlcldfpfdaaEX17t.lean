/- FrameExact, but for goes. -/
import Derived.Test.YtbnedlcldfpfdaaEX15t
namespace Go.Proofs.Ytbnedlcldfpfdaa
set_option linter.unusedVariables false
set_option linter.unusedSimpArgs false
open Go.RowKit Go.Sort

theorem wpList_val {ops : Array Oper} {rest : List Oper} {op : Oper} {a : Act} {w : World} {Q : Exit → Act → World → Prop} (v : Value) (hg : Region.wanted op (yielded ops a.tmps) = true) (hr : (execOp a.eval op).run Try.prog w = .ok (.value v) w) (h : wpList Try.prog ops Q rest (a.put op.dst v) w) : wpList Try.prog ops Q (op :: rest) a w := by
  unfold wpList
  rw [if_pos hg]
  refine .inl ?_
  unfold Oper.wp
  rw [hr]
  exact h
theorem infoAsk : (Try.prog.info? 25).map (·.size) = some 4 := by kernel_rfl
theorem wpList_load_ask {ops : Array Oper} {rest : List Oper} {op : Oper} {a : Act} {w : World} {Q : Exit → Act → World → Prop} (x : Operand) (z : Nat) (cs : Array Value) (hk : Blk w z cs 25) (hn : cs.size = 4) (ho : op.op = .load 25 x) (hx : a.eval x = .pointer (some ⟨z, 0, none⟩)) (hg : Region.wanted op (yielded ops a.tmps) = true) (h : wpList Try.prog ops Q rest (a.put op.dst (.agg cs)) w) : wpList Try.prog ops Q (op :: rest) a w :=
  wpList_val _ hg (run_load ho hx (loadBlkT hk 25 _ Try.underlying25 rfl 4 infoAsk hn)) h
def GoesC : Prop := ∀ (w : World) (vb vr : Value) (at' : Int) (s z : Nat) (xs : List UInt8), RdA w vr xs → Blk w z ((roomL xs).map u8c).toArray 5 → xs.length ≤ 1048576 → Calls Try.prog 13 #[.agg (askC vb vr at' s), .slice (some ⟨z, 0, none⟩) xs.length (xs.length + 70)] w (TrueC w)
set_option maxRecDepth 40000 in
set_option maxHeartbeats 4000000 in
theorem exact_of (hgoes : GoesC) (hpacks : ∀ (w : World) (vb vr : Value) (at' : Int) (s z : Nat) (xs : List UInt8), RdA w vb xs → Blk w z ((roomL xs).map u8c).toArray 5 → xs.length ≤ 4000000 → Calls Try.prog 11 #[.agg (askC vb vr at' s), .slice (some ⟨z, 0, none⟩) xs.length (xs.length + 70)] w (TrueC w))
    (hreads : ∀ (w : World) (vb vr : Value) (at' : Int), -9223372036854775808 ≤ at' ∧ at' ≤ 9223372036854775807 → ∀ (s : Nat) (u : Value) (xs : List UInt8), RdA w vr xs → RdA w u xs → Calls Try.prog 12 #[.agg (askC vb vr at' s), u] w (TrueC w))
    (w : World) (vb vr : Value) (at' : Int) (hat : -9223372036854775808 ≤ at' ∧ at' ≤ 9223372036854775807) (s : Nat) (hs : s < 4294967296) (bs xs : List UInt8) (hb : RdA w vb bs) (hr : RdA w vr xs) (hlb : bs.length ≤ 1048576) (hlx : xs.length ≤ 1048576) : Calls Try.prog 3 #[.agg (askC vb vr at' s)] w (TrueC w) := by
  have OG := hide hgoes
  have OP := hide hpacks
  have ORD := hide hreads
  have HB := hide hb
  have HR := hide hr
  have HRD : Hid (∀ W z, Blk W z ((roomL xs).map u8c).toArray 5 → RdA W (.slice (some ⟨z, 0, none⟩) xs.length (xs.length + 70)) xs) := hide (fun W z hW => RdA_head hW _ (fun i h => by rw [roomL_at xs i (by omega), roomAt_in xs i h]) (by omega) (by unfold maxLen; omega))
  obtain ⟨ao, c, hvb, -⟩ := hb.slice
  obtain ⟨ao2, c2, hvr, -⟩ := hr.slice
  subst hvb hvr
  obtain ⟨cs, hcs⟩ : ∃ cs, cs = askC (.slice ao bs.length c) (.slice ao2 xs.length c2) at' s := ⟨_, rfl⟩
  have HCS := hide hcs
  have HC4 : Hid (cs.size = 4) := hide (by rw [hcs]; rfl)
  rw [← hcs]
  clear hgoes hpacks hreads hb hr hcs
  obtain ⟨w1, hw1⟩ : ∃ w1, w1 = w.alloc (.cells cs 25) := ⟨_, rfl⟩
  have HK1 : Hid (Blk w1 w.heap.size cs 25) := hide (by rw [hw1]; exact Blk.made w _ _)
  have HB1 : Hid (Below w.heap.size w w1) := hide (by rw [hw1]; exact (Below.refl _ _).alloc (Nat.le_refl _) _)
  have hw1' := hw1.symm
  have f0 : ∀ (W : World), Blk W w.heap.size cs 25 → W.cell? ⟨w.heap.size, 0, none⟩ = some (.slice ao bs.length c) := fun W h => by rw [h.cell, HCS.out]; rfl
  have f1 : ∀ (W : World), Blk W w.heap.size cs 25 → W.cell? ⟨w.heap.size, 1, none⟩ = some (.slice ao2 xs.length c2) := fun W h => by rw [h.cell, HCS.out]; rfl
  have F0 := hide f0
  have F1 := hide f1
  have g0 := f0 w1 HK1.out
  clear hw1 f0 f1
  go_enter Try.func3, Try.ntmps3
  go_wp2_with fail
  refine (roomy_any w1 _ bs (HB.out.below HB1.out) (by omega)).mono ?_
  rintro e w2 ⟨rfl, hz2, hb2⟩
  have HB2 := hide (Below.step HB1.out hb2)
  have HK2 := hide (HK1.out.below hb2 HK1.out.lt)
  have HZ2 := hide hz2
  have g1 := F1.out w2 HK2.out
  clear hz2 hb2 g0 hw1'
  go_wp2_with fail
  refine (roomy_any w2 _ xs (HR.out.below HB2.out) (by omega)).mono ?_
  rintro e w3 ⟨rfl, hz3, hb3⟩
  have HB3 := hide (Below.step HB2.out hb3)
  have HK3 := hide (HK2.out.below hb3 HK2.out.lt)
  have HZ3 := hide (HZ2.out.below hb3 HZ2.out.lt)
  have HY3 := hide hz3
  clear hz3 hb3 g1
  go_wp2_with fail
  refine (works_any w3).mono ?_
  rintro e w4 ⟨rfl, hb4⟩
  have HB4 := hide (Below.step HB3.out hb4)
  have HK4 := hide (HK3.out.below hb4 HK3.out.lt)
  have HZ4 := hide (HZ3.out.below hb4 HZ3.out.lt)
  have HY4 := hide (HY3.out.below hb4 HY3.out.lt)
  clear hb4
  go_wp2_with ((with_reducible refine wpList_load_ask (.tmp 1) w.heap.size cs HK4.out HC4.out ?_ ?_ ?_ ?_); rfl; rfl; rfl)
  rw [HCS.out]
  refine (sums_any w4 _ _ at' s hs _ xs (HR.out.below HB4.out) (HRD.out w4 _ HY4.out)).mono ?_
  rw [← HCS.out]
  rintro e w5 ⟨rfl, hb5⟩
  have HB5 := hide (Below.step HB4.out hb5)
  have HK5 := hide (HK4.out.below hb5 HK4.out.lt)
  have HZ5 := hide (HZ4.out.below hb5 HZ4.out.lt)
  have HY5 := hide (HY4.out.below hb5 HY4.out.lt)
  clear hb5
  go_wp2_with ((with_reducible refine wpList_load_ask (.tmp 1) w.heap.size cs HK5.out HC4.out ?_ ?_ ?_ ?_); rfl; rfl; rfl)
  rw [HCS.out]
  refine (OP.out w5 _ _ at' s _ bs (HB.out.below HB5.out) HZ5.out (by omega)).mono ?_
  rw [← HCS.out]
  rintro e w6 ⟨rfl, hb6⟩
  have HB6 := hide (Below.step HB5.out hb6)
  have HK6 := hide (HK5.out.below hb6 HK5.out.lt)
  have HZ6 := hide (HZ5.out.below hb6 HZ5.out.lt)
  have HY6 := hide (HY5.out.below hb6 HY5.out.lt)
  clear hb6
  go_wp2_with ((with_reducible refine wpList_load_ask (.tmp 1) w.heap.size cs HK6.out HC4.out ?_ ?_ ?_ ?_); rfl; rfl; rfl)
  rw [HCS.out]
  refine (ORD.out w6 _ _ at' hat s _ xs (HR.out.below HB6.out) (HRD.out w6 _ HY6.out)).mono ?_
  rw [← HCS.out]
  rintro e w7 ⟨rfl, hb7⟩
  have HB7 := hide (Below.step HB6.out hb7)
  have HK7 := hide (HK6.out.below hb7 HK6.out.lt)
  have HZ7 := hide (HZ6.out.below hb7 HZ6.out.lt)
  have HY7 := hide (HY6.out.below hb7 HY6.out.lt)
  clear hb7
  go_wp2_with ((with_reducible refine wpList_load_ask (.tmp 1) w.heap.size cs HK7.out HC4.out ?_ ?_ ?_ ?_); rfl; rfl; rfl)
  rw [HCS.out]
  refine (OG.out w7 _ _ at' s _ xs (HR.out.below HB7.out) HY7.out (by omega)).mono ?_
  rw [← HCS.out]
  rintro e w8 ⟨rfl, hb8⟩
  have HB8 := hide (Below.step HB7.out hb8)
  have HK8 := hide (HK7.out.below hb8 HK7.out.lt)
  have HZ8 := hide (HZ7.out.below hb8 HZ7.out.lt)
  have HY8 := hide (HY7.out.below hb8 HY7.out.lt)
  clear hb8
  have gg := F0.out w8 HK8.out
  go_wp2_with fail
  refine (fleft_any w8 _ _ bs HZ8.out (HB.out.below HB8.out) (by omega)).mono ?_
  rintro e w9 ⟨rfl, hb9⟩
  have HB9 := hide (Below.step HB8.out hb9)
  have HK9 := hide (HK8.out.below hb9 HK8.out.lt)
  have HZ9 := hide (HZ8.out.below hb9 HZ8.out.lt)
  have HY9 := hide (HY8.out.below hb9 HY8.out.lt)
  clear hb9 gg
  have gg := F1.out w9 HK9.out
  go_wp2_with fail
  refine (fleft_any w9 _ _ xs HY9.out (HR.out.below HB9.out) (by omega)).mono ?_
  rintro e w10 ⟨rfl, hb10⟩
  have HB10 := hide (Below.step HB9.out hb10)
  have HK10 := hide (HK9.out.below hb10 HK9.out.lt)
  have HZ10 := hide (HZ9.out.below hb10 HZ9.out.lt)
  have HY10 := hide (HY9.out.below hb10 HY9.out.lt)
  clear hb10 gg
  go_wp2
  go_ret
  exact ⟨rfl, HB10.out⟩
end Go.Proofs.Ytbnedlcldfpfdaa
