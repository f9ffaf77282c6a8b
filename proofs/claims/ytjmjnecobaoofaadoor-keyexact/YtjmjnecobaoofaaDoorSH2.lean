/- take, walked. -/
import Derived.Test.YtjmjnecobaoofaaDoorSH1
namespace Go.Proofs.YtjmjnecobaoofaaDoor
set_option linter.unusedVariables false
set_option linter.unusedSimpArgs false
open Go.RowKit

/-- The state is stored. -/
theorem wpList_store_hs {ops : Array Oper} {rest : List Oper} {op : Oper} {a : Act} {w : World} {Q : Exit → Act → World → Prop} (hgd : op.guard = none) (x y : Operand) (ho : op.op = .store 56 x y)
    (z : Nat) (t : TypeId) (pre post s : List Value) (g : Bool) (wt : List UInt8) (n : Nat) (r : S8) (hx : a.eval x = .pointer (some ⟨z, pre.length, none⟩)) (hy : a.eval y = .agg (st8 r).toArray) (hH : HB w z t pre post s g wt n)
    (h : ∀ w', Hid (HB w' z t pre post (st8 r) g wt n) → Hid (w.grownBy w' (some z)) → wpList Tryd.prog ops Q rest (a.put op.dst undef) w') : wpList Tryd.prog ops Q (op :: rest) a w := by
  have ht : w.there z pre.length (st8 r).toArray.size := there_mid hH.blk _ _ (by rw [List.length_append, List.length_append, HB.len hH.sl hH.wl]; show pre.length + 8 ≤ _; omega)
  have hs := hH.setS (st8 r) rfl (st8_one r)
  exact wpList_store_mid hgd 56 x y ho z pre.length (st8 r).toArray hx hy ht infoS8 (all_oneCell_toArray (st8_one r)) (h _ (hide hs.1) (hide hs.2))
/-- What take leaves. -/
def TakeC (w : World) (z : Nat) (t : TypeId) (pre post : List Value) (s : S8) (g : Bool) (wt bb : List UInt8) (n : Nat) (e : Ending) (w' : World) : Prop :=
  e = .returned (.tuple #[]) ∧ HB w' z t pre post (st8 (blk (if g then s else begin8) bb)) true wt n ∧ w.grownBy w' (some z)
theorem val_st8 (s : S8) : s.val = .agg (st8 s).toArray := rfl
set_option maxRecDepth 40000 in
set_option maxHeartbeats 4000000 in
theorem take_any (w : World) (hT : Tabs w) (z : Nat) (t : TypeId) (pre post : List Value) (s : S8) (g : Bool) (wt bb : List UInt8) (n : Nat) (hz : 4 ≤ z) (hH : HB w z t pre post (st8 s) g wt n) (hok : g = true → s.ok) (hbb : bb.length = 64) :
    Calls Tryd.prog 36 #[.pointer (some ⟨z, pre.length, none⟩), .agg (bb.map u8c).toArray] w (TakeC w z t pre post s g wt bb n) := by
  have hzl := hH.blk.lt
  obtain ⟨cs, hcs⟩ : ∃ cs, cs = (bb.map u8c).toArray := ⟨_, rfl⟩
  have hbx : Below w.heap.size w (w.alloc (.cells cs 42)) := (Below.refl _ _).alloc (Nat.le_refl _) _
  have hB0 := Blk.made w cs 42
  have hH0 := hH.below hbx
  have hT0 := hT.below hbx
  have c8 := hH.c8
  have hne : ¬ z = w.heap.size := by omega
  have HB0 := hide hB0
  have HH0 := hide hH0
  have HT0 := hide hT0
  have HCS := hide hcs
  rw [← hcs]
  have fin : ∀ (w0 : World) (s0 : S8), s0.ok → Tabs w0 → HB w0 z t pre post (st8 s0) true wt n → Blk w0 w.heap.size cs 42 → True := fun _ _ _ _ _ _ => True.intro
  clear hB0 hH0 hT0 hcs fin hH hT
  cases g with
  | true =>
    have HOK := hide (hok rfl)
    clear hok
    have hB1 : Blk (w.alloc (.cells cs 42)) w.heap.size (bb.map u8c).toArray 42 := by rw [← HCS.out]; exact HB0.out
    have HB1 := hide hB1
    clear hB1
    go_enter Tryd.func36, Tryd.ntmps36
    go_wp2_with fail
    refine k3_walk _ (fun _ _ _ _ _ h => h) (w.alloc (.cells cs 42)) z w.heap.size t pre post s (blk s bb) true wt bb n HH0.out HB1.out hbb (by omega) (fun W' hW' => (block_any W' (HT0.out.below hW') s HOK.out bb hbb).mono fun e' w' h => ⟨h.1, h.2⟩) _ (Nat.lt_of_sub_pos (by exact Nat.succ_pos _)) rfl rfl ?_
    intro w1 hb1 w2 hH2 hg2
    have HH2 := hide hH2
    have HG : Hid (w.grownBy w2 (some z)) := hide (grownBy_trans (grownBy_below (hbx.trans (hb1.mono hbx.size))) hg2)
    clear hH2 hg2 hb1
    simp only [Act.put, List.setIfInBounds_toArray, List.set_cons_zero, List.set_cons_succ]
    go_wp2
    go_returns
    exact ⟨rfl, HH2.out, HG.out⟩
  | false =>
    clear hok
    go_enter Tryd.func36, Tryd.ntmps36
    go_wp2_with fail
    refine (start_any _).mono ?_
    rintro e w1 ⟨he, hb1⟩
    rw [val_st8] at he
    subst he
    have HH1 := hide (HH0.out.below hb1)
    have HT1 := hide (HT0.out.below hb1)
    have HB1 := hide (Blk.below HB0.out hb1 (Blk.lt HB0.out))
    have hb01 := hbx.trans (hb1.mono hbx.size)
    clear HH0 HT0 HB0 hb1 c8
    go_wp2_with ((with_reducible refine wpList_store_hs ?_ (.tmp 13) (.tmp 11) ?_ z t pre post (st8 s) false wt n begin8 ?_ ?_ HH1.out ?_); rfl; rfl; rfl; rfl; intro w2 HH2 HG2; have k8 := HH2.out.c8; have f8 := HH2.out.frozen (pre.length + 8))
    have hg2 := HG2.out
    have hH3 := HH2.out.setG true
    have hg3 : w1.grownBy (w2.setCell ⟨z, pre.length + 8, none⟩ (.bool true)) (some z) := grownBy_trans hg2 (grownBy_set w2 z _ _)
    have hB3 : Blk (w2.setCell ⟨z, pre.length + 8, none⟩ (.bool true)) w.heap.size (bb.map u8c).toArray 42 := by rw [← HCS.out]; exact HB1.out.grown hg3 (fun e => hne (Option.some.inj e).symm)
    have hT3 := HT1.out.grown hg3 (fun b e => by rw [← Option.some.inj e]; exact hz)
    refine k3_walk _ (fun _ _ _ _ _ h => h) (w2.setCell ⟨z, pre.length + 8, none⟩ (.bool true)) z w.heap.size t pre post begin8 (blk begin8 bb) true wt bb n hH3 hB3 hbb (by omega) (fun W' hW' => (block_any W' (hT3.below hW') begin8 begin8_ok bb hbb).mono fun e' w' h => ⟨h.1, h.2⟩) _ (Nat.lt_of_sub_pos (by exact Nat.succ_pos _)) rfl rfl ?_
    intro w4 hb4 w5 hH5 hg5
    have HH5 := hide hH5
    have HG : Hid (w.grownBy w5 (some z)) := hide (grownBy_trans (grownBy_trans (grownBy_trans (grownBy_below hb01) hg3) (grownBy_below hb4)) hg5)
    clear hH5 hg5 hb4 hH3 hg3 hB3 hT3 k8 f8
    simp only [Act.put, List.setIfInBounds_toArray, List.set_cons_zero, List.set_cons_succ]
    go_wp2
    go_returns
    exact ⟨rfl, HH5.out, HG.out⟩
end Go.Proofs.YtjmjnecobaoofaaDoor
