/- The function that tells of each byte whether a piece ends behind it: one byte. -/
import Derived.Test.YtamajnaeladehaaDoorGF2
import Derived.StillTailTactics
namespace Go.Proofs.YtamajnaeladehaaDoor
set_option linter.unusedVariables false
set_option linter.unusedSimpArgs false
open Go.RowKit

/-- Two blocks alone may be turned. -/
structure Turn2 (w w' : World) (x y : Nat) : Prop where
  os : w'.os = w.os
  tape : w'.tape = w.tape
  output : w'.output = w.output
  size : w'.heap.size = w.heap.size
  block : ∀ k, k ≠ x → k ≠ y → w'.heap[k]? = w.heap[k]?
theorem Turn2.below {w w' : World} {x y B : Nat} (h : Turn2 w w' x y) (hx : B ≤ x) (hy : B ≤ y) : Below B w w' :=
  ⟨h.os, h.tape, h.output, by rw [h.size]; exact Nat.le_refl _, fun k hk => h.block k (by omega) (by omega)⟩
theorem Turn2.refl (w : World) (x y : Nat) : Turn2 w w x y := ⟨rfl, rfl, rfl, rfl, fun _ _ _ => rfl⟩
theorem Turn2.trans {a b c : World} {x y : Nat} (h : Turn2 a b x y) (k : Turn2 b c x y) : Turn2 a c x y :=
  ⟨k.os.trans h.os, k.tape.trans h.tape, k.output.trans h.output, k.size.trans h.size, fun i h1 h2 => (k.block i h1 h2).trans (h.block i h1 h2)⟩
theorem Turn2.drew {a b : World} {x y : Nat} (h : Turn2 a b x y) : Turn2 a b.drew x y := ⟨h.os, h.tape, h.output, h.size, h.block⟩
theorem Turn2.setX {a b : World} {x y : Nat} (h : Turn2 a b x y) (i : Nat) (v : Value) : Turn2 a (b.setCell ⟨x, i, none⟩ v) x y :=
  ⟨h.os, h.tape, h.output, by rw [← h.size]; simp, fun k h1 h2 => (heap_setCell_other b _ k v h1).trans (h.block k h1 h2)⟩
theorem Turn2.setY {a b : World} {x y : Nat} (h : Turn2 a b x y) (i : Nat) (v : Value) : Turn2 a (b.setCell ⟨y, i, none⟩ v) x y :=
  ⟨h.os, h.tape, h.output, by rw [← h.size]; simp, fun k h1 h2 => (heap_setCell_other b _ k v h2).trans (h.block k h1 h2)⟩
theorem Blk.turn2 {w w' : World} {x y b : Nat} {cs : Array Value} {t : TypeId} (h : Blk w b cs t) (k : Turn2 w w' x y) (h1 : b ≠ x) (h2 : b ≠ y) : Blk w' b cs t := (k.block b h1 h2).trans h
theorem roll_lt (h : Nat) (b : UInt8) : roll h b < 18446744073709551616 := Nat.mod_lt _ (by omega)
theorem roll_wrap (h : Nat) (b : UInt8) : IntKind.u64.wrap (IntKind.u64.wrap (2 * (h : Int)) + (wN b : Int)) = ((roll h b : Nat) : Int) := by
  rw [IntKind.wrap_u64, IntKind.wrap_u64]
  unfold roll
  omega
set_option maxRecDepth 20000 in
set_option maxHeartbeats 1000000 in
theorem ends_any (w : World) (base bh bn br b4 b5 : Nat) (mn me mx : Int) (h n : Nat) (E : EndSt w base bh bn br b4 b5 mn me mx h n) (hh : h < 18446744073709551616) (hn : (n : Int) < mx) (hx : mx ≤ 8000) (b : UInt8) :
    Calls Tryd.prog 43 #[.int .u8 (b.toNat : Int), ptr bh, ptr bn, ptr br, ptr b4, ptr b5] w fun e w' => e = .returned (.bool (endB mn me mx (roll h b) (n + 1))) ∧ EndSt w' base bh bn br b4 b5 mn me mx (roll h b) (n + 1) ∧ Turn2 w w' bh bn := by
  obtain ⟨E1, E2, E3, E4, E5, EA, EL⟩ := E
  have c1 : w.drew.cell? ⟨bh, 0, none⟩ = some (.int .u64 h) := E1.drew.cell 0
  have f1 : w.drew.frozen? ⟨bh, 0, none⟩ = false := E1.drew.frozen 0
  obtain ⟨r, hr⟩ : ∃ r, r = roll h b := ⟨_, rfl⟩
  have e1 := roll_wrap h b
  rw [← hr] at e1 ⊢
  have HW : Hid (∀ (w : World), Calls Tryd.prog 44 #[.int .u8 (b.toNat : Int)] w fun e w' => e = .returned (.int .u64 (wN b : Int)) ∧ w' = w) := hide (fun w => by rw [← wN_eq]; exact word_any b.toNat b.toNat_lt w)
  have hrl : r < 18446744073709551616 := by rw [hr]; exact roll_lt h b
  have T0 := (Turn2.refl w bh bn).drew.setX 0 (.int .u64 (r : Int))
  have F1 := E1.drew.set 0 (.int .u64 (r : Int))
  have F2 := E2.drew.setOther ⟨bh, 0, none⟩ (.int .u64 (r : Int)) (by simp; omega)
  have F3 := E3.drew.setOther ⟨bh, 0, none⟩ (.int .u64 (r : Int)) (by simp; omega)
  have F4 := E4.drew.setOther ⟨bh, 0, none⟩ (.int .u64 (r : Int)) (by simp; omega)
  have F5 := E5.drew.setOther ⟨bh, 0, none⟩ (.int .u64 (r : Int)) (by simp; omega)
  obtain ⟨w1, hw1⟩ : ∃ w1, w1 = w.drew.setCell ⟨bh, 0, none⟩ (.int .u64 (r : Int)) := ⟨_, rfl⟩
  rw [← hw1] at T0 F1 F2 F3 F4 F5
  have HK : Hid (∀ w2 : World, w2 = w1.setCell ⟨bn, 0, none⟩ (.int .i64 ((n : Int) + 1)) → EndSt w2 base bh bn br b4 b5 mn me mx r (n + 1) ∧ Turn2 w w2 bh bn) := hide (fun w2 e => by
    subst e
    refine ⟨⟨F1.setOther _ _ (by simp; omega), ?_, F3.setOther _ _ (by simp; omega), F4.setOther _ _ (by simp; omega), F5.setOther _ _ (by simp; omega), EA, EL⟩, T0.setY 0 _⟩
    have := F2.set 0 (.int .i64 ((n : Int) + 1))
    simpa using this)
  have d2 : w1.cell? ⟨bn, 0, none⟩ = some (.int .i64 n) := F2.cell 0
  have g2 : w1.frozen? ⟨bn, 0, none⟩ = false := F2.frozen 0
  obtain ⟨w2, hw2⟩ : ∃ w2, w2 = w1.setCell ⟨bn, 0, none⟩ (.int .i64 ((n : Int) + 1)) := ⟨_, rfl⟩
  obtain ⟨K, T⟩ := HK.out w2 hw2
  have i1 : w2.cell? ⟨bh, 0, none⟩ = some (.int .u64 r) := K.hh.cell 0
  have i2 : w2.cell? ⟨bn, 0, none⟩ = some (.int .i64 ((n : Int) + 1)) := K.hn.cell 0
  have i3 : w2.cell? ⟨br, 0, none⟩ = some (.int .i64 mn) := K.hr.cell 0
  have i4 : w2.cell? ⟨br, 1, none⟩ = some (.int .i64 me) := K.hr.cell 1
  have i5 : w2.cell? ⟨br, 2, none⟩ = some (.int .i64 mx) := K.hr.cell 2
  have i6 : w2.cell? ⟨b4, 0, none⟩ = some (.int .u64 ((2 ^ (63 - pw me) : Nat) : Int)) := K.h4.cell 0
  have i7 : w2.cell? ⟨b5, 0, none⟩ = some (.int .u64 ((2 ^ (65 - pw me) : Nat) : Int)) := K.h5.cell 0
  obtain ⟨x4, hx4⟩ : ∃ x4, x4 = 2 ^ (63 - pw me) := ⟨_, rfl⟩
  obtain ⟨x5, hx5⟩ : ∃ x5, x5 = 2 ^ (65 - pw me) := ⟨_, rfl⟩
  rw [← hx4] at i6
  rw [← hx5] at i7
  have HEB : Hid (endB mn me mx r (n + 1) = if mx ≤ ((n + 1 : Nat) : Int) then true else if ((n + 1 : Nat) : Int) < mn then false else if ((n + 1 : Nat) : Int) < me then decide (r < x4) else decide (r < x5)) := hide (by rw [hx4, hx5]; unfold endB; with_reducible rfl)
  have HKT := hide (And.intro K T)
  have hw1' : w.drew.setCell ⟨bh, 0, none⟩ (.int .u64 (r : Int)) = w1 := hw1.symm
  have hw2' : w1.setCell ⟨bn, 0, none⟩ (.int .i64 ((n : Int) + 1)) = w2 := hw2.symm
  clear K T HK T0 F1 F2 F3 F4 F5 E1 E2 E3 E4 E5 EA EL hr hw1 hw2 hx4 hx5
  unfold ptr
  have k1 : IntKind.i64.wrap ((n : Int) + 1) = (n : Int) + 1 := by simp [IntKind.wrap, IntKind.bits, IntKind.signed]; omega
  by_cases q1 : mx = (n : Int) + 1
  · have q1' : ((n : Int) + 1 == mx) = true := by simp; omega
    have HF : Hid (endB mn me mx r (n + 1) = true) := hide (by rw [HEB.out, if_pos (by omega)])
    go_enter Tryd.func43, Tryd.ntmps43
    go_wp2
    refine wp_region_still_tail 5 (by kernel_rfl) (by kernel_rfl) ?_
    simp only [List.take_succ_cons, List.take_zero, List.drop_succ_cons, List.drop_zero]
    still_step
    still_step
    still_step
    still_call (HW.out _)
    still_step
    refine wpStill_nil ?_
    change wpList _ _ _ _ _ w.drew
    go_wp2
    go_ret
    exact ⟨by rw [HF.out]; rfl, HKT.out⟩
  have q1' : ((n : Int) + 1 == mx) = false := by simp; omega
  by_cases q2 : (n : Int) + 1 < mn
  · have HF : Hid (endB mn me mx r (n + 1) = false) := hide (by rw [HEB.out, if_neg (by omega), if_pos (by omega)])
    go_enter Tryd.func43, Tryd.ntmps43
    go_wp2
    refine wp_region_still_tail 5 (by kernel_rfl) (by kernel_rfl) ?_
    simp only [List.take_succ_cons, List.take_zero, List.drop_succ_cons, List.drop_zero]
    still_step
    still_step
    still_step
    still_call (HW.out _)
    still_step
    refine wpStill_nil ?_
    change wpList _ _ _ _ _ w.drew
    go_wp2
    go_ret
    exact ⟨by rw [HF.out]; rfl, HKT.out⟩
  by_cases q3 : (n : Int) + 1 < me
  · have HF : Hid (endB mn me mx r (n + 1) = decide (r < x4)) := hide (by rw [HEB.out, if_neg (by omega), if_neg (by omega), if_pos (by omega)])
    go_enter Tryd.func43, Tryd.ntmps43
    go_wp2
    refine wp_region_still_tail 5 (by kernel_rfl) (by kernel_rfl) ?_
    simp only [List.take_succ_cons, List.take_zero, List.drop_succ_cons, List.drop_zero]
    still_step
    still_step
    still_step
    still_call (HW.out _)
    still_step
    refine wpStill_nil ?_
    change wpList _ _ _ _ _ w.drew
    go_wp2
    go_ret
    exact ⟨by rw [HF.out]; rfl, HKT.out⟩
  · have HF : Hid (endB mn me mx r (n + 1) = decide (r < x5)) := hide (by rw [HEB.out, if_neg (by omega), if_neg (by omega), if_neg (by omega)])
    go_enter Tryd.func43, Tryd.ntmps43
    go_wp2
    refine wp_region_still_tail 5 (by kernel_rfl) (by kernel_rfl) ?_
    simp only [List.take_succ_cons, List.take_zero, List.drop_succ_cons, List.drop_zero]
    still_step
    still_step
    still_step
    still_call (HW.out _)
    still_step
    refine wpStill_nil ?_
    change wpList _ _ _ _ _ w.drew
    go_wp2
    go_ret
    exact ⟨by rw [HF.out]; rfl, HKT.out⟩
end Go.Proofs.YtamajnaeladehaaDoor
