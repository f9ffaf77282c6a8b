/- A zero filter: every call of it. -/
import Derived.Test.YtbemmhngadpjcabFI9
import Derived.Test.YtbemmhngadpjcabBB2
import Derived.Lib.QuietBelow
namespace Go.Proofs.Ytbemmhngadpjcab
set_option linter.unusedVariables false
set_option linter.unusedSimpArgs false
open Go.RowKit Go.Sort Ieee

/-- A zero Filter in memory. -/
def ZFil (w : World) (p : Nat) : Prop := Blk w p #[.int .i64 0, .slice none 0 0] 43
theorem ZFil.below {w w' : World} {p : Nat} (f : ZFil w p) (hb : Below w.heap.size w w') : ZFil w' p := Blk.below f hb (Blk.lt f)
theorem none_zero (w : World) (p : Nat) (f : ZFil w p) : Calls Try.prog 16 #[.pointer (some ⟨p, 0, none⟩)] w fun e w' => e = .returned (.bool true) ∧ w' = w := by
  have c0 : w.cell? ⟨p, 0, none⟩ = some (.int .i64 0) := Blk.cell f 0
  clear f
  go_enter Try.func16, Try.ntmps16
  go_wp2
  go_ret
  exact ⟨rfl, rfl⟩
theorem shape_zero (w : World) (p : Nat) (f : ZFil w p) : Calls Try.prog 23 #[.pointer (some ⟨p, 0, none⟩)] w fun e w' => e = .returned (.tuple #[.int .i64 0, .int .i64 0]) ∧ Below w.heap.size w w' := by
  have C := hide (none_zero w p f)
  clear f
  go_enter Try.func23, Try.ntmps23
  go_wp2_with fail
  refine C.out.mono ?_
  rintro e w1 ⟨rfl, rfl⟩
  go_wp2
  go_ret2
  exact ⟨rfl, Below.refl _ _⟩
theorem ones_zero (w : World) (p : Nat) (f : ZFil w p) : Calls Try.prog 24 #[.pointer (some ⟨p, 0, none⟩)] w fun e w' => e = .returned (.int .i64 0) ∧ Below w.heap.size w w' := by
  have C := hide (none_zero w p f)
  clear f
  go_enter Try.func24, Try.ntmps24
  go_wp2_with fail
  refine C.out.mono ?_
  rintro e w1 ⟨rfl, rfl⟩
  go_wp2
  go_ret
  exact ⟨rfl, Below.refl _ _⟩
theorem fill_zero (w : World) (p : Nat) (f : ZFil w p) : Calls Try.prog 25 #[.pointer (some ⟨p, 0, none⟩)] w fun e w' => e = .returned (.float .f64 NAN) ∧ Below w.heap.size w w' := by
  have C := hide (none_zero w p f)
  have N := hide (nan_any w)
  clear f
  go_enter Try.func25, Try.ntmps25
  go_wp2_with fail
  refine C.out.mono ?_
  rintro e w1 ⟨rfl, hw⟩
  subst hw
  go_wp2_with fail
  refine N.out.mono ?_
  rintro e w2 ⟨rfl, hb⟩
  go_wp2
  go_ret
  exact ⟨rfl, hb⟩
theorem alarm_zero (w : World) (p : Nat) (f : ZFil w p) : Calls Try.prog 26 #[.pointer (some ⟨p, 0, none⟩)] w fun e w' => e = .returned (.float .f64 NAN) ∧ Below w.heap.size w w' := by
  have C := hide (none_zero w p f)
  have N := hide (nan_any w)
  clear f
  go_enter Try.func26, Try.ntmps26
  go_wp2_with fail
  refine C.out.mono ?_
  rintro e w1 ⟨rfl, hw⟩
  subst hw
  go_wp2_with fail
  refine N.out.mono ?_
  rintro e w2 ⟨rfl, hb⟩
  go_wp2
  go_ret
  exact ⟨rfl, hb⟩
theorem bytes_zero (w : World) (p : Nat) (f : ZFil w p) : Calls Try.prog 11 #[.pointer (some ⟨p, 0, none⟩)] w fun e w' => e = .returned (.slice none 0 0) ∧ Below w.heap.size w w' := by
  have C := hide (none_zero w p f)
  clear f
  go_enter Try.func11, Try.ntmps11
  go_wp2_with fail
  refine C.out.mono ?_
  rintro e w1 ⟨rfl, rfl⟩
  go_wp2
  go_ret
  exact ⟨rfl, Below.refl _ _⟩
theorem add_zero (w : World) (p : Nat) (f : ZFil w p) (K : Array Value) (hK : K.size = 32) : Calls Try.prog 10 #[.pointer (some ⟨p, 0, none⟩), .agg K] w fun e w' => e = .returned (.bool false) ∧ Below w.heap.size w w' := by
  have hb := (Below.refl w.heap.size w).alloc (Nat.le_refl _) (.cells K 37)
  have C := hide (none_zero _ p (f.below hb))
  have HB := hide hb
  clear f hb
  go_enter Try.func10, Try.ntmps10
  go_wp2_with fail
  refine C.out.mono ?_
  rintro e w1 ⟨rfl, rfl⟩
  go_wp2
  go_ret
  exact ⟨rfl, HB.out⟩
theorem has_zero (w : World) (p : Nat) (f : ZFil w p) (K : Array Value) (hK : K.size = 32) : Calls Try.prog 13 #[.pointer (some ⟨p, 0, none⟩), .agg K] w fun e w' => e = .returned (.bool false) ∧ Below w.heap.size w w' := by
  have hb := (Below.refl w.heap.size w).alloc (Nat.le_refl _) (.cells K 37)
  have C := hide (none_zero _ p (f.below hb))
  have HB := hide hb
  clear f hb
  go_enter Try.func13, Try.ntmps13
  go_wp2_with fail
  refine C.out.mono ?_
  rintro e w1 ⟨rfl, rfl⟩
  go_wp2
  go_ret
  exact ⟨rfl, HB.out⟩
theorem nan_order' : FloatKind.f64.format.order NAN NAN = none := by decide
set_option maxRecDepth 20000 in
set_option maxHeartbeats 4000000 in
theorem told_zero (w : World) (p : Nat) (f : ZFil w p) : Calls Try.prog 12 #[.agg #[.pointer (some ⟨p, 0, none⟩), .pointer none]] w fun e w' => e = .returned (.bool true) ∧ Below w.heap.size w w' := by
  have hb := (Below.refl w.heap.size w).alloc (Nat.le_refl _) (.cells #[.pointer (some ⟨p, 0, none⟩), .pointer none] 46)
  obtain ⟨W1, hW1⟩ : ∃ W1, W1 = w.alloc (.cells #[.pointer (some ⟨p, 0, none⟩), .pointer none] 46) := ⟨_, rfl⟩
  have hk : Blk W1 w.heap.size #[.pointer (some ⟨p, 0, none⟩), .pointer none] 46 := by rw [hW1]; exact Blk.made w _ _
  rw [← hW1] at hb
  have HF1 := hide (f.below hb)
  have HB := hide hb
  have HK := hide hk
  have C := hide (shape_zero W1 p HF1.out)
  clear f hb hk
  go_enter Try.func12, Try.ntmps12
  go_wp2_with fail
  rw [← hW1]
  refine C.out.mono ?_
  rintro e w2 ⟨rfl, hb2⟩
  have HF2 := hide (HF1.out.below hb2)
  have HK2 := hide (HK.out.below hb2 HK.out.lt)
  have HB2 := hide (HB.out.trans (hb2.mono HB.out.size))
  have c0 : w2.cell? ⟨w.heap.size, 0, none⟩ = some (.pointer (some ⟨p, 0, none⟩)) := HK2.out.cell 0
  have c1 : w2.cell? ⟨w.heap.size, 1, none⟩ = some (.pointer none) := HK2.out.cell 1
  have hnn := nan_order'
  clear hW1 hb2 C HF1 HB HK
  go_wp2
  refine wp_region_quiet_below (by kernel_rfl) (by kernel_rfl) ?_
  have d0 := fun d os => cell_regrown c0 d os
  repeat quiet_step (fail)
  quiet_step (exact Calls.regrown_of (ones_zero _ p (HF2.out.below (below_regrown _ _ _))))
  repeat quiet_step (fail)
  quiet_step (exact Calls.regrown_of (fill_zero _ p (HF2.out.below (below_regrown _ _ _))))
  repeat quiet_step (fail)
  quiet_step (exact Calls.regrown_of (fill_zero _ p (HF2.out.below (below_regrown _ _ _))))
  repeat quiet_step (fail)
  quiet_step (exact Calls.regrown_of (alarm_zero _ p (HF2.out.below (below_regrown _ _ _))))
  repeat quiet_step (fail)
  quiet_step (exact Calls.regrown_of (alarm_zero _ p (HF2.out.below (below_regrown _ _ _))))
  repeat quiet_step (fail)
  quiet_step (exact Calls.regrown_of (bytes_zero _ p (HF2.out.below (below_regrown _ _ _))))
  repeat quiet_step (fail)
  refine wpQuiet_nil ?_
  intro w5 hw'
  obtain ⟨⟨dq, osq⟩, hw''⟩ := hw'
  have hb := below_regrown w2 dq osq
  rw [← show w5 = grow (redrawn w2 dq) osq from hw''] at hb
  have HB5 := hide (HB2.out.trans (hb.mono HB2.out.size))
  clear hw'' hb
  go_wp2
  go_ret
  exact ⟨rfl, HB5.out⟩
end Go.Proofs.Ytbemmhngadpjcab
