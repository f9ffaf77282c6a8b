/- The nil filter: what each of its ways answers. -/
import Derived.Test.YtbemmhngadpjcaaFJ7
namespace Go.Proofs.Ytbemmhngadpjcaa
set_option linter.unusedVariables false
set_option linter.unusedSimpArgs false
open Go.RowKit Go.Sort Ieee

set_option maxRecDepth 20000 in
theorem ones_nil (w : World) : Calls Try.prog 22 #[.pointer none] w (fun e w' => e = .returned (.int .i64 0) ∧ w' = w) := by
  have CN := hide (none_nil w)
  go_enter Try.func22, Try.ntmps22
  go_wp2_with fail
  refine CN.out.mono ?_
  rintro e w0 ⟨rfl, hw0⟩
  subst hw0
  go_wp2
  go_ret
  exact ⟨rfl, rfl⟩
set_option maxRecDepth 20000 in
theorem shape_nil (w : World) : Calls Try.prog 34 #[.pointer none] w (fun e w' => e = .returned (.tuple #[.int .i64 0, .int .i64 0]) ∧ w' = w) := by
  have CN := hide (none_nil w)
  go_enter Try.func34, Try.ntmps34
  go_wp2_with fail
  refine CN.out.mono ?_
  rintro e w0 ⟨rfl, hw0⟩
  subst hw0
  go_wp2
  go_ret2
  exact ⟨rfl, rfl⟩
set_option maxRecDepth 20000 in
theorem fill_nil (w : World) : Calls Try.prog 28 #[.pointer none] w (FlC w NAN) := by
  have CN := hide (none_nil w)
  have CA := hide (fun W => nan_any W)
  go_enter Try.func28, Try.ntmps28
  go_wp2_with fail
  refine CN.out.mono ?_
  rintro e w0 ⟨rfl, hw0⟩
  subst hw0
  go_wp2_with fail
  refine (CA.out _).mono ?_
  rintro e w1 ⟨rfl, hb⟩
  go_wp2
  go_ret
  exact ⟨rfl, hb⟩
set_option maxRecDepth 20000 in
theorem alarm_nil (w : World) : Calls Try.prog 27 #[.pointer none] w (FlC w NAN) := by
  have CN := hide (none_nil w)
  have CA := hide (fun W => nan_any W)
  go_enter Try.func27, Try.ntmps27
  go_wp2_with fail
  refine CN.out.mono ?_
  rintro e w0 ⟨rfl, hw0⟩
  subst hw0
  go_wp2_with fail
  refine (CA.out _).mono ?_
  rintro e w1 ⟨rfl, hb⟩
  go_wp2
  go_ret
  exact ⟨rfl, hb⟩
def BlC (w : World) (r : Bool) (e : Ending) (w' : World) : Prop := e = .returned (.bool r) ∧ Below w.heap.size w w'
set_option maxRecDepth 20000 in
theorem has_nil (w : World) (K : Array Value) : Calls Try.prog 26 #[.pointer none, .agg K] w (BlC w false) := by
  obtain ⟨W1, hW1⟩ : ∃ W1, W1 = w.alloc (.cells K 36) := ⟨_, rfl⟩
  have HB : Hid (Below w.heap.size w W1) := hide (by rw [hW1]; exact (Below.refl _ _).alloc (Nat.le_refl _) _)
  have CN := hide (none_nil W1)
  go_enter Try.func26, Try.ntmps26
  go_wp2_with fail
  rw [← hW1]
  refine CN.out.mono ?_
  rintro e w0 ⟨rfl, hw0⟩
  subst hw0
  clear hW1
  go_wp2
  go_ret
  exact ⟨rfl, HB.out⟩
set_option maxRecDepth 20000 in
theorem add_nil (w : World) (K : Array Value) : Calls Try.prog 23 #[.pointer none, .agg K] w (BlC w false) := by
  obtain ⟨W1, hW1⟩ : ∃ W1, W1 = w.alloc (.cells K 36) := ⟨_, rfl⟩
  have HB : Hid (Below w.heap.size w W1) := hide (by rw [hW1]; exact (Below.refl _ _).alloc (Nat.le_refl _) _)
  have CN := hide (none_nil W1)
  go_enter Try.func23, Try.ntmps23
  go_wp2_with fail
  rw [← hW1]
  refine CN.out.mono ?_
  rintro e w0 ⟨rfl, hw0⟩
  subst hw0
  clear hW1
  go_wp2
  go_ret
  exact ⟨rfl, HB.out⟩
set_option maxRecDepth 20000 in
theorem bytes_nil (w : World) : Calls Try.prog 19 #[.pointer none] w (fun e w' => e = .returned (.slice none 0 0) ∧ w' = w) := by
  have CN := hide (none_nil w)
  go_enter Try.func19, Try.ntmps19
  go_wp2_with fail
  refine CN.out.mono ?_
  rintro e w0 ⟨rfl, hw0⟩
  subst hw0
  go_wp2
  go_ret
  exact ⟨rfl, rfl⟩
end Go.Proofs.Ytbemmhngadpjcaa
