/- The small calls on a wire.Dec that lies in memory. -/
import Derived.Test.YtinjcefekbpabaaRows
import Derived.Test.YtinjcefekbpabaaM
namespace Go.Proofs.Ytinjcefekbpabaa
set_option linter.unusedVariables false
set_option linter.unusedSimpArgs false
open Go.RowKit

/-- A wire.Dec at block z: its bytes, where it stands, its fault. -/
def DecAt (w : World) (z : Nat) (sv : Value) (pos fat code : Int) : Prop :=
  Blk w z #[sv, .int .i64 pos, .int .i64 fat, .int .i64 code] 92

theorem DecAt.c0 {w : World} {z : Nat} {sv : Value} {pos fat code : Int} (h : DecAt w z sv pos fat code) : w.cell? ⟨z, 0, none⟩ = some sv := h.cell 0
theorem DecAt.c1 {w : World} {z : Nat} {sv : Value} {pos fat code : Int} (h : DecAt w z sv pos fat code) : w.cell? ⟨z, 1, none⟩ = some (.int .i64 pos) := h.cell 1
theorem DecAt.c2 {w : World} {z : Nat} {sv : Value} {pos fat code : Int} (h : DecAt w z sv pos fat code) : w.cell? ⟨z, 2, none⟩ = some (.int .i64 fat) := h.cell 2
theorem DecAt.c3 {w : World} {z : Nat} {sv : Value} {pos fat code : Int} (h : DecAt w z sv pos fat code) : w.cell? ⟨z, 3, none⟩ = some (.int .i64 code) := h.cell 3

theorem over_nil (w : World) : Calls Try.prog 65 #[.pointer none] w fun e w' => e = .returned (.bool true) ∧ w' = w := by
  go_enter Try.func65, Try.ntmps65
  go_wp2
  go_ret
  exact ⟨rfl, rfl⟩
theorem over_go (w : World) (z : Nat) (sv : Value) (pos fat : Int) (h : DecAt w z sv pos fat 0) : Calls Try.prog 65 #[.pointer (some ⟨z, 0, none⟩)] w fun e w' => e = .returned (.bool false) ∧ w' = w := by
  have c3 := h.c3
  go_enter Try.func65, Try.ntmps65
  go_wp2
  go_ret
  exact ⟨rfl, rfl⟩
theorem over_stopped (w : World) (z : Nat) (sv : Value) (pos fat code : Int) (hc : (code != 0) = true) (h : DecAt w z sv pos fat code) : Calls Try.prog 65 #[.pointer (some ⟨z, 0, none⟩)] w fun e w' => e = .returned (.bool true) ∧ w' = w := by
  have c3 := h.c3
  go_enter Try.func65, Try.ntmps65
  go_wp2
  go_ret
  exact ⟨rfl, rfl⟩

/-- stop, of one that is not stopped. -/
theorem stop_go (w : World) (z : Nat) (sv : Value) (pos fat : Int) (a c : Int) (h : DecAt w z sv pos fat 0) : Calls Try.prog 77 #[.pointer (some ⟨z, 0, none⟩), .int .i64 a, .int .i64 c] w fun e w' => e = .returned (.tuple #[]) ∧ DecAt w' z sv pos a c ∧ w.grownBy w' (some z) := by
  have c2 := h.c2
  have c3 := h.c3
  have f2 := Blk.frozen h 2
  have f3 := Blk.frozen h 3
  go_enter Try.func77, Try.ntmps77
  go_wp2_with (go_at_call 65; refine (over_go _ z sv pos fat h).mono ?_; rintro e w' ⟨rfl, rfl⟩)
  go_returns
  refine ⟨rfl, ?_, grownBy_trans (grownBy_set _ z 2 _) (grownBy_set _ z 3 _)⟩
  exact (Blk.set (Blk.set h 2 (.int .i64 a)) 3 (.int .i64 c))
theorem stop_stopped (w : World) (z : Nat) (sv : Value) (pos fat code : Int) (a c : Int) (hc : (code != 0) = true) (h : DecAt w z sv pos fat code) : Calls Try.prog 77 #[.pointer (some ⟨z, 0, none⟩), .int .i64 a, .int .i64 c] w fun e w' => e = .returned (.tuple #[]) ∧ w' = w := by
  go_enter Try.func77, Try.ntmps77
  go_wp2_with (go_at_call 65; refine (over_stopped _ z sv pos fat code hc h).mono ?_; rintro e w' ⟨rfl, rfl⟩)
  go_returns
  exact ⟨rfl, rfl⟩
theorem stop_nil (w : World) (a c : Int) : Calls Try.prog 77 #[.pointer none, .int .i64 a, .int .i64 c] w fun e w' => e = .returned (.tuple #[]) ∧ w' = w := by
  go_enter Try.func77, Try.ntmps77
  go_wp2_with (go_at_call 65; refine (over_nil _).mono ?_; rintro e w' ⟨rfl, rfl⟩)
  go_returns
  exact ⟨rfl, rfl⟩

theorem at_nil (w : World) : Calls Try.prog 24 #[.pointer none] w fun e w' => e = .returned (.int .i64 0) ∧ w' = w := by
  go_enter Try.func24, Try.ntmps24
  go_wp2
  go_ret
  exact ⟨rfl, rfl⟩
theorem at_go (w : World) (z : Nat) (sv : Value) (pos fat : Int) (h : DecAt w z sv pos fat 0) : Calls Try.prog 24 #[.pointer (some ⟨z, 0, none⟩)] w fun e w' => e = .returned (.int .i64 pos) ∧ w' = w := by
  have c1 := h.c1
  go_enter Try.func24, Try.ntmps24
  go_wp2_with (go_at_call 65; refine (over_go _ z sv pos fat h).mono ?_; rintro e w' ⟨rfl, rfl⟩)
  go_ret
  exact ⟨rfl, rfl⟩
theorem at_stopped (w : World) (z : Nat) (sv : Value) (pos fat code : Int) (hc : (code != 0) = true) (h : DecAt w z sv pos fat code) : Calls Try.prog 24 #[.pointer (some ⟨z, 0, none⟩)] w fun e w' => e = .returned (.int .i64 fat) ∧ w' = w := by
  have c2 := h.c2
  go_enter Try.func24, Try.ntmps24
  go_wp2_with (go_at_call 65; refine (over_stopped _ z sv pos fat code hc h).mono ?_; rintro e w' ⟨rfl, rfl⟩)
  go_ret
  exact ⟨rfl, rfl⟩

theorem left_nil (w : World) : Calls Try.prog 23 #[.pointer none] w fun e w' => e = .returned (.int .i64 0) ∧ w' = w := by
  go_enter Try.func23, Try.ntmps23
  go_wp2_with (go_at_call 65; refine (over_nil _).mono ?_; rintro e w' ⟨rfl, rfl⟩)
  go_ret
  exact ⟨rfl, rfl⟩
theorem left_stopped (w : World) (z : Nat) (sv : Value) (pos fat code : Int) (hc : (code != 0) = true) (h : DecAt w z sv pos fat code) : Calls Try.prog 23 #[.pointer (some ⟨z, 0, none⟩)] w fun e w' => e = .returned (.int .i64 0) ∧ w' = w := by
  go_enter Try.func23, Try.ntmps23
  go_wp2_with (go_at_call 65; refine (over_stopped _ z sv pos fat code hc h).mono ?_; rintro e w' ⟨rfl, rfl⟩)
  go_ret
  exact ⟨rfl, rfl⟩
theorem left_go (w : World) (z : Nat) (ao : Option Addr) (n c : Nat) (pos fat : Int) (hp0 : 0 ≤ pos) (hp1 : pos ≤ n) (hn : n ≤ maxLen) (h : DecAt w z (.slice ao n c) pos fat 0) : Calls Try.prog 23 #[.pointer (some ⟨z, 0, none⟩)] w fun e w' => e = .returned (.int .i64 (n - pos)) ∧ ∃ m, w' = w.drewN m := by
  unfold maxLen at hn
  have c0 := h.c0
  have c1 := h.c1
  go_enter Try.func23, Try.ntmps23
  go_wp2_with (go_at_call 65; refine (over_go _ z _ pos fat h).mono ?_; rintro e w' ⟨rfl, rfl⟩)
  go_quiet (fail)
  go_wp2
  go_ret
  exact ⟨rfl, _, rfl⟩
end Go.Proofs.Ytinjcefekbpabaa
