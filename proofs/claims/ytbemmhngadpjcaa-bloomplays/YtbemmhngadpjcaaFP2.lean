/- The nil filter, joined and met. -/
import Derived.Test.YtbemmhngadpjcaaFP1
import Derived.Test.YtbemmhngadpjcaaFJ3
namespace Go.Proofs.Ytbemmhngadpjcaa
set_option linter.unusedVariables false
set_option linter.unusedSimpArgs false
open Go.RowKit

set_option maxRecDepth 20000 in
set_option maxHeartbeats 4000000 in
theorem pair_nil (w : World) (v : Value) : Calls Try.prog 56 #[.pointer none, v] w (PairC w 1) := by
  have CN := hide (none_nil w)
  go_enter Try.func56, Try.ntmps56
  go_wp2_with fail
  refine CN.out.mono ?_
  rintro e w0 ⟨rfl, hw0⟩
  subst hw0
  go_wp2
  go_ret
  exact ⟨rfl, 0, rfl⟩
set_option maxRecDepth 20000 in
set_option maxHeartbeats 4000000 in
theorem pair_nil2 (w : World) (z g h : Nat) (ws : List Nat) (f : FilAt w z g h ws) : Calls Try.prog 56 #[.pointer (some ⟨z, 0, none⟩), .pointer none] w (PairC w 1) := by
  have CS := hide (none_some w z g h ws f)
  have CN := hide (none_nil w)
  clear f
  go_enter Try.func56, Try.ntmps56
  go_wp2_with fail
  refine CS.out.mono ?_
  rintro e w0 ⟨rfl, hw0⟩
  subst hw0
  go_wp2_with fail
  refine CN.out.mono ?_
  rintro e w0 ⟨rfl, hw0⟩
  subst hw0
  go_wp2
  go_ret
  exact ⟨rfl, 0, rfl⟩
set_option maxRecDepth 20000 in
set_option maxHeartbeats 4000000 in
theorem meet_nil (w : World) (v : Value) : Calls Try.prog 24 #[.pointer none, v] w (NoWC w 1) := by
  have CP := hide (pair_nil w v)
  go_enter Try.func24, Try.ntmps24
  go_wp2_with fail
  refine CP.out.mono ?_
  rintro e w1 ⟨rfl, nd, rfl⟩
  go_wp2
  go_ret
  exact ⟨rfl, below_drewN' (Below.refl _ _) nd⟩
set_option maxRecDepth 20000 in
set_option maxHeartbeats 4000000 in
theorem meet_nil2 (w : World) (z g h : Nat) (ws : List Nat) (f : FilAt w z g h ws) : Calls Try.prog 24 #[.pointer (some ⟨z, 0, none⟩), .pointer none] w (NoWC w 1) := by
  have CP := hide (pair_nil2 w z g h ws f)
  clear f
  go_enter Try.func24, Try.ntmps24
  go_wp2_with fail
  refine CP.out.mono ?_
  rintro e w1 ⟨rfl, nd, rfl⟩
  go_wp2
  go_ret
  exact ⟨rfl, below_drewN' (Below.refl _ _) nd⟩
set_option maxRecDepth 20000 in
set_option maxHeartbeats 4000000 in
theorem join_nil (w : World) (v : Value) : Calls Try.prog 25 #[.pointer none, v] w (NoWC w 1) := by
  have CP := hide (pair_nil w v)
  go_enter Try.func25, Try.ntmps25
  go_wp2_with fail
  refine CP.out.mono ?_
  rintro e w1 ⟨rfl, nd, rfl⟩
  go_wp2
  go_ret
  exact ⟨rfl, below_drewN' (Below.refl _ _) nd⟩
set_option maxRecDepth 20000 in
set_option maxHeartbeats 4000000 in
theorem join_nil2 (w : World) (z g h : Nat) (ws : List Nat) (f : FilAt w z g h ws) : Calls Try.prog 25 #[.pointer (some ⟨z, 0, none⟩), .pointer none] w (NoWC w 1) := by
  have CP := hide (pair_nil2 w z g h ws f)
  clear f
  go_enter Try.func25, Try.ntmps25
  go_wp2_with fail
  refine CP.out.mono ?_
  rintro e w1 ⟨rfl, nd, rfl⟩
  go_wp2
  go_ret
  exact ⟨rfl, below_drewN' (Below.refl _ _) nd⟩
end Go.Proofs.Ytbemmhngadpjcaa
