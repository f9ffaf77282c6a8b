/- How many bytes a whole number has. -/
import Derived.Test.YtinjcefekbpabaaRows
import Derived.Test.YtinjcefekbpabaaM
namespace Go.Proofs.Ytinjcefekbpabaa
set_option linter.unusedVariables false
set_option linter.unusedSimpArgs false
open Go.RowKit

set_option maxHeartbeats 4000000 in
theorem width_int8 (w : World) : Calls Try.prog 67 #[] w fun e w' => e = .returned (.int .i64 1) ∧ w' = w := by
  go_enter Try.func67, Try.ntmps67
  go_wp2
  go_rounds 9
  go_ret
  exact ⟨rfl, rfl⟩

set_option maxHeartbeats 4000000 in
theorem width_uint8 (w : World) : Calls Try.prog 68 #[] w fun e w' => e = .returned (.int .i64 1) ∧ w' = w := by
  go_enter Try.func68, Try.ntmps68
  go_wp2
  go_rounds 9
  go_ret
  exact ⟨rfl, rfl⟩

set_option maxHeartbeats 4000000 in
theorem width_int16 (w : World) : Calls Try.prog 69 #[] w fun e w' => e = .returned (.int .i64 2) ∧ w' = w := by
  go_enter Try.func69, Try.ntmps69
  go_wp2
  go_rounds 17
  go_ret
  exact ⟨rfl, rfl⟩

set_option maxHeartbeats 4000000 in
theorem width_uint16 (w : World) : Calls Try.prog 70 #[] w fun e w' => e = .returned (.int .i64 2) ∧ w' = w := by
  go_enter Try.func70, Try.ntmps70
  go_wp2
  go_rounds 17
  go_ret
  exact ⟨rfl, rfl⟩

set_option maxHeartbeats 4000000 in
theorem width_int32 (w : World) : Calls Try.prog 71 #[] w fun e w' => e = .returned (.int .i64 4) ∧ w' = w := by
  have a1 : wrap32 2147483648 = -2147483648 := by decide +kernel
  have a2 : wrap32 (-4294967296) = 0 := by decide +kernel
  go_enter Try.func71, Try.ntmps71
  go_wp2
  go_rounds 33
  go_ret
  exact ⟨rfl, rfl⟩

set_option maxHeartbeats 4000000 in
theorem width_uint32 (w : World) : Calls Try.prog 72 #[] w fun e w' => e = .returned (.int .i64 4) ∧ w' = w := by
  go_enter Try.func72, Try.ntmps72
  go_wp2
  go_rounds 33
  go_ret
  exact ⟨rfl, rfl⟩

set_option maxHeartbeats 4000000 in
theorem width_int64 (w : World) : Calls Try.prog 73 #[] w fun e w' => e = .returned (.int .i64 8) ∧ w' = w := by
  have a1 : wrap64 9223372036854775808 = -9223372036854775808 := by decide +kernel
  have a2 : wrap64 (-18446744073709551616) = 0 := by decide +kernel
  go_enter Try.func73, Try.ntmps73
  go_wp2
  go_rounds 65
  go_ret
  exact ⟨rfl, rfl⟩

set_option maxHeartbeats 4000000 in
theorem width_uint64 (w : World) : Calls Try.prog 74 #[] w fun e w' => e = .returned (.int .i64 8) ∧ w' = w := by
  go_enter Try.func74, Try.ntmps74
  go_wp2
  go_rounds 65
  go_ret
  exact ⟨rfl, rfl⟩

end Go.Proofs.Ytinjcefekbpabaa
