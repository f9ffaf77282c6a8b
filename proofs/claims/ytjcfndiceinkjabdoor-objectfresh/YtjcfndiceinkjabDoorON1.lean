/- The document's letters and names. -/
import Derived.Test.YtjcfndiceinkjabDoorChecked
import Derived.Test.YtjcfndiceinkjabDoorSM
import Derived.Test.YtjcfndiceinkjabDoorOP1
import Derived.Deep.LoopGhost
namespace Go.Proofs.YtjcfndiceinkjabDoor
set_option linter.unusedVariables false
set_option linter.unusedSimpArgs false
open Go.RowKit Go.Lib

set_option maxRecDepth 20000 in
theorem more_any (n : Nat) (w : World) : Calls Tryd.prog 70 #[.int .u8 (n : Int)] w fun e w' => e = .returned (.int .i64 (moreN n)) ∧ w' = w := by
  unfold moreN
  by_cases h1 : n < 128
  · have a1 : (n : Int) < 128 := by omega
    rw [if_pos h1]
    go_enter Tryd.func70, Tryd.ntmps70
    go_wp2
    go_ret
    exact ⟨rfl, rfl⟩
  have a1 : ¬ (n : Int) < 128 := by omega
  rw [if_neg h1]
  by_cases h2 : 194 ≤ n ∧ n ≤ 223
  · have b1 : (194 : Int) ≤ n := by omega
    have b2 : (n : Int) ≤ 223 := by omega
    rw [if_pos h2]
    go_enter Tryd.func70, Tryd.ntmps70
    go_wp2
    go_ret
    exact ⟨rfl, rfl⟩
  rw [if_neg h2]
  by_cases h3 : 224 ≤ n ∧ n ≤ 239
  · have b1 : (194 : Int) ≤ n := by omega
    have b2 : ¬ (n : Int) ≤ 223 := by omega
    have b3 : (224 : Int) ≤ n := by omega
    have b4 : (n : Int) ≤ 239 := by omega
    rw [if_pos h3]
    go_enter Tryd.func70, Tryd.ntmps70
    go_wp2
    go_ret
    exact ⟨rfl, rfl⟩
  rw [if_neg h3]
  by_cases h4 : 240 ≤ n ∧ n ≤ 244
  · have b1 : (194 : Int) ≤ n := by omega
    have b2 : ¬ (n : Int) ≤ 223 := by omega
    have b3 : (224 : Int) ≤ n := by omega
    have b4 : ¬ (n : Int) ≤ 239 := by omega
    have b5 : (240 : Int) ≤ n := by omega
    have b6 : (n : Int) ≤ 244 := by omega
    rw [if_pos h4]
    go_enter Tryd.func70, Tryd.ntmps70
    go_wp2
    go_ret
    exact ⟨rfl, rfl⟩
  rw [if_neg h4]
  by_cases h5 : 194 ≤ n
  · have b1 : (194 : Int) ≤ n := by omega
    have b2 : ¬ (n : Int) ≤ 223 := by omega
    have b3 : (224 : Int) ≤ n := by omega
    have b4 : ¬ (n : Int) ≤ 239 := by omega
    have b5 : (240 : Int) ≤ n := by omega
    have b6 : ¬ (n : Int) ≤ 244 := by omega
    go_enter Tryd.func70, Tryd.ntmps70
    go_wp2
    go_ret
    exact ⟨rfl, rfl⟩
  · have b1 : ¬ (194 : Int) ≤ n := by omega
    have b3 : ¬ (224 : Int) ≤ n := by omega
    have b5 : ¬ (240 : Int) ≤ n := by omega
    go_enter Tryd.func70, Tryd.ntmps70
    go_wp2
    go_ret
    exact ⟨rfl, rfl⟩
theorem lowest_any (n : Nat) (w : World) : Calls Tryd.prog 71 #[.int .u8 (n : Int)] w fun e w' => e = .returned (.int .u8 (lowN n)) ∧ w' = w := by
  unfold lowN
  by_cases h1 : n = 224
  · subst h1
    go_enter Tryd.func71, Tryd.ntmps71
    go_wp2
    go_ret
    exact ⟨rfl, rfl⟩
  have a1 : ¬ (n : Int) = 224 := by omega
  rw [if_neg h1]
  by_cases h2 : n = 240
  · subst h2
    go_enter Tryd.func71, Tryd.ntmps71
    go_wp2
    go_ret
    exact ⟨rfl, rfl⟩
  have a2 : ¬ (n : Int) = 240 := by omega
  rw [if_neg h2]
  go_enter Tryd.func71, Tryd.ntmps71
  go_wp2
  go_ret
  exact ⟨rfl, rfl⟩
theorem highest_any (n : Nat) (w : World) : Calls Tryd.prog 72 #[.int .u8 (n : Int)] w fun e w' => e = .returned (.int .u8 (highN n)) ∧ w' = w := by
  unfold highN
  by_cases h1 : n = 237
  · subst h1
    go_enter Tryd.func72, Tryd.ntmps72
    go_wp2
    go_ret
    exact ⟨rfl, rfl⟩
  have a1 : ¬ (n : Int) = 237 := by omega
  rw [if_neg h1]
  by_cases h2 : n = 244
  · subst h2
    go_enter Tryd.func72, Tryd.ntmps72
    go_wp2
    go_ret
    exact ⟨rfl, rfl⟩
  have a2 : ¬ (n : Int) = 244 := by omega
  rw [if_neg h2]
  go_enter Tryd.func72, Tryd.ntmps72
  go_wp2
  go_ret
  exact ⟨rfl, rfl⟩
end Go.Proofs.YtjcfndiceinkjabDoor
