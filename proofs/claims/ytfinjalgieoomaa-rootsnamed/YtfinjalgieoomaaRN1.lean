/- Names of roots: which bytes may stand in one; both sides. -/
import Derived.Test.YtfinjalgieoomaaChecked
import Derived.Test.YtfinjalgieoomaaSB
namespace Go.Proofs.Ytfinjalgieoomaa
set_option linter.unusedVariables false
set_option linter.unusedSimpArgs false
open Go.RowKit

/-- Signs of a root's name. -/
def okB (c : Nat) : Bool := (decide (97 ≤ c) && decide (c ≤ 122)) || (decide (48 ≤ c) && decide (c ≤ 57)) || c == 45 || c == 95 || c == 46 || c == 47
set_option maxRecDepth 20000 in
set_option maxHeartbeats 1000000 in
theorem inName_any (c : Nat) (w : World) : Calls Try.prog 43 #[.int .u8 (c : Int)] w fun e w' => e = .returned (.bool (okB c)) ∧ w' = w := by
  by_cases h : 97 ≤ c ∧ c ≤ 122
  · have HO : Hid (okB c = true) := hide (by unfold okB; simp; omega)
    obtain ⟨h1, h2⟩ := h
    have b1 : (97 : Int) ≤ (c : Int) := by omega
    have b2 : (c : Int) ≤ 122 := by omega
    go_enter Try.func43, Try.ntmps43
    go_wp2
    go_ret
    exact ⟨by rw [HO.out]; rfl, rfl⟩
  rename _ => hA
  by_cases h : 48 ≤ c ∧ c ≤ 57
  · have HO : Hid (okB c = true) := hide (by unfold okB; simp; omega)
    obtain ⟨h1, h2⟩ := h
    have b1 : ¬ (97 : Int) ≤ (c : Int) := by omega
    have b3 : (48 : Int) ≤ (c : Int) := by omega
    have b4 : (c : Int) ≤ 57 := by omega
    go_enter Try.func43, Try.ntmps43
    go_wp2
    go_ret
    exact ⟨by rw [HO.out]; rfl, rfl⟩
  rename _ => hB
  by_cases h : c = 45
  · subst h
    have HO : Hid (okB 45 = true) := hide (by decide)
    go_enter Try.func43, Try.ntmps43
    go_wp2
    go_ret
    exact ⟨by rw [HO.out]; rfl, rfl⟩
  rename _ => h45
  by_cases h : c = 95
  · subst h
    have HO : Hid (okB 95 = true) := hide (by decide)
    go_enter Try.func43, Try.ntmps43
    go_wp2
    go_ret
    exact ⟨by rw [HO.out]; rfl, rfl⟩
  rename _ => h95
  by_cases h : c = 46
  · subst h
    have HO : Hid (okB 46 = true) := hide (by decide)
    go_enter Try.func43, Try.ntmps43
    go_wp2
    go_ret
    exact ⟨by rw [HO.out]; rfl, rfl⟩
  rename _ => h46
  by_cases h : c = 47
  · subst h
    have HO : Hid (okB 47 = true) := hide (by decide)
    go_enter Try.func43, Try.ntmps43
    go_wp2
    go_ret
    exact ⟨by rw [HO.out]; rfl, rfl⟩
  rename _ => h47
  have HO : Hid (okB c = false) := hide (by unfold okB; simp; omega)
  by_cases h : c < 45
  · have b1 : ¬ (97 : Int) ≤ (c : Int) := by omega
    have b3 : ¬ (48 : Int) ≤ (c : Int) := by omega
    have n45 : ¬ (c : Int) = 45 := by omega
    have n95 : ¬ (c : Int) = 95 := by omega
    have n46 : ¬ (c : Int) = 46 := by omega
    have n47 : ¬ (c : Int) = 47 := by omega
    go_enter Try.func43, Try.ntmps43
    go_wp2
    go_ret
    exact ⟨by rw [HO.out]; exact congrArg (fun b => Ending.returned (Value.bool b)) (show ((c : Int) == 45 || (c : Int) == 95 || (c : Int) == 46 || (c : Int) == 47) = false by simp; omega), rfl⟩
  by_cases h : c < 97
  · have b1 : ¬ (97 : Int) ≤ (c : Int) := by omega
    have b3 : (48 : Int) ≤ (c : Int) := by omega
    have b4 : ¬ (c : Int) ≤ 57 := by omega
    have n45 : ¬ (c : Int) = 45 := by omega
    have n95 : ¬ (c : Int) = 95 := by omega
    have n46 : ¬ (c : Int) = 46 := by omega
    have n47 : ¬ (c : Int) = 47 := by omega
    go_enter Try.func43, Try.ntmps43
    go_wp2
    go_ret
    exact ⟨by rw [HO.out]; exact congrArg (fun b => Ending.returned (Value.bool b)) (show ((c : Int) == 45 || (c : Int) == 95 || (c : Int) == 46 || (c : Int) == 47) = false by simp; omega), rfl⟩
  have b1 : (97 : Int) ≤ (c : Int) := by omega
  have b2 : ¬ (c : Int) ≤ 122 := by omega
  have b3 : (48 : Int) ≤ (c : Int) := by omega
  have b4 : ¬ (c : Int) ≤ 57 := by omega
  have n45 : ¬ (c : Int) = 45 := by omega
  have n95 : ¬ (c : Int) = 95 := by omega
  have n46 : ¬ (c : Int) = 46 := by omega
  have n47 : ¬ (c : Int) = 47 := by omega
  go_enter Try.func43, Try.ntmps43
  go_wp2
  go_ret
  exact ⟨by rw [HO.out]; exact congrArg (fun b => Ending.returned (Value.bool b)) (show ((c : Int) == 45 || (c : Int) == 95 || (c : Int) == 46 || (c : Int) == 47) = false by simp; omega), rfl⟩
end Go.Proofs.Ytfinjalgieoomaa
