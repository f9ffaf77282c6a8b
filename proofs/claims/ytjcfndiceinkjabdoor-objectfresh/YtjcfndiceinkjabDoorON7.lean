/- Names of whatever length. -/
import Derived.Test.YtjcfndiceinkjabDoorON5
namespace Go.Proofs.YtjcfndiceinkjabDoor
set_option linter.unusedVariables false
set_option linter.unusedSimpArgs false
open Go.RowKit Go.Lib

theorem nameL_long {l : List UInt8} (h : 64 < l.length) : nameL l = false := by
  unfold nameL
  rw [decide_eq_false (show ¬ l.length ≤ 64 by omega)]
  simp
set_option maxRecDepth 20000 in
theorem named_all (l : List UInt8) (w : World) : Calls Tryd.prog 69 #[.string ⟨l.toArray⟩] w fun e w' => e = .returned (.bool (nameL l)) ∧ w' = w := by
  by_cases h : l.length ≤ 64
  · exact named_any l (by omega) w
  rw [nameL_long (by omega)]
  obtain ⟨L, hL⟩ : ∃ L, L = l.length := ⟨_, rfl⟩
  have hsz : (⟨l.toArray⟩ : ByteArray).size = L := by rw [hL]; simp [ByteArray.size]
  have a1 : ¬ (L : Int) < 1 := by omega
  have a2 : (64 : Int) < (L : Int) := by omega
  clear hL h
  go_enter Tryd.func69, Tryd.ntmps69
  go_wp2
  go_ret
  exact ⟨rfl, rfl⟩
set_option maxRecDepth 20000 in
theorem isName_all (l : List UInt8) (w : World) (hT : Tabs8 w) : Calls Tryd.prog 93 #[.string ⟨l.toArray⟩] w (NameC w l) := by
  by_cases h : l.length ≤ 64
  · exact isName_any l (by omega) w hT
  obtain ⟨L, hL⟩ : ∃ L, L = l.length := ⟨_, rfl⟩
  have hsz : (⟨l.toArray⟩ : ByteArray).size = L := by rw [hL]; simp [ByteArray.size]
  have HE := hideN (nameL_long (l := l) (by omega))
  have a2 : (64 : Int) < (L : Int) := by omega
  have hs0 : (l == []) = false := by cases l <;> simp at h ⊢
  clear hL h hT
  go_enter Tryd.func93, Tryd.ntmps93
  go_wp2
  go_ret
  exact ⟨by rw [HE.out]; rfl, Below.refl _ _⟩
end Go.Proofs.YtjcfndiceinkjabDoor
