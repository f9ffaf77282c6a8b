/- Clone. -/
import Derived.Test.YtbnedlcldfpfdaaFR8
namespace Go.Proofs.Ytbnedlcldfpfdaa
set_option linter.unusedVariables false
set_option linter.unusedSimpArgs false
open Go.RowKit

theorem isNil (W : World) : (binOp .eql 22 (.slice none 0 0) (.slice none 0 0)).run Try.prog W = .ok (.bool true) W := by kernel_rfl
theorem notNil (a : Addr) (n c : Nat) (W : World) : (binOp .eql 22 (.slice (some a) n c) (.slice none 0 0)).run Try.prog W = .ok (.bool false) W := by kernel_rfl
set_option maxRecDepth 20000 in
set_option maxHeartbeats 1600000 in
theorem clone_any (w : World) (v : Value) (xs : List UInt8) (hv : RdA w v xs) (hl : xs.length ≤ 140737488355000) : Calls Try.prog 33 #[v] w (JoinC w xs) := by
  have HV := hide hv
  have hq1 := isNil
  have hq2 := notNil
  by_cases hn : v = .slice none 0 0
  · subst hn
    obtain ⟨ao, c, e, -⟩ := hv.slice
    have hx : xs = [] := by
      obtain ⟨-, e2, -⟩ := (Value.slice.injEq ..).mp e
      exact List.eq_nil_of_length_eq_zero e2.symm
    subst hx
    clear HV hv e
    go_enter Try.func33, Try.ntmps33
    go_wp2
    go_ret
    exact ⟨_, rfl, World.ownsRow_nil _ _ _ _, Below.refl _ _⟩
  · obtain ⟨ao, c, rfl, hz⟩ := hv.slice
    have hao : ∃ a, ao = some a := by
      rcases hv with ⟨ao', c', e, h1, h2, ⟨rfl, rfl⟩ | ⟨b, o, rfl, _⟩⟩ | ⟨a, e, rfl⟩
      · obtain ⟨rfl, _, rfl⟩ := (Value.slice.injEq ..).mp e
        exact absurd (by rw [show xs.length = 0 from by omega]) hn
      · obtain ⟨rfl, _, _⟩ := (Value.slice.injEq ..).mp e
        exact ⟨_, rfl⟩
      · obtain ⟨rfl, _, _⟩ := (Value.slice.injEq ..).mp e
        exact ⟨_, rfl⟩
    obtain ⟨a, rfl⟩ := hao
    clear hv hn
    have HE : Hid (OwnsB (w.alloc (.cells #[] 5)) w.heap.size (.slice (some ⟨w.heap.size, 0, none⟩) 0 0) []) := by
      have := owns_made w [] (Nat.zero_le _) w.heap.size (Nat.le_refl _)
      exact this
    have HB := hide ((Below.refl w.heap.size w).alloc (Nat.le_refl _) (.cells #[] 5))
    have HV2 := hide (HV.out.below HB.out)
    go_enter Try.func33, Try.ntmps33
    go_wp2_with (at_builtin; refine wpList_append_rdX rfl _ _ rfl w.heap.size _ _ [] xs rfl HE.out rfl HV2.out ?cb ?cc ?_)
    case cb => rw [List.length_nil]; omega
    case cc => simp
    intro v' w2 HO' HG HW
    go_wp2
    go_ret
    exact ⟨v', rfl, HO'.out, own_below HB.out HE.out (by simp) HG.out⟩
end Go.Proofs.Ytbnedlcldfpfdaa
