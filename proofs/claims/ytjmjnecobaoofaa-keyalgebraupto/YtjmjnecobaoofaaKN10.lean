/- All. -/
import Derived.Test.YtjmjnecobaoofaaKN8
import Derived.Test.YtjmjnecobaoofaaKN9
namespace Go.Proofs.Ytjmjnecobaoofaa
set_option linter.unusedVariables false
set_option linter.unusedSimpArgs false
open Go.RowKit
set_option maxRecDepth 100000

/-- What All answers: an iterator over the keys of now, rising. -/
def AllC (w : World) (S : List (List UInt8)) (e : Ending) (W : World) : Prop := ∃ bx ao cap ks, e = .returned (riF bx) ∧ Blk W bx #[.slice ao ks.length cap] 48 ∧ KRow W ao ks ∧ Rising ks ∧ (∀ x : List UInt8, x ∈ ks ↔ (x.length = 32 ∧ x ∈ S)) ∧ (w.heap.size ≤ bx ∧ ∀ a : Addr, ao = some a → w.heap.size ≤ a.block) ∧ Below w.heap.size w W
theorem allC_of {w W : World} {S : List (List UInt8)} {ao : Option Addr} {cap : Nat} {ks : List (List UInt8)} (h1 : KRow W ao ks) (h2 : Rising ks) (h3 : ∀ x : List UInt8, x ∈ ks ↔ (x.length = 32 ∧ x ∈ S)) (h4 : Below w.heap.size w W) (h5 : ∀ a : Addr, ao = some a → w.heap.size ≤ a.block) : AllC w S (.returned (riF W.heap.size)) (W.alloc (.cells #[.slice ao ks.length cap] 48)) := by
  have bA : Below W.heap.size W (W.alloc (.cells #[.slice ao ks.length cap] 48)) := (Below.refl _ _).alloc (Nat.le_refl _) _
  exact ⟨W.heap.size, ao, cap, ks, rfl, Blk.made W _ _, h1.below bA, h2, h3, ⟨h4.size, h5⟩, h4.trans (bA.mono h4.size)⟩
theorem all_any (w : World) (z b : Nat) (S : List (List UInt8)) (h : SetAt w z b S) (hn : S.length ≤ 4398046510976) : Calls Try.prog 16 #[.pointer (some ⟨z, 0, none⟩)] w (AllC w S) := by
  have HR := hide (rising_any w z b S h hn)
  clear h
  go_enter Try.func16, Try.ntmps16
  go_wp2_with (go_at_call 44; refine HR.out.mono ?_; rintro e w1 ⟨v, rfl, h4⟩; obtain ⟨ao, cap, ks, hv, k1, k2, k3⟩ := h4.row; have HE := hide (allC_of (cap := cap) k1 k2 k3 h4.bel (fun a e => h4.fr a _ _ (by rw [hv, e]))); subst hv; clear h4 k1 k2 k3)
  go_ret
  exact HE.out
theorem all_nil (w : World) : Calls Try.prog 16 #[.pointer none] w (AllC w []) := by
  have HR : Hid (Calls Try.prog 44 #[.pointer none] w fun e W => e = .returned (.slice none 0 0) ∧ W = w) := hide (by
    go_enter Try.func44, Try.ntmps44
    go_wp2
    go_ret
    exact ⟨rfl, rfl⟩)
  have HE := hide (allC_of (w := w) (W := w) (S := []) (ao := none) (cap := 0) (ks := []) ⟨fun i hi => absurd hi (Nat.not_lt_zero _), fun k hk => (by cases hk)⟩ List.Pairwise.nil (fun x => ⟨fun h => (by cases h), fun h => (by cases h.2)⟩) (Below.refl _ _) (fun a e => by cases e))
  go_enter Try.func16, Try.ntmps16
  go_wp2_with (go_at_call 44; refine HR.out.mono ?_; rintro e w1 ⟨rfl, hw⟩; rw [hw]; clear hw)
  go_ret
  exact HE.out
end Go.Proofs.Ytjmjnecobaoofaa
