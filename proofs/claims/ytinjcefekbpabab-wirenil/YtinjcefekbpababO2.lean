/- The document's Open of no bytes. -/
import Derived.Test.YtinjcefekbpababR7
namespace Go.Proofs.Ytinjcefekbpabab
set_option linter.unusedVariables false
set_option linter.unusedSimpArgs false
open Go.RowKit

def s0 : S := ⟨0, 0, 0⟩
def ROpenC (w : World) (xs : List UInt8) (e : Ending) (w' : World) : Prop :=
  ∃ rv, e = .returned (.pointer (some ⟨w.heap.size, 0, none⟩)) ∧ RefSt w' w.heap.size rv xs s0 ∧ Below w.heap.size w w' ∧ (∀ b cap, rv = .slice (some ⟨b, 0, none⟩) xs.length cap → w.heap.size < b)
theorem ropen_none (w : World) : Calls Try.prog 6 #[.slice none 0 0] w (ROpenC w []) := by
  go_enter Try.func6, Try.ntmps6
  go_wp2
  go_ret
  exact ⟨.slice none 0 0, rfl, ⟨⟨Nat.zero_le _, .inl ⟨rfl, rfl⟩⟩, Nat.zero_le _, Blk.made w _ _⟩, (Below.refl _ _).alloc (Nat.le_refl _) _, fun b cap e => by cases e⟩
end Go.Proofs.Ytinjcefekbpabab
