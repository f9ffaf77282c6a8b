/- Two digests that differ. -/
import Derived.Test.YtbohbkjkcpncfaaDoorSP1
namespace Go.Proofs.YtbohbkjkcpncfaaDoor
set_option linter.unusedVariables false
set_option linter.unusedSimpArgs false


theorem ab_abc : (shaOf [97, 98] == shaOf [97, 98, 99]) = false := by kernel_rfl
end Go.Proofs.YtbohbkjkcpncfaaDoor
