/- Keys: the zero one. -/
import Derived.Test.YtagnglkkmdeicaaKD0
import Derived.Test.YtagnglkkmdeicaaKP1
namespace Go.Proofs.Ytagnglkkmdeicaa
set_option linter.unusedVariables false
set_option linter.unusedSimpArgs false
open Go.RowKit

theorem KeyAt.set {w : World} {z : Nat} {bs : List UInt8} (h : KeyAt w z bs) (a : Addr) (v : Value) (hne : z ≠ a.block) : KeyAt (w.setCell a v) z bs := ⟨h.1.setOther a v hne, h.2⟩
theorem zero_key (W : World) : (zeroValue 30).run Try.prog W = .ok (.agg keyZ) W := by kernel_rfl
end Go.Proofs.Ytagnglkkmdeicaa
