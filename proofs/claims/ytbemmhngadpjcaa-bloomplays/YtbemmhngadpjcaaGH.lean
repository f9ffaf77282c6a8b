/- A name for a fact that the walk leaves alone. -/
import Derived.Test.YtbemmhngadpjcaaChecked
import Derived.Test.YtbemmhngadpjcaaSM
namespace Go.Proofs.Ytbemmhngadpjcaa
set_option linter.unusedVariables false
set_option linter.unusedSimpArgs false
open Go.RowKit

theorem hide {p : Prop} (h : p) : Hid p := h
end Go.Proofs.Ytbemmhngadpjcaa
