/- A name for a fact that the walk leaves alone. -/
import Derived.Test.YtbemmhngadpjcabChecked
import Derived.Test.YtbemmhngadpjcabSM
namespace Go.Proofs.Ytbemmhngadpjcab
set_option linter.unusedVariables false
set_option linter.unusedSimpArgs false
open Go.RowKit

theorem hide {p : Prop} (h : p) : Hid p := h
end Go.Proofs.Ytbemmhngadpjcab
