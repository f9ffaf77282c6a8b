/- What the walk leaves alone (no rows of bytes in this seat). -/
import Derived.Test.YtiogblfdchdioaaChecked
import Derived.Test.YtiogblfdchdioaaSM
import Derived.Deep.WholeRow
import Derived.Deep.OwnRows
import Derived.Laws.CopyOwn
import Derived.Maps.AppendAt
import Derived.Deep.MidRow
namespace Go.Proofs.Ytiogblfdchdioaa
set_option linter.unusedVariables false
set_option linter.unusedSimpArgs false
open Go.RowKit
theorem hide {p : Prop} (h : p) : Hid p := h
end Go.Proofs.Ytiogblfdchdioaa
