/- Bytes, and what the walk leaves alone. -/
import Derived.Test.YtamajnaeladehaaDoorSB
namespace Go.Proofs.YtamajnaeladehaaDoor
set_option linter.unusedVariables false
set_option linter.unusedSimpArgs false
end Go.Proofs.YtamajnaeladehaaDoor
