/- Bytes, and what the walk leaves alone. -/
import Derived.Test.YtnknjcnbbljagaaSB
namespace Go.Proofs.Ytnknjcnbbljagaa
set_option linter.unusedVariables false
set_option linter.unusedSimpArgs false
end Go.Proofs.Ytnknjcnbbljagaa
