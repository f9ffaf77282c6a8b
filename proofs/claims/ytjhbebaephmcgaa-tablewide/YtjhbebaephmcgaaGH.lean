/- Bytes, and what the walk leaves alone. -/
import Derived.Test.YtjhbebaephmcgaaSB
namespace Go.Proofs.Ytjhbebaephmcgaa
set_option linter.unusedVariables false
set_option linter.unusedSimpArgs false
end Go.Proofs.Ytjhbebaephmcgaa
