/- Bytes, and what the walk leaves alone. -/
import Derived.Test.YtffoadmaihpgoaaSB
namespace Go.Proofs.Ytffoadmaihpgoaa
set_option linter.unusedVariables false
set_option linter.unusedSimpArgs false
end Go.Proofs.Ytffoadmaihpgoaa
