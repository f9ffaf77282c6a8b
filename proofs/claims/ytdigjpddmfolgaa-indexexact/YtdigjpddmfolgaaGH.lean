/- Bytes, and what the walk leaves alone. -/
import Derived.Test.YtdigjpddmfolgaaSB
namespace Go.Proofs.Ytdigjpddmfolgaa
set_option linter.unusedVariables false
set_option linter.unusedSimpArgs false
end Go.Proofs.Ytdigjpddmfolgaa
