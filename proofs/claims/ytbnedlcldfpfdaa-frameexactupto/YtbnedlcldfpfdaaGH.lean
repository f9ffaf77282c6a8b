/- Bytes, and what the walk leaves alone. -/
import Derived.Test.YtbnedlcldfpfdaaSB
namespace Go.Proofs.Ytbnedlcldfpfdaa
set_option linter.unusedVariables false
set_option linter.unusedSimpArgs false
end Go.Proofs.Ytbnedlcldfpfdaa
