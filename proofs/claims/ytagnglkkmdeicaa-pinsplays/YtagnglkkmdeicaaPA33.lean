/- PinsPlays: for every input the call returns true, and each argument reads afterwards as it read before. No condition. -/
import Derived.Test.YtagnglkkmdeicaaPA31
import Derived.Test.YtagnglkkmdeicaaPA23
namespace Go.Proofs.Ytagnglkkmdeicaa
set_option linter.unusedVariables false
set_option linter.unusedSimpArgs false
theorem pinsPlays_holds : Rows.PinsPlaysSaid := pinsPlays_of spoilt_any
#print axioms pinsPlays_holds
end Go.Proofs.Ytagnglkkmdeicaa
