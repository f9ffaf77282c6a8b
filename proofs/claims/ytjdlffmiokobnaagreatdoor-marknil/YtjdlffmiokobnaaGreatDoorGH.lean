/- Bytes, and what the walk leaves alone. -/
import Derived.Test.YtjdlffmiokobnaaGreatDoorSB
namespace Go.Proofs.YtjdlffmiokobnaaGreatDoor
set_option linter.unusedVariables false
set_option linter.unusedSimpArgs false
end Go.Proofs.YtjdlffmiokobnaaGreatDoor
