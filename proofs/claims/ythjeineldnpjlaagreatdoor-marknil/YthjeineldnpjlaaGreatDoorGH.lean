/- Bytes, and what the walk leaves alone. -/
import Derived.Test.YthjeineldnpjlaaGreatDoorSB
namespace Go.Proofs.YthjeineldnpjlaaGreatDoor
set_option linter.unusedVariables false
set_option linter.unusedSimpArgs false
end Go.Proofs.YthjeineldnpjlaaGreatDoor
