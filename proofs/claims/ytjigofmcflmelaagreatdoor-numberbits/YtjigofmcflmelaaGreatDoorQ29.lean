/- NBkP -/
import Derived.Test.YtjigofmcflmelaaGreatDoorQ18
import Derived.Test.YtjigofmcflmelaaGreatDoorQ25
namespace Go.Proofs.YtjigofmcflmelaaGreatDoor
open Go.RowKit
set_option linter.unusedVariables false

end Go.Proofs.YtjigofmcflmelaaGreatDoor
