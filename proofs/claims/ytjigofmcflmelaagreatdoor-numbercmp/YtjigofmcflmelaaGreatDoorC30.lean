/- NBkP -/
import Derived.Test.YtjigofmcflmelaaGreatDoorC26
import Derived.Test.YtjigofmcflmelaaGreatDoorC20
namespace Go.Proofs.YtjigofmcflmelaaGreatDoor
open Go.RowKit
set_option linter.unusedVariables false

end Go.Proofs.YtjigofmcflmelaaGreatDoor
