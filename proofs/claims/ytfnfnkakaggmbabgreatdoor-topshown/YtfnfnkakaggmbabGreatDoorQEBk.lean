/- ecma: what is shown of any pattern; finite -/
import Derived.Test.YtfnfnkakaggmbabGreatDoorQ27
import Derived.Test.YtfnfnkakaggmbabGreatDoorQ29
namespace Go.Proofs.YtfnfnkakaggmbabGreatDoor
open Go.RowKit
set_option linter.unusedVariables false

end Go.Proofs.YtfnfnkakaggmbabGreatDoor
