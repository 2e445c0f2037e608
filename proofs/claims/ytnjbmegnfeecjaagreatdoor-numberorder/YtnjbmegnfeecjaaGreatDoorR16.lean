/- IRefP -/
import Derived.Test.YtnjbmegnfeecjaaGreatDoorR04
import Derived.Test.YtnjbmegnfeecjaaGreatDoorR09
import Derived.Test.YtnjbmegnfeecjaaGreatDoorR15
namespace Go.Proofs.YtnjbmegnfeecjaaGreatDoor
open Go.RowKit
set_option linter.unusedVariables false

end Go.Proofs.YtnjbmegnfeecjaaGreatDoor
