/- IRefR, IRefRS, IRefRD, IRefT -/
import Derived.Test.YtnjbmegnfeecjaaGreatDoorR03
import Derived.Test.YtnjbmegnfeecjaaGreatDoorR16
import Derived.Test.YtnjbmegnfeecjaaGreatDoorR17
import Derived.Test.YtnjbmegnfeecjaaGreatDoorR09
namespace Go.Proofs.YtnjbmegnfeecjaaGreatDoor
open Go.RowKit
set_option linter.unusedVariables false

end Go.Proofs.YtnjbmegnfeecjaaGreatDoor

namespace Go.Proofs.YtnjbmegnfeecjaaGreatDoor
open Go.RowKit
set_option linter.unusedVariables false

end Go.Proofs.YtnjbmegnfeecjaaGreatDoor

namespace Go.Proofs.YtnjbmegnfeecjaaGreatDoor
open Go.RowKit
set_option linter.unusedVariables false

end Go.Proofs.YtnjbmegnfeecjaaGreatDoor

namespace Go.Proofs.YtnjbmegnfeecjaaGreatDoor
open Go.RowKit
set_option linter.unusedVariables false

end Go.Proofs.YtnjbmegnfeecjaaGreatDoor
