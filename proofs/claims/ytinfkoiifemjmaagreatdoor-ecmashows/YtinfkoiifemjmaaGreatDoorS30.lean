/- EKn -/
import Derived.Test.YtinfkoiifemjmaaGreatDoorS06
import Derived.Test.YtinfkoiifemjmaaGreatDoorS17
import Derived.Test.YtinfkoiifemjmaaGreatDoorS13
namespace Go.Proofs.YtinfkoiifemjmaaGreatDoor
open Go.RowKit
set_option linter.unusedVariables false

end Go.Proofs.YtinfkoiifemjmaaGreatDoor
