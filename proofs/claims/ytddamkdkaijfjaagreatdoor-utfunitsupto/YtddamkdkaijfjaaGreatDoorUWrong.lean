/- the law's wrong -/
import Derived.Test.YtddamkdkaijfjaaGreatDoorUFrom
import Derived.Test.YtddamkdkaijfjaaGreatDoorURunes
import Derived.Test.YtddamkdkaijfjaaGreatDoorULives
namespace Go.Proofs.YtddamkdkaijfjaaGreatDoor
open Go.RowKit
set_option linter.unusedVariables false

end Go.Proofs.YtddamkdkaijfjaaGreatDoor
