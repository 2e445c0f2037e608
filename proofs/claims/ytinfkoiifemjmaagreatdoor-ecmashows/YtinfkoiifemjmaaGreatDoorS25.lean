/- Open -/
import Derived.Test.YtinfkoiifemjmaaGreatDoorS02
import Derived.Test.YtinfkoiifemjmaaGreatDoorRows
import Derived.ProofKit
import Derived.OpenShut
import Derived.ShutString
import Derived.ChangeOld
import Derived.SizedLaws
import Derived.ChangeSame
namespace Go.Proofs.YtinfkoiifemjmaaGreatDoor
open Go.ChangeShapes Go.WideShapes Go.ChangeAt Go.RowKit
open Go.ChangeMaps (open_string shut_string)

theorem own : ownKnob Tryz.prog.godebug = none := by kernel_rfl
end Go.Proofs.YtinfkoiifemjmaaGreatDoor
