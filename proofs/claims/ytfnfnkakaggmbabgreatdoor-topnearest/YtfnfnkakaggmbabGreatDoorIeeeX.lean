/- layoutOf and Round of a type of one's own (cruciblelaw07.mine) -/
import Derived.Test.YtfnfnkakaggmbabGreatDoorIeeeO
namespace Go.Proofs.YtfnfnkakaggmbabGreatDoor
open Go.RowKit

end Go.Proofs.YtfnfnkakaggmbabGreatDoor
