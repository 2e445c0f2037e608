/- RefF -/
import Derived.Test.YtjigofmcflmelaaGreatDoorC16
import Derived.Deep.RegionHeld3
import Derived.Deep.AppendLies
namespace Go.Proofs.YtjigofmcflmelaaGreatDoor
open Go.RowKit

end Go.Proofs.YtjigofmcflmelaaGreatDoor
