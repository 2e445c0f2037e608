/- crucibleref04: patterns (mk_ieeer.py) -/
import Derived.Test.YtfnfnkakaggmbabGreatDoorIeee
namespace Go.Proofs.YtfnfnkakaggmbabGreatDoor
open Go.RowKit

end Go.Proofs.YtfnfnkakaggmbabGreatDoor
