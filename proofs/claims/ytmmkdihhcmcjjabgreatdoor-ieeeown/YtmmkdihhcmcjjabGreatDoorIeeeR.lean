/- crucibleref04: patterns (mk_ieeer.py) -/
import Derived.Test.YtmmkdihhcmcjjabGreatDoorIeee
namespace Go.Proofs.YtmmkdihhcmcjjabGreatDoor
open Go.RowKit

end Go.Proofs.YtmmkdihhcmcjjabGreatDoor
