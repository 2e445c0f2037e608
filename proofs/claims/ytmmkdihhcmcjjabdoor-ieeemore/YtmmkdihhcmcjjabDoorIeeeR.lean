/- crucibleref04: patterns (mk_ieeer.py) -/
import Derived.Test.YtmmkdihhcmcjjabDoorIeee
namespace Go.Proofs.YtmmkdihhcmcjjabDoor
open Go.RowKit

end Go.Proofs.YtmmkdihhcmcjjabDoor
