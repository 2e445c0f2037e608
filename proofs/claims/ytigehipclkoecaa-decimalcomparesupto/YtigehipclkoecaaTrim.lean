/- nat.trim -/
import Derived.Test.YtigehipclkoecaaKit
namespace Go.Proofs.Ytigehipclkoecaa
open Go.RowKit

end Go.Proofs.Ytigehipclkoecaa
