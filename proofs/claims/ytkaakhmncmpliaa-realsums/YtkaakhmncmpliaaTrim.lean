/- nat.trim -/
import Derived.Test.YtkaakhmncmpliaaKit
namespace Go.Proofs.Ytkaakhmncmpliaa
open Go.RowKit

end Go.Proofs.Ytkaakhmncmpliaa
