/- nat.trim -/
import Derived.Test.YtkaakhmncmpliabKit
namespace Go.Proofs.Ytkaakhmncmpliab
open Go.RowKit

end Go.Proofs.Ytkaakhmncmpliab
