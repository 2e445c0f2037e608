/- IeeeBack's walk (mk_iback.py) -/
import Derived.Test.YtmmkdihhcmcjjaaDoorIBack0
import Derived.Test.YtmmkdihhcmcjjaaDoorIBack1
import Derived.Test.YtmmkdihhcmcjjaaDoorIBack2
import Derived.Test.YtmmkdihhcmcjjaaDoorIBack3
namespace Go.Proofs.YtmmkdihhcmcjjaaDoor
open Go.RowKit

theorem iback_walk {w : World} (h : Lays w ∧ Brn w) (u : Int) (u0 : 0 ≤ u) (u1 : u < 256) (v : Int) (v0 : 0 ≤ v) (v1 : v < 256) (x : Int) (x0 : 0 ≤ x) (x1 : x < 18446744073709551616) :
    Calls Tryd.prog 6 #[.int .u8 u, .int .u8 v, .int .u64 x] w fun e w' => e = .returned (.bool true) ∧ Below w.heap.size w w' := by
  rcases (by omega : u % 4 = 0 ∨ u % 4 = 1 ∨ u % 4 = 2 ∨ u % 4 = 3) with j | j | j | j <;> rcases (by omega : v % 4 = 0 ∨ v % 4 = 1 ∨ v % 4 = 2 ∨ v % 4 = 3) with k | k | k | k
  · exact iback_0_0 h.1 h.2 u u0 u1 j v v0 v1 k x x0 x1
  · exact iback_0_1 h.1 h.2 u u0 u1 j v v0 v1 k x x0 x1
  · exact iback_0_2 h.1 h.2 u u0 u1 j v v0 v1 k x x0 x1
  · exact iback_0_3 h.1 h.2 u u0 u1 j v v0 v1 k x x0 x1
  · exact iback_1_0 h.1 h.2 u u0 u1 j v v0 v1 k x x0 x1
  · exact iback_1_1 h.1 h.2 u u0 u1 j v v0 v1 k x x0 x1
  · exact iback_1_2 h.1 h.2 u u0 u1 j v v0 v1 k x x0 x1
  · exact iback_1_3 h.1 h.2 u u0 u1 j v v0 v1 k x x0 x1
  · exact iback_2_0 h.1 h.2 u u0 u1 j v v0 v1 k x x0 x1
  · exact iback_2_1 h.1 h.2 u u0 u1 j v v0 v1 k x x0 x1
  · exact iback_2_2 h.1 h.2 u u0 u1 j v v0 v1 k x x0 x1
  · exact iback_2_3 h.1 h.2 u u0 u1 j v v0 v1 k x x0 x1
  · exact iback_3_0 h.1 h.2 u u0 u1 j v v0 v1 k x x0 x1
  · exact iback_3_1 h.1 h.2 u u0 u1 j v v0 v1 k x x0 x1
  · exact iback_3_2 h.1 h.2 u u0 u1 j v v0 v1 k x x0 x1
  · exact iback_3_3 h.1 h.2 u u0 u1 j v v0 v1 k x x0 x1

end Go.Proofs.YtmmkdihhcmcjjaaDoor
