/- cmp.Compare, nat.Cmp -/
import Derived.Test.YtkaakhmncmpliaaTrim
import Derived.Deep.RegionWith
namespace Go.Proofs.Ytkaakhmncmpliaa
open Go.RowKit

/-- -1, 0, 1 -/
def sgn (x y : Int) : Int := if x < y then -1 else if y < x then 1 else 0
theorem sgn_lt {x y : Int} (h : x < y) : sgn x y = -1 := by simp [sgn, h]
theorem sgn_gt {x y : Int} (h : y < x) : sgn x y = 1 := by unfold sgn; rw [if_neg (by omega), if_pos h]
theorem sgn_eq {x y : Int} (h : x = y) : sgn x y = 0 := by subst h; simp [sgn]

end Go.Proofs.Ytkaakhmncmpliaa
