/- TBulk -/
import Derived.Test.YtinfkoiifemjmaaGreatDoorS26
import Derived.Test.YtinfkoiifemjmaaGreatDoorS03
import Derived.LaidSub
import Derived.Deep.DeepHandedRow
namespace Go.Proofs.YtinfkoiifemjmaaGreatDoor
open Go.ChangeShapes Go.WideShapes Go.ChangeAt Go.RowKit Go.Deep
set_option linter.unusedVariables false

set_option maxRecDepth 100000 in
/-- the list's tables: two are asked -/
theorem lays_top {W : World} {l : List (String × DataW Unit)} (h : laidMetH Tryz.prog l W) (hl : (l.filter fun x => x.1 == "math/bits.deBruijn64tab" || x.1 == "crucible/ieee.layouts") = [("math/bits.deBruijn64tab", Rows.laid_math_bits_deBruijn64tab), ("crucible/ieee.layouts", Rows.laid_crucible_ieee_layouts)]) : Lays W ∧ Brn W := by
  have h2 := h.filter (fun x => x.1 == "math/bits.deBruijn64tab" || x.1 == "crucible/ieee.layouts")
  rw [hl] at h2
  exact lays_two h2

end Go.Proofs.YtinfkoiifemjmaaGreatDoor
