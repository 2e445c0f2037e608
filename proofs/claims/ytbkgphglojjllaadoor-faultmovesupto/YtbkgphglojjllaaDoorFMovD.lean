/- a place moved -/
import Derived.Test.YtbkgphglojjllaaDoorFMov
namespace Go.Proofs.YtbkgphglojjllaaDoor
open Go.RowKit
set_option linter.unusedVariables false

/-- the place moved -/
def oMv (o : Option (Int × ByteArray)) (n : Int) : Option (Int × ByteArray) := o.map fun q => (IntKind.i64.wrap (q.1 + n), q.2)
theorem oMv_S (o : Option (Int × ByteArray)) (n : Int) : oS (oMv o n) = oS o := by cases o <;> rfl
theorem oMv_B (o : Option (Int × ByteArray)) (n : Int) : oB (oMv o n) = oB o := by cases o <;> rfl
theorem oMv_A1 {o : Option (Int × ByteArray)} (n : Int) (h : oB o = true) : oA (oMv o n) = IntKind.i64.wrap (oA o + n) := by cases o with | none => cases h | some q => rfl
theorem oMv_A0 {o : Option (Int × ByteArray)} (n : Int) (h : oB o = false) : oA (oMv o n) = 0 := by cases o with | none => rfl | some q => cases h

end Go.Proofs.YtbkgphglojjllaaDoor
