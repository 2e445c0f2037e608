/- IRefR, IRefRS, IRefRD, IRefT, IRefF -/
import Derived.Test.YtjigofmcflmelaaGreatDoorC03
import Derived.Test.YtjigofmcflmelaaGreatDoorC17
import Derived.Test.YtjigofmcflmelaaGreatDoorC18
import Derived.Test.YtjigofmcflmelaaGreatDoorC09
namespace Go.Proofs.YtjigofmcflmelaaGreatDoor
open Go.RowKit
set_option linter.unusedVariables false

def RoundIs (S F L I : Int) (neg : Bool) (A : Int) (more : Bool) (e : Int) (x : Ending) : Prop :=
  ∃ r A' e' mb', x = .returned (.int .u64 (r + b2i neg * S)) ∧ Near F L I (2 * A' + b2i' mb') (e' - 1) r ∧ Stick A more e A' mb' e'
end Go.Proofs.YtjigofmcflmelaaGreatDoor

namespace Go.Proofs.YtjigofmcflmelaaGreatDoor
open Go.RowKit
set_option linter.unusedVariables false

end Go.Proofs.YtjigofmcflmelaaGreatDoor

namespace Go.Proofs.YtjigofmcflmelaaGreatDoor
open Go.RowKit
set_option linter.unusedVariables false

end Go.Proofs.YtjigofmcflmelaaGreatDoor

namespace Go.Proofs.YtjigofmcflmelaaGreatDoor
open Go.RowKit
set_option linter.unusedVariables false

theorem rtwo1_d (w : World) : Calls Tryz.prog 130 #[.int .i64 51] w fun e w' => e = .returned (.int .u64 2251799813685248) ∧ w' = w := by
  have := rtwo_any w 51 (by decide)
  rwa [show p2 51 = 2251799813685248 from by decide] at this
theorem rNaN_d (w : World) : Calls Tryz.prog 39 #[.int .i64 64] w fun e w' => e = .returned (.int .u64 9221120237041090560) ∧ Below w.heap.size w w' := by
  have hf := shape_field0_d
  go_enter Tryz.func39, Tryz.ntmps39
  go_wp2_with fail
  with_reducible refine (rInf_d _).mono ?_
  rintro x w1 ⟨rfl, K⟩
  go_wp2_with fail
  with_reducible refine (rOf_d _).mono ?_
  rintro x w2 ⟨rfl, kb⟩
  go_wp2_with fail
  with_reducible refine (rtwo1_d _).mono ?_
  rintro x w3 ⟨rfl, rfl⟩
  go_wp2
  go_ret
  exact ⟨rfl, below_trans K kb⟩

end Go.Proofs.YtjigofmcflmelaaGreatDoor

namespace Go.Proofs.YtjigofmcflmelaaGreatDoor
open Go.RowKit
set_option linter.unusedVariables false

end Go.Proofs.YtjigofmcflmelaaGreatDoor
