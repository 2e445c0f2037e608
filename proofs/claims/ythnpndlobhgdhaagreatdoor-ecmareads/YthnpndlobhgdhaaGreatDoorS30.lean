/- EKn -/
import Derived.Test.YthnpndlobhgdhaaGreatDoorS06
import Derived.Test.YthnpndlobhgdhaaGreatDoorS17
import Derived.Test.YthnpndlobhgdhaaGreatDoorS13
namespace Go.Proofs.YthnpndlobhgdhaaGreatDoor
open Go.RowKit
set_option linter.unusedVariables false

/-- a tenth's pattern is the nearest one -/
theorem tenth_dv : DV 4503599627370496 (-1074) 9218868437227405312 (dg [48, 49]) (1 - (2 : Nat)) 4591870180066957722 := by
  unfold DV
  rw [show dg [48, 49] = 1 by decide]
  refine ⟨by decide, by decide, fun _ => ?_, fun _ => ?_⟩
  · rw [mid2_at (by decide) (by decide)]; unfold tn; decide +kernel
  · rw [show (4591870180066957722 - 1 : Int) = 4591870180066957721 by decide, mid2_at (by decide) (by decide)]; unfold tn; decide +kernel
theorem eRead {w : World} (T : Lays w) : Calls Tryz.prog 19 #[.string ⟨#[48, 46, 49]⟩] w fun e w' => e = .returned (.tuple #[.int .u64 4591870180066957722, .nilIface]) ∧ Below w.heap.size w w' := by
  have hsc : scG [48, 46, 49] 0 0 = (3, true) := by decide
  have HSC := hide (show ∀ W : World, _ from fun W => scan_any (w := W) (es := [48, 46, 49]) (s := ⟨#[48, 46, 49]⟩) (by intro x hx; simp at hx; omega) rfl (by simp))
  rw [hsc] at HSC
  have D01 : Dgt [48, 49] := fun y hy => by simp at hy; omega
  have HD := hide (show ∀ W : World, Lays W → _ from fun W TW => dread_d (w := W) (es := [48, 49]) (s := ⟨#[48, 49]⟩) (N := 2) (ng := false) (P := 1) TW D01.byt rfl rfl (by omega) (by omega) (by omega))
  clear hsc
  go_enter Tryz.func19, Tryz.ntmps19
  go_wp2_with fail
  refine (HSC.out _).mono ?_
  clear HSC
  rintro e w1 ⟨rfl, rfl⟩
  go_wp2_with fail
  refine eVal.mono ?_
  rintro e w2 ⟨rfl, b1⟩
  go_wp2_with fail
  refine (HD.out _ (T.below b1)).mono ?_
  clear HD
  rintro x w3 ⟨b2, ⟨h, rfl⟩ | ⟨h, r, rfl, hv⟩⟩
  · exact absurd D01 h
  have hr : r = 4591870180066957722 := dv_first wide_d hv tenth_dv
  subst hr
  clear hv h D01
  have b12 := below_trans b1 b2
  go_wp2_with fail
  refine (class_64 (T.below b12) 4591870180066957722 4591870180066957722 (by decide) (by decide) (by decide)).mono ?_
  rintro e w4 ⟨rfl, b3⟩
  rw [show cls 9223372036854775808 4503599627370496 4591870180066957722 = 3 by decide]
  have K := below_trans b12 b3
  clear b1 b2 b12 b3
  go_wp2
  go_ret2
  exact ⟨rfl, K⟩

end Go.Proofs.YthnpndlobhgdhaaGreatDoor
