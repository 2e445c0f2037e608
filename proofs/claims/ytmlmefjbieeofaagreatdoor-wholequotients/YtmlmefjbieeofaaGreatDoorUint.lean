/- nat.Uint -/
import Derived.Test.YtmlmefjbieeofaaGreatDoorLimb
namespace Go.Proofs.YtmlmefjbieeofaaGreatDoor
open Go.RowKit

theorem val_le_two {xs : List Int} (h : xs.length ≤ 2) : Nt.val xs = Nt.lb xs 1 * 4294967296 + Nt.lb xs 0 := by
  rw [← Nt.vt_out h]
  simp only [Nt.vt, Nt.pw]
  omega
theorem pw_two : Nt.pw 2 = 18446744073709551616 := by decide

end Go.Proofs.YtmlmefjbieeofaaGreatDoor
