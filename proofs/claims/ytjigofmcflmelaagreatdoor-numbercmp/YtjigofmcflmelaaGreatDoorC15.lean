/- RefD -/
import Derived.Test.YtjigofmcflmelaaGreatDoorC03
import Derived.Deep.QuietTactic
import Derived.BigQuiet
namespace Go.Proofs.YtjigofmcflmelaaGreatDoor
open Go.RowKit

theorem heap_drewN (w : World) (n : Nat) : (w.drewN n).heap = w.heap := by
  induction n with
  | zero => rfl
  | succ n ih => exact ih
theorem below_drewN' {B : Nat} {a w : World} {n : Nat} (h : Below B a w) : Below B a (w.drewN n) := by
  induction n with
  | zero => exact h
  | succ n ih => exact ih.drew

end Go.Proofs.YtjigofmcflmelaaGreatDoor
