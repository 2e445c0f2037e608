/- nat.Sub -/
import Derived.Test.YtmmkdihhcmcjjabGreatDoorLimb
import Derived.Test.YtmmkdihhcmcjjabGreatDoorCmp
import Derived.Test.YtmmkdihhcmcjjabGreatDoorSub32
import Derived.Deep.RegionWith
namespace Go.Proofs.YtmmkdihhcmcjjabGreatDoor
open Go.RowKit

/-- one round of a difference -/
theorem sub_step {xs ys zs : List Int} {k : Nat} {c : Int} (hk : k < zs.length)
    (h : Nt.vt zs k - c * Nt.pw k = Nt.vt xs k - Nt.vt ys k) :
    Nt.vt (zs.set k ((Nt.lb xs k - Nt.lb ys k - c) % 4294967296)) (k + 1) - (-((Nt.lb xs k - Nt.lb ys k - c) / 4294967296)) * Nt.pw (k + 1) = Nt.vt xs (k + 1) - Nt.vt ys (k + 1) := by
  rw [Nt.vt_succ, Nt.vt_set (Nat.le_refl _), Nt.lb_set_eq hk, Nt.vt_succ, Nt.vt_succ, Nt.pw_succ]
  have e : (Nt.lb xs k - Nt.lb ys k - c) % 4294967296 + 4294967296 * ((Nt.lb xs k - Nt.lb ys k - c) / 4294967296) = Nt.lb xs k - Nt.lb ys k - c := Int.emod_add_mul_ediv _ _
  generalize (Nt.lb xs k - Nt.lb ys k - c) % 4294967296 = r at *
  generalize (Nt.lb xs k - Nt.lb ys k - c) / 4294967296 = q at *
  have e2 : (r + 4294967296 * q) * Nt.pw k = (Nt.lb xs k - Nt.lb ys k - c) * Nt.pw k := by rw [e]
  rw [Int.add_mul, Int.sub_mul, Int.sub_mul, Int.mul_assoc] at e2
  rw [Int.neg_mul, Int.mul_left_comm q]
  generalize r * Nt.pw k = a1 at *
  generalize Nt.lb xs k * Nt.pw k = a2 at *
  generalize Nt.lb ys k * Nt.pw k = a3 at *
  generalize c * Nt.pw k = a4 at *
  generalize q * Nt.pw k = a5 at *
  omega

theorem arg_of_cells {w : World} {ao : Option Addr} {xs : List Int} (hm : xs.length ≤ maxLen) (hc : Cells .u32 w ao xs) (ho : Nt.Ok xs) : Arg w (.slice ao xs.length xs.length) (Nt.val xs) xs.length :=
  ⟨xs, ⟨ao, _, rfl, Nat.le_refl _, hm, hc⟩, ho, rfl, Nat.le_refl _⟩

end Go.Proofs.YtmmkdihhcmcjjabGreatDoor
