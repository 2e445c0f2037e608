/- crucibleref01: Add, Sub, Small -/
import Derived.Test.YtomjckginmjhmaaDoorRefB
import Derived.Deep.RegionWith
namespace Go.Proofs.YtomjckginmjhmaaDoor
open Go.RowKit

/-- one round of a sum, bytes -/
theorem badd_step {xs ys zs : List Int} {c : Int} (h : Nb.val zs + c * Nb.pw zs.length = Nb.vt xs zs.length + Nb.vt ys zs.length) :
    Nb.val (zs ++ [(Nt.lb xs zs.length + Nt.lb ys zs.length + c) % 256]) + (Nt.lb xs zs.length + Nt.lb ys zs.length + c) / 256 * Nb.pw (zs.length + 1) = Nb.vt xs (zs.length + 1) + Nb.vt ys (zs.length + 1) := by
  rw [Nb.val_snoc, Nb.pw_succ, byte_step, Nb.vt_succ, Nb.vt_succ, Int.add_mul, Int.add_mul]
  omega

/-- one round of a difference, bytes -/
theorem bsub_step {xs ys zs : List Int} {c D c' : Int} (hD : D - c' * 256 = Nt.lb xs zs.length - Nt.lb ys zs.length - c) (h : Nb.val zs - c * Nb.pw zs.length = Nb.vt xs zs.length - Nb.vt ys zs.length) :
    Nb.val (zs ++ [D]) - c' * Nb.pw (zs.length + 1) = Nb.vt xs (zs.length + 1) - Nb.vt ys (zs.length + 1) := by
  rw [Nb.val_snoc, Nb.pw_succ, Nb.vt_succ, Nb.vt_succ]
  have e2 : (D - c' * 256) * Nb.pw zs.length = (Nt.lb xs zs.length - Nt.lb ys zs.length - c) * Nb.pw zs.length := by rw [hD]
  rw [Int.sub_mul, Int.sub_mul, Int.sub_mul, Int.mul_assoc] at e2
  omega

theorem b_vt_set_add {zs : List Int} {i : Nat} (hi : i < zs.length) (h0 : Nt.lb zs i = 0) (q : Int) (n : Nat) (hn : i < n) : Nb.vt (zs.set i q) n = Nb.vt zs n + q * Nb.pw i := by
  induction n with
  | zero => omega
  | succ n ih =>
    rw [Nb.vt_succ, Nb.vt_succ]
    by_cases e : i = n
    · subst e; rw [Nb.vt_set (Nat.le_refl _), Nt.lb_set_eq hi, h0]; simp
    · rw [Nt.lb_set_ne e, ih (by omega)]; omega
theorem b_val_set_add {zs : List Int} {i : Nat} (hi : i < zs.length) (h0 : Nt.lb zs i = 0) (q : Int) : Nb.val (zs.set i q) = Nb.val zs + q * Nb.pw i := by
  unfold Nb.val
  rw [List.length_set]
  exact b_vt_set_add hi h0 q _ hi

theorem bsmall_step {xs zs : List Int} {m : Nat} {r d V : Int} (hm : m < zs.length) (h0 : Nt.lb zs m = 0) (h : V = Nb.vt xs (m + 1) + Nb.val zs * d + r * Nb.pw (m + 1)) :
    V = Nb.vt xs m + Nb.val (zs.set m ((r * 256 + Nt.lb xs m) / d)) * d + ((r * 256 + Nt.lb xs m) % d) * Nb.pw m := by
  rw [h, b_val_set_add hm h0, Nb.vt_succ, Nb.pw_succ]
  have e : (r * 256 + Nt.lb xs m) % d + d * ((r * 256 + Nt.lb xs m) / d) = r * 256 + Nt.lb xs m := Int.emod_add_mul_ediv _ _
  generalize (r * 256 + Nt.lb xs m) % d = s at *
  generalize (r * 256 + Nt.lb xs m) / d = q at *
  have e2 : (s + d * q) * Nb.pw m = (r * 256 + Nt.lb xs m) * Nb.pw m := by rw [e]
  rw [Int.add_mul, Int.add_mul] at e2
  rw [Int.add_mul, ← Int.mul_assoc r]
  have e3 : q * Nb.pw m * d = d * q * Nb.pw m := by rw [Int.mul_comm, ← Int.mul_assoc]
  rw [e3]
  omega

end Go.Proofs.YtomjckginmjhmaaDoor
