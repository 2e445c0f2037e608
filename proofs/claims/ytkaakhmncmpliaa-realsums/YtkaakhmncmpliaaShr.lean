/- nat.Shr -/
import Derived.Test.YtkaakhmncmpliaaShl
namespace Go.Proofs.Ytkaakhmncmpliaa
open Go.RowKit

theorem vt_drop (xs : List Int) (W m : Nat) : Nt.vt xs (W + m) = Nt.vt xs W + Nt.vt (xs.drop W) m * Nt.pw W := by
  induction m with
  | zero => simp [Nt.vt]
  | succ m ih =>
    have e : Nt.lb (xs.drop W) m = Nt.lb xs (W + m) := by simp [Nt.lb, List.getElem?_drop]
    rw [← Nat.add_assoc, Nt.vt_succ, ih, Nt.vt_succ, e, Nt.pw_add, Int.add_mul, Int.mul_comm (Nt.pw W), Int.mul_assoc]
    omega
theorem val_drop {xs : List Int} {W : Nat} (h : W ≤ xs.length) : Nt.val xs = Nt.vt xs W + Nt.val (xs.drop W) * Nt.pw W := by
  have := vt_drop xs W (xs.length - W)
  rw [show W + (xs.length - W) = xs.length by omega] at this
  unfold Nt.val
  rw [List.length_drop]
  exact this
theorem ok_drop {xs : List Int} (h : Nt.Ok xs) (W : Nat) : Nt.Ok (xs.drop W) := by
  intro i
  have e : Nt.lb (xs.drop W) i = Nt.lb xs (W + i) := by simp [Nt.lb, List.getElem?_drop]
  rw [e]; exact h _

/-- what is shifted farther than its length -/
theorem far_lt {xs : List Int} {N W s : Nat} (hx : Nt.Ok xs) (hN : N = 32 * W + s) (hW : xs.length ≤ W) : Nt.val xs < p2 N := by
  have h1 := Nt.val_lt hx
  have h2 := Nt.pw_mono hW
  have h3 := p2_mono (m := 32 * W) (n := N) (by omega)
  rw [p2_32] at h3
  omega

theorem splice_over {α : Type} (L cs : List α) (h : L.length = cs.length) : splice L 0 cs = cs := by
  simp [splice, ← h]

end Go.Proofs.Ytkaakhmncmpliaa
