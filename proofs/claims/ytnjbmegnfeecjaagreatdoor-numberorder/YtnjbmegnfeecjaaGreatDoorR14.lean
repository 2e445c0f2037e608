/- RefD -/
import Derived.Test.YtnjbmegnfeecjaaGreatDoorR03
import Derived.Deep.QuietTactic
import Derived.BigQuiet
namespace Go.Proofs.YtnjbmegnfeecjaaGreatDoor
open Go.RowKit

theorem b_val_set {zs : List Int} {i : Nat} (hi : i < zs.length) (q : Int) : Nb.val (zs.set i q) = Nb.val zs + (q - Nt.lb zs i) * Nb.pw i := by
  have : ∀ n, i < n → Nb.vt (zs.set i q) n = Nb.vt zs n + (q - Nt.lb zs i) * Nb.pw i := by
    intro n
    induction n with
    | zero => intro h; omega
    | succ n ih =>
      intro h
      rw [Nb.vt_succ, Nb.vt_succ]
      by_cases e : i = n
      · subst e; rw [Nb.vt_set (Nat.le_refl _), Nt.lb_set_eq hi, Int.sub_mul]; omega
      · rw [Nt.lb_set_ne e, ih (by omega)]; omega
  unfold Nb.val
  rw [List.length_set]
  exact this _ hi

/-- a byte laid, the rest carried on -/
theorem lay_step {zs : List Int} {p : Nat} {c d : Int} (hp : p < zs.length) :
    Nb.val (zs.set p ((Nt.lb zs p + d + c) % 256)) + (Nt.lb zs p + d + c) / 256 * Nb.pw (p + 1) = Nb.val zs + c * Nb.pw p + d * Nb.pw p := by
  rw [b_val_set hp, Nb.pw_succ]
  have e := byte_step (V := Nb.val zs) (x := Nt.lb zs p + d + c) (P := Nb.pw p)
  rw [Int.sub_mul]
  rw [Int.add_mul, Int.add_mul] at e
  omega
theorem mul_lt {a b P Q : Int} (ha : 0 ≤ a ∧ a < P) (hb : 0 ≤ b ∧ b < Q) : a * b < P * Q := by
  have h1 : a * b ≤ a * Q := Int.mul_le_mul_of_nonneg_left (by omega) ha.1
  have h2 : (a + 1) * Q ≤ P * Q := Int.mul_le_mul_of_nonneg_right (by omega) (by omega)
  rw [Int.add_mul] at h2
  omega
theorem byte_prod {x y : Int} (hx : 0 ≤ x ∧ x < 256) (hy : 0 ≤ y ∧ y < 256) : 0 ≤ x * y ∧ x * y ≤ 65025 := by
  refine ⟨Int.mul_nonneg hx.1 hy.1, ?_⟩
  have h1 : x * y ≤ 255 * y := Int.mul_le_mul_of_nonneg_right (by omega) hy.1
  omega

theorem heap_drewN (w : World) (n : Nat) : (w.drewN n).heap = w.heap := by
  induction n with
  | zero => rfl
  | succ n ih => exact ih
theorem row_drewN {k : IntKind} {E : TypeId} {w : World} {n g : Nat} {zs : List Int} : Row k E (w.drewN n) g zs = Row k E w g zs := by
  unfold Row; rw [heap_drewN]
theorem below_drewN' {B : Nat} {a w : World} {n : Nat} (h : Below B a w) : Below B a (w.drewN n) := by
  induction n with
  | zero => exact h
  | succ n ih => exact ih.drew

end Go.Proofs.YtnjbmegnfeecjaaGreatDoor
