/- RefE -/
import Derived.Test.YtnjbmegnfeecjaaGreatDoorR14
import Derived.Test.YtnjbmegnfeecjaaGreatDoorR06
namespace Go.Proofs.YtnjbmegnfeecjaaGreatDoor
open Go.RowKit

theorem b_lb_pad (W : Nat) (ys : List Int) (i : Nat) : Nt.lb (List.replicate W 0 ++ ys) (W + i) = Nt.lb ys i := lb_pad W ys i
theorem b_vt_pad (W : Nat) (ys : List Int) (m : Nat) : Nb.vt (List.replicate W 0 ++ ys) (W + m) = Nb.vt ys m * Nb.pw W := by
  induction m with
  | zero =>
    rw [Nat.add_zero, Nb.vt_cut (k := 0) (by omega) (fun i _ h => lb_pad_low W ys h)]; simp [Nb.vt]
  | succ m ih => rw [← Nat.add_assoc, Nb.vt_succ, ih, lb_pad, Nb.vt_succ, Nb.pw_add, Int.add_mul, Int.mul_comm (Nb.pw W), Int.mul_assoc]
theorem b_val_pad (W : Nat) (ys : List Int) : Nb.val (List.replicate W 0 ++ ys) = Nb.val ys * Nb.pw W := by
  unfold Nb.val
  rw [List.length_append, List.length_replicate]
  exact b_vt_pad W ys _
theorem b_ok_pad {ys : List Int} (W : Nat) (h : Nb.Ok ys) : Nb.Ok (List.replicate W 0 ++ ys) := by
  intro i
  by_cases h1 : i < W
  · rw [lb_pad_low W ys h1]; omega
  · obtain ⟨j, rfl⟩ : ∃ j, i = W + j := ⟨i - W, by omega⟩
    rw [lb_pad]; exact h j

theorem b_canon_pos {xs : List Int} (h : 0 < Nb.val xs) : 0 < xs.length := by
  rcases Nat.eq_zero_or_pos xs.length with h0 | h0
  · rw [List.eq_nil_of_length_eq_zero h0, Nb.val_nil] at h; omega
  · exact h0

theorem owns_drewN {w : World} {n : Nat} {B : Nat} {E : TypeId} {sz : Nat} {v : Value} {m : Nat} {xs : List Value} (h : w.ownsRow B E sz v m xs) : (w.drewN n).ownsRow B E sz v m xs := by
  induction n with
  | zero => exact h
  | succ n ih => exact ih.drew

end Go.Proofs.YtnjbmegnfeecjaaGreatDoor
