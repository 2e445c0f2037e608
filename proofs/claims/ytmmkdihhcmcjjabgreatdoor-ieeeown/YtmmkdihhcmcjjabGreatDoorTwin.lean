/- TwinNat, LeftNat -/
import Derived.Test.YtmmkdihhcmcjjabGreatDoorSame
namespace Go.Proofs.YtmmkdihhcmcjjabGreatDoor
open Go.RowKit

/-- a copy with a mark behind it -/
def Twin (B : Nat) (w : World) (v : Value) (xs : List Int) : Prop := ∃ g, v = .slice (some ⟨g, 0, none⟩) xs.length (xs.length + 1) ∧ B ≤ g ∧ xs.length + 1 ≤ maxLen ∧ Row .u32 54 w g (xs ++ [2148261425])
theorem Twin.below {B : Nat} {w w' : World} {v : Value} {xs : List Int} (h : Twin B w v xs) (hb : Below w.heap.size w w') : Twin B w' v xs := by
  obtain ⟨g, h1, h2, h3, h4⟩ := h
  exact ⟨g, h1, h2, h3, h4.keeps hb⟩
theorem Twin.reads {B : Nat} {w : World} {v : Value} {xs : List Int} (h : Twin B w v xs) : Reads .u32 w v xs := by
  obtain ⟨g, h1, _, h3, h4⟩ := h
  refine ⟨_, _, h1, by omega, h3, fun _ => ⟨g, 0, rfl, h4.lt, fun i hi => ?_⟩⟩
  rw [Nat.zero_add, h4.cell (by rw [List.length_append]; omega), lb_append_left hi]

theorem take_set_succ {xs zs : List Int} {k : Nat} (hk : k < xs.length) (hz : k < zs.length) (h : zs.take k = xs.take k) : (zs.set k (Nt.lb xs k)).take (k + 1) = xs.take (k + 1) := by
  rw [List.take_succ_eq_append_getElem (by simpa using hz), List.take_succ_eq_append_getElem hk, List.take_set_of_le (Nat.le_refl _), h]
  simp [Nt.lb, hk]

end Go.Proofs.YtmmkdihhcmcjjabGreatDoor
