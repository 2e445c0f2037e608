/- what the laws of layer 2 call besides -/
import Derived.Test.YtlfkfeedopgfjacGreatDoorQLives
import Derived.Test.YtlfkfeedopgfjacGreatDoorTwin
namespace Go.Proofs.YtlfkfeedopgfjacGreatDoor
open Go.RowKit

theorem twin_arg {w : World} {va : Value} {n : Int} {k : Nat} (ha : Arg w va n k) (hk : k ≤ 1099511627776) :
    Calls Tryz.prog 12 #[va] w fun e w' => ∃ v, e = .returned v ∧ Arg w' v n k ∧ Below w.heap.size w w' := by
  obtain ⟨xs, hr, ho, hv, hl⟩ := ha
  refine (twin_any hr (by omega)).mono ?_
  rintro e w' ⟨v, rfl, ht, hb⟩
  exact ⟨v, rfl, ⟨xs, ht.reads, ho, hv, hl⟩, hb⟩

theorem isLen_zero : IsLen 0 0 := ⟨by decide, fun h => by omega⟩
theorem isLen_pos {n : Int} {k : Nat} (h : IsLen n k) (hn : 0 < n) : 0 < k := by
  rcases Nat.eq_zero_or_pos k with h0 | h0
  · subst h0; have h3 := h.1; simp only [p2] at h3; omega
  · exact h0
theorem sgn_self (n : Int) : sgn n n = 0 := by unfold sgn; simp

end Go.Proofs.YtlfkfeedopgfjacGreatDoor
