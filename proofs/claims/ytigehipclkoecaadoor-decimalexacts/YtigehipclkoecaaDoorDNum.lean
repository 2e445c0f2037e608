/- decimal.numberOf -/
import Derived.Test.YtigehipclkoecaaDoorDStr
import Derived.Test.YtigehipclkoecaaDoorIeee
import Derived.Laws.RangeString
import Derived.Laws.RangeAny
import Derived.Deep.LoopGhost
import Derived.Handy
import Derived.Laws.ResultCell
import Derived.Deep.RegionHeld3
import Derived.Deep.Cut
namespace Go.Proofs.YtigehipclkoecaaDoor
open Go.RowKit
set_option linter.unusedVariables false

/-- the first and the last digit that is not 0, among the first i -/
def Ends (es : List Int) (N i : Nat) (f e : Int) : Prop :=
  (f = N ∧ e = 0 ∧ ∀ j, j < i → Nt.lb es j = 48) ∨
  (∃ a b : Nat, f = a ∧ e = b ∧ a < b ∧ b ≤ i ∧ Nt.lb es a ≠ 48 ∧ Nt.lb es (b - 1) ≠ 48 ∧ (∀ j, j < a → Nt.lb es j = 48) ∧ ∀ j, b ≤ j → j < i → Nt.lb es j = 48)
theorem ends_nought {es : List Int} {N i : Nat} {f e : Int} (h : Ends es N i f e) (h0 : Nt.lb es i = 48) : Ends es N (i + 1) f e := by
  rcases h with ⟨h1, h2, h3⟩ | ⟨a, b, h1, h2, h3, h4, h5, h6, h7, h8⟩
  · exact .inl ⟨h1, h2, fun j hj => by
      rcases Nat.lt_or_ge j i with g | g
      · exact h3 j g
      · rw [show j = i by omega]; exact h0⟩
  · exact .inr ⟨a, b, h1, h2, h3, by omega, h5, h6, h7, fun j hj hk => by
      rcases Nat.lt_or_ge j i with g | g
      · exact h8 j hj g
      · rw [show j = i by omega]; exact h0⟩
theorem ends_digit {es : List Int} {N i : Nat} {f e : Int} (hi : i < N) (h : Ends es N i f e) (h0 : Nt.lb es i ≠ 48) : Ends es N (i + 1) (min f i) (i + 1) := by
  rcases h with ⟨h1, h2, h3⟩ | ⟨a, b, h1, h2, h3, h4, h5, h6, h7, h8⟩
  · exact .inr ⟨i, i + 1, by omega, by omega, by omega, by omega, h0, by simpa using h0, h3, fun j hj hk => by omega⟩
  · exact .inr ⟨a, i + 1, by omega, by omega, by omega, by omega, h5, by simpa using h0, h7, fun j hj hk => by omega⟩

theorem not_dg {es : List Int} {i : Nat} (hi : i < es.length) (h : ¬ (48 ≤ Nt.lb es i ∧ Nt.lb es i ≤ 57)) : ¬ Dg es := fun hd => h (hd _ (lb_in hi))
theorem all_dg {es : List Int} (h : ∀ j, j < es.length → 48 ≤ Nt.lb es j ∧ Nt.lb es j ≤ 57) : Dg es := fun x hx => by
  obtain ⟨j, hj, rfl⟩ := List.getElem_of_mem hx
  rw [← lb_get hj]; exact h j hj

end Go.Proofs.YtigehipclkoecaaDoor
