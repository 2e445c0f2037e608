/- the reference's Twice; Search and Twice without an order -/
import Derived.Test.YtomieeajmelglaaOPlM
namespace Go.Proofs.Ytomieeajmelglaa
open Go.RowKit Go.Shelf
set_option linter.unusedVariables false
set_option linter.unusedSimpArgs false

theorem tw_is {o : Int} {l : List It} {k : Nat} (h : Rep o l k) (hn : ∀ j, j < k → ¬ Rep o l j) : tw (byF o) l = k := by
  rcases twice_spec o l with ⟨_, h2⟩ | ⟨j, e, hj, hm⟩
  · exact absurd h (h2 k)
  · rcases Nat.lt_trichotomy j k with h3 | h3 | h3
    · exact absurd hj (hn j h3)
    · rw [e, h3]
    · exact absurd h (hm k h3)
theorem tw_none {o : Int} {l : List It} (hn : ∀ j, ¬ Rep o l j) : tw (byF o) l = -1 := by
  rcases twice_spec o l with ⟨h, _⟩ | ⟨j, e, hj, hm⟩
  · exact h
  · exact absurd hj (hn j)

end Go.Proofs.Ytomieeajmelglaa
