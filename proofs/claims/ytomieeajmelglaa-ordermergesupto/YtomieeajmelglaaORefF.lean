/- the reference's Search; same, of two lists that are one -/
import Derived.Test.YtomieeajmelglaaONil
namespace Go.Proofs.Ytomieeajmelglaa
open Go.RowKit Go.Shelf
set_option linter.unusedVariables false
set_option linter.unusedSimpArgs false

theorem fst12_at {o : Int} {s : List It} {x : It} {k : Nat} (h1 : ∀ j, j < k → ocmp o (s[j]?.getD (0, 0)) x < 0) (hk : k < s.length) (h2 : ¬ ocmp o (s[k]?.getD (0, 0)) x < 0) : fst12 o s x = k := by
  unfold fst12
  rw [List.findIdx_eq hk]
  simp only [hk, List.getElem?_eq_getElem, Option.getD_some] at h2
  refine ⟨by simpa using h2, fun j hj => ?_⟩
  have := h1 j hj
  have hjl : j < s.length := by omega
  simp only [hjl, List.getElem?_eq_getElem, Option.getD_some] at this
  simpa using this
theorem fst12_end {o : Int} {s : List It} {x : It} (h1 : ∀ j, j < s.length → ocmp o (s[j]?.getD (0, 0)) x < 0) : fst12 o s x = s.length := by
  unfold fst12
  rw [List.findIdx_eq_length]
  intro a ha
  obtain ⟨j, hj, rfl⟩ := List.getElem_of_mem ha
  have := h1 j hj
  simp only [hj, List.getElem?_eq_getElem, Option.getD_some] at this
  simpa using this

end Go.Proofs.Ytomieeajmelglaa
