/- order.Unique, plain: what is left of a list when the places that repeats tells are cut out -/
import Derived.Test.YtomieeajmelglaaORep
namespace Go.Proofs.Ytomieeajmelglaa
set_option linter.unusedVariables false

theorem reps_gt {α : Type} (f : α → α → Int) : ∀ (xs : List α) (k : Nat), ∀ x ∈ reps f k xs, k < x ∧ x < k + xs.length
  | [], k, x, h => by simp [reps] at h
  | [a], k, x, h => by simp [reps] at h
  | a :: b :: t, k, x, h => by
    have ih := reps_gt f (b :: t) (k + 1) x
    simp only [List.length_cons] at ih ⊢
    unfold reps at h
    split at h
    · rcases List.mem_cons.1 h with rfl | h
      · omega
      · have := ih h
        omega
    · have := ih h
      omega
theorem reps_inc {α : Type} (f : α → α → Int) : ∀ (xs : List α) (k : Nat), (reps f k xs).Pairwise (· < ·)
  | [], k => by simp [reps]
  | [a], k => by simp [reps]
  | a :: b :: t, k => by
    have ih := reps_inc f (b :: t) (k + 1)
    unfold reps
    split
    · exact List.pairwise_cons.2 ⟨fun x h => (reps_gt f _ _ x h).1, ih⟩
    · exact ih
/-- what is kept, and where the next begins -/
def unqS {α : Type} (xs : List α) (s : List α × Nat) (i : Nat) : List α × Nat := (s.1 ++ (xs.take i).drop s.2, i + 1)
def unq {α : Type} (f : α → α → Int) (xs : List α) : List α := ((reps f 0 xs).foldl (unqS xs) ([], 0)).1 ++ xs.drop ((reps f 0 xs).foldl (unqS xs) ([], 0)).2
theorem unqS_inv {α : Type} (xs : List α) : ∀ (p : List Nat), p.Pairwise (· < ·) → (∀ x ∈ p, x < xs.length) → (p.foldl (unqS xs) ([], 0)).2 ≤ xs.length ∧ (p.foldl (unqS xs) ([], 0)).1.length ≤ (p.foldl (unqS xs) ([], 0)).2 ∧ ∀ x, (∀ y ∈ p, y < x) → (p.foldl (unqS xs) ([], 0)).2 ≤ x := by
  intro p
  induction hp : p.length generalizing p with
  | zero =>
    intro _ _
    obtain rfl := List.eq_nil_of_length_eq_zero hp
    simp
  | succ n ih =>
    intro h1 h2
    have hne : p ≠ [] := by intro e; subst e; simp at hp
    obtain ⟨q, y, rfl⟩ : ∃ q y, p = q ++ [y] := ⟨p.dropLast, p.getLast hne, (List.dropLast_concat_getLast hne).symm⟩
    obtain ⟨g1, g2, g3⟩ := List.pairwise_append.1 h1
    obtain ⟨i1, i2, i3⟩ := ih q (by simp at hp; omega) g1 (fun x h => h2 x (by simp [h]))
    have hy : y < xs.length := h2 y (by simp)
    have i4 := i3 y (fun z hz => g3 z hz y (by simp))
    rw [List.foldl_append]
    simp only [List.foldl_cons, List.foldl_nil, unqS, List.length_append, List.length_drop, List.length_take]
    refine ⟨by omega, by omega, fun x hx => ?_⟩
    have := hx y (by simp)
    omega
/-- at the next place that is told -/
theorem unqS_at {α : Type} {f : α → α → Int} {xs : List α} {p : List Nat} {x : Nat} (h : p ++ [x] <+: reps f 0 xs) : x < xs.length ∧ (p.foldl (unqS xs) ([], 0)).2 ≤ x ∧ (p.foldl (unqS xs) ([], 0)).1.length ≤ (p.foldl (unqS xs) ([], 0)).2 := by
  have hP := (reps_inc f xs 0).sublist h.sublist
  obtain ⟨g1, g2, g3⟩ := List.pairwise_append.1 hP
  have hm : ∀ y ∈ p ++ [x], y < xs.length := fun y hy => by have := (reps_gt f xs 0 y (h.subset hy)).2; omega
  obtain ⟨i1, i2, i3⟩ := unqS_inv xs p g1 (fun y hy => hm y (by simp [hy]))
  exact ⟨hm x (by simp), i3 x (fun z hz => g3 z hz x (by simp)), i2⟩
theorem unqS_end {α : Type} (f : α → α → Int) (xs : List α) : ((reps f 0 xs).foldl (unqS xs) ([], 0)).2 ≤ xs.length ∧ ((reps f 0 xs).foldl (unqS xs) ([], 0)).1.length ≤ ((reps f 0 xs).foldl (unqS xs) ([], 0)).2 := by
  obtain ⟨i1, i2, _⟩ := unqS_inv xs _ (reps_inc f xs 0) (fun y hy => by have := (reps_gt f xs 0 y hy).2; omega)
  exact ⟨i1, i2⟩

end Go.Proofs.Ytomieeajmelglaa
