/- what Sort answers: the same elements, pairwise in order (plain) -/
import Derived.Test.YtomieeajmelglaaOSortN
namespace Go.Proofs.Ytomieeajmelglaa
set_option linter.unusedVariables false

theorem mrg_perm {α : Type} (f : α → α → Int) (xs ys : List α) : (mrg f xs ys).Perm (xs ++ ys) := by
  fun_induction mrg f xs ys with
  | case1 ys => exact List.Perm.refl _
  | case2 x xs => simp
  | case3 x xs y ys h ih =>
    refine (List.Perm.cons y ih).trans ?_
    exact (List.perm_middle (a := y) (l₁ := x :: xs) (l₂ := ys)).symm
  | case4 x xs y ys h ih => exact List.Perm.cons x ih
theorem two_take {α : Type} (xs : List α) (s : Nat) : xs.take s ++ ((xs.drop s).take s ++ xs.drop (2 * s)) = xs := by
  rw [show 2 * s = s + s by omega, ← List.drop_drop, List.take_append_drop, List.take_append_drop]
theorem runs_perm {α : Type} (f : α → α → Int) (s : Nat) (xs : List α) : (runs f s xs).Perm xs := by
  fun_induction runs f s xs with
  | case1 xs h => exact List.Perm.refl _
  | case2 xs h ih =>
    have e := two_take xs s
    conv => rhs; rw [← e, ← List.append_assoc]
    exact (mrg_perm f _ _).append ih
theorem srt_perm {α : Type} (f : α → α → Int) (s : Nat) (xs : List α) : (srt f s xs).Perm xs := by
  fun_induction srt f s xs with
  | case1 s xs h ih => exact ih.trans (runs_perm f s xs)
  | case2 s xs h => exact List.Perm.refl _

/-- what a merge leans on -/
def Apt {α : Type} (f : α → α → Int) (R : α → α → Prop) (x y : α) : Prop := (f y x < 0 → R y x) ∧ (¬ f y x < 0 → R x y)
theorem mrg_pw {α : Type} {f : α → α → Int} {R : α → α → Prop} (tr : ∀ a b c, R a b → R b c → R a c) {xs ys : List α} (hx : xs.Pairwise R) (hy : ys.Pairwise R) (hs : ∀ x ∈ xs, ∀ y ∈ ys, Apt f R x y) : (mrg f xs ys).Pairwise R := by
  fun_induction mrg f xs ys with
  | case1 ys => exact hy
  | case2 x xs => exact hx
  | case3 x xs y ys h ih =>
    have h1 : R y x := (hs x (by simp) y (by simp)).1 h
    refine List.pairwise_cons.2 ⟨fun z hz => ?_, ih hx (List.pairwise_cons.1 hy).2 (fun a ha b hb => hs a ha b (List.mem_cons_of_mem _ hb))⟩
    rcases mem_mrg.1 hz with hz | hz
    · rcases List.mem_cons.1 hz with rfl | hz
      · exact h1
      · exact tr _ _ _ h1 ((List.pairwise_cons.1 hx).1 z hz)
    · exact (List.pairwise_cons.1 hy).1 z hz
  | case4 x xs y ys h ih =>
    have h1 : R x y := (hs x (by simp) y (by simp)).2 h
    refine List.pairwise_cons.2 ⟨fun z hz => ?_, ih (List.pairwise_cons.1 hx).2 hy (fun a ha b hb => hs a (List.mem_cons_of_mem _ ha) b hb)⟩
    rcases mem_mrg.1 hz with hz | hz
    · exact (List.pairwise_cons.1 hx).1 z hz
    · rcases List.mem_cons.1 hz with rfl | hz
      · exact h1
      · exact tr _ _ _ h1 ((List.pairwise_cons.1 hy).1 z hz)
/-- runs of s, each in order; apt from run to run -/
inductive Blk {α : Type} (f : α → α → Int) (R : α → α → Prop) (s : Nat) : List α → Prop
  | nil : Blk f R s []
  | run (a b : List α) (ha : a.length ≤ s) (hb : b ≠ [] → a.length = s) (h1 : a.Pairwise R) (h2 : ∀ x ∈ a, ∀ y ∈ b, Apt f R x y) (h3 : Blk f R s b) : Blk f R s (a ++ b)
theorem blk_one {α : Type} {f : α → α → Int} {R : α → α → Prop} {xs : List α} (h : xs.Pairwise (Apt f R)) : Blk f R 1 xs := by
  induction xs with
  | nil => exact .nil
  | cons x xs ih =>
    have := List.pairwise_cons.1 h
    exact Blk.run [x] xs (by simp) (by simp) (by simp) (fun a ha y hy => by rw [List.mem_singleton.1 ha]; exact this.1 y hy) (ih this.2)
theorem Blk.cut {α : Type} {f : α → α → Int} {R : α → α → Prop} {s : Nat} {xs : List α} (hs : 0 < s) (h : Blk f R s xs) : (xs.take s).Pairwise R ∧ (∀ x ∈ xs.take s, ∀ y ∈ xs.drop s, Apt f R x y) ∧ Blk f R s (xs.drop s) := by
  cases h with
  | nil => simp; exact .nil
  | run a b ha hb h1 h2 h3 =>
    by_cases hbn : b = []
    · subst hbn
      rw [List.append_nil, List.take_of_length_le ha, List.drop_eq_nil_of_le ha]
      exact ⟨h1, fun x _ y hy => (by cases hy), .nil⟩
    · have e := hb hbn
      rw [← e, List.take_left, List.drop_left]
      exact ⟨h1, h2, by rw [e]; exact h3⟩
theorem runs_blk {α : Type} {f : α → α → Int} {R : α → α → Prop} (tr : ∀ a b c, R a b → R b c → R a c) {s : Nat} (hs : 0 < s) {xs : List α} (h : Blk f R s xs) : Blk f R (s * 2) (runs f s xs) := by
  fun_induction runs f s xs with
  | case1 xs h0 =>
    rcases h0 with rfl | rfl
    · exact .nil
    · omega
  | case2 xs h0 ih =>
    obtain ⟨p1, p2, p3⟩ := h.cut hs
    obtain ⟨q1, q2, q3⟩ := p3.cut hs
    rw [List.drop_drop, ← show 2 * s = s + s by omega] at q2 q3
    refine Blk.run _ _ ?_ ?_ (mrg_pw tr p1 q1 (fun x hx y hy => p2 x hx y (List.mem_of_mem_take hy))) ?_ (ih q3)
    · rw [mrg_len, List.length_take, List.length_take]; omega
    · intro hne
      have hl : (runs f s (xs.drop (2 * s))).length ≠ 0 := fun e => hne (List.eq_nil_of_length_eq_zero e)
      rw [runs_len, List.length_drop] at hl
      rw [mrg_len, List.length_take, List.length_take, List.length_drop]
      omega
    · intro x hx y hy
      rw [mem_runs] at hy
      rcases mem_mrg.1 hx with hx | hx
      · exact p2 x hx y (by rw [show 2 * s = s + s by omega, ← List.drop_drop] at hy; exact List.mem_of_mem_drop hy)
      · exact q2 x hx y hy
theorem srt_blk {α : Type} {f : α → α → Int} {R : α → α → Prop} (tr : ∀ a b c, R a b → R b c → R a c) {s : Nat} (hs : 0 < s) {xs : List α} (h : Blk f R s xs) : (srt f s xs).Pairwise R := by
  fun_induction srt f s xs with
  | case1 s xs h0 ih => exact ih (by omega) (runs_blk tr hs h)
  | case2 s xs h0 =>
    have := (h.cut hs).1
    rwa [List.take_of_length_le (by omega)] at this
/-- Sort: pairwise in order -/
theorem srt_pw {α : Type} {f : α → α → Int} {R : α → α → Prop} (tr : ∀ a b c, R a b → R b c → R a c) {xs : List α} (h : xs.Pairwise (Apt f R)) : (srt f 1 xs).Pairwise R := srt_blk tr (by omega) (blk_one h)

end Go.Proofs.Ytomieeajmelglaa
