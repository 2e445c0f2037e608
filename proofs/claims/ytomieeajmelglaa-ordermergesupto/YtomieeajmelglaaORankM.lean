/- the reference's places: how many are ahead (plain) -/
import Derived.Test.YtomieeajmelglaaOPlM
namespace Go.Proofs.Ytomieeajmelglaa
set_option linter.unusedVariables false

theorem mrg_map {α β : Type} {f : β → β → Int} {f' : α → α → Int} {g : α → β} (h : ∀ x y, f' x y = f (g x) (g y)) (xs ys : List α) : (mrg f' xs ys).map g = mrg f (xs.map g) (ys.map g) := by
  fun_induction mrg f' xs ys with
  | case1 ys => simp [mrg]
  | case2 x xs => simp [mrg]
  | case3 x xs y ys hlt ih => rw [List.map_cons, List.map_cons, List.map_cons, mrg, if_pos (by rw [← h]; exact hlt), ih]; rfl
  | case4 x xs y ys hlt ih => rw [List.map_cons, List.map_cons, List.map_cons, mrg, if_neg (by rw [← h]; exact hlt), ih]; rfl
theorem runs_map {α β : Type} {f : β → β → Int} {f' : α → α → Int} {g : α → β} (h : ∀ x y, f' x y = f (g x) (g y)) (s : Nat) (xs : List α) : (runs f' s xs).map g = runs f s (xs.map g) := by
  fun_induction runs f' s xs with
  | case1 xs h0 => rw [runs, dif_pos (by rcases h0 with rfl | h0; exact .inl rfl; exact .inr h0)]
  | case2 xs h0 ih =>
    have h1 : xs ≠ [] := fun e => h0 (.inl e)
    have h2 : s ≠ 0 := fun e => h0 (.inr e)
    rw [List.map_append, mrg_map h, ih, runs_step f (s := s) (xs := xs.map g) (by omega) (by simpa using h1)]
    simp [List.map_take, List.map_drop]
theorem srt_map {α β : Type} {f : β → β → Int} {f' : α → α → Int} {g : α → β} (h : ∀ x y, f' x y = f (g x) (g y)) (s : Nat) (xs : List α) : (srt f' s xs).map g = srt f s (xs.map g) := by
  fun_induction srt f' s xs with
  | case1 s xs h0 ih => rw [ih, runs_map h, ← srt_step f (by simpa using h0.1) h0.2]
  | case2 s xs h0 => rw [srt, dif_neg (by simpa using h0)]
/-- the numbers, sorted: what they number is the list, sorted -/
theorem nums_srt (o : Int) (l : List It) : (srt (byNo (byF o) l) 1 (upN l.length)).map (fun a => l[a.toNat]?.getD (0, 0)) = srt (byF o) 1 l := by
  rw [srt_map (f := byF o) (f' := byNo (byF o) l) (g := fun a : Int => l[a.toNat]?.getD (0, 0)) (fun x y => rfl)]
  congr 1
  unfold upN
  rw [List.map_map]
  apply List.ext_getElem
  · simp
  · intro i h1 h2
    simp [h2]
instance (o : Int) (l : List It) (a b : Int) : Decidable (nLt o l a b) := by unfold nLt; exact inferInstance
/-- how many are ahead of number i -/
def rnk (o : Int) (l : List It) (i : Nat) : Nat := (List.range l.length).countP (fun k => decide (ocmp o (l[k]?.getD (0, 0)) (l[i]?.getD (0, 0)) < 0 ∨ (ocmp o (l[k]?.getD (0, 0)) (l[i]?.getD (0, 0)) = 0 ∧ k < i)))
theorem rnk_at (o : Int) (l : List It) {p : Nat} (hp : p < (srt (byNo (byF o) l) 1 (upN l.length)).length) : rnk o l ((srt (byNo (byF o) l) 1 (upN l.length))[p]'hp).toNat = p := by
  have hpw := nums_pw o l
  have hpm := srt_perm (byNo (byF o) l) 1 (upN l.length)
  obtain ⟨ns, hns⟩ : ∃ ns, srt (byNo (byF o) l) 1 (upN l.length) = ns := ⟨_, rfl⟩
  simp only [hns] at hpw hpm hp ⊢
  have hm := upN_mem (hpm.mem_iff.1 (List.getElem_mem hp))
  have e1 : rnk o l (ns[p]).toNat = (upN l.length).countP (fun a => decide (nLt o l a ns[p])) := by
    unfold rnk upN
    rw [List.countP_map]
    apply List.countP_congr
    intro k hk
    simp only [Function.comp]
    rw [decide_eq_true_iff, decide_eq_true_iff]
    unfold nLt
    simp only [Int.toNat_natCast]
    constructor
    · rintro (h | ⟨h, h2⟩)
      · exact .inl (ocmp_lt.1 h)
      · exact .inr ⟨ocmp_eq.1 h, by omega⟩
    · rintro (h | ⟨h, h2⟩)
      · exact .inl (ocmp_lt.2 h)
      · exact .inr ⟨ocmp_eq.2 h, by omega⟩
  rw [e1, ← hpm.countP_eq]
  have asym : ∀ a b, nLt o l a b → ¬ nLt o l b a := fun a b h1 h2 => by unfold nLt at h1 h2; omega
  refine count_cut ns 0 p (by omega) (fun i hi => ?_) (fun i hi hil => ?_)
  · have := List.pairwise_iff_getElem.1 hpw i p (by omega) hp hi
    simpa [show i < ns.length by omega] using this
  · by_cases e : i = p
    · subst e
      simp only [hil, List.getElem?_eq_getElem, Option.getD_some, decide_eq_false_iff_not]
      intro h
      exact asym _ _ h h
    · have := List.pairwise_iff_getElem.1 hpw p i hp hil (by omega)
      simp only [hil, List.getElem?_eq_getElem, Option.getD_some, decide_eq_false_iff_not]
      exact asym _ _ this

end Go.Proofs.Ytomieeajmelglaa
