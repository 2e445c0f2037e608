/- OrderStands, plain: lists in order are one; what Unique leaves, element by element -/
import Derived.Test.YtomieeajmelglaaORankM
import Derived.Test.YtomieeajmelglaaOUnM
import Derived.Test.YtomieeajmelglaaOStc
namespace Go.Proofs.Ytomieeajmelglaa
set_option linter.unusedVariables false
set_option linter.unusedSimpArgs false

theorem perm_pw_eq {α : Type} {R : α → α → Prop} (has : ∀ a b, R a b → ¬ R b a) : ∀ {l m : List α}, l.Perm m → l.Pairwise R → m.Pairwise R → l = m
  | [], m, h, _, _ => by have := h.length_eq; simp at this; exact (List.eq_nil_of_length_eq_zero this.symm).symm
  | a :: l, [], h, _, _ => by have := h.length_eq; simp at this
  | a :: l, b :: m, h, hl, hm => by
    obtain ⟨l1, l2⟩ := List.pairwise_cons.1 hl
    obtain ⟨m1, m2⟩ := List.pairwise_cons.1 hm
    have e : a = b := by
      rcases List.mem_cons.1 (h.subset (List.mem_cons_self (a := a) (l := l))) with e | e
      · exact e
      · rcases List.mem_cons.1 (h.symm.subset (List.mem_cons_self (a := b) (l := m))) with k | k
        · exact k.symm
        · exact absurd (m1 a e) (has _ _ (l1 b k))
    subst e
    rw [perm_pw_eq has ((List.perm_cons a).1 h) l2 m2]
def Rs (o : Int) (x y : It) : Prop := oK o x < oK o y ∨ (oK o x = oK o y ∧ x.2 < y.2)
theorem Rs.trans {o : Int} (a b c : It) (h : Rs o a b) (k : Rs o b c) : Rs o a c := by
  unfold Rs at *
  omega
theorem Rs.anti {o : Int} (a b : It) (h : Rs o a b) : ¬ Rs o b a := by
  unfold Rs at *
  omega
theorem apt_no {o : Int} {x y : It} (h : x.2 < y.2) : Apt (byF o) (Rs o) x y := by
  refine ⟨fun e => .inl (byF_lt.1 e), fun e => ?_⟩
  have : ¬ oK o y < oK o x := fun k => e (byF_lt.2 k)
  unfold Rs
  omega
theorem apt_rs {o : Int} {x y : It} (h : Rs o x y) : Apt (byF o) (Rs o) x y := by
  refine ⟨fun e => ?_, fun _ => h⟩
  have := byF_lt.1 e
  unfold Rs at *
  omega
theorem srt_rs {o : Int} {l : List It} (h : l.Pairwise (fun x y => x.2 < y.2)) : (srt (byF o) 1 l).Pairwise (Rs o) := srt_pw Rs.trans (h.imp apt_no)
theorem srt_again {o : Int} {l : List It} (h : l.Pairwise (fun x y => x.2 < y.2)) : srt (byF o) 1 (srt (byF o) 1 l) = srt (byF o) 1 l :=
  perm_pw_eq Rs.anti (srt_perm _ _ _) (srt_pw Rs.trans ((srt_rs h).imp apt_rs)) (srt_rs h)
theorem mrg_whole {o : Int} {a b : List It} (h : (a ++ b).Pairwise (fun x y => x.2 < y.2)) : mrg (byF o) (srt (byF o) 1 a) (srt (byF o) 1 b) = srt (byF o) 1 (a ++ b) := by
  obtain ⟨h1, h2, h3⟩ := List.pairwise_append.1 h
  refine perm_pw_eq Rs.anti ?_ ?_ (srt_rs h)
  · exact (mrg_perm _ _ _).trans (((srt_perm _ _ _).append (srt_perm _ _ _)).trans (srt_perm _ _ _).symm)
  · exact mrg_pw Rs.trans (srt_rs h1) (srt_rs h2) (fun x hx y hy => apt_no (h3 x ((srt_perm _ _ _).subset hx) y ((srt_perm _ _ _).subset hy)))
theorem nmb_get (d : Nat) (l : List It) (i : Nat) (h : i < (nmb d l).length) : (nmb d l)[i].2 = ((d + i : Nat) : Int) := by
  simp [nmb]
theorem nmb_both (x y : List It) : (nmb 0 x ++ nmb x.length y).Pairwise (fun p q => p.2 < q.2) := by
  refine List.pairwise_append.2 ⟨?_, ?_, fun p hp q hq => ?_⟩
  · exact List.pairwise_iff_getElem.2 (fun i j hi hj hij => by rw [nmb_get, nmb_get]; omega)
  · exact List.pairwise_iff_getElem.2 (fun i j hi hj hij => by rw [nmb_get, nmb_get]; omega)
  · obtain ⟨i, hi, rfl⟩ := List.getElem_of_mem hp
    obtain ⟨j, hj, rfl⟩ := List.getElem_of_mem hq
    rw [nmb_get, nmb_get]
    rw [nmb_len] at hi
    omega
/-- of those alike side by side the first -/
def fsr {α : Type} (f : α → α → Int) : α → List α → List α
  | _, [] => []
  | p, b :: t => if f p b = 0 then fsr f b t else b :: fsr f b t
def fs1 {α : Type} (f : α → α → Int) : List α → List α
  | [] => []
  | a :: t => a :: fsr f a t
theorem unq_go {α : Type} (f : α → α → Int) : ∀ (s p : List α) (a : α) (acc : List α) (n : Nat), n ≤ p.length + 1 →
    ((reps f p.length (a :: s)).foldl (unqS (p ++ a :: s)) (acc, n)).1 ++ (p ++ a :: s).drop ((reps f p.length (a :: s)).foldl (unqS (p ++ a :: s)) (acc, n)).2 = acc ++ (p ++ [a]).drop n ++ fsr f a s
  | [], p, a, acc, n, hn => by simp [reps, fsr]
  | b :: t, p, a, acc, n, hn => by
    have e : p ++ a :: b :: t = (p ++ [a]) ++ b :: t := by simp
    have el : (p ++ [a]).length = p.length + 1 := by simp
    have hk : (p ++ a :: b :: t).take (p.length + 1) = p ++ [a] := by
      rw [e, ← el, List.take_left']
      rfl
    unfold reps fsr
    by_cases h : f a b = 0
    · rw [if_pos h, if_pos h, List.foldl_cons]
      have s1 : unqS (p ++ a :: b :: t) (acc, n) (p.length + 1) = (acc ++ (p ++ [a]).drop n, p.length + 1 + 1) := by
        simp only [unqS]
        rw [hk]
      rw [s1, e, ← el, unq_go f t (p ++ [a]) b _ _ (by omega)]
      rw [List.drop_eq_nil_of_le (by simp : (p ++ [a] ++ [b]).length ≤ (p ++ [a]).length + 1)]
      simp
    · rw [if_neg h, if_neg h]
      rw [e, ← el, unq_go f t (p ++ [a]) b acc n (by omega)]
      rw [List.drop_append_of_le_length (l₁ := p ++ [a]) (l₂ := [b]) (by omega)]
      simp
theorem unq_fs {α : Type} (f : α → α → Int) (xs : List α) : unq f xs = fs1 f xs := by
  cases xs with
  | nil => simp [unq, reps, fs1]
  | cons a s =>
    have := unq_go f s [] a [] 0 (by omega)
    simp only [List.length_nil, List.nil_append] at this
    unfold unq
    rw [this]
    simp [fs1]
theorem fsr_append {α : Type} (f : α → α → Int) : ∀ (l m : List α) (p : α), fsr f p (l ++ m) = fsr f p l ++ fsr f ((p :: l).getLast (by simp)) m
  | [], m, p => by simp [fsr]
  | b :: t, m, p => by
    have ih := fsr_append f t m b
    simp only [List.cons_append, fsr]
    rw [List.getLast_cons (by simp)]
    split
    · exact ih
    · rw [ih, List.cons_append]
theorem fs1_take {α : Type} (f : α → α → Int) (d : α) (u : List α) {i : Nat} (hi : i < u.length) : fs1 f (u.take (i + 1)) = fs1 f (u.take i) ++ (if i = 0 ∨ f (u[i - 1]?.getD d) u[i] ≠ 0 then [u[i]] else []) := by
  rw [List.take_succ_eq_append_getElem hi]
  cases u with
  | nil => simp at hi
  | cons a s =>
    cases i with
    | zero => simp [fs1, fsr]
    | succ k =>
      have hk : k < s.length := by simpa using hi
      simp only [List.take_succ_cons, List.cons_append, fs1, List.getElem_cons_succ]
      rw [fsr_append]
      have e : (a :: s.take k).getLast (by simp) = (a :: s)[k + 1 - 1]?.getD d := by
        rw [List.getLast_eq_getElem, List.getElem?_eq_getElem (by simp; omega)]
        simp only [Option.getD_some]
        have l1 : (a :: s.take k).length - 1 = k := by simp; omega
        simp only [l1, Nat.add_sub_cancel]
        have := List.getElem_take (xs := a :: s) (j := k + 1) (i := k) (h := by simp; omega)
        simp only [List.take_succ_cons] at this
        exact this
      rw [e]
      congr 1
      congr 1
      simp only [fsr]
      by_cases h : f ((a :: s)[k + 1 - 1]?.getD d) s[k] = 0
      · simp [h]
      · simp [h]
theorem fs1_pre {α : Type} (f : α → α → Int) (u : List α) (i : Nat) : fs1 f (u.take i) <+: fs1 f u := by
  cases u with
  | nil => simp [fs1]
  | cons a s =>
    cases i with
    | zero => simp [fs1]
    | succ k =>
      simp only [List.take_succ_cons, fs1]
      refine (List.cons_prefix_cons).2 ⟨rfl, ?_⟩
      have := fsr_append f (s.take k) (s.drop k) a
      rw [List.take_append_drop] at this
      rw [this]
      exact List.prefix_append _ _
theorem fsr_le {α : Type} (f : α → α → Int) : ∀ (l : List α) (p : α), (fsr f p l).length ≤ l.length
  | [], p => by simp [fsr]
  | b :: t, p => by
    have := fsr_le f t b
    unfold fsr
    split <;> simp <;> omega
theorem fs1_le {α : Type} (f : α → α → Int) (l : List α) : (fs1 f l).length ≤ l.length := by
  cases l with
  | nil => simp [fs1]
  | cons a t => simp [fs1, fsr_le f t a]
/-- at a place that is the first of those alike -/
theorem fs1_at {α : Type} (f : α → α → Int) (d : α) (u : List α) {i : Nat} (hi : i < u.length) (h : i = 0 ∨ f (u[i - 1]?.getD d) u[i] ≠ 0) : ∃ hn : (fs1 f (u.take i)).length < (fs1 f u).length, (fs1 f u)[(fs1 f (u.take i)).length] = u[i] ∧ (fs1 f (u.take (i + 1))).length = (fs1 f (u.take i)).length + 1 := by
  have e := fs1_take f d u hi
  rw [if_pos h] at e
  obtain ⟨t, ht⟩ := fs1_pre f u (i + 1)
  rw [e] at ht
  have hn : (fs1 f (u.take i)).length < (fs1 f u).length := by rw [← ht]; simp
  refine ⟨hn, ?_, by rw [e]; simp⟩
  have : (fs1 f u)[(fs1 f (u.take i)).length]? = some u[i] := by rw [← ht]; simp
  rw [List.getElem?_eq_getElem hn] at this
  exact Option.some.inj this
theorem fs1_at' {α : Type} (f : α → α → Int) (d : α) (u : List α) {i : Nat} (hi : i < u.length) (h : i = 0 ∨ f (u[i - 1]?.getD d) u[i] ≠ 0) : (fs1 f (u.take i)).length < (fs1 f u).length ∧ (fs1 f u)[(fs1 f (u.take i)).length]? = some u[i] ∧ (fs1 f (u.take (i + 1))).length = (fs1 f (u.take i)).length + 1 := by
  obtain ⟨h1, h2, h3⟩ := fs1_at f d u hi h
  exact ⟨h1, by rw [List.getElem?_eq_getElem h1, h2], h3⟩
theorem get_of {α : Type} {l : List α} {n : Nat} {x : α} (h : n < l.length) (e : l[n]? = some x) : l[n] = x := by
  rw [List.getElem?_eq_getElem h] at e
  exact Option.some.inj e
theorem fs1_not {α : Type} (f : α → α → Int) (d : α) (u : List α) {i : Nat} (hi : i < u.length) (h : ¬ (i = 0 ∨ f (u[i - 1]?.getD d) u[i] ≠ 0)) : fs1 f (u.take (i + 1)) = fs1 f (u.take i) := by
  rw [fs1_take f d u hi, if_neg h, List.append_nil]
theorem fsr_all {o : Int} : ∀ (l : List It) (p : It), (p :: l).Pairwise (fun a b => oK o a ≤ oK o b) → ((fsr (byF o) p l).length = l.length ↔ (p :: l).Pairwise (fun a b => oK o a ≠ oK o b))
  | [], p, _ => by simp [fsr]
  | b :: t, p, h => by
    obtain ⟨h1, h2⟩ := List.pairwise_cons.1 h
    obtain ⟨h3, h4⟩ := List.pairwise_cons.1 h2
    have ih := fsr_all t b h2
    have hb := h1 b (by simp)
    unfold fsr
    by_cases e : byF o p b = 0
    · rw [if_pos e]
      have l1 := fsr_le (byF o) t b
      have e' := byF_eq.1 e
      constructor
      · intro k
        simp at k
        omega
      · intro k
        exact absurd e' ((List.pairwise_cons.1 k).1 b (by simp))
    · rw [if_neg e]
      have e' : oK o p ≠ oK o b := fun k => e (byF_eq.2 k)
      simp only [List.length_cons, Nat.add_right_cancel_iff]
      rw [ih]
      constructor
      · intro k
        refine List.pairwise_cons.2 ⟨fun x hx => ?_, k⟩
        rcases List.mem_cons.1 hx with rfl | hx
        · exact e'
        · have := h3 x hx
          omega
      · intro k
        exact (List.pairwise_cons.1 k).2
theorem fs1_all {o : Int} {u : List It} (h : u.Pairwise (fun a b => oK o a ≤ oK o b)) : (fs1 (byF o) u).length = u.length ↔ u.Pairwise (fun a b => oK o a ≠ oK o b) := by
  cases u with
  | nil => simp [fs1]
  | cons a t => simpa [fs1] using fsr_all t a h
theorem rep_none {o : Int} {l : List It} : (∀ j, ¬ Rep o l j) ↔ l.Pairwise (fun a b => oK o a ≠ oK o b) := by
  rw [List.pairwise_iff_getElem]
  constructor
  · intro h i j hi hj hij e
    exact h j ⟨i, hij, hj, by simpa [List.getElem?_eq_getElem hi, List.getElem?_eq_getElem hj] using e⟩
  · rintro h j ⟨i, hij, hj, e⟩
    exact h i j (by omega) hj hij (by simpa [List.getElem?_eq_getElem hj, List.getElem?_eq_getElem (show i < l.length by omega)] using e)
theorem tw_once (o : Int) (l : List It) : (tw (byF o) l < 0) ↔ (unq (byF o) (srt (byF o) 1 l)).length = l.length := by
  have hp := srt_perm (byF o) 1 l
  rw [unq_fs, ← hp.length_eq, fs1_all (sort_rises o l), hp.pairwise_iff (fun h => Ne.symm h), ← rep_none]
  rcases twice_spec o l with ⟨h1, h2⟩ | ⟨k, h1, h2, h3⟩
  · rw [h1]
    exact ⟨fun _ => h2, fun _ => by omega⟩
  · rw [h1]
    exact ⟨fun e => by omega, fun e => absurd h2 (e k)⟩

end Go.Proofs.Ytomieeajmelglaa
