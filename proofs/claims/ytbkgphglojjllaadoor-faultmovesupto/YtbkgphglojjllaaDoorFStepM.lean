/- steps that are written, and told again: plain -/
import Derived.Test.YtbkgphglojjllaaDoorFRep
namespace Go.Proofs.YtbkgphglojjllaaDoor
open Go.RowKit
set_option linter.unusedVariables false

/-- a byte more at the last text -/
def addL (out : List (List UInt8)) (x : UInt8) : List (List UInt8) := out.dropLast ++ [out.getLast?.getD [] ++ [x]]
theorem addL_app (o : List (List UInt8)) (l : List UInt8) (x : UInt8) : addL (o ++ [l]) x = o ++ [l ++ [x]] := by simp [addL]
/-- how the texts are told -/
def stp : List UInt8 → List (List UInt8) → Option (List (List UInt8))
  | [], out => some out
  | [c], out => if c = 47 then some (out ++ [[]]) else if out = [] then none else if c = 126 then none else some (addL out c)
  | c :: d :: r, out => if c = 47 then stp (d :: r) (out ++ [[]]) else if out = [] then none else if c = 126 then (if d = 48 then stp r (addL out 126) else if d = 49 then stp r (addL out 47) else none) else stp (d :: r) (addL out c)
theorem stp_slash (r : List UInt8) (out : List (List UInt8)) : stp (47 :: r) out = stp r (out ++ [[]]) := by
  cases r with
  | nil => simp [stp]
  | cons d r => simp [stp]
theorem stp_other {c : UInt8} (h1 : c ≠ 47) (h2 : c ≠ 126) (r : List UInt8) (o : List (List UInt8)) (l : List UInt8) : stp (c :: r) (o ++ [l]) = stp r (o ++ [l ++ [c]]) := by
  cases r with
  | nil => simp [stp, h1, h2, addL_app]
  | cons d r => simp [stp, h1, h2, addL_app]
theorem stp_tilde (r : List UInt8) (o : List (List UInt8)) (l : List UInt8) : stp (126 :: 48 :: r) (o ++ [l]) = stp r (o ++ [l ++ [126]]) := by
  simp [stp, addL_app]
theorem stp_stroke (r : List UInt8) (o : List (List UInt8)) (l : List UInt8) : stp (126 :: 49 :: r) (o ++ [l]) = stp r (o ++ [l ++ [47]]) := by
  simp [stp, addL_app]
/-- what a round meets -/
theorem stp_round {c : UInt8} {r : List UInt8} {out res : List (List UInt8)} (h : stp (c :: r) out = some res) :
    (c = 47 ∧ stp r (out ++ [[]]) = some res) ∨
    (c ≠ 47 ∧ c ≠ 126 ∧ ∃ o l, out = o ++ [l] ∧ stp r (o ++ [l ++ [c]]) = some res) ∨
    (c = 126 ∧ ∃ o l d r', out = o ++ [l] ∧ r = d :: r' ∧ ((d = 48 ∧ stp r' (o ++ [l ++ [126]]) = some res) ∨ (d = 49 ∧ stp r' (o ++ [l ++ [47]]) = some res))) := by
  by_cases h1 : c = 47
  · subst h1; rw [stp_slash] at h; exact Or.inl ⟨rfl, h⟩
  · rcases List.eq_nil_or_concat out with rfl | ⟨o, l, rfl⟩
    · cases r <;> simp [stp, h1] at h
    · by_cases h2 : c = 126
      · subst h2
        refine Or.inr (Or.inr ⟨rfl, ?_⟩)
        cases r with
        | nil => simp [stp] at h
        | cons d r =>
          refine ⟨o, l, d, r, by simp, rfl, ?_⟩
          by_cases h3 : d = 48
          · subst h3
            rw [show o.concat l = o ++ [l] from by simp, stp_tilde] at h
            exact Or.inl ⟨rfl, h⟩
          · by_cases h4 : d = 49
            · subst h4
              rw [show o.concat l = o ++ [l] from by simp, stp_stroke] at h
              exact Or.inr ⟨rfl, h⟩
            · simp [stp, h3, h4] at h
      · refine Or.inr (Or.inl ⟨h1, h2, o, l, by simp, ?_⟩)
        rw [show o.concat l = o ++ [l] from by simp, stp_other h1 h2] at h
        exact h
def esc (c : UInt8) : List UInt8 := if c = 126 then [126, 48] else if c = 47 then [126, 49] else [c]
theorem wrt_esc (l : List UInt8) : wrt l = 47 :: l.flatMap esc := by
  unfold wrt
  congr 1
  induction l with
  | nil => rfl
  | cons x l ih =>
    have e : put1 126 [126, 48] (x :: l) = (if x = 126 then [126, 48] else [x]) ++ put1 126 [126, 48] l := rfl
    rw [e, put1_app, ih, List.flatMap_cons]
    congr 1
    unfold esc
    by_cases h : x = 126
    · rw [if_pos h, if_pos h]; rfl
    · rw [if_neg h, if_neg h]
      show (if x = 47 then [126, 49] else [x]) ++ [] = _
      rw [List.append_nil]
theorem stp_esc (x r : List UInt8) (o : List (List UInt8)) : ∀ l : List UInt8, stp (x.flatMap esc ++ r) (o ++ [l]) = stp r (o ++ [l ++ x]) := by
  induction x with
  | nil => intro l; simp
  | cons c x ih =>
    intro l
    rw [List.flatMap_cons, List.append_assoc]
    have e : l ++ c :: x = (l ++ [c]) ++ x := by simp
    rw [e, ← ih]
    unfold esc
    by_cases h : c = 126
    · subst h; rw [if_pos rfl]; exact stp_tilde _ o l
    · rw [if_neg h]
      by_cases h2 : c = 47
      · subst h2; rw [if_pos rfl]; exact stp_stroke _ o l
      · rw [if_neg h2]; exact stp_other h2 h _ o l
theorem stp_wrt (x r : List UInt8) (o : List (List UInt8)) : stp (wrt x ++ r) o = stp r (o ++ [x]) := by
  rw [wrt_esc, List.cons_append, stp_slash, stp_esc, List.nil_append]
/-- the path behind all steps -/
def pth (l : List (List UInt8)) : List UInt8 := l.flatMap wrt ++ [47, 101, 110, 100]
theorem pth_cons (x : List UInt8) (l : List (List UInt8)) : pth (x :: l) = wrt x ++ pth l := by simp [pth]
theorem stp_pth : ∀ (l o : List (List UInt8)), stp (pth l) o = some (o ++ l ++ [[101, 110, 100]]) := by
  intro l
  induction l with
  | nil => intro o; simp [pth, stp, addL]
  | cons x l ih => intro o; rw [pth_cons, stp_wrt, ih]; simp
def tot : List (List UInt8) → Nat
  | [] => 0
  | x :: l => 1 + x.length + tot l
theorem pth_len (l : List (List UInt8)) : (pth l).length ≤ 4 * tot l + 4 := by
  induction l with
  | nil => simp [pth, tot]
  | cons x l ih =>
    have := wrt_len x
    rw [pth_cons, List.length_append, tot]; omega
theorem tot_app (a b : List (List UInt8)) : tot (a ++ b) = tot a + tot b := by
  induction a with
  | nil => simp [tot]
  | cons x a ih => rw [List.cons_append, tot, tot, ih]; omega
theorem tot_len (l : List (List UInt8)) : l.length ≤ tot l := by
  induction l with
  | nil => simp
  | cons x l ih => rw [tot, List.length_cons]; omega
/-- a text as a value -/
def tV (l : List UInt8) : Value := .string ⟨l.toArray⟩

end Go.Proofs.YtbkgphglojjllaaDoor
