/- trees of nodes: which error, which place: plain -/
import Derived.Test.YtbkgphglojjllaaDoorFNode
namespace Go.Proofs.YtbkgphglojjllaaDoor
open Go.RowKit
set_option linter.unusedVariables false

mutual
/-- is the error of the number i + 1 in it? -/
def ndB (i : Nat) : Nd → Bool
  | .mk k c _ _ ks => if k = 1 ∨ k = 7 then decide (c = (i : Int) + 1) else if k = 3 ∨ k = 4 then hdB i ks else if k = 5 then anyB i ks else false
def hdB (i : Nat) : List Nd → Bool
  | [] => false
  | x :: _ => ndB i x
def anyB (i : Nat) : List Nd → Bool
  | [] => false
  | x :: l => ndB i x || anyB i l
end
mutual
/-- the first fault that is met -/
def ndF : Nd → Option Nd
  | .mk k c a p ks => if k = 3 ∨ k = 6 then some (.mk k c a p ks) else if k = 4 then hdF ks else if k = 5 then anyF ks else none
def hdF : List Nd → Option Nd
  | [] => none
  | x :: _ => ndF x
def anyF : List Nd → Option Nd
  | [] => none
  | x :: l => match ndF x with
    | some y => some y
    | none => anyF l
end
mutual
def ndZ : Nd → Nat
  | .mk _ _ _ _ ks => 1 + allZ ks
def allZ : List Nd → Nat
  | [] => 0
  | x :: l => ndZ x + allZ l
end
/-- is it nil? -/
def ndNil (x : Nd) : Bool := decide (x.kind < 1 ∨ 7 < x.kind ∨ (x.kind = 1 ∧ (x.code < 1 ∨ 11 < x.code)))
theorem ndB_eq (i : Nat) (x : Nd) : ndB i x = if x.kind = 1 ∨ x.kind = 7 then decide (x.code = (i : Int) + 1) else if x.kind = 3 ∨ x.kind = 4 then hdB i x.kids else if x.kind = 5 then anyB i x.kids else false := by
  cases x; rw [ndB]; rfl
theorem ndF_eq (x : Nd) : ndF x = if x.kind = 3 ∨ x.kind = 6 then some x else if x.kind = 4 then hdF x.kids else if x.kind = 5 then anyF x.kids else none := by
  cases x; rw [ndF]; rfl
theorem ndZ_eq (x : Nd) : ndZ x = 1 + allZ x.kids := by cases x; simp only [ndZ, Nd.kids]
theorem leastB_ext {b b' : Nat → Bool} : ∀ k, (∀ i, i < k → b i = b' i) → leastB b k = leastB b' k := by
  intro k
  induction k with
  | zero => intro _; rfl
  | succ k ih =>
    intro h
    rw [leastB, leastB, ih (fun i hi => h i (by omega)), h k (by omega)]
theorem leastB_false (k : Nat) : leastB (fun _ => false) k = -1 := by
  induction k with
  | zero => rfl
  | succ k ih => rw [leastB, if_pos ih]; rfl
/-- the least of two -/
def lst (a b : Int) : Int := if a < 0 ∨ (0 ≤ b ∧ b < a) then b else a
theorem lst_or (b c : Nat → Bool) : ∀ k, lst (leastB b k) (leastB c k) = leastB (fun i => b i || c i) k := by
  intro k
  induction k with
  | zero => rfl
  | succ k ih =>
    have h1 := leastB_range b k
    have h2 := leastB_range c k
    have e1 : leastB b (k + 1) = if leastB b k = -1 then (if b k then (k : Int) + 1 else -1) else leastB b k := rfl
    have e2 : leastB c (k + 1) = if leastB c k = -1 then (if c k then (k : Int) + 1 else -1) else leastB c k := rfl
    have e3 : leastB (fun i => b i || c i) (k + 1) = if leastB (fun i => b i || c i) k = -1 then (if b k || c k then (k : Int) + 1 else -1) else leastB (fun i => b i || c i) k := rfl
    rw [e1, e2, e3, ← ih]
    generalize leastB b k = x at *
    generalize leastB c k = y at *
    have hx : x = -1 ∨ (1 ≤ x ∧ x ≤ k) := by rcases h1 with h | ⟨i, hi, h, _⟩ <;> omega
    have hy : y = -1 ∨ (1 ≤ y ∧ y ≤ k) := by rcases h2 with h | ⟨i, hi, h, _⟩ <;> omega
    clear h1 h2 ih e1 e2 e3
    cases b k <;> cases c k <;> simp only [lst, Bool.or_true, Bool.or_false, if_true, Bool.false_eq_true, if_false] <;> (repeat' split) <;> omega
theorem leastB_any (xs : List Nd) (i : Nat) : leastB (fun j => anyB j (xs.take (i + 1))) 11 = lst (leastB (fun j => anyB j (xs.take i)) 11) (leastB (fun j => hdB j (xs.drop i)) 11) := by
  rw [lst_or]
  refine leastB_ext 11 fun j _ => ?_
  induction xs generalizing i with
  | nil => simp [anyB, hdB]
  | cons x l ih =>
    cases i with
    | zero => simp [anyB, hdB]
    | succ i =>
      simp only [List.take_succ_cons, List.drop_succ_cons, anyB]
      rw [ih i, Bool.or_assoc]
theorem hdB_get {xs : List Nd} {i : Nat} (h : i < xs.length) (j : Nat) : hdB j (xs.drop i) = ndB j xs[i] := by
  rw [List.drop_eq_getElem_cons h]; simp only [hdB]
theorem anyF_take_succ {xs : List Nd} {i : Nat} (h : i < xs.length) (h0 : anyF (xs.take i) = none) : anyF (xs.take (i + 1)) = ndF xs[i] := by
  induction xs generalizing i with
  | nil => simp at h
  | cons x l ih =>
    cases i with
    | zero => simp [anyF]; cases ndF x <;> rfl
    | succ i =>
      simp only [List.take_succ_cons, anyF, List.getElem_cons_succ] at h0 ⊢
      cases hx : ndF x with
      | some y => rw [hx] at h0; cases h0
      | none => rw [hx] at h0; exact ih (by simpa using h) h0
theorem anyF_some {xs : List Nd} {i : Nat} (h : i < xs.length) (h0 : anyF (xs.take i) = none) {y : Nd} (hy : ndF xs[i] = some y) : anyF xs = some y := by
  induction xs generalizing i with
  | nil => simp at h
  | cons x l ih =>
    cases i with
    | zero => simp only [List.getElem_cons_zero] at hy; simp only [anyF, hy]
    | succ i =>
      simp only [List.take_succ_cons, anyF, List.getElem_cons_succ] at h0 hy ⊢
      cases hx : ndF x with
      | some y => rw [hx] at h0; cases h0
      | none => rw [hx] at h0; exact ih (by simpa using h) h0 hy
theorem nd_nil_B {x : Nd} (h : ndNil x = true) : leastB (fun i => ndB i x) 11 = -1 := by
  have h' := of_decide_eq_true h
  rw [leastB_ext (b' := fun _ => false) 11 (fun i hi => ?_), leastB_false]
  rw [ndB_eq]
  rcases h' with h | h | ⟨h1, h2⟩
  · rw [if_neg (by omega), if_neg (by omega), if_neg (by omega)]
  · rw [if_neg (by omega), if_neg (by omega), if_neg (by omega)]
  · rw [if_pos (by omega)]; exact decide_eq_false (by omega)
theorem nd_nil_F {x : Nd} (h : ndNil x = true) : ndF x = none := by
  have h' := of_decide_eq_true h
  rw [ndF_eq]
  rw [if_neg (by omega), if_neg (by omega), if_neg (by omega)]
theorem allZ_mem {x : Nd} {xs : List Nd} (h : x ∈ xs) : ndZ x ≤ allZ xs := by
  induction xs with
  | nil => cases h
  | cons y l ih =>
    rw [allZ]
    rcases List.mem_cons.1 h with rfl | h
    · omega
    · have := ih h; omega
theorem allZ_len (xs : List Nd) : xs.length ≤ allZ xs := by
  induction xs with
  | nil => simp [allZ]
  | cons y l ih => rw [allZ, List.length_cons, ndZ_eq]; omega
theorem allZ_app (xs ys : List Nd) : allZ (xs ++ ys) = allZ xs + allZ ys := by
  induction xs with
  | nil => simp [allZ]
  | cons x l ih => rw [List.cons_append, allZ, allZ, ih]; omega

end Go.Proofs.YtbkgphglojjllaaDoor
