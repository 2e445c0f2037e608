/- Plain numbers: bytes, the lowest first. No Go text is met here. -/
import Derived.Test.YticmlelalbaalaaGreatDoorR01
namespace Go.Proofs.YticmlelalbaalaaGreatDoor
namespace Nb
open Nt (lb lb_out ext_lb lb_take lb_take_out lb_set_eq lb_set_ne lb_replicate mul_pw_cancel)

/-- 2^32 to the power of n -/
def pw : Nat → Int
  | 0 => 1
  | n + 1 => 256 * pw n

theorem pw_pos (n : Nat) : 0 < pw n := by
  induction n with
  | zero => decide
  | succ n ih => simp only [pw]; omega

theorem pw_succ (n : Nat) : pw (n + 1) = 256 * pw n := rfl
theorem pw_zero : pw 0 = 1 := rfl

theorem pw_add (m n : Nat) : pw (m + n) = pw m * pw n := by
  induction n with
  | zero => simp [pw]
  | succ n ih => rw [← Nat.add_assoc, pw_succ, ih, pw_succ, Int.mul_left_comm]

theorem pw_mono {m n : Nat} (h : m ≤ n) : pw m ≤ pw n := by
  induction n with
  | zero => have : m = 0 := by omega
            subst this; exact Int.le_refl _
  | succ n ih =>
    by_cases e : m = n + 1
    · subst e; exact Int.le_refl _
    · have := ih (by omega); have := pw_pos n; rw [pw_succ]; omega



/-- the number of the first n limbs -/
def vt (xs : List Int) : Nat → Int
  | 0 => 0
  | n + 1 => vt xs n + lb xs n * pw n

/-- the number of a list -/
def val (xs : List Int) : Int := vt xs xs.length

def Ok (xs : List Int) : Prop := ∀ i, 0 ≤ lb xs i ∧ lb xs i < 256

/-- the list of its number: no nought at its end -/
def Canon (xs : List Int) : Prop := Ok xs ∧ (xs ≠ [] → lb xs (xs.length - 1) ≠ 0)

theorem vt_zero (xs : List Int) : vt xs 0 = 0 := rfl
theorem vt_succ (xs : List Int) (n : Nat) : vt xs (n + 1) = vt xs n + lb xs n * pw n := rfl



theorem vt_out {xs : List Int} {n : Nat} (h : xs.length ≤ n) : vt xs n = val xs := by
  induction n with
  | zero => unfold val; rw [show xs.length = 0 by omega]
  | succ n ih =>
    by_cases e : xs.length = n + 1
    · unfold val; rw [e]
    · rw [vt_succ, ih (by omega), lb_out (by omega)]; simp

theorem vt_bounds {xs : List Int} (h : Ok xs) (n : Nat) : 0 ≤ vt xs n ∧ vt xs n < pw n := by
  induction n with
  | zero => simp [vt, pw]
  | succ n ih =>
    have hp := pw_pos n
    have hx := h n
    have h1 : 0 ≤ lb xs n * pw n := Int.mul_nonneg hx.1 (by omega)
    have h2 : lb xs n * pw n ≤ 255 * pw n := Int.mul_le_mul_of_nonneg_right (by omega) (by omega)
    rw [vt_succ, pw_succ]
    omega

theorem val_nonneg {xs : List Int} (h : Ok xs) : 0 ≤ val xs := (vt_bounds h _).1
theorem val_lt {xs : List Int} (h : Ok xs) : val xs < pw xs.length := (vt_bounds h _).2

/-- two lists that agree on the first n limbs -/
theorem vt_congr {xs ys : List Int} {n : Nat} (h : ∀ i, i < n → lb xs i = lb ys i) : vt xs n = vt ys n := by
  induction n with
  | zero => rfl
  | succ n ih => rw [vt_succ, vt_succ, ih (fun i hi => h i (by omega)), h n (by omega)]



/-- one number, one row of limbs -/
theorem vt_inj {xs ys : List Int} (hx : Ok xs) (hy : Ok ys) {n : Nat} (h : vt xs n = vt ys n) : ∀ i, i < n → lb xs i = lb ys i := by
  induction n with
  | zero => intro i hi; omega
  | succ n ih =>
    rw [vt_succ, vt_succ] at h
    obtain ⟨h1, h2⟩ := mul_pw_cancel (pw_pos n) (vt_bounds hx n) (vt_bounds hy n) h
    intro i hi
    by_cases e : i = n
    · subst e; exact h1
    · exact ih h2 i (by omega)



theorem canon_low {xs : List Int} (h : Canon xs) (hn : xs ≠ []) : pw (xs.length - 1) ≤ val xs := by
  obtain ⟨n, hl⟩ : ∃ n, xs.length = n + 1 := ⟨xs.length - 1, by have := List.length_pos_iff.2 hn; omega⟩
  have h0 := h.2 hn
  rw [hl, Nat.add_sub_cancel] at h0 ⊢
  have hb := h.1 n
  have hv := vt_bounds h.1 n
  unfold val
  rw [hl, vt_succ]
  have : 1 * pw n ≤ lb xs n * pw n := Int.mul_le_mul_of_nonneg_right (by omega) (by have := pw_pos n; omega)
  omega

/-- the longer list is the greater number's -/
theorem canon_lt {xs ys : List Int} (hx : Ok xs) (hy : Canon ys) (h : xs.length < ys.length) : val xs < val ys := by
  have h1 := val_lt hx
  have h2 := canon_low hy (by intro e; subst e; simp at h)
  have h3 := pw_mono (m := xs.length) (n := ys.length - 1) (by omega)
  omega

theorem canon_unique {xs ys : List Int} (hx : Canon xs) (hy : Canon ys) (h : val xs = val ys) : xs = ys := by
  have hl : xs.length = ys.length := by
    rcases Nat.lt_trichotomy xs.length ys.length with h' | h' | h'
    · have := canon_lt hx.1 hy h'; omega
    · exact h'
    · have := canon_lt hy.1 hx h'; omega
  exact ext_lb hl (vt_inj hx.1 hy.1 (by unfold val at h; rw [hl] at h ⊢; exact h))

theorem val_nil : val [] = 0 := rfl

theorem canon_nil : Canon [] := ⟨fun i => by simp [lb], fun h => absurd rfl h⟩

theorem canon_zero {xs : List Int} (h : Canon xs) : val xs = 0 ↔ xs = [] := by
  constructor
  · intro e; exact canon_unique h canon_nil (by rw [e, val_nil])
  · intro e; subst e; rfl





theorem ok_take {xs : List Int} (h : Ok xs) (k : Nat) : Ok (xs.take k) := by
  intro i
  by_cases e : i < k
  · rw [lb_take e]; exact h i
  · rw [lb_take_out (by omega)]; omega

theorem val_take {xs : List Int} {k : Nat} (hk : k ≤ xs.length) : val (xs.take k) = vt xs k := by
  unfold val
  rw [List.length_take, Nat.min_eq_left hk]
  exact vt_congr fun i hi => lb_take hi

/-- noughts at the end say nothing -/
theorem vt_cut {xs : List Int} {k n : Nat} (hk : k ≤ n) (h : ∀ i, k ≤ i → i < n → lb xs i = 0) : vt xs n = vt xs k := by
  induction n with
  | zero => rw [show k = 0 by omega]
  | succ n ih =>
    by_cases e : k = n + 1
    · rw [e]
    · rw [vt_succ, h n (by omega) (by omega), ih (by omega) (fun i a b => h i a (by omega))]; simp

theorem canon_take {xs : List Int} {k : Nat} (ho : Ok xs) (hk : k ≤ xs.length) (h0 : 0 < k → lb xs (k - 1) ≠ 0) : Canon (xs.take k) := by
  refine ⟨ok_take ho k, fun hn => ?_⟩
  have hl : (xs.take k).length = k := by rw [List.length_take, Nat.min_eq_left hk]
  have hp := List.length_pos_iff.2 hn
  rw [hl] at hp ⊢
  rw [lb_take (by omega)]
  exact h0 hp






theorem ok_set {xs : List Int} (h : Ok xs) {i : Nat} {v : Int} (hv : 0 ≤ v ∧ v < 256) : Ok (xs.set i v) := by
  intro j
  by_cases e : i = j
  · subst e
    by_cases hl : i < xs.length
    · rw [lb_set_eq hl]; exact hv
    · rw [lb_out (by simp; omega)]; omega
  · rw [lb_set_ne e]; exact h j

theorem vt_set {xs : List Int} {i n : Nat} (h : n ≤ i) (v : Int) : vt (xs.set i v) n = vt xs n :=
  vt_congr fun j hj => lb_set_ne (by omega) v

theorem ok_nil : Ok [] := canon_nil.1

theorem ok_replicate (n : Nat) : Ok (List.replicate n 0) := by
  intro i
  by_cases h : i < n <;> simp [lb, h]



/-- equal above a place, less there: less -/
theorem vt_lt_at {xs ys : List Int} (hx : Ok xs) (hy : Ok ys) {p n : Nat} (hp : p < n) (he : ∀ i, p < i → i < n → lb xs i = lb ys i) (hl : lb xs p < lb ys p) : vt xs n < vt ys n := by
  induction n with
  | zero => omega
  | succ n ih =>
    by_cases e : p = n
    · subst e
      rw [vt_succ, vt_succ]
      have h1 := vt_bounds hx p
      have h2 := vt_bounds hy p
      have : (lb xs p + 1) * pw p ≤ lb ys p * pw p := Int.mul_le_mul_of_nonneg_right (by omega) (by have := pw_pos p; omega)
      rw [Int.add_mul] at this
      omega
    · rw [vt_succ, vt_succ, he n (by omega) (by omega)]
      have := ih (by omega) (fun i a b => he i a (by omega))
      omega


theorem lb_snoc_lt {xs : List Int} {z : Int} {i : Nat} (h : i < xs.length) : lb (xs ++ [z]) i = lb xs i := by
  simp [lb, List.getElem?_append_left h]
theorem lb_snoc (xs : List Int) (z : Int) : lb (xs ++ [z]) xs.length = z := by simp [lb]
/-- one byte more at the end -/
theorem val_snoc (xs : List Int) (z : Int) : val (xs ++ [z]) = val xs + z * pw xs.length := by
  unfold val
  rw [List.length_append, List.length_singleton, vt_succ, lb_snoc, vt_congr (ys := xs) (fun i hi => lb_snoc_lt hi)]
theorem ok_snoc {xs : List Int} {z : Int} (h : Ok xs) (hz : 0 ≤ z ∧ z < 256) : Ok (xs ++ [z]) := by
  intro i
  by_cases h1 : i < xs.length
  · rw [lb_snoc_lt h1]; exact h i
  · by_cases h2 : i = xs.length
    · subst h2; rw [lb_snoc]; exact hz
    · rw [lb_out (by simp; omega)]; omega

/-- four bytes a limb -/
theorem pw_four (n : Nat) : pw (4 * n) = Nt.pw n := by
  induction n with
  | zero => rfl
  | succ n ih => rw [Nat.mul_succ, pw_add, ih, Nt.pw_succ, show pw 4 = 4294967296 by decide, Int.mul_comm]

end Nb
end Go.Proofs.YticmlelalbaalaaGreatDoor
