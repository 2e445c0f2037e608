/- Math, Nb, MulMath, OffMath, LongMath -/
namespace Go.Proofs.YtejenbkhhcjeaaaGreatDoor
namespace Nt

/-- 2^32 to the power of n -/
def pw : Nat → Int
  | 0 => 1
  | n + 1 => 4294967296 * pw n

theorem pw_pos (n : Nat) : 0 < pw n := by
  induction n with
  | zero => decide
  | succ n ih => simp only [pw]; omega

theorem pw_succ (n : Nat) : pw (n + 1) = 4294967296 * pw n := rfl
theorem pw_zero : pw 0 = 1 := rfl

theorem pw_add (m n : Nat) : pw (m + n) = pw m * pw n := by
  induction n with
  | zero => simp [pw]
  | succ n ih => rw [← Nat.add_assoc, pw_succ, ih, pw_succ, Int.mul_left_comm]

theorem pw_mono {m n : Nat} (h : m ≤ n) : pw m ≤ pw n := by
  induction n with
  | zero => have : m = 0 := by omega
            subst this; exact Int.le_refl _
  | succ n ih =>
    by_cases e : m = n + 1
    · subst e; exact Int.le_refl _
    · have := ih (by omega); have := pw_pos n; rw [pw_succ]; omega

/-- the limb at a place, 0 behind the end -/
def lb (xs : List Int) (i : Nat) : Int := xs.getD i 0

/-- the number of the first n limbs -/
def vt (xs : List Int) : Nat → Int
  | 0 => 0
  | n + 1 => vt xs n + lb xs n * pw n

/-- the number of a list -/
def val (xs : List Int) : Int := vt xs xs.length

def Ok (xs : List Int) : Prop := ∀ i, 0 ≤ lb xs i ∧ lb xs i < 4294967296

/-- the list of its number: no nought at its end -/
def Canon (xs : List Int) : Prop := Ok xs ∧ (xs ≠ [] → lb xs (xs.length - 1) ≠ 0)

theorem vt_zero (xs : List Int) : vt xs 0 = 0 := rfl
theorem vt_succ (xs : List Int) (n : Nat) : vt xs (n + 1) = vt xs n + lb xs n * pw n := rfl

theorem lb_out {xs : List Int} {i : Nat} (h : xs.length ≤ i) : lb xs i = 0 := by
  simp [lb, List.getElem?_eq_none h]

theorem vt_out {xs : List Int} {n : Nat} (h : xs.length ≤ n) : vt xs n = val xs := by
  induction n with
  | zero => unfold val; rw [show xs.length = 0 by omega]
  | succ n ih =>
    by_cases e : xs.length = n + 1
    · unfold val; rw [e]
    · rw [vt_succ, ih (by omega), lb_out (by omega)]; simp

theorem vt_bounds {xs : List Int} (h : Ok xs) (n : Nat) : 0 ≤ vt xs n ∧ vt xs n < pw n := by
  induction n with
  | zero => simp [vt, pw]
  | succ n ih =>
    have hp := pw_pos n
    have hx := h n
    have h1 : 0 ≤ lb xs n * pw n := Int.mul_nonneg hx.1 (by omega)
    have h2 : lb xs n * pw n ≤ 4294967295 * pw n := Int.mul_le_mul_of_nonneg_right (by omega) (by omega)
    rw [vt_succ, pw_succ]
    omega

theorem val_nonneg {xs : List Int} (h : Ok xs) : 0 ≤ val xs := (vt_bounds h _).1
theorem val_lt {xs : List Int} (h : Ok xs) : val xs < pw xs.length := (vt_bounds h _).2

/-- two lists that agree on the first n limbs -/
theorem vt_congr {xs ys : List Int} {n : Nat} (h : ∀ i, i < n → lb xs i = lb ys i) : vt xs n = vt ys n := by
  induction n with
  | zero => rfl
  | succ n ih => rw [vt_succ, vt_succ, ih (fun i hi => h i (by omega)), h n (by omega)]

theorem mul_pw_cancel {a b x y p : Int} (hp : 0 < p) (ha : 0 ≤ a ∧ a < p) (hb : 0 ≤ b ∧ b < p) (h : a + x * p = b + y * p) : x = y ∧ a = b := by
  have hxy : x = y := by
    rcases Int.lt_trichotomy x y with h' | h' | h'
    · have : (x + 1) * p ≤ y * p := Int.mul_le_mul_of_nonneg_right (by omega) (by omega)
      rw [Int.add_mul] at this; omega
    · exact h'
    · have : (y + 1) * p ≤ x * p := Int.mul_le_mul_of_nonneg_right (by omega) (by omega)
      rw [Int.add_mul] at this; omega
  subst hxy
  exact ⟨rfl, by omega⟩

/-- one number, one row of limbs -/
theorem vt_inj {xs ys : List Int} (hx : Ok xs) (hy : Ok ys) {n : Nat} (h : vt xs n = vt ys n) : ∀ i, i < n → lb xs i = lb ys i := by
  induction n with
  | zero => intro i hi; omega
  | succ n ih =>
    rw [vt_succ, vt_succ] at h
    obtain ⟨h1, h2⟩ := mul_pw_cancel (pw_pos n) (vt_bounds hx n) (vt_bounds hy n) h
    intro i hi
    by_cases e : i = n
    · subst e; exact h1
    · exact ih h2 i (by omega)

theorem ext_lb {xs ys : List Int} (hl : xs.length = ys.length) (h : ∀ i, i < xs.length → lb xs i = lb ys i) : xs = ys := by
  apply List.ext_getElem hl
  intro i h1 h2
  have := h i h1
  simpa [lb, h1, h2] using this

theorem canon_low {xs : List Int} (h : Canon xs) (hn : xs ≠ []) : pw (xs.length - 1) ≤ val xs := by
  obtain ⟨n, hl⟩ : ∃ n, xs.length = n + 1 := ⟨xs.length - 1, by have := List.length_pos_iff.2 hn; omega⟩
  have h0 := h.2 hn
  rw [hl, Nat.add_sub_cancel] at h0 ⊢
  have hb := h.1 n
  have hv := vt_bounds h.1 n
  unfold val
  rw [hl, vt_succ]
  have : 1 * pw n ≤ lb xs n * pw n := Int.mul_le_mul_of_nonneg_right (by omega) (by have := pw_pos n; omega)
  omega

/-- the longer list is the greater number's -/
theorem canon_lt {xs ys : List Int} (hx : Ok xs) (hy : Canon ys) (h : xs.length < ys.length) : val xs < val ys := by
  have h1 := val_lt hx
  have h2 := canon_low hy (by intro e; subst e; simp at h)
  have h3 := pw_mono (m := xs.length) (n := ys.length - 1) (by omega)
  omega

theorem canon_unique {xs ys : List Int} (hx : Canon xs) (hy : Canon ys) (h : val xs = val ys) : xs = ys := by
  have hl : xs.length = ys.length := by
    rcases Nat.lt_trichotomy xs.length ys.length with h' | h' | h'
    · have := canon_lt hx.1 hy h'; omega
    · exact h'
    · have := canon_lt hy.1 hx h'; omega
  exact ext_lb hl (vt_inj hx.1 hy.1 (by unfold val at h; rw [hl] at h ⊢; exact h))

theorem val_nil : val [] = 0 := rfl

theorem canon_nil : Canon [] := ⟨fun i => by simp [lb], fun h => absurd rfl h⟩

theorem canon_zero {xs : List Int} (h : Canon xs) : val xs = 0 ↔ xs = [] := by
  constructor
  · intro e; exact canon_unique h canon_nil (by rw [e, val_nil])
  · intro e; subst e; rfl

theorem lb_take {xs : List Int} {k i : Nat} (h : i < k) : lb (xs.take k) i = lb xs i := by
  simp only [lb, List.getD_eq_getElem?_getD, List.getElem?_take, h, if_true]

theorem lb_take_out {xs : List Int} {k i : Nat} (h : k ≤ i) : lb (xs.take k) i = 0 := by
  simp only [lb, List.getD_eq_getElem?_getD, List.getElem?_take, show ¬ i < k by omega, if_false]; rfl

theorem ok_take {xs : List Int} (h : Ok xs) (k : Nat) : Ok (xs.take k) := by
  intro i
  by_cases e : i < k
  · rw [lb_take e]; exact h i
  · rw [lb_take_out (by omega)]; omega

theorem val_take {xs : List Int} {k : Nat} (hk : k ≤ xs.length) : val (xs.take k) = vt xs k := by
  unfold val
  rw [List.length_take, Nat.min_eq_left hk]
  exact vt_congr fun i hi => lb_take hi

/-- noughts at the end say nothing -/
theorem vt_cut {xs : List Int} {k n : Nat} (hk : k ≤ n) (h : ∀ i, k ≤ i → i < n → lb xs i = 0) : vt xs n = vt xs k := by
  induction n with
  | zero => rw [show k = 0 by omega]
  | succ n ih =>
    by_cases e : k = n + 1
    · rw [e]
    · rw [vt_succ, h n (by omega) (by omega), ih (by omega) (fun i a b => h i a (by omega))]; simp

theorem canon_take {xs : List Int} {k : Nat} (ho : Ok xs) (hk : k ≤ xs.length) (h0 : 0 < k → lb xs (k - 1) ≠ 0) : Canon (xs.take k) := by
  refine ⟨ok_take ho k, fun hn => ?_⟩
  have hl : (xs.take k).length = k := by rw [List.length_take, Nat.min_eq_left hk]
  have hp := List.length_pos_iff.2 hn
  rw [hl] at hp ⊢
  rw [lb_take (by omega)]
  exact h0 hp

theorem lb_set_eq {xs : List Int} {i : Nat} (h : i < xs.length) (v : Int) : lb (xs.set i v) i = v := by
  simp [lb, h]
theorem lb_set_ne {xs : List Int} {i j : Nat} (h : i ≠ j) (v : Int) : lb (xs.set i v) j = lb xs j := by
  simp [lb, List.getElem?_set_ne h]

theorem ok_set {xs : List Int} (h : Ok xs) {i : Nat} {v : Int} (hv : 0 ≤ v ∧ v < 4294967296) : Ok (xs.set i v) := by
  intro j
  by_cases e : i = j
  · subst e
    by_cases hl : i < xs.length
    · rw [lb_set_eq hl]; exact hv
    · rw [lb_out (by simp; omega)]; omega
  · rw [lb_set_ne e]; exact h j

theorem vt_set {xs : List Int} {i n : Nat} (h : n ≤ i) (v : Int) : vt (xs.set i v) n = vt xs n :=
  vt_congr fun j hj => lb_set_ne (by omega) v

theorem ok_nil : Ok [] := canon_nil.1

theorem ok_replicate (n : Nat) : Ok (List.replicate n 0) := by
  intro i
  by_cases h : i < n <;> simp [lb, h]

theorem lb_replicate (n i : Nat) : lb (List.replicate n 0) i = 0 := by
  by_cases h : i < n <;> simp [lb, h]

/-- equal above a place, less there: less -/
theorem vt_lt_at {xs ys : List Int} (hx : Ok xs) (hy : Ok ys) {p n : Nat} (hp : p < n) (he : ∀ i, p < i → i < n → lb xs i = lb ys i) (hl : lb xs p < lb ys p) : vt xs n < vt ys n := by
  induction n with
  | zero => omega
  | succ n ih =>
    by_cases e : p = n
    · subst e
      rw [vt_succ, vt_succ]
      have h1 := vt_bounds hx p
      have h2 := vt_bounds hy p
      have : (lb xs p + 1) * pw p ≤ lb ys p * pw p := Int.mul_le_mul_of_nonneg_right (by omega) (by have := pw_pos p; omega)
      rw [Int.add_mul] at this
      omega
    · rw [vt_succ, vt_succ, he n (by omega) (by omega)]
      have := ih (by omega) (fun i a b => he i a (by omega))
      omega

end Nt
end Go.Proofs.YtejenbkhhcjeaaaGreatDoor

namespace Go.Proofs.YtejenbkhhcjeaaaGreatDoor
namespace Nb
open Nt (lb lb_out ext_lb lb_take lb_take_out lb_set_eq lb_set_ne lb_replicate mul_pw_cancel)

/-- 2^32 to the power of n -/
def pw : Nat → Int
  | 0 => 1
  | n + 1 => 256 * pw n

theorem pw_pos (n : Nat) : 0 < pw n := by
  induction n with
  | zero => decide
  | succ n ih => simp only [pw]; omega

theorem pw_succ (n : Nat) : pw (n + 1) = 256 * pw n := rfl
theorem pw_zero : pw 0 = 1 := rfl

theorem pw_add (m n : Nat) : pw (m + n) = pw m * pw n := by
  induction n with
  | zero => simp [pw]
  | succ n ih => rw [← Nat.add_assoc, pw_succ, ih, pw_succ, Int.mul_left_comm]

theorem pw_mono {m n : Nat} (h : m ≤ n) : pw m ≤ pw n := by
  induction n with
  | zero => have : m = 0 := by omega
            subst this; exact Int.le_refl _
  | succ n ih =>
    by_cases e : m = n + 1
    · subst e; exact Int.le_refl _
    · have := ih (by omega); have := pw_pos n; rw [pw_succ]; omega



/-- the number of the first n limbs -/
def vt (xs : List Int) : Nat → Int
  | 0 => 0
  | n + 1 => vt xs n + lb xs n * pw n

/-- the number of a list -/
def val (xs : List Int) : Int := vt xs xs.length

def Ok (xs : List Int) : Prop := ∀ i, 0 ≤ lb xs i ∧ lb xs i < 256

/-- the list of its number: no nought at its end -/
def Canon (xs : List Int) : Prop := Ok xs ∧ (xs ≠ [] → lb xs (xs.length - 1) ≠ 0)

theorem vt_zero (xs : List Int) : vt xs 0 = 0 := rfl
theorem vt_succ (xs : List Int) (n : Nat) : vt xs (n + 1) = vt xs n + lb xs n * pw n := rfl



theorem vt_out {xs : List Int} {n : Nat} (h : xs.length ≤ n) : vt xs n = val xs := by
  induction n with
  | zero => unfold val; rw [show xs.length = 0 by omega]
  | succ n ih =>
    by_cases e : xs.length = n + 1
    · unfold val; rw [e]
    · rw [vt_succ, ih (by omega), lb_out (by omega)]; simp

theorem vt_bounds {xs : List Int} (h : Ok xs) (n : Nat) : 0 ≤ vt xs n ∧ vt xs n < pw n := by
  induction n with
  | zero => simp [vt, pw]
  | succ n ih =>
    have hp := pw_pos n
    have hx := h n
    have h1 : 0 ≤ lb xs n * pw n := Int.mul_nonneg hx.1 (by omega)
    have h2 : lb xs n * pw n ≤ 255 * pw n := Int.mul_le_mul_of_nonneg_right (by omega) (by omega)
    rw [vt_succ, pw_succ]
    omega

theorem val_nonneg {xs : List Int} (h : Ok xs) : 0 ≤ val xs := (vt_bounds h _).1
theorem val_lt {xs : List Int} (h : Ok xs) : val xs < pw xs.length := (vt_bounds h _).2

/-- two lists that agree on the first n limbs -/
theorem vt_congr {xs ys : List Int} {n : Nat} (h : ∀ i, i < n → lb xs i = lb ys i) : vt xs n = vt ys n := by
  induction n with
  | zero => rfl
  | succ n ih => rw [vt_succ, vt_succ, ih (fun i hi => h i (by omega)), h n (by omega)]



/-- one number, one row of limbs -/
theorem vt_inj {xs ys : List Int} (hx : Ok xs) (hy : Ok ys) {n : Nat} (h : vt xs n = vt ys n) : ∀ i, i < n → lb xs i = lb ys i := by
  induction n with
  | zero => intro i hi; omega
  | succ n ih =>
    rw [vt_succ, vt_succ] at h
    obtain ⟨h1, h2⟩ := mul_pw_cancel (pw_pos n) (vt_bounds hx n) (vt_bounds hy n) h
    intro i hi
    by_cases e : i = n
    · subst e; exact h1
    · exact ih h2 i (by omega)



theorem canon_low {xs : List Int} (h : Canon xs) (hn : xs ≠ []) : pw (xs.length - 1) ≤ val xs := by
  obtain ⟨n, hl⟩ : ∃ n, xs.length = n + 1 := ⟨xs.length - 1, by have := List.length_pos_iff.2 hn; omega⟩
  have h0 := h.2 hn
  rw [hl, Nat.add_sub_cancel] at h0 ⊢
  have hb := h.1 n
  have hv := vt_bounds h.1 n
  unfold val
  rw [hl, vt_succ]
  have : 1 * pw n ≤ lb xs n * pw n := Int.mul_le_mul_of_nonneg_right (by omega) (by have := pw_pos n; omega)
  omega

/-- the longer list is the greater number's -/
theorem canon_lt {xs ys : List Int} (hx : Ok xs) (hy : Canon ys) (h : xs.length < ys.length) : val xs < val ys := by
  have h1 := val_lt hx
  have h2 := canon_low hy (by intro e; subst e; simp at h)
  have h3 := pw_mono (m := xs.length) (n := ys.length - 1) (by omega)
  omega

theorem canon_unique {xs ys : List Int} (hx : Canon xs) (hy : Canon ys) (h : val xs = val ys) : xs = ys := by
  have hl : xs.length = ys.length := by
    rcases Nat.lt_trichotomy xs.length ys.length with h' | h' | h'
    · have := canon_lt hx.1 hy h'; omega
    · exact h'
    · have := canon_lt hy.1 hx h'; omega
  exact ext_lb hl (vt_inj hx.1 hy.1 (by unfold val at h; rw [hl] at h ⊢; exact h))

theorem val_nil : val [] = 0 := rfl

theorem canon_nil : Canon [] := ⟨fun i => by simp [lb], fun h => absurd rfl h⟩

theorem canon_zero {xs : List Int} (h : Canon xs) : val xs = 0 ↔ xs = [] := by
  constructor
  · intro e; exact canon_unique h canon_nil (by rw [e, val_nil])
  · intro e; subst e; rfl





theorem ok_take {xs : List Int} (h : Ok xs) (k : Nat) : Ok (xs.take k) := by
  intro i
  by_cases e : i < k
  · rw [lb_take e]; exact h i
  · rw [lb_take_out (by omega)]; omega

theorem val_take {xs : List Int} {k : Nat} (hk : k ≤ xs.length) : val (xs.take k) = vt xs k := by
  unfold val
  rw [List.length_take, Nat.min_eq_left hk]
  exact vt_congr fun i hi => lb_take hi

/-- noughts at the end say nothing -/
theorem vt_cut {xs : List Int} {k n : Nat} (hk : k ≤ n) (h : ∀ i, k ≤ i → i < n → lb xs i = 0) : vt xs n = vt xs k := by
  induction n with
  | zero => rw [show k = 0 by omega]
  | succ n ih =>
    by_cases e : k = n + 1
    · rw [e]
    · rw [vt_succ, h n (by omega) (by omega), ih (by omega) (fun i a b => h i a (by omega))]; simp

theorem canon_take {xs : List Int} {k : Nat} (ho : Ok xs) (hk : k ≤ xs.length) (h0 : 0 < k → lb xs (k - 1) ≠ 0) : Canon (xs.take k) := by
  refine ⟨ok_take ho k, fun hn => ?_⟩
  have hl : (xs.take k).length = k := by rw [List.length_take, Nat.min_eq_left hk]
  have hp := List.length_pos_iff.2 hn
  rw [hl] at hp ⊢
  rw [lb_take (by omega)]
  exact h0 hp






theorem ok_set {xs : List Int} (h : Ok xs) {i : Nat} {v : Int} (hv : 0 ≤ v ∧ v < 256) : Ok (xs.set i v) := by
  intro j
  by_cases e : i = j
  · subst e
    by_cases hl : i < xs.length
    · rw [lb_set_eq hl]; exact hv
    · rw [lb_out (by simp; omega)]; omega
  · rw [lb_set_ne e]; exact h j

theorem vt_set {xs : List Int} {i n : Nat} (h : n ≤ i) (v : Int) : vt (xs.set i v) n = vt xs n :=
  vt_congr fun j hj => lb_set_ne (by omega) v

theorem ok_nil : Ok [] := canon_nil.1

theorem ok_replicate (n : Nat) : Ok (List.replicate n 0) := by
  intro i
  by_cases h : i < n <;> simp [lb, h]



/-- equal above a place, less there: less -/
theorem vt_lt_at {xs ys : List Int} (hx : Ok xs) (hy : Ok ys) {p n : Nat} (hp : p < n) (he : ∀ i, p < i → i < n → lb xs i = lb ys i) (hl : lb xs p < lb ys p) : vt xs n < vt ys n := by
  induction n with
  | zero => omega
  | succ n ih =>
    by_cases e : p = n
    · subst e
      rw [vt_succ, vt_succ]
      have h1 := vt_bounds hx p
      have h2 := vt_bounds hy p
      have : (lb xs p + 1) * pw p ≤ lb ys p * pw p := Int.mul_le_mul_of_nonneg_right (by omega) (by have := pw_pos p; omega)
      rw [Int.add_mul] at this
      omega
    · rw [vt_succ, vt_succ, he n (by omega) (by omega)]
      have := ih (by omega) (fun i a b => he i a (by omega))
      omega


theorem vt_out_le {xs : List Int} {n m : Nat} (h : xs.length ≤ n) (h2 : xs.length ≤ m) : vt xs n = vt xs m := by rw [vt_out h, vt_out h2]

theorem lb_snoc_lt {xs : List Int} {z : Int} {i : Nat} (h : i < xs.length) : lb (xs ++ [z]) i = lb xs i := by
  simp [lb, List.getElem?_append_left h]
theorem lb_snoc (xs : List Int) (z : Int) : lb (xs ++ [z]) xs.length = z := by simp [lb]
/-- one byte more at the end -/
theorem val_snoc (xs : List Int) (z : Int) : val (xs ++ [z]) = val xs + z * pw xs.length := by
  unfold val
  rw [List.length_append, List.length_singleton, vt_succ, lb_snoc, vt_congr (ys := xs) (fun i hi => lb_snoc_lt hi)]
theorem ok_snoc {xs : List Int} {z : Int} (h : Ok xs) (hz : 0 ≤ z ∧ z < 256) : Ok (xs ++ [z]) := by
  intro i
  by_cases h1 : i < xs.length
  · rw [lb_snoc_lt h1]; exact h i
  · by_cases h2 : i = xs.length
    · subst h2; rw [lb_snoc]; exact hz
    · rw [lb_out (by simp; omega)]; omega

/-- four bytes a limb -/
theorem pw_four (n : Nat) : pw (4 * n) = Nt.pw n := by
  induction n with
  | zero => rfl
  | succ n ih => rw [Nat.mul_succ, pw_add, ih, Nt.pw_succ, show pw 4 = 4294967296 by decide, Int.mul_comm]

end Nb
end Go.Proofs.YtejenbkhhcjeaaaGreatDoor

namespace Go.Proofs.YtejenbkhhcjeaaaGreatDoor
namespace Nt

theorem vt_tail {zs os : List Int} {k : Nat} (h : ∀ j, k ≤ j → lb zs j = lb os j) (n : Nat) (hk : k ≤ n) : vt zs n - vt zs k = vt os n - vt os k := by
  induction n with
  | zero => rw [show k = 0 by omega]; simp [vt]
  | succ n ih =>
    by_cases e : k = n + 1
    · subst e; omega
    · rw [vt_succ, vt_succ, h n (by omega)]
      have := ih (by omega)
      omega

theorem lb_drop (xs : List Int) (n i : Nat) : lb (xs.drop n) i = lb xs (n + i) := by
  simp only [lb, List.getD_eq_getElem?_getD, List.getElem?_drop]
theorem ok_drop {xs : List Int} (h : Ok xs) (n : Nat) : Ok (xs.drop n) := by
  intro i; rw [lb_drop]; exact h _
theorem vt_drop (xs : List Int) (n m : Nat) : vt xs (n + m) = vt xs n + pw n * vt (xs.drop n) m := by
  induction m with
  | zero => simp [vt]
  | succ m ih =>
    rw [← Nat.add_assoc, vt_succ, ih, vt_succ, lb_drop, pw_add]
    grind
/-- a list in two pieces -/
theorem val_split {xs : List Int} {n : Nat} (hn : n ≤ xs.length) : val xs = val (xs.take n) + pw n * val (xs.drop n) := by
  rw [val_take hn]
  have h := vt_drop xs n (xs.length - n)
  rw [show n + (xs.length - n) = xs.length by omega] at h
  unfold val
  rw [List.length_drop]
  exact h
theorem val_append (xs ys : List Int) : val (xs ++ ys) = val xs + pw xs.length * val ys := by
  have h := val_split (xs := xs ++ ys) (n := xs.length) (by simp)
  rw [List.take_left, List.drop_left] at h
  exact h
theorem val_replicate (n : Nat) : val (List.replicate n 0) = 0 := by
  unfold val
  rw [vt_cut (k := 0) (by omega) (fun i _ _ => lb_replicate _ _)]; rfl
theorem ok_append {xs ys : List Int} (hx : Ok xs) (hy : Ok ys) : Ok (xs ++ ys) := by
  intro i
  by_cases h : i < xs.length
  · have e : lb (xs ++ ys) i = lb xs i := by simp [lb, List.getElem?_append_left h]
    rw [e]; exact hx i
  · have e : lb (xs ++ ys) i = lb ys (i - xs.length) := by simp [lb, List.getElem?_append_right (by omega : xs.length ≤ i)]
    rw [e]; exact hy _
/-- a piece in the middle -/
theorem vt_piece {xs : List Int} {at' n : Nat} (h : at' + n ≤ xs.length) : vt xs (at' + n) = vt xs at' + pw at' * val ((xs.drop at').take n) := by
  rw [val_take (by rw [List.length_drop]; omega)]
  exact vt_drop xs at' n

/-- the sum has room: no more limbs than there are -/
theorem into_fits {bs : List Int} {off n : Nat} {m o : Int} (hc : Canon bs) (hm : val bs = m) (ho : 0 ≤ o) (h : o + m * pw off < pw n) (hoff : off ≤ n) : off + bs.length ≤ n := by
  rcases Nat.lt_or_ge n (off + bs.length) with hl | hl
  · exfalso
    have hne : bs ≠ [] := by intro e; subst e; simp at hl; omega
    have h1 := canon_low hc hne
    rw [hm] at h1
    have h2 : pw (bs.length - 1) * pw off ≤ m * pw off := Int.mul_le_mul_of_nonneg_right h1 (by have := pw_pos off; omega)
    rw [← pw_add] at h2
    have h3 := pw_mono (m := n) (n := bs.length - 1 + off) (by omega)
    omega
  · exact hl

/-- a carry at the end would be too much -/
theorem into_no_carry {zs : List Int} {n : Nat} {s : Int} (hz : Ok zs) (h : vt zs n + 1 * pw n = s) (hs : s < pw n) : False := by
  have := (vt_bounds hz n).1
  omega

/-- one round of a sum into a row -/
theorem into_step {ys zs os : List Int} {off k : Nat} {c : Int} (hk : off + k < zs.length) (hz : lb zs (off + k) = lb os (off + k))
    (h : vt zs (off + k) + c * pw (off + k) = vt os (off + k) + vt ys k * pw off) :
    vt (zs.set (off + k) ((lb zs (off + k) + lb ys k + c) % 4294967296)) (off + (k + 1)) + (lb zs (off + k) + lb ys k + c) / 4294967296 * pw (off + (k + 1)) = vt os (off + (k + 1)) + vt ys (k + 1) * pw off := by
  rw [← Nat.add_assoc, vt_succ, vt_set (Nat.le_refl _), lb_set_eq hk, vt_succ, vt_succ, pw_succ]
  have e : (lb zs (off + k) + lb ys k + c) % 4294967296 + 4294967296 * ((lb zs (off + k) + lb ys k + c) / 4294967296) = lb zs (off + k) + lb ys k + c := Int.emod_add_mul_ediv _ _
  generalize (lb zs (off + k) + lb ys k + c) % 4294967296 = r at *
  generalize (lb zs (off + k) + lb ys k + c) / 4294967296 = q at *
  rw [pw_add] at *
  rw [← hz]
  grind

theorem kara (a0 a1 b0 b1 P : Int) : a0 * b0 + (P * P) * (a1 * b1) + ((a0 + a1) * (b0 + b1) - (a0 * b0 + a1 * b1)) * P = (a0 + P * a1) * (b0 + P * b1) := by grind
theorem kara_mid {a0 a1 b0 b1 : Int} (h0 : 0 ≤ a0) (h1 : 0 ≤ a1) (h2 : 0 ≤ b0) (h3 : 0 ≤ b1) : a0 * b0 + a1 * b1 ≤ (a0 + a1) * (b0 + b1) := by
  have e1 := Int.mul_nonneg h0 h3
  have e2 := Int.mul_nonneg h1 h2
  grind
theorem prod_lt {x y : List Int} (hx : Ok x) (hy : Ok y) : val x * val y < pw (x.length + y.length) := by
  rw [pw_add]
  have h1 := val_lt hx
  have h2 := val_lt hy
  have h3 := val_nonneg hx
  have h4 := val_nonneg hy
  have h5 : val x * val y ≤ val x * pw y.length := Int.mul_le_mul_of_nonneg_left (by omega) h3
  have h6 : val x * pw y.length < pw x.length * pw y.length := Int.mul_lt_mul_of_pos_right h1 (pw_pos _)
  omega

end Nt
end Go.Proofs.YtejenbkhhcjeaaaGreatDoor

namespace Go.Proofs.YtejenbkhhcjeaaaGreatDoor
namespace Nt

theorem vt_mono {xs : List Int} (h : Ok xs) {m n : Nat} (hmn : m ≤ n) : vt xs m ≤ vt xs n := by
  have e := vt_drop xs m (n - m)
  rw [show m + (n - m) = n by omega] at e
  have h1 : 0 ≤ pw m * vt (xs.drop m) (n - m) := Int.mul_nonneg (by have := pw_pos m; omega) (vt_bounds (ok_drop h _) _).1
  omega

theorem less_step {vs zs os : List Int} {off k : Nat} {c x t : Int} (hk : off + k < zs.length) (hz : lb zs (off + k) = lb os (off + k)) (ht : t = c + (lb vs k * x + (4294967295 - lb zs (off + k))))
    (h : vt zs (off + k) - c * pw (off + k) = vt os (off + k) - x * vt vs k * pw off) :
    vt (zs.set (off + k) (4294967295 - t % 4294967296)) (off + (k + 1)) - t / 4294967296 * pw (off + (k + 1)) = vt os (off + (k + 1)) - x * vt vs (k + 1) * pw off := by
  rw [← Nat.add_assoc, vt_succ, vt_set (Nat.le_refl _), lb_set_eq hk, vt_succ, vt_succ, pw_succ]
  have e : t % 4294967296 + 4294967296 * (t / 4294967296) = t := Int.emod_add_mul_ediv _ _
  generalize t % 4294967296 = r at *
  generalize t / 4294967296 = q at *
  rw [pw_add] at *
  rw [← hz]
  grind

theorem back_step {vs zs os : List Int} {off k : Nat} {c x t : Int} (hk : off + k < zs.length) (hz : lb zs (off + k) = lb os (off + k)) (ht : t = c + (lb vs k * x + lb zs (off + k)))
    (h : vt zs (off + k) + c * pw (off + k) = vt os (off + k) + x * vt vs k * pw off) :
    vt (zs.set (off + k) (t % 4294967296)) (off + (k + 1)) + t / 4294967296 * pw (off + (k + 1)) = vt os (off + (k + 1)) + x * vt vs (k + 1) * pw off := by
  rw [← Nat.add_assoc, vt_succ, vt_set (Nat.le_refl _), lb_set_eq hk, vt_succ, vt_succ, pw_succ]
  have e : t % 4294967296 + 4294967296 * (t / 4294967296) = t := Int.emod_add_mul_ediv _ _
  generalize t % 4294967296 = r at *
  generalize t / 4294967296 = q at *
  rw [pw_add] at *
  rw [← hz]
  grind

/-- what is to be taken off is more than there is, just if the carry is above the highest limb -/
theorem off_sign {zs os : List Int} {off l : Nat} {c x V : Int} (hz : Ok zs) (hlow : ∀ j, j < off → lb zs j = lb os j) (htop : lb zs (off + l) = lb os (off + l))
    (h : vt zs (off + l) - c * pw (off + l) = vt os (off + l) - x * V * pw off) :
    (lb zs (off + l) < c → vt os (off + l + 1) - vt os off < x * V * pw off) ∧ (c ≤ lb zs (off + l) → x * V * pw off ≤ vt os (off + l + 1) - vt os off) := by
  have h1 := vt_mono hz (m := off) (n := off + l) (by omega)
  have h2 := (vt_bounds hz (off + l)).2
  have h3 : vt zs off = vt os off := vt_congr hlow
  have h4 := (vt_bounds hz off).1
  have h5 := pw_pos (off + l)
  rw [vt_succ, ← htop]
  constructor
  · intro hlt
    have h6 : (lb zs (off + l) + 1) * pw (off + l) ≤ c * pw (off + l) := Int.mul_le_mul_of_nonneg_right (by omega) (by omega)
    rw [Int.add_mul] at h6
    omega
  · intro hle
    have h6 : c * pw (off + l) ≤ lb zs (off + l) * pw (off + l) := Int.mul_le_mul_of_nonneg_right hle (by omega)
    omega

/-- added back: as it was -/
theorem back_same {zs ys os : List Int} {off l : Nat} {c d x V : Int} (hy : Ok ys) (ho : Ok os) (hl : ys.length = os.length) (hlow : ∀ j, j < off ∨ off + l ≤ j → lb ys j = lb os j)
    (h : vt zs (off + l) - c * pw (off + l) = vt os (off + l) - x * V * pw off) (h2 : vt ys (off + l) + d * pw (off + l) = vt zs (off + l) + x * V * pw off) : ys = os := by
  have e : vt ys (off + l) + d * pw (off + l) = vt os (off + l) + c * pw (off + l) := by omega
  have e2 := (mul_pw_cancel (pw_pos _) (vt_bounds hy (off + l)) (vt_bounds ho (off + l)) e).2
  have e3 := vt_inj hy ho e2
  exact ext_lb hl fun i _ => by
    by_cases h : i < off + l
    · exact e3 i h
    · exact hlow i (by omega)

end Nt
end Go.Proofs.YtejenbkhhcjeaaaGreatDoor

namespace Go.Proofs.YtejenbkhhcjeaaaGreatDoor
namespace Nt

/-- what lies above a bound is nought -/
theorem vt_all {zs : List Int} (h : Ok zs) {j : Nat} (hj : j ≤ zs.length) (hlt : val zs < pw j) : vt zs j = val zs := by
  have e := vt_drop zs j (zs.length - j)
  rw [show j + (zs.length - j) = zs.length by omega] at e
  have h0 := (vt_bounds (ok_drop h j) (zs.length - j)).1
  have h1 := (vt_bounds h j).1
  unfold val at hlt ⊢
  rcases Int.lt_or_le 0 (vt (zs.drop j) (zs.length - j)) with h2 | h2
  · have h3 : pw j * 1 ≤ pw j * vt (zs.drop j) (zs.length - j) := Int.mul_le_mul_of_nonneg_left (by omega) (by have := pw_pos j; omega)
    omega
  · have h3 : vt (zs.drop j) (zs.length - j) = 0 := by omega
    rw [h3] at e
    simp at e
    omega

theorem vt_set_any (qs : List Int) (p : Nat) (y : Int) {n : Nat} (hl : qs.length = n) (hp : p < n) : val (qs.set p y) = val qs + (y - lb qs p) * pw p := by
  have key : ∀ m, p < m → vt (qs.set p y) m = vt qs m + (y - lb qs p) * pw p := by
    intro m
    induction m with
    | zero => intro h; omega
    | succ m ih =>
      intro h
      by_cases e : p = m
      · subst e
        rw [vt_succ, vt_succ, vt_set (Nat.le_refl _), lb_set_eq (by omega)]
        grind
      · rw [vt_succ, vt_succ, ih (by omega), lb_set_ne (by omega)]
        grind
  unfold val
  rw [List.length_set]
  exact key _ (by omega)

theorem vt_two (xs : List Int) (l : Nat) : vt xs (l + 2) = vt xs l + (lb xs (l + 1) * 4294967296 + lb xs l) * pw l := by
  rw [vt_succ, vt_succ, pw_succ]
  grind
theorem vt_three (xs : List Int) (l : Nat) : vt xs (l + 3) = vt xs l + ((lb xs (l + 2) * 4294967296 + lb xs (l + 1)) * 4294967296 + lb xs l) * pw l := by
  rw [vt_succ, vt_succ, vt_succ, pw_succ (l + 1), pw_succ l]
  grind

theorem lt_of_mul_lt {a b p : Int} (hp : 0 < p) (h : a * p < b * p) : a < b := by
  rcases Int.lt_or_le a b with h1 | h1
  · exact h1
  · have := Int.mul_le_mul_of_nonneg_right h1 (Int.le_of_lt hp)
    omega

/-- a digit that goes is no more than the highest limbs allow -/
theorem guess_ge {zs vs : List Int} {l : Nat} {d : Int} (hz : Ok zs) (hv : Ok vs) (hd : 0 ≤ d) (h : d * vt vs (l + 2) ≤ vt zs (l + 3)) : d * lb vs (l + 1) ≤ lb zs (l + 2) * 4294967296 + lb zs (l + 1) := by
  have h1 := vt_two zs (l + 1)
  have h2 := vt_succ vs (l + 1)
  have h3 := (vt_bounds hz (l + 1)).2
  have h4 : 0 ≤ d * vt vs (l + 1) := Int.mul_nonneg hd (vt_bounds hv (l + 1)).1
  have h5 : d * lb vs (l + 1) * pw (l + 1) < (lb zs (l + 2) * 4294967296 + lb zs (l + 1) + 1) * pw (l + 1) := by
    rw [h1, h2] at h
    grind
  have := lt_of_mul_lt (pw_pos _) h5
  omega

/-- what the second limb shows -/
theorem shown_gt {zs vs : List Int} {l : Nat} {y : Int} (hz : Ok zs) (hv : Ok vs) (hy : 0 ≤ y)
    (h : (lb zs (l + 2) * 4294967296 + lb zs (l + 1) - y * lb vs (l + 1)) * 4294967296 + lb zs l < y * lb vs l) : vt zs (l + 3) < y * vt vs (l + 2) := by
  rcases Int.lt_or_le (vt zs (l + 3)) (y * vt vs (l + 2)) with h0 | h0
  · exact h0
  · exfalso
    have h1 := vt_three zs l
    have h2 := vt_two vs l
    have h3 := (vt_bounds hz l).2
    have h4 : 0 ≤ y * vt vs l := Int.mul_nonneg hy (vt_bounds hv l).1
    have h5 : y * (lb vs (l + 1) * 4294967296 + lb vs l) * pw l < ((lb zs (l + 2) * 4294967296 + lb zs (l + 1)) * 4294967296 + lb zs l + 1) * pw l := by
      rw [h1, h2] at h0
      grind
    have h6 := lt_of_mul_lt (pw_pos _) h5
    grind

/-- the first guess is not too small -/
theorem guess_first {zs vs : List Int} {l : Nat} {y H : Int} (hz : Ok zs) (hv : Ok vs) (hf : 0 < lb vs (l + 1)) (hH : H = lb zs (l + 2) * 4294967296 + lb zs (l + 1)) (hb : vt zs (l + 3) < 4294967296 * vt vs (l + 2))
    (hy : y = if 4294967295 < H / lb vs (l + 1) then 4294967295 else H / lb vs (l + 1)) : 0 ≤ y ∧ y ≤ 4294967295 ∧ y * lb vs (l + 1) ≤ H ∧ vt zs (l + 3) < (y + 1) * vt vs (l + 2) := by
  have z2 := hz (l + 2)
  have z1 := hz (l + 1)
  have hH0 : 0 ≤ H := by omega
  have hd0 : 0 ≤ H / lb vs (l + 1) := Int.ediv_nonneg hH0 (by omega)
  have hdl : H / lb vs (l + 1) * lb vs (l + 1) ≤ H := Int.ediv_mul_le _ (by omega)
  have hup : H < (H / lb vs (l + 1) + 1) * lb vs (l + 1) := Int.lt_ediv_add_one_mul_self _ hf
  by_cases h : 4294967295 < H / lb vs (l + 1)
  · rw [if_pos h] at hy
    subst hy
    refine ⟨by omega, by omega, ?_, by omega⟩
    have : 4294967295 * lb vs (l + 1) ≤ H / lb vs (l + 1) * lb vs (l + 1) := Int.mul_le_mul_of_nonneg_right (by omega) (by omega)
    omega
  · rw [if_neg h] at hy
    subst hy
    refine ⟨hd0, by omega, hdl, ?_⟩
    rcases Int.lt_or_le (vt zs (l + 3)) ((H / lb vs (l + 1) + 1) * vt vs (l + 2)) with h1 | h1
    · exact h1
    · have h2 := guess_ge hz hv (by omega) h1
      omega

/-- one place: what is left, and the quotient with its new limb -/
theorem place_step {zs ys os vs qs : List Int} {p L nq : Nat} {y : Int} (hzo : Ok zs) (hzl : zs.length = nq + L) (hyl : ys.length = nq + L) (hvl : vs.length = L) (hvo : Ok vs) (hql : qs.length = nq) (hp : p < nq)
    (hq0 : ∀ j, j < p + 1 → lb qs j = 0) (hval : val os = val zs + val vs * val qs) (hlt : val zs < val vs * pw (p + 1)) (hy0 : ∀ j, p + L + 1 ≤ j → lb ys j = lb zs j)
    (hoff : vt ys (p + L + 1) = vt zs (p + L + 1) - y * val vs * pw p) (hr : vt (zs.drop p) (L + 1) < (y + 1) * val vs) :
    val os = val ys + val vs * val (qs.set p y) ∧ val ys < val vs * pw p := by
  have ht := vt_tail (zs := ys) (os := zs) hy0 (nq + L) (by omega)
  have e1 : val ys = val zs - y * val vs * pw p := by
    unfold val
    rw [hyl, hzl]
    unfold val at hoff
    omega
  have e2 : val (qs.set p y) = val qs + y * pw p := by
    have h1 := vt_set_any qs p y hql hp
    rw [hq0 p (by omega)] at h1
    rw [h1]; simp
  constructor
  · rw [e1, e2, hval]; grind
  · have h3 : val zs < pw (p + L + 1) := by
      have h4 := val_lt hvo
      rw [hvl] at h4
      have h5 : val vs * pw (p + 1) ≤ pw L * pw (p + 1) := Int.mul_le_mul_of_nonneg_right (by omega) (by have := pw_pos (p + 1); omega)
      rw [← pw_add] at h5
      rw [show p + L + 1 = L + (p + 1) by omega]
      omega
    have h6 := vt_all hzo (j := p + L + 1) (by omega) h3
    have h7 := vt_drop zs p (L + 1)
    rw [show p + (L + 1) = p + L + 1 by omega, h6] at h7
    have h8 := (vt_bounds hzo p).2
    have h9 : (vt (zs.drop p) (L + 1) + 1) * pw p ≤ (y + 1) * val vs * pw p := Int.mul_le_mul_of_nonneg_right (by omega) (by have := pw_pos p; omega)
    grind

/-- the window is below 2^32 times the divisor -/
theorem window_lt {zs vs : List Int} {p L nq : Nat} (hzo : Ok zs) (hzl : zs.length = nq + L) (hvl : vs.length = L) (hvo : Ok vs) (hp : p < nq) (hlt : val zs < val vs * pw (p + 1)) : vt (zs.drop p) (L + 1) < 4294967296 * val vs := by
  have h3 : val zs < pw (p + L + 1) := by
    have h4 := val_lt hvo
    rw [hvl] at h4
    have h5 : val vs * pw (p + 1) ≤ pw L * pw (p + 1) := Int.mul_le_mul_of_nonneg_right (by omega) (by have := pw_pos (p + 1); omega)
    rw [← pw_add] at h5
    rw [show p + L + 1 = L + (p + 1) by omega]
    omega
  have h6 := vt_all hzo (j := p + L + 1) (by omega) h3
  have h7 := vt_drop zs p (L + 1)
  rw [show p + (L + 1) = p + L + 1 by omega, h6] at h7
  have h8 := (vt_bounds hzo p).1
  apply lt_of_mul_lt (pw_pos p)
  rw [pw_succ] at hlt
  grind

theorem window_off {zs : List Int} {p L : Nat} (X : Int) : (X * pw p ≤ vt zs (p + L + 1) - vt zs p ↔ X ≤ vt (zs.drop p) (L + 1)) := by
  have h7 := vt_drop zs p (L + 1)
  rw [show p + (L + 1) = p + L + 1 by omega] at h7
  have e : vt zs (p + L + 1) - vt zs p = vt (zs.drop p) (L + 1) * pw p := by grind
  rw [e]
  constructor
  · intro h
    rcases Int.lt_or_le (vt (zs.drop p) (L + 1)) X with h1 | h1
    · have := Int.mul_lt_mul_of_pos_right h1 (pw_pos p); omega
    · exact h1
  · intro h
    exact Int.mul_le_mul_of_nonneg_right h (by have := pw_pos p; omega)

end Nt
end Go.Proofs.YtejenbkhhcjeaaaGreatDoor
