/- plain numbers for the places of a quotient -/
import Derived.Test.YtmpdkeafbjibpaaDoorOffMath
namespace Go.Proofs.YtmpdkeafbjibpaaDoor
namespace Nt

/-- what lies above a bound is nought -/
theorem vt_all {zs : List Int} (h : Ok zs) {j : Nat} (hj : j ≤ zs.length) (hlt : val zs < pw j) : vt zs j = val zs := by
  have e := vt_drop zs j (zs.length - j)
  rw [show j + (zs.length - j) = zs.length by omega] at e
  have h0 := (vt_bounds (ok_drop h j) (zs.length - j)).1
  have h1 := (vt_bounds h j).1
  unfold val at hlt ⊢
  rcases Int.lt_or_le 0 (vt (zs.drop j) (zs.length - j)) with h2 | h2
  · have h3 : pw j * 1 ≤ pw j * vt (zs.drop j) (zs.length - j) := Int.mul_le_mul_of_nonneg_left (by omega) (by have := pw_pos j; omega)
    omega
  · have h3 : vt (zs.drop j) (zs.length - j) = 0 := by omega
    rw [h3] at e
    simp at e
    omega

theorem vt_set_any (qs : List Int) (p : Nat) (y : Int) {n : Nat} (hl : qs.length = n) (hp : p < n) : val (qs.set p y) = val qs + (y - lb qs p) * pw p := by
  have key : ∀ m, p < m → vt (qs.set p y) m = vt qs m + (y - lb qs p) * pw p := by
    intro m
    induction m with
    | zero => intro h; omega
    | succ m ih =>
      intro h
      by_cases e : p = m
      · subst e
        rw [vt_succ, vt_succ, vt_set (Nat.le_refl _), lb_set_eq (by omega)]
        grind
      · rw [vt_succ, vt_succ, ih (by omega), lb_set_ne (by omega)]
        grind
  unfold val
  rw [List.length_set]
  exact key _ (by omega)

theorem vt_two (xs : List Int) (l : Nat) : vt xs (l + 2) = vt xs l + (lb xs (l + 1) * 4294967296 + lb xs l) * pw l := by
  rw [vt_succ, vt_succ, pw_succ]
  grind
theorem vt_three (xs : List Int) (l : Nat) : vt xs (l + 3) = vt xs l + ((lb xs (l + 2) * 4294967296 + lb xs (l + 1)) * 4294967296 + lb xs l) * pw l := by
  rw [vt_succ, vt_succ, vt_succ, pw_succ (l + 1), pw_succ l]
  grind

theorem lt_of_mul_lt {a b p : Int} (hp : 0 < p) (h : a * p < b * p) : a < b := by
  rcases Int.lt_or_le a b with h1 | h1
  · exact h1
  · have := Int.mul_le_mul_of_nonneg_right h1 (Int.le_of_lt hp)
    omega

/-- a digit that goes is no more than the highest limbs allow -/
theorem guess_ge {zs vs : List Int} {l : Nat} {d : Int} (hz : Ok zs) (hv : Ok vs) (hd : 0 ≤ d) (h : d * vt vs (l + 2) ≤ vt zs (l + 3)) : d * lb vs (l + 1) ≤ lb zs (l + 2) * 4294967296 + lb zs (l + 1) := by
  have h1 := vt_two zs (l + 1)
  have h2 := vt_succ vs (l + 1)
  have h3 := (vt_bounds hz (l + 1)).2
  have h4 : 0 ≤ d * vt vs (l + 1) := Int.mul_nonneg hd (vt_bounds hv (l + 1)).1
  have h5 : d * lb vs (l + 1) * pw (l + 1) < (lb zs (l + 2) * 4294967296 + lb zs (l + 1) + 1) * pw (l + 1) := by
    rw [h1, h2] at h
    grind
  have := lt_of_mul_lt (pw_pos _) h5
  omega

/-- what the second limb shows -/
theorem shown_gt {zs vs : List Int} {l : Nat} {y : Int} (hz : Ok zs) (hv : Ok vs) (hy : 0 ≤ y)
    (h : (lb zs (l + 2) * 4294967296 + lb zs (l + 1) - y * lb vs (l + 1)) * 4294967296 + lb zs l < y * lb vs l) : vt zs (l + 3) < y * vt vs (l + 2) := by
  rcases Int.lt_or_le (vt zs (l + 3)) (y * vt vs (l + 2)) with h0 | h0
  · exact h0
  · exfalso
    have h1 := vt_three zs l
    have h2 := vt_two vs l
    have h3 := (vt_bounds hz l).2
    have h4 : 0 ≤ y * vt vs l := Int.mul_nonneg hy (vt_bounds hv l).1
    have h5 : y * (lb vs (l + 1) * 4294967296 + lb vs l) * pw l < ((lb zs (l + 2) * 4294967296 + lb zs (l + 1)) * 4294967296 + lb zs l + 1) * pw l := by
      rw [h1, h2] at h0
      grind
    have h6 := lt_of_mul_lt (pw_pos _) h5
    grind

/-- the first guess is not too small -/
theorem guess_first {zs vs : List Int} {l : Nat} {y H : Int} (hz : Ok zs) (hv : Ok vs) (hf : 0 < lb vs (l + 1)) (hH : H = lb zs (l + 2) * 4294967296 + lb zs (l + 1)) (hb : vt zs (l + 3) < 4294967296 * vt vs (l + 2))
    (hy : y = if 4294967295 < H / lb vs (l + 1) then 4294967295 else H / lb vs (l + 1)) : 0 ≤ y ∧ y ≤ 4294967295 ∧ y * lb vs (l + 1) ≤ H ∧ vt zs (l + 3) < (y + 1) * vt vs (l + 2) := by
  have z2 := hz (l + 2)
  have z1 := hz (l + 1)
  have hH0 : 0 ≤ H := by omega
  have hd0 : 0 ≤ H / lb vs (l + 1) := Int.ediv_nonneg hH0 (by omega)
  have hdl : H / lb vs (l + 1) * lb vs (l + 1) ≤ H := Int.ediv_mul_le _ (by omega)
  have hup : H < (H / lb vs (l + 1) + 1) * lb vs (l + 1) := Int.lt_ediv_add_one_mul_self _ hf
  by_cases h : 4294967295 < H / lb vs (l + 1)
  · rw [if_pos h] at hy
    subst hy
    refine ⟨by omega, by omega, ?_, by omega⟩
    have : 4294967295 * lb vs (l + 1) ≤ H / lb vs (l + 1) * lb vs (l + 1) := Int.mul_le_mul_of_nonneg_right (by omega) (by omega)
    omega
  · rw [if_neg h] at hy
    subst hy
    refine ⟨hd0, by omega, hdl, ?_⟩
    rcases Int.lt_or_le (vt zs (l + 3)) ((H / lb vs (l + 1) + 1) * vt vs (l + 2)) with h1 | h1
    · exact h1
    · have h2 := guess_ge hz hv (by omega) h1
      omega

/-- one place: what is left, and the quotient with its new limb -/
theorem place_step {zs ys os vs qs : List Int} {p L nq : Nat} {y : Int} (hzo : Ok zs) (hzl : zs.length = nq + L) (hyl : ys.length = nq + L) (hvl : vs.length = L) (hvo : Ok vs) (hql : qs.length = nq) (hp : p < nq)
    (hq0 : ∀ j, j < p + 1 → lb qs j = 0) (hval : val os = val zs + val vs * val qs) (hlt : val zs < val vs * pw (p + 1)) (hy0 : ∀ j, p + L + 1 ≤ j → lb ys j = lb zs j)
    (hoff : vt ys (p + L + 1) = vt zs (p + L + 1) - y * val vs * pw p) (hr : vt (zs.drop p) (L + 1) < (y + 1) * val vs) :
    val os = val ys + val vs * val (qs.set p y) ∧ val ys < val vs * pw p := by
  have ht := vt_tail (zs := ys) (os := zs) hy0 (nq + L) (by omega)
  have e1 : val ys = val zs - y * val vs * pw p := by
    unfold val
    rw [hyl, hzl]
    unfold val at hoff
    omega
  have e2 : val (qs.set p y) = val qs + y * pw p := by
    have h1 := vt_set_any qs p y hql hp
    rw [hq0 p (by omega)] at h1
    rw [h1]; simp
  constructor
  · rw [e1, e2, hval]; grind
  · have h3 : val zs < pw (p + L + 1) := by
      have h4 := val_lt hvo
      rw [hvl] at h4
      have h5 : val vs * pw (p + 1) ≤ pw L * pw (p + 1) := Int.mul_le_mul_of_nonneg_right (by omega) (by have := pw_pos (p + 1); omega)
      rw [← pw_add] at h5
      rw [show p + L + 1 = L + (p + 1) by omega]
      omega
    have h6 := vt_all hzo (j := p + L + 1) (by omega) h3
    have h7 := vt_drop zs p (L + 1)
    rw [show p + (L + 1) = p + L + 1 by omega, h6] at h7
    have h8 := (vt_bounds hzo p).2
    have h9 : (vt (zs.drop p) (L + 1) + 1) * pw p ≤ (y + 1) * val vs * pw p := Int.mul_le_mul_of_nonneg_right (by omega) (by have := pw_pos p; omega)
    grind

/-- the window is below 2^32 times the divisor -/
theorem window_lt {zs vs : List Int} {p L nq : Nat} (hzo : Ok zs) (hzl : zs.length = nq + L) (hvl : vs.length = L) (hvo : Ok vs) (hp : p < nq) (hlt : val zs < val vs * pw (p + 1)) : vt (zs.drop p) (L + 1) < 4294967296 * val vs := by
  have h3 : val zs < pw (p + L + 1) := by
    have h4 := val_lt hvo
    rw [hvl] at h4
    have h5 : val vs * pw (p + 1) ≤ pw L * pw (p + 1) := Int.mul_le_mul_of_nonneg_right (by omega) (by have := pw_pos (p + 1); omega)
    rw [← pw_add] at h5
    rw [show p + L + 1 = L + (p + 1) by omega]
    omega
  have h6 := vt_all hzo (j := p + L + 1) (by omega) h3
  have h7 := vt_drop zs p (L + 1)
  rw [show p + (L + 1) = p + L + 1 by omega, h6] at h7
  have h8 := (vt_bounds hzo p).1
  apply lt_of_mul_lt (pw_pos p)
  rw [pw_succ] at hlt
  grind

theorem window_off {zs : List Int} {p L : Nat} (X : Int) : (X * pw p ≤ vt zs (p + L + 1) - vt zs p ↔ X ≤ vt (zs.drop p) (L + 1)) := by
  have h7 := vt_drop zs p (L + 1)
  rw [show p + (L + 1) = p + L + 1 by omega] at h7
  have e : vt zs (p + L + 1) - vt zs p = vt (zs.drop p) (L + 1) * pw p := by grind
  rw [e]
  constructor
  · intro h
    rcases Int.lt_or_le (vt (zs.drop p) (L + 1)) X with h1 | h1
    · have := Int.mul_lt_mul_of_pos_right h1 (pw_pos p); omega
    · exact h1
  · intro h
    exact Int.mul_le_mul_of_nonneg_right h (by have := pw_pos p; omega)

end Nt
end Go.Proofs.YtmpdkeafbjibpaaDoor
