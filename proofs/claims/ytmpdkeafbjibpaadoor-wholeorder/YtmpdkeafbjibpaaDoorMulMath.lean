/- plain numbers for products by halves -/
import Derived.Test.YtmpdkeafbjibpaaDoorMath
namespace Go.Proofs.YtmpdkeafbjibpaaDoor
namespace Nt

theorem vt_tail {zs os : List Int} {k : Nat} (h : ∀ j, k ≤ j → lb zs j = lb os j) (n : Nat) (hk : k ≤ n) : vt zs n - vt zs k = vt os n - vt os k := by
  induction n with
  | zero => rw [show k = 0 by omega]; simp [vt]
  | succ n ih =>
    by_cases e : k = n + 1
    · subst e; omega
    · rw [vt_succ, vt_succ, h n (by omega)]
      have := ih (by omega)
      omega

theorem lb_drop (xs : List Int) (n i : Nat) : lb (xs.drop n) i = lb xs (n + i) := by
  simp only [lb, List.getD_eq_getElem?_getD, List.getElem?_drop]
theorem ok_drop {xs : List Int} (h : Ok xs) (n : Nat) : Ok (xs.drop n) := by
  intro i; rw [lb_drop]; exact h _
theorem vt_drop (xs : List Int) (n m : Nat) : vt xs (n + m) = vt xs n + pw n * vt (xs.drop n) m := by
  induction m with
  | zero => simp [vt]
  | succ m ih =>
    rw [← Nat.add_assoc, vt_succ, ih, vt_succ, lb_drop, pw_add]
    grind
/-- a list in two pieces -/
theorem val_split {xs : List Int} {n : Nat} (hn : n ≤ xs.length) : val xs = val (xs.take n) + pw n * val (xs.drop n) := by
  rw [val_take hn]
  have h := vt_drop xs n (xs.length - n)
  rw [show n + (xs.length - n) = xs.length by omega] at h
  unfold val
  rw [List.length_drop]
  exact h
theorem val_append (xs ys : List Int) : val (xs ++ ys) = val xs + pw xs.length * val ys := by
  have h := val_split (xs := xs ++ ys) (n := xs.length) (by simp)
  rw [List.take_left, List.drop_left] at h
  exact h
theorem val_replicate (n : Nat) : val (List.replicate n 0) = 0 := by
  unfold val
  rw [vt_cut (k := 0) (by omega) (fun i _ _ => lb_replicate _ _)]; rfl
theorem ok_append {xs ys : List Int} (hx : Ok xs) (hy : Ok ys) : Ok (xs ++ ys) := by
  intro i
  by_cases h : i < xs.length
  · have e : lb (xs ++ ys) i = lb xs i := by simp [lb, List.getElem?_append_left h]
    rw [e]; exact hx i
  · have e : lb (xs ++ ys) i = lb ys (i - xs.length) := by simp [lb, List.getElem?_append_right (by omega : xs.length ≤ i)]
    rw [e]; exact hy _
/-- a piece in the middle -/
theorem vt_piece {xs : List Int} {at' n : Nat} (h : at' + n ≤ xs.length) : vt xs (at' + n) = vt xs at' + pw at' * val ((xs.drop at').take n) := by
  rw [val_take (by rw [List.length_drop]; omega)]
  exact vt_drop xs at' n

/-- the sum has room: no more limbs than there are -/
theorem into_fits {bs : List Int} {off n : Nat} {m o : Int} (hc : Canon bs) (hm : val bs = m) (ho : 0 ≤ o) (h : o + m * pw off < pw n) (hoff : off ≤ n) : off + bs.length ≤ n := by
  rcases Nat.lt_or_ge n (off + bs.length) with hl | hl
  · exfalso
    have hne : bs ≠ [] := by intro e; subst e; simp at hl; omega
    have h1 := canon_low hc hne
    rw [hm] at h1
    have h2 : pw (bs.length - 1) * pw off ≤ m * pw off := Int.mul_le_mul_of_nonneg_right h1 (by have := pw_pos off; omega)
    rw [← pw_add] at h2
    have h3 := pw_mono (m := n) (n := bs.length - 1 + off) (by omega)
    omega
  · exact hl

/-- a carry at the end would be too much -/
theorem into_no_carry {zs : List Int} {n : Nat} {s : Int} (hz : Ok zs) (h : vt zs n + 1 * pw n = s) (hs : s < pw n) : False := by
  have := (vt_bounds hz n).1
  omega

/-- one round of a sum into a row -/
theorem into_step {ys zs os : List Int} {off k : Nat} {c : Int} (hk : off + k < zs.length) (hz : lb zs (off + k) = lb os (off + k))
    (h : vt zs (off + k) + c * pw (off + k) = vt os (off + k) + vt ys k * pw off) :
    vt (zs.set (off + k) ((lb zs (off + k) + lb ys k + c) % 4294967296)) (off + (k + 1)) + (lb zs (off + k) + lb ys k + c) / 4294967296 * pw (off + (k + 1)) = vt os (off + (k + 1)) + vt ys (k + 1) * pw off := by
  rw [← Nat.add_assoc, vt_succ, vt_set (Nat.le_refl _), lb_set_eq hk, vt_succ, vt_succ, pw_succ]
  have e : (lb zs (off + k) + lb ys k + c) % 4294967296 + 4294967296 * ((lb zs (off + k) + lb ys k + c) / 4294967296) = lb zs (off + k) + lb ys k + c := Int.emod_add_mul_ediv _ _
  generalize (lb zs (off + k) + lb ys k + c) % 4294967296 = r at *
  generalize (lb zs (off + k) + lb ys k + c) / 4294967296 = q at *
  rw [pw_add] at *
  rw [← hz]
  grind

theorem kara (a0 a1 b0 b1 P : Int) : a0 * b0 + (P * P) * (a1 * b1) + ((a0 + a1) * (b0 + b1) - (a0 * b0 + a1 * b1)) * P = (a0 + P * a1) * (b0 + P * b1) := by grind
theorem kara_mid {a0 a1 b0 b1 : Int} (h0 : 0 ≤ a0) (h1 : 0 ≤ a1) (h2 : 0 ≤ b0) (h3 : 0 ≤ b1) : a0 * b0 + a1 * b1 ≤ (a0 + a1) * (b0 + b1) := by
  have e1 := Int.mul_nonneg h0 h3
  have e2 := Int.mul_nonneg h1 h2
  grind
theorem prod_lt {x y : List Int} (hx : Ok x) (hy : Ok y) : val x * val y < pw (x.length + y.length) := by
  rw [pw_add]
  have h1 := val_lt hx
  have h2 := val_lt hy
  have h3 := val_nonneg hx
  have h4 := val_nonneg hy
  have h5 : val x * val y ≤ val x * pw y.length := Int.mul_le_mul_of_nonneg_left (by omega) h3
  have h6 : val x * pw y.length < pw x.length * pw y.length := Int.mul_lt_mul_of_pos_right h1 (pw_pos _)
  omega

end Nt
end Go.Proofs.YtmpdkeafbjibpaaDoor
