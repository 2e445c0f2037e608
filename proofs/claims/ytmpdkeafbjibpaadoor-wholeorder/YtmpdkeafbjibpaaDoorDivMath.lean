/- plain numbers for quot.Div -/
import Derived.Test.YtmpdkeafbjibpaaDoorLongMath
import Derived.Test.YtmpdkeafbjibpaaDoorLen
import Derived.Test.YtmpdkeafbjibpaaDoorRaise
namespace Go.Proofs.YtmpdkeafbjibpaaDoor

/-- noughts at the end, cut off -/
theorem canon_exists (xs : List Int) (ho : Nt.Ok xs) : ∃ k, k ≤ xs.length ∧ Nt.Canon (xs.take k) ∧ Nt.val (xs.take k) = Nt.val xs := by
  have key : ∀ n, n ≤ xs.length → (∀ i, n ≤ i → i < xs.length → Nt.lb xs i = 0) → ∃ k, k ≤ xs.length ∧ Nt.Canon (xs.take k) ∧ Nt.val (xs.take k) = Nt.val xs := by
    intro n
    induction n with
    | zero =>
      intro _ hz
      refine ⟨0, by omega, by simpa using Nt.canon_nil, ?_⟩
      rw [Nt.val_take (by omega), ← Nt.vt_cut (xs := xs) (k := 0) (n := xs.length) (by omega) (fun i h1 h2 => hz i h1 h2)]
      rfl
    | succ n ih =>
      intro hn hz
      by_cases h : Nt.lb xs n = 0
      · exact ih (by omega) fun i h1 h2 => by
          by_cases e : i = n
          · subst e; exact h
          · exact hz i (by omega) h2
      · refine ⟨n + 1, hn, Nt.canon_take ho hn (fun _ => by rw [Nat.add_sub_cancel]; exact h), ?_⟩
        rw [Nt.val_take hn, ← Nt.vt_cut (xs := xs) (k := n + 1) (n := xs.length) hn (fun i h1 h2 => hz i h1 h2)]
        rfl
  exact key xs.length (Nat.le_refl _) (fun i h1 h2 => by omega)

/-- how many limbs, by the bits -/
theorem limbs_of_len {zs : List Int} {k : Nat} (hc : Nt.Canon zs) (h : IsLen (Nt.val zs) k) : (k + 31) / 32 = zs.length := by
  by_cases hz : zs = []
  · subst hz
    have h0 : ¬ 0 < k := fun hk => by
      have h1 := h.2 hk
      have h2 := p2_pos (k - 1)
      rw [Nt.val_nil] at h1
      omega
    simp; omega
  · have h1 := Nt.canon_low hc hz
    have h2 := Nt.val_lt hc.1
    have hp := List.length_pos_iff.2 hz
    have h3 : 32 * (zs.length - 1) < k := by
      rcases Nat.lt_or_ge (32 * (zs.length - 1)) k with e | e
      · exact e
      · have h4 := p2_mono e
        rw [p2_32] at h4
        have h5 := h.1
        omega
    have h6 : k ≤ 32 * zs.length := by
      rcases Nat.lt_or_ge (32 * zs.length) k with e | e
      · have h7 := h.2 (by omega)
        have h8 := p2_mono (m := 32 * zs.length) (n := k - 1) (by omega)
        rw [p2_32] at h8
        omega
      · exact e
    omega

theorem div_parts {n m P Q R : Int} (hP : 0 < P) (hR0 : 0 ≤ R) (hR : R < m * P) (h : n * P = R + m * P * Q) (hm : 0 < m) : Q = n / m ∧ R / P = n % m ∧ R % P = 0 := by
  have e : R = (n - m * Q) * P := by grind
  have h1 : 0 ≤ n - m * Q := by
    rcases Int.lt_or_le (n - m * Q) 0 with h2 | h2
    · have := Int.mul_lt_mul_of_pos_right h2 hP; omega
    · exact h2
  have h2 : n - m * Q < m := by
    apply Nt.lt_of_mul_lt hP
    rw [← e]; exact hR
  have e2 : n = (n - m * Q) + m * Q := by omega
  have hq : n / m = Q := by
    rw [e2, Int.add_mul_ediv_left _ _ (by omega), Int.ediv_eq_zero_of_lt h1 h2]; omega
  have hr : n % m = n - m * Q := by
    have := Int.emod_add_mul_ediv n m
    rw [hq] at this; omega
  refine ⟨hq.symm, ?_, ?_⟩
  · rw [e, Int.mul_ediv_cancel _ (by omega), hr]
  · rw [e]; exact Int.mul_emod_left _ _

/-- raised by the bits that its highest limb lacks, a number has as many limbs as before -/
theorem raised_fits {ys : List Int} {k : Nat} (hc : Nt.Canon ys) (hp : 0 < ys.length) (h : IsLen (Nt.lb ys (ys.length - 1)) k) (hk : k ≤ 32) : Nt.val ys * p2 (32 - k) < Nt.pw ys.length := by
  have h1 := (isLen_top hc hp h).1
  have h2 : Nt.val ys * p2 (32 - k) < p2 ((ys.length - 1) * 32 + k) * p2 (32 - k) := Int.mul_lt_mul_of_pos_right h1 (p2_pos _)
  rw [← p2_add] at h2
  rw [← p2_32, show 32 * ys.length = (ys.length - 1) * 32 + k + (32 - k) by omega]
  exact h2

end Go.Proofs.YtmpdkeafbjibpaaDoor
