/- whole numbers as floats: how far off -/
import Derived.Test.YtkaakhmncmpliabRWhM
namespace Go.Proofs.Ytkaakhmncmpliab
open Go.RowKit
set_option linter.unusedVariables false

theorem le_of_mul_pL {a b : Int} (h : a * pL ≤ b * pL) : a ≤ b := by
  rcases Int.lt_or_le b a with c | c
  · exact absurd (Int.lt_of_lt_of_le (Int.mul_lt_mul_of_pos_right c pL_pos) h) (Int.lt_irrefl _)
  · exact c
theorem step_le {s : Int} (h0 : 0 ≤ s) (h : s < 4890909195324358656) : p2 (est 4503599627370496 (-1074) s + 1074).toNat ≤ 1024 * pL := by
  have he : est 4503599627370496 (-1074) s ≤ 10 := by
    unfold est
    split <;> omega
  have hm := p2_mono (m := (est 4503599627370496 (-1074) s + 1074).toNat) (n := 10 + 1074) (by
    clear h h0
    generalize est 4503599627370496 (-1074) s = e at *
    omega)
  rw [p2_more, show p2 10 = 1024 by decide] at hm
  exact hm
theorem uD_inj {s t : Int} (h0 : 0 ≤ s) (t0 : 0 ≤ t) (h : uD s = uD t) : s = t := by
  rcases Int.lt_trichotomy s t with c | c | c
  · exact absurd (h ▸ uD_lt h0 c) (Int.lt_irrefl _)
  · exact c
  · exact absurd (h ▸ uD_lt t0 c) (Int.lt_irrefl _)
/-- the float next to a whole number of 63 bits is a whole number, 512 off at most -/
theorem near_off {N : Nat} (hN : N ≤ 9223372036854775808) : ∃ j : Int, uD (Ieee.double.nearest false N 0) = j * pL ∧ 0 ≤ j ∧ j ≤ 9223372036854775808 ∧ j - N ≤ 512 ∧ N - j ≤ 512 := by
  have hn := near_double N 0
  have hR : Near 4503599627370496 (-1074) 9218868437227405312 9223372036854775808 0 4890909195324358656 := by
    have h1 := near_double 9223372036854775808 0
    have h2 := nearest_exact (N := 9223372036854775808) (s := 4890909195324358656) (by decide) uD_R
    rw [h2] at h1
    exact h1
  have hle := near_le (B := -1074) (by decide) hn hR (by decide) (by decide) (by decide) (by
    unfold sc
    exact Int.mul_le_mul_of_nonneg_right (by omega) (Int.le_of_lt (p2_pos _)))
  obtain ⟨a, b⟩ := near_whole hn
  have r0 := hn.1
  have hp := pL_pos
  generalize hr : (Ieee.double.nearest false N 0 : Int) = r at *
  have hj : ∃ j : Int, uD r = j * pL ∧ 0 ≤ j := by
    rcases Int.lt_or_le 0 (est 4503599627370496 (-1074) r) with c | c
    · refine ⟨mst 4503599627370496 r * p2 (est 4503599627370496 (-1074) r).toNat, ?_, ?_⟩
      · rw [uD_parts, show (est 4503599627370496 (-1074) r + 1074).toNat = (est 4503599627370496 (-1074) r).toNat + 1074 by
          clear a b hle hn hR
          generalize est 4503599627370496 (-1074) r = e at *
          omega, p2_more, Int.mul_assoc]
      · refine Int.mul_nonneg ?_ (Int.le_of_lt (p2_pos _))
        clear a b hle hn hR c
        unfold mst
        split <;> omega
    · exact ⟨N, near_int (by omega) r0 (Int.lt_of_le_of_lt hle (by decide)) c hn, by omega⟩
  obtain ⟨j, hj, j0⟩ := hj
  have ju : j ≤ 9223372036854775808 := by
    have := uD_le r0 hle
    rw [hj, uD_R] at this
    exact le_of_mul_pL this
  have lo : j - N ≤ 512 := by
    rcases Int.lt_or_eq_of_le r0 with c | c
    · have b := b c
      have hs := uD_succ (s := r - 1) (Int.sub_nonneg.2 c)
      rw [Int.sub_add_cancel, hj] at hs
      have hst := step_le (s := r - 1) (Int.sub_nonneg.2 c) (Int.lt_of_lt_of_le (Int.sub_lt_self r (by decide)) hle)
      have h2 : (2 * j - 1024) * pL ≤ 2 * N * pL := by
        rw [Int.sub_mul, Int.mul_assoc, Int.mul_assoc]
        rw [hj] at b
        clear hn hR hle a hr hj
        generalize p2 (est 4503599627370496 (-1074) (r - 1) + 1074).toNat = S at *
        generalize uD (r - 1) = v at *
        generalize j * pL = J at *
        generalize (N : Int) * pL = M at *
        generalize 1024 * pL = T at *
        omega
      have := le_of_mul_pL h2
      omega
    · have hz : j * pL = 0 := by rw [← hj, ← c]; exact uD_zero
      have : j = 0 := by
        rcases Int.mul_eq_zero.1 hz with h | h
        · exact h
        · exact absurd h (Int.ne_of_gt hp)
      omega
  have up : (N : Int) - j ≤ 512 := by
    rcases Int.lt_or_eq_of_le hle with c | c
    · have a := a (Int.lt_trans c (by decide))
      have hs := uD_succ r0
      have hst := step_le r0 c
      have h2 : 2 * N * pL ≤ (2 * j + 1024) * pL := by
        rw [Int.add_mul, Int.mul_assoc, Int.mul_assoc]
        rw [hs, hj] at a
        clear hn hR hle b hr hj lo
        generalize p2 (est 4503599627370496 (-1074) r + 1074).toNat = S at *
        generalize j * pL = J at *
        generalize (N : Int) * pL = M at *
        generalize 1024 * pL = T at *
        omega
      have := le_of_mul_pL h2
      omega
    · have : j = 9223372036854775808 := by
        have h1 := hj
        rw [c, uD_R] at h1
        exact (Int.eq_of_mul_eq_mul_right (Int.ne_of_gt hp) h1).symm
      omega
  exact ⟨j, hj, j0, ju, lo, up⟩
theorem fw_far {n k : Int} {ok : Bool} (n0 : -9223372036854775808 ≤ n) (n1 : n ≤ 9223372036854775807) (h : Wh (floatOfInt .f64 n) k ok) :
    (ok = false → floatOfInt .f64 n = 4890909195324358656 ∧ 9223372036854775296 ≤ n) ∧ (ok = true → -512 ≤ n - k ∧ n - k ≤ 512) := by
  obtain ⟨j, hj, j0, j1, lo, up⟩ := near_off (N := n.natAbs) (by omega)
  have hz := float_top n.natAbs
  have hfw := float_word n
  obtain ⟨e1, e2⟩ := word_sz (s := decide (n < 0)) (r := Ieee.double.nearest false n.natAbs 0) (Nat.lt_of_le_of_lt hz (by decide))
  rw [← hfw] at e1 e2
  have rI : Ieee.double.nearest false n.natAbs 0 < 9218868437227405312 := by
    have hu := uD_R
    rcases Nat.lt_or_ge (Ieee.double.nearest false n.natAbs 0) 9218868437227405312 with c | c
    · exact c
    · have h2 := uD_lt (s := 4890909195324358656) (t := Ieee.double.nearest false n.natAbs 0) (by decide) (Int.lt_of_lt_of_le (by decide) (Int.ofNat_le.2 c))
      rw [hj, uD_R] at h2
      exact absurd (Int.lt_of_lt_of_le h2 (Int.mul_le_mul_of_nonneg_right j1 (Int.le_of_lt pL_pos))) (Int.lt_irrefl _)
  have hV : IsV (floatOfInt .f64 n) (if n < 0 then -j else j) := by
    refine ⟨by rw [e1]; exact rI, ?_⟩
    rw [e1, e2, hj]
    by_cases c : n < 0
    · rw [decide_eq_true c, if_pos rfl, if_pos c, Int.neg_mul]
    · rw [decide_eq_false c, if_neg (by decide), if_neg c]
  rcases h with ⟨rfl, h1, _, _⟩ | ⟨rfl, _, h1⟩
  · refine ⟨fun h => absurd h (by decide), fun _ => ?_⟩
    have := h1.unique hV
    clear hj hfw e1 e2 rI hV h1 hz
    split at this <;> omega
  · refine ⟨fun _ => ?_, fun h => absurd h (by decide)⟩
    by_cases c : n < 0
    · rw [if_pos c] at hV
      exact absurd hV (h1 _ (by omega) (by omega))
    · rw [if_neg c] at hV
      have hjj : j = 9223372036854775808 := by
        rcases Int.lt_or_le j 9223372036854775808 with d | d
        · exact absurd hV (h1 _ (by omega) (by omega))
        · omega
      rw [hjj, ← uD_R] at hj
      have hr := uD_inj (by omega) (by decide) hj
      refine ⟨?_, by clear hj hfw e1 e2 rI hV h1 hz hr; omega⟩
      rw [hfw, decide_eq_false c, word_false]
      exact Int.ofNat_inj.1 hr

end Go.Proofs.Ytkaakhmncmpliab
