/- the nearest pattern: what nearest's steps come to -/
import Derived.Test.YtfnfnkakaggmbabGreatDoorIMath
namespace Go.Proofs.YtfnfnkakaggmbabGreatDoor
set_option linter.unusedVariables false

theorem half_scale {q P v c : Int} (hc : 0 < c) (h : Half q P v) : Half q (P * c) (v * c) := by
  obtain ⟨h1, h2, h3, h4⟩ := h
  have e1 : 2 * q * (P * c) - P * c = (2 * q * P - P) * c := by rw [Int.sub_mul, Int.mul_assoc (2 * q) P c]
  have e2 : 2 * q * (P * c) + P * c = (2 * q * P + P) * c := by rw [Int.add_mul, Int.mul_assoc (2 * q) P c]
  unfold Half
  rw [e1, e2]
  refine ⟨Int.mul_le_mul_of_nonneg_right h1 (by omega), Int.mul_le_mul_of_nonneg_right h2 (by omega), fun e => h3 (Int.eq_of_mul_eq_mul_right (by omega) e), fun e => h4 (Int.eq_of_mul_eq_mul_right (by omega) e)⟩
theorem half_exact {q T : Int} (hT : 0 < T) : Half q T (2 * q * T) := ⟨by omega, by omega, fun e => by omega, fun e => by omega⟩
theorem p2_at {a : Int} (n : Nat) (h : a = n) : p2 a.toNat = p2 n := by rw [h, Int.toNat_natCast]
/-- what the rounding of the cut number says of the number itself -/
theorem near_of {F L I A mb st e q t lim : Int} {fr size d : Nat} (hfr : F = p2 fr) (fr1 : 1 ≤ fr) (fr2 : fr ≤ 52) (hI : I = (lim + 1 - fr - L) * F) (hlim : L ≤ lim - 1 - fr)
    (hlen : IsLen A size) (hA : 0 ≤ A) (hmb : mb = 0 ∨ mb = 1) (hz : ¬ (size = 0 ∧ mb = 0)) (he : e + size ≤ lim) (hd : d = size - 62)
    (hst : (st = 0 ∧ A % p2 d = 0 ∧ mb = 0) ∨ (st = 1 ∧ ¬ (A % p2 d = 0 ∧ mb = 0))) (ht : t = max (e + size - 1 - fr) L)
    (hq1 : t ≤ e + d - 1 → q = (2 * (A / p2 d) + st) * p2 (e + d - 1 - t).toNat) (hq2 : e + d - 1 < t → Half q (p2 (t - (e + d - 1)).toNat) (2 * (2 * (A / p2 d) + st))) (q0 : 0 ≤ q) :
    q ≤ 2 * F ∧ (t = L ∨ F ≤ q) ∧ q + (t - L) * F ≤ I ∧ Near F L I (2 * A + mb) (e - 1) (q + (t - L) * F) := by
  have hF0 : 0 < F := by rw [hfr]; exact p2_pos fr
  have tL : L ≤ t := by omega
  -- the rounding of the cut number, in steps of 2^B
  have hcut : ∀ B, B ≤ e - 1 → B ≤ L → Half q (p2 (t - B).toNat) (2 * (2 * (A / p2 d) + st) * p2 (e + d - 1 - B).toNat) := by
    intro B hB hBL
    have hu := p2_pos (e + d - 1 - B).toNat
    rcases Int.lt_or_le (e + d - 1) t with c | c
    · have h := half_scale hu (hq2 c)
      rw [← p2_toNat_add (by omega) (by omega), show t - (e + d - 1) + (e + d - 1 - B) = t - B by omega] at h
      exact h
    · have hT := p2_pos (t - B).toNat
      have := half_exact (q := q) hT
      rw [show 2 * q * p2 (t - B).toNat = 2 * (2 * (A / p2 d) + st) * p2 (e + d - 1 - B).toNat by
        rw [hq1 c, show e + d - 1 - B = (e + d - 1 - t) + (t - B) by omega, p2_toNat_add (by omega) (by omega), ← Int.mul_assoc, ← Int.mul_assoc]] at this
      exact this
  -- that of the number itself
  have hhalf : ∀ B, B ≤ e - 1 → B ≤ L → Half q (p2 (t - B).toNat) (2 * sc (2 * A + mb) (e - 1) B) := by
    intro B hB hBL
    have hc := hcut B hB hBL
    unfold sc
    rcases Nat.eq_zero_or_pos d with c | c
    · have e0 : p2 d = 1 := by rw [c]; rfl
      rw [e0, Int.ediv_one] at hc
      have hs : st = mb := by
        rw [e0, Int.emod_one] at hst
        rcases hst with ⟨h1, _, h2⟩ | ⟨h1, h2⟩ <;> omega
      rw [hs, show e + (d : Int) - 1 - B = e - 1 - B by omega, Int.mul_assoc] at hc
      exact hc
    · have hD := p2_pos d
      have hu := p2_pos (e - 1 - B).toNat
      have eT : p2 (e + d - 1 - B).toNat = p2 d * p2 (e - 1 - B).toNat := by
        rw [show e + (d : Int) - 1 - B = (d : Int) + (e - 1 - B) by omega, p2_toNat_add (by omega) (by omega), Int.toNat_natCast]
      have gap : 10 ≤ t - (e + d - 1) := by omega
      have eTT : p2 (t - B).toNat = p2 (t - (e + d - 1) - 2).toNat * (4 * p2 d * p2 (e - 1 - B).toNat) := by
        rw [show t - B = (t - (e + d - 1) - 2) + (2 + (e + d - 1 - B)) by omega, p2_toNat_add (by omega) (by omega), p2_toNat_add (by omega) (by omega), eT, show p2 (2 : Int).toNat = 4 from rfl, Int.mul_assoc 4]
      rw [eT] at hc
      generalize p2 (t - (e + d - 1) - 2).toNat = kk at eTT
      generalize p2 (e - 1 - B).toNat = u at *
      have hr0 := Int.emod_nonneg A (b := p2 d) (by omega)
      have hr1 := Int.emod_lt_of_pos A hD
      have hdm := Int.mul_ediv_add_emod A (p2 d)
      generalize A % p2 d = rest at *
      generalize A / p2 d = top at *
      generalize p2 d = D at *
      have hDu : 0 < D * u := Int.mul_pos hD hu
      have v1 : 2 * (2 * top + st) * (D * u) = top * (4 * D * u) + 2 * st * (D * u) := by grind
      have v2 : 2 * ((2 * A + mb) * u) = top * (4 * D * u) + 2 * (2 * rest + mb) * u := by rw [← hdm]; grind
      rw [v1] at hc
      rw [v2]
      have z1 : 4 * D * u = 4 * (D * u) := Int.mul_assoc 4 D u
      refine half_sticky (Z := 4 * D * u) (by omega) eTT ?_ ?_ ?_ ?_ ?_ hc
      · exact Int.mul_nonneg (by omega) (by omega)
      · have h1 : (2 * (2 * rest + mb)) * u < (4 * D) * u := Int.mul_lt_mul_of_pos_right (by omega) hu
        exact h1
      · exact Int.mul_nonneg (by omega) (by omega)
      · have h1 : (2 * st) * (D * u) < 4 * (D * u) := Int.mul_lt_mul_of_pos_right (by omega) hDu
        omega
      · constructor
        · intro h
          have h1 : 2 * (2 * rest + mb) = 0 := by
            rcases Int.mul_eq_zero.1 h with h | h
            · exact h
            · omega
          have : st = 0 := by rcases hst with ⟨h2, _⟩ | ⟨_, h2⟩ <;> omega
          rw [this]; simp
        · intro h
          have h1 : 2 * st = 0 := by
            rcases Int.mul_eq_zero.1 h with h | h
            · exact h
            · omega
          have h2 : 2 * (2 * rest + mb) = 0 := by rcases hst with ⟨h2, h3, h4⟩ | ⟨h2, h3⟩ <;> omega
          rw [h2, Int.zero_mul]
  -- the number lies between two powers
  have hnum1 : 2 * A + mb < 2 * p2 size := by have := hlen.1; omega
  have hnum0 : p2 size ≤ 2 * A + mb := by
    rcases Nat.eq_zero_or_pos size with c | c
    · subst c
      simp only [p2]
      omega
    · have := hlen.2 c
      obtain ⟨n, rfl⟩ : ∃ n, size = n + 1 := ⟨size - 1, by omega⟩
      rw [Nat.add_sub_cancel] at this
      simp only [p2]
      omega
  have hlow : L < t → ∀ B, B ≤ e - 1 → B ≤ L → 2 * F * p2 (t - B).toNat ≤ 2 * sc (2 * A + mb) (e - 1) B := by
    intro hl B hB hBL
    have ht' : t = e + size - 1 - fr := by omega
    unfold sc
    have h1 : 2 * F * p2 (t - B).toNat = 2 * (p2 size * p2 (e - 1 - B).toNat) := by
      rw [hfr, Int.mul_assoc, show p2 fr = p2 ((fr : Int)).toNat by rw [Int.toNat_natCast], ← p2_toNat_add (by omega) (by omega), show p2 size = p2 ((size : Int)).toNat by rw [Int.toNat_natCast], ← p2_toNat_add (by omega) (by omega)]
      congr 3
      omega
    rw [h1]
    have hu := p2_pos (e - 1 - B).toNat
    have := Int.mul_le_mul_of_nonneg_right hnum0 (c := p2 (e - 1 - B).toNat) (by omega)
    omega
  have hB1 : min (e - 1) L ≤ e - 1 := by omega
  have hB2 : min (e - 1) L ≤ L := by omega
  have hh := hhalf (min (e - 1) L) hB1 hB2
  have hT := p2_pos (t - min (e - 1) L).toNat
  have hup : 2 * sc (2 * A + mb) (e - 1) (min (e - 1) L) < 4 * F * p2 (t - min (e - 1) L).toNat := by
    unfold sc
    have hu := p2_pos (e - 1 - min (e - 1) L).toNat
    have h1 : (2 * A + mb) * p2 (e - 1 - min (e - 1) L).toNat < 2 * p2 size * p2 (e - 1 - min (e - 1) L).toNat := Int.mul_lt_mul_of_pos_right hnum1 hu
    have h2 : 2 * p2 size * p2 (e - 1 - min (e - 1) L).toNat = p2 (size + 1 + (e - 1 - min (e - 1) L)).toNat := by
      rw [show ((size : Int) + 1 + (e - 1 - min (e - 1) L)) = ((size + 1 : Nat) : Int) + (e - 1 - min (e - 1) L) by omega, p2_toNat_add (by omega) (by omega), Int.toNat_natCast, p2]
    have h3 : 4 * F * p2 (t - min (e - 1) L).toNat = 2 * p2 (fr + 1 + (t - min (e - 1) L)).toNat := by
      rw [show ((fr : Int) + 1 + (t - min (e - 1) L)) = ((fr + 1 : Nat) : Int) + (t - min (e - 1) L) by omega, p2_toNat_add (by omega) (by omega), Int.toNat_natCast, p2, hfr, show (4 : Int) * p2 fr = 2 * (2 * p2 fr) by omega, Int.mul_assoc 2]
    have h4 := p2_mono (m := (size + 1 + (e - 1 - min (e - 1) L)).toNat) (n := (fr + 1 + (t - min (e - 1) L)).toNat) (by omega)
    rw [h3]
    rw [h2] at h1
    omega
  have hq2F : q ≤ 2 * F := by
    rcases Int.lt_or_le (2 * F) q with c | c
    · have h1 := hh.1
      have h2 : (2 * F + 1) * (2 * p2 (t - min (e - 1) L).toNat) ≤ q * (2 * p2 (t - min (e - 1) L).toNat) := Int.mul_le_mul_of_nonneg_right (by omega) (by omega)
      generalize p2 (t - min (e - 1) L).toNat = T at *
      have e1 : q * (2 * T) = 2 * q * T := by grind
      have e2 : (2 * F + 1) * (2 * T) = 4 * F * T + 2 * T := by grind
      omega
    · exact c
  have hqF : t = L ∨ F ≤ q := by
    rcases Int.lt_or_eq_of_le tL with c | c
    · right
      have h1 := hlow c _ hB1 hB2
      have h2 := hh.2.1
      rcases Int.lt_or_le q F with c2 | c2
      · have h3 : q * (2 * p2 (t - min (e - 1) L).toNat) ≤ (F - 1) * (2 * p2 (t - min (e - 1) L).toNat) := Int.mul_le_mul_of_nonneg_right (by omega) (by omega)
        generalize p2 (t - min (e - 1) L).toNat = T at *
        have e1 : q * (2 * T) = 2 * q * T := by grind
        have e2 : (F - 1) * (2 * T) = 2 * F * T - 2 * T := by grind
        omega
      · exact c2
    · left; exact c.symm
  have hrI : q + (t - L) * F ≤ I := by
    have h1 : (t - L) * F ≤ (lim - 1 - fr - L) * F := Int.mul_le_mul_of_nonneg_right (by omega) (by omega)
    have h2 : (lim + 1 - fr - L) * F = (lim - 1 - fr - L) * F + 2 * F := by rw [show lim + 1 - fr - L = (lim - 1 - fr - L) + 2 by omega, Int.add_mul]
    omega
  refine ⟨hq2F, hqF, hrI, near_pattern hF0 ?_ tL q0 hq2F hqF hrI hhalf hlow⟩
  rw [hfr]
  obtain ⟨n, rfl⟩ : ∃ n, fr = n + 1 := ⟨fr - 1, by omega⟩
  rw [p2]
  omega
/-- nothing, or far too little -/
theorem near_low {F L I A mb e : Int} {size : Nat} (hF : 1 < F) (hI : 0 < I) (hA : 0 ≤ A) (hlen : IsLen A size) (hmb : mb = 0 ∨ mb = 1) (h : (size = 0 ∧ mb = 0) ∨ e < L - size) : Near F L I (2 * A + mb) (e - 1) 0 := by
  refine ⟨by omega, by omega, fun B hB hBL => ⟨fun _ => ?_, fun h => by omega⟩⟩
  have e0 : um F L B 0 = 0 := by unfold um sc mst; rw [if_pos (by omega), Int.zero_mul]
  have e1 : um F L B (0 + 1) = p2 (L - B).toNat := by rw [um_succ (by omega) (by omega) hBL, e0, Int.zero_add]; unfold est; rw [if_pos (by omega)]
  rw [e0, e1, Int.zero_add]
  have hT := p2_pos (L - B).toNat
  unfold sc
  rcases h with ⟨h1, h2⟩ | h
  · subst h1
    have := hlen.1
    simp only [p2] at this
    have hz : 2 * A + mb = 0 := by omega
    rw [hz, Int.zero_mul, Int.mul_zero]
    exact ⟨by omega, fun e => by omega⟩
  · have hnum1 : 2 * A + mb < 2 * p2 size := by have := hlen.1; omega
    have hu := p2_pos (e - 1 - B).toNat
    have h1 : (2 * A + mb) * p2 (e - 1 - B).toNat < 2 * p2 size * p2 (e - 1 - B).toNat := Int.mul_lt_mul_of_pos_right hnum1 hu
    have h2 : 2 * (2 * p2 size * p2 (e - 1 - B).toNat) = p2 (size + 2 + (e - 1 - B)).toNat := by
      rw [show ((size : Int) + 2 + (e - 1 - B)) = ((size + 2 : Nat) : Int) + (e - 1 - B) by omega, p2_toNat_add (by omega) (by omega), Int.toNat_natCast, p2, p2, ← Int.mul_assoc]
    have h4 := p2_mono (m := (size + 2 + (e - 1 - B)).toNat) (n := (L - B).toNat) (by omega)
    exact ⟨by omega, fun e => by omega⟩
/-- far too great -/
theorem near_high {F L I A mb e lim : Int} {fr size : Nat} (hfr : F = p2 fr) (hI : I = (lim + 1 - fr - L) * F) (hlim : L ≤ lim - 1 - fr) (hA : 0 ≤ A) (hlen : IsLen A size) (hmb : mb = 0 ∨ mb = 1) (hz : ¬ (size = 0 ∧ mb = 0)) (h : lim - size < e) : Near F L I (2 * A + mb) (e - 1) I := by
  have hF0 : 0 < F := by rw [hfr]; exact p2_pos fr
  have hI0 : 2 * F ≤ I := by
    have h1 : 2 * F ≤ (lim + 1 - fr - L) * F := Int.mul_le_mul_of_nonneg_right (by omega) (by omega)
    omega
  refine ⟨by omega, by omega, fun B hB hBL => ⟨fun h => by omega, fun _ => ?_⟩⟩
  have hIq : I = F * (lim + 1 - fr - L) := by rw [hI, Int.mul_comm]
  have eI : um F L B I = p2 (lim - B).toNat := by
    unfold um sc mst est
    rw [if_neg (by omega), if_neg (by omega), hIq, Int.mul_emod_right, Int.mul_ediv_cancel_left _ (by omega), Int.zero_add, hfr, show L - 1 + (lim + 1 - fr - L) - B = lim - fr - B by omega, show p2 fr = p2 ((fr : Int)).toNat by rw [Int.toNat_natCast], ← p2_toNat_add (by omega) (by omega)]
    congr 2
    omega
  have hs := um_lt (F := F) (L := L) (B := B) (s := I - 1) hF0 (by omega) hBL
  rw [Int.sub_add_cancel, eI] at hs
  rw [eI]
  have hnum0 : p2 size ≤ 2 * A + mb := by
    rcases Nat.eq_zero_or_pos size with c | c
    · subst c
      simp only [p2]
      omega
    · have := hlen.2 c
      obtain ⟨n, rfl⟩ : ∃ n, size = n + 1 := ⟨size - 1, by omega⟩
      rw [Nat.add_sub_cancel] at this
      simp only [p2]
      omega
  unfold sc
  have hu := p2_pos (e - 1 - B).toNat
  have h1 := Int.mul_le_mul_of_nonneg_right hnum0 (c := p2 (e - 1 - B).toNat) (by omega)
  have h2 : p2 size * p2 (e - 1 - B).toNat = p2 (size + (e - 1 - B)).toNat := by rw [p2_toNat_add (by omega) (by omega), Int.toNat_natCast]
  have h4 := p2_mono (m := (lim - B).toNat) (n := (size + (e - 1 - B)).toNat) (by omega)
  exact ⟨by omega, fun e => by omega⟩

end Go.Proofs.YtfnfnkakaggmbabGreatDoor
