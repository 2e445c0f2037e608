/- IRound, IGap, Len64 -/
import Derived.Test.YtlhjbmdkfdabmaaGreatDoorIMath
import Derived.Test.YtlhjbmdkfdabmaaGreatDoorCmp
import Derived.Test.YtlhjbmdkfdabmaaGreatDoorLen
namespace Go.Proofs.YtlhjbmdkfdabmaaGreatDoor
set_option linter.unusedVariables false

theorem half_scale {q P v c : Int} (hc : 0 < c) (h : Half q P v) : Half q (P * c) (v * c) := by
  obtain ⟨h1, h2, h3, h4⟩ := h
  have e1 : 2 * q * (P * c) - P * c = (2 * q * P - P) * c := by rw [Int.sub_mul, Int.mul_assoc (2 * q) P c]
  have e2 : 2 * q * (P * c) + P * c = (2 * q * P + P) * c := by rw [Int.add_mul, Int.mul_assoc (2 * q) P c]
  unfold Half
  rw [e1, e2]
  refine ⟨Int.mul_le_mul_of_nonneg_right h1 (by omega), Int.mul_le_mul_of_nonneg_right h2 (by omega), fun e => h3 (Int.eq_of_mul_eq_mul_right (by omega) e), fun e => h4 (Int.eq_of_mul_eq_mul_right (by omega) e)⟩
theorem half_exact {q T : Int} (hT : 0 < T) : Half q T (2 * q * T) := ⟨by omega, by omega, fun e => by omega, fun e => by omega⟩
theorem p2_at {a : Int} (n : Nat) (h : a = n) : p2 a.toNat = p2 n := by rw [h, Int.toNat_natCast]
/-- what the rounding of the cut number says of the number itself -/
theorem near_of {F L I A mb st e q t lim : Int} {fr size d : Nat} (hfr : F = p2 fr) (fr1 : 1 ≤ fr) (fr2 : fr ≤ 52) (hI : I = (lim + 1 - fr - L) * F) (hlim : L ≤ lim - 1 - fr)
    (hlen : IsLen A size) (hA : 0 ≤ A) (hmb : mb = 0 ∨ mb = 1) (hz : ¬ (size = 0 ∧ mb = 0)) (he : e + size ≤ lim) (hd : d = size - 62)
    (hst : (st = 0 ∧ A % p2 d = 0 ∧ mb = 0) ∨ (st = 1 ∧ ¬ (A % p2 d = 0 ∧ mb = 0))) (ht : t = max (e + size - 1 - fr) L)
    (hq1 : t ≤ e + d - 1 → q = (2 * (A / p2 d) + st) * p2 (e + d - 1 - t).toNat) (hq2 : e + d - 1 < t → Half q (p2 (t - (e + d - 1)).toNat) (2 * (2 * (A / p2 d) + st))) (q0 : 0 ≤ q) :
    q ≤ 2 * F ∧ (t = L ∨ F ≤ q) ∧ q + (t - L) * F ≤ I ∧ Near F L I (2 * A + mb) (e - 1) (q + (t - L) * F) := by
  have hF0 : 0 < F := by rw [hfr]; exact p2_pos fr
  have tL : L ≤ t := by omega
  -- the rounding of the cut number, in steps of 2^B
  have hcut : ∀ B, B ≤ e - 1 → B ≤ L → Half q (p2 (t - B).toNat) (2 * (2 * (A / p2 d) + st) * p2 (e + d - 1 - B).toNat) := by
    intro B hB hBL
    have hu := p2_pos (e + d - 1 - B).toNat
    rcases Int.lt_or_le (e + d - 1) t with c | c
    · have h := half_scale hu (hq2 c)
      rw [← p2_toNat_add (by omega) (by omega), show t - (e + d - 1) + (e + d - 1 - B) = t - B by omega] at h
      exact h
    · have hT := p2_pos (t - B).toNat
      have := half_exact (q := q) hT
      rw [show 2 * q * p2 (t - B).toNat = 2 * (2 * (A / p2 d) + st) * p2 (e + d - 1 - B).toNat by
        rw [hq1 c, show e + d - 1 - B = (e + d - 1 - t) + (t - B) by omega, p2_toNat_add (by omega) (by omega), ← Int.mul_assoc, ← Int.mul_assoc]] at this
      exact this
  -- that of the number itself
  have hhalf : ∀ B, B ≤ e - 1 → B ≤ L → Half q (p2 (t - B).toNat) (2 * sc (2 * A + mb) (e - 1) B) := by
    intro B hB hBL
    have hc := hcut B hB hBL
    unfold sc
    rcases Nat.eq_zero_or_pos d with c | c
    · have e0 : p2 d = 1 := by rw [c]; rfl
      rw [e0, Int.ediv_one] at hc
      have hs : st = mb := by
        rw [e0, Int.emod_one] at hst
        rcases hst with ⟨h1, _, h2⟩ | ⟨h1, h2⟩ <;> omega
      rw [hs, show e + (d : Int) - 1 - B = e - 1 - B by omega, Int.mul_assoc] at hc
      exact hc
    · have hD := p2_pos d
      have hu := p2_pos (e - 1 - B).toNat
      have eT : p2 (e + d - 1 - B).toNat = p2 d * p2 (e - 1 - B).toNat := by
        rw [show e + (d : Int) - 1 - B = (d : Int) + (e - 1 - B) by omega, p2_toNat_add (by omega) (by omega), Int.toNat_natCast]
      have gap : 10 ≤ t - (e + d - 1) := by omega
      have eTT : p2 (t - B).toNat = p2 (t - (e + d - 1) - 2).toNat * (4 * p2 d * p2 (e - 1 - B).toNat) := by
        rw [show t - B = (t - (e + d - 1) - 2) + (2 + (e + d - 1 - B)) by omega, p2_toNat_add (by omega) (by omega), p2_toNat_add (by omega) (by omega), eT, show p2 (2 : Int).toNat = 4 from rfl, Int.mul_assoc 4]
      rw [eT] at hc
      generalize p2 (t - (e + d - 1) - 2).toNat = kk at eTT
      generalize p2 (e - 1 - B).toNat = u at *
      have hr0 := Int.emod_nonneg A (b := p2 d) (by omega)
      have hr1 := Int.emod_lt_of_pos A hD
      have hdm := Int.mul_ediv_add_emod A (p2 d)
      generalize A % p2 d = rest at *
      generalize A / p2 d = top at *
      generalize p2 d = D at *
      have hDu : 0 < D * u := Int.mul_pos hD hu
      have v1 : 2 * (2 * top + st) * (D * u) = top * (4 * D * u) + 2 * st * (D * u) := by grind
      have v2 : 2 * ((2 * A + mb) * u) = top * (4 * D * u) + 2 * (2 * rest + mb) * u := by rw [← hdm]; grind
      rw [v1] at hc
      rw [v2]
      have z1 : 4 * D * u = 4 * (D * u) := Int.mul_assoc 4 D u
      refine half_sticky (Z := 4 * D * u) (by omega) eTT ?_ ?_ ?_ ?_ ?_ hc
      · exact Int.mul_nonneg (by omega) (by omega)
      · have h1 : (2 * (2 * rest + mb)) * u < (4 * D) * u := Int.mul_lt_mul_of_pos_right (by omega) hu
        exact h1
      · exact Int.mul_nonneg (by omega) (by omega)
      · have h1 : (2 * st) * (D * u) < 4 * (D * u) := Int.mul_lt_mul_of_pos_right (by omega) hDu
        omega
      · constructor
        · intro h
          have h1 : 2 * (2 * rest + mb) = 0 := by
            rcases Int.mul_eq_zero.1 h with h | h
            · exact h
            · omega
          have : st = 0 := by rcases hst with ⟨h2, _⟩ | ⟨_, h2⟩ <;> omega
          rw [this]; simp
        · intro h
          have h1 : 2 * st = 0 := by
            rcases Int.mul_eq_zero.1 h with h | h
            · exact h
            · omega
          have h2 : 2 * (2 * rest + mb) = 0 := by rcases hst with ⟨h2, h3, h4⟩ | ⟨h2, h3⟩ <;> omega
          rw [h2, Int.zero_mul]
  -- the number lies between two powers
  have hnum1 : 2 * A + mb < 2 * p2 size := by have := hlen.1; omega
  have hnum0 : p2 size ≤ 2 * A + mb := by
    rcases Nat.eq_zero_or_pos size with c | c
    · subst c
      simp only [p2]
      omega
    · have := hlen.2 c
      obtain ⟨n, rfl⟩ : ∃ n, size = n + 1 := ⟨size - 1, by omega⟩
      rw [Nat.add_sub_cancel] at this
      simp only [p2]
      omega
  have hlow : L < t → ∀ B, B ≤ e - 1 → B ≤ L → 2 * F * p2 (t - B).toNat ≤ 2 * sc (2 * A + mb) (e - 1) B := by
    intro hl B hB hBL
    have ht' : t = e + size - 1 - fr := by omega
    unfold sc
    have h1 : 2 * F * p2 (t - B).toNat = 2 * (p2 size * p2 (e - 1 - B).toNat) := by
      rw [hfr, Int.mul_assoc, show p2 fr = p2 ((fr : Int)).toNat by rw [Int.toNat_natCast], ← p2_toNat_add (by omega) (by omega), show p2 size = p2 ((size : Int)).toNat by rw [Int.toNat_natCast], ← p2_toNat_add (by omega) (by omega)]
      congr 3
      omega
    rw [h1]
    have hu := p2_pos (e - 1 - B).toNat
    have := Int.mul_le_mul_of_nonneg_right hnum0 (c := p2 (e - 1 - B).toNat) (by omega)
    omega
  have hB1 : min (e - 1) L ≤ e - 1 := by omega
  have hB2 : min (e - 1) L ≤ L := by omega
  have hh := hhalf (min (e - 1) L) hB1 hB2
  have hT := p2_pos (t - min (e - 1) L).toNat
  have hup : 2 * sc (2 * A + mb) (e - 1) (min (e - 1) L) < 4 * F * p2 (t - min (e - 1) L).toNat := by
    unfold sc
    have hu := p2_pos (e - 1 - min (e - 1) L).toNat
    have h1 : (2 * A + mb) * p2 (e - 1 - min (e - 1) L).toNat < 2 * p2 size * p2 (e - 1 - min (e - 1) L).toNat := Int.mul_lt_mul_of_pos_right hnum1 hu
    have h2 : 2 * p2 size * p2 (e - 1 - min (e - 1) L).toNat = p2 (size + 1 + (e - 1 - min (e - 1) L)).toNat := by
      rw [show ((size : Int) + 1 + (e - 1 - min (e - 1) L)) = ((size + 1 : Nat) : Int) + (e - 1 - min (e - 1) L) by omega, p2_toNat_add (by omega) (by omega), Int.toNat_natCast, p2]
    have h3 : 4 * F * p2 (t - min (e - 1) L).toNat = 2 * p2 (fr + 1 + (t - min (e - 1) L)).toNat := by
      rw [show ((fr : Int) + 1 + (t - min (e - 1) L)) = ((fr + 1 : Nat) : Int) + (t - min (e - 1) L) by omega, p2_toNat_add (by omega) (by omega), Int.toNat_natCast, p2, hfr, show (4 : Int) * p2 fr = 2 * (2 * p2 fr) by omega, Int.mul_assoc 2]
    have h4 := p2_mono (m := (size + 1 + (e - 1 - min (e - 1) L)).toNat) (n := (fr + 1 + (t - min (e - 1) L)).toNat) (by omega)
    rw [h3]
    rw [h2] at h1
    omega
  have hq2F : q ≤ 2 * F := by
    rcases Int.lt_or_le (2 * F) q with c | c
    · have h1 := hh.1
      have h2 : (2 * F + 1) * (2 * p2 (t - min (e - 1) L).toNat) ≤ q * (2 * p2 (t - min (e - 1) L).toNat) := Int.mul_le_mul_of_nonneg_right (by omega) (by omega)
      generalize p2 (t - min (e - 1) L).toNat = T at *
      have e1 : q * (2 * T) = 2 * q * T := by grind
      have e2 : (2 * F + 1) * (2 * T) = 4 * F * T + 2 * T := by grind
      omega
    · exact c
  have hqF : t = L ∨ F ≤ q := by
    rcases Int.lt_or_eq_of_le tL with c | c
    · right
      have h1 := hlow c _ hB1 hB2
      have h2 := hh.2.1
      rcases Int.lt_or_le q F with c2 | c2
      · have h3 : q * (2 * p2 (t - min (e - 1) L).toNat) ≤ (F - 1) * (2 * p2 (t - min (e - 1) L).toNat) := Int.mul_le_mul_of_nonneg_right (by omega) (by omega)
        generalize p2 (t - min (e - 1) L).toNat = T at *
        have e1 : q * (2 * T) = 2 * q * T := by grind
        have e2 : (F - 1) * (2 * T) = 2 * F * T - 2 * T := by grind
        omega
      · exact c2
    · left; exact c.symm
  have hrI : q + (t - L) * F ≤ I := by
    have h1 : (t - L) * F ≤ (lim - 1 - fr - L) * F := Int.mul_le_mul_of_nonneg_right (by omega) (by omega)
    have h2 : (lim + 1 - fr - L) * F = (lim - 1 - fr - L) * F + 2 * F := by rw [show lim + 1 - fr - L = (lim - 1 - fr - L) + 2 by omega, Int.add_mul]
    omega
  refine ⟨hq2F, hqF, hrI, near_pattern hF0 ?_ tL q0 hq2F hqF hrI hhalf hlow⟩
  rw [hfr]
  obtain ⟨n, rfl⟩ : ∃ n, fr = n + 1 := ⟨fr - 1, by omega⟩
  rw [p2]
  omega
/-- nothing, or far too little -/
theorem near_low {F L I A mb e : Int} {size : Nat} (hF : 1 < F) (hI : 0 < I) (hA : 0 ≤ A) (hlen : IsLen A size) (hmb : mb = 0 ∨ mb = 1) (h : (size = 0 ∧ mb = 0) ∨ e < L - size) : Near F L I (2 * A + mb) (e - 1) 0 := by
  refine ⟨by omega, by omega, fun B hB hBL => ⟨fun _ => ?_, fun h => by omega⟩⟩
  have e0 : um F L B 0 = 0 := by unfold um sc mst; rw [if_pos (by omega), Int.zero_mul]
  have e1 : um F L B (0 + 1) = p2 (L - B).toNat := by rw [um_succ (by omega) (by omega) hBL, e0, Int.zero_add]; unfold est; rw [if_pos (by omega)]
  rw [e0, e1, Int.zero_add]
  have hT := p2_pos (L - B).toNat
  unfold sc
  rcases h with ⟨h1, h2⟩ | h
  · subst h1
    have := hlen.1
    simp only [p2] at this
    have hz : 2 * A + mb = 0 := by omega
    rw [hz, Int.zero_mul, Int.mul_zero]
    exact ⟨by omega, fun e => by omega⟩
  · have hnum1 : 2 * A + mb < 2 * p2 size := by have := hlen.1; omega
    have hu := p2_pos (e - 1 - B).toNat
    have h1 : (2 * A + mb) * p2 (e - 1 - B).toNat < 2 * p2 size * p2 (e - 1 - B).toNat := Int.mul_lt_mul_of_pos_right hnum1 hu
    have h2 : 2 * (2 * p2 size * p2 (e - 1 - B).toNat) = p2 (size + 2 + (e - 1 - B)).toNat := by
      rw [show ((size : Int) + 2 + (e - 1 - B)) = ((size + 2 : Nat) : Int) + (e - 1 - B) by omega, p2_toNat_add (by omega) (by omega), Int.toNat_natCast, p2, p2, ← Int.mul_assoc]
    have h4 := p2_mono (m := (size + 2 + (e - 1 - B)).toNat) (n := (L - B).toNat) (by omega)
    exact ⟨by omega, fun e => by omega⟩
/-- far too great -/
theorem near_high {F L I A mb e lim : Int} {fr size : Nat} (hfr : F = p2 fr) (hI : I = (lim + 1 - fr - L) * F) (hlim : L ≤ lim - 1 - fr) (hA : 0 ≤ A) (hlen : IsLen A size) (hmb : mb = 0 ∨ mb = 1) (hz : ¬ (size = 0 ∧ mb = 0)) (h : lim - size < e) : Near F L I (2 * A + mb) (e - 1) I := by
  have hF0 : 0 < F := by rw [hfr]; exact p2_pos fr
  have hI0 : 2 * F ≤ I := by
    have h1 : 2 * F ≤ (lim + 1 - fr - L) * F := Int.mul_le_mul_of_nonneg_right (by omega) (by omega)
    omega
  refine ⟨by omega, by omega, fun B hB hBL => ⟨fun h => by omega, fun _ => ?_⟩⟩
  have hIq : I = F * (lim + 1 - fr - L) := by rw [hI, Int.mul_comm]
  have eI : um F L B I = p2 (lim - B).toNat := by
    unfold um sc mst est
    rw [if_neg (by omega), if_neg (by omega), hIq, Int.mul_emod_right, Int.mul_ediv_cancel_left _ (by omega), Int.zero_add, hfr, show L - 1 + (lim + 1 - fr - L) - B = lim - fr - B by omega, show p2 fr = p2 ((fr : Int)).toNat by rw [Int.toNat_natCast], ← p2_toNat_add (by omega) (by omega)]
    congr 2
    omega
  have hs := um_lt (F := F) (L := L) (B := B) (s := I - 1) hF0 (by omega) hBL
  rw [Int.sub_add_cancel, eI] at hs
  rw [eI]
  have hnum0 : p2 size ≤ 2 * A + mb := by
    rcases Nat.eq_zero_or_pos size with c | c
    · subst c
      simp only [p2]
      omega
    · have := hlen.2 c
      obtain ⟨n, rfl⟩ : ∃ n, size = n + 1 := ⟨size - 1, by omega⟩
      rw [Nat.add_sub_cancel] at this
      simp only [p2]
      omega
  unfold sc
  have hu := p2_pos (e - 1 - B).toNat
  have h1 := Int.mul_le_mul_of_nonneg_right hnum0 (c := p2 (e - 1 - B).toNat) (by omega)
  have h2 : p2 size * p2 (e - 1 - B).toNat = p2 (size + (e - 1 - B)).toNat := by rw [p2_toNat_add (by omega) (by omega), Int.toNat_natCast]
  have h4 := p2_mono (m := (lim - B).toNat) (n := (size + (e - 1 - B)).toNat) (by omega)
  exact ⟨by omega, fun e => by omega⟩

end Go.Proofs.YtlhjbmdkfdabmaaGreatDoor

namespace Go.Proofs.YtlhjbmdkfdabmaaGreatDoor
set_option linter.unusedVariables false

theorem near_same {F L I N E N' E' r r' B : Int} (hF : 0 < F) (h : Near F L I N E r) (h' : Near F L I N' E' r') (hE : B ≤ E) (hE' : B ≤ E') (hB : B ≤ L) (hv : sc N E B = sc N' E' B) : r = r' := by
  have a := near_le hF h h' hE hE' hB (by omega)
  have b := near_le hF h' h hE' hE hB (by omega)
  omega
theorem mst_top {F s : Int} (hF : 0 < F) (s0 : 0 ≤ s) : mst F s ≤ 2 * F - 1 := by
  unfold mst
  split
  · omega
  · have := Int.emod_lt_of_pos s hF; omega
/-- two numbers between the same two whole ones, which are long enough, have one nearest pattern -/
theorem near_gap {F L I A N E N' E' r r' B e : Int} {fr : Nat} (hfr : F = p2 fr) (hA : p2 (fr + 2) ≤ A) (h : Near F L I N E r) (h' : Near F L I N' E' r') (hE : B ≤ E) (hE' : B ≤ E') (hB : B ≤ L) (he : B ≤ e)
    (l1 : A * p2 (e - B).toNat < sc N E B) (u1 : sc N E B < (A + 1) * p2 (e - B).toNat) (l2 : A * p2 (e - B).toNat < sc N' E' B) (u2 : sc N' E' B < (A + 1) * p2 (e - B).toNat) : r = r' := by
  have hF : 0 < F := by rw [hfr]; exact p2_pos fr
  have key : ∀ {N E N' E' r r' : Int}, Near F L I N E r → Near F L I N' E' r' → B ≤ E → B ≤ E' → A * p2 (e - B).toNat < sc N E B → sc N' E' B < (A + 1) * p2 (e - B).toNat → r < r' → False := by
    intro N E N' E' r r' h h' hE hE' l1 u2 c
    obtain ⟨r0, r1, hn⟩ := h
    obtain ⟨q0, q1, hn'⟩ := h'
    obtain ⟨hi, _⟩ := hn B hE hB
    obtain ⟨_, lo⟩ := hn' B hE' hB
    obtain ⟨g1, _⟩ := hi (by omega)
    obtain ⟨g2, _⟩ := lo (by omega)
    have a1 := um_le (s := r) (t := r' - 1) hF r0 hB (by omega)
    have a2 := um_le (s := r + 1) (t := r') hF (by omega) hB (by omega)
    rw [um_succ hF r0 hB] at g1 a2
    have hm := mst_top hF r0
    have hT := p2_pos (est F L r - B).toNat
    have hU := p2_pos (e - B).toNat
    have hest := est_ge (L := L) (s := r) hF
    have hum : um F L B r = mst F r * p2 (est F L r - B).toNat := rfl
    -- the middle lies between the two whole numbers
    have mid1 : 2 * (A * p2 (e - B).toNat) < (2 * mst F r + 1) * p2 (est F L r - B).toNat := by
      rw [Int.add_mul, Int.one_mul, Int.mul_assoc, ← hum]; omega
    have mid2 : (2 * mst F r + 1) * p2 (est F L r - B).toNat < 2 * ((A + 1) * p2 (e - B).toNat) := by
      rw [Int.add_mul, Int.one_mul, Int.mul_assoc, ← hum]; omega
    have hlong : e + 1 < est F L r := by
      rcases Int.lt_or_le (e + 1) (est F L r) with g | g
      · exact g
      · exfalso
        have h1 : p2 (est F L r - B).toNat ≤ p2 (1 + (e - B)).toNat := p2_mono (by omega)
        rw [p2_toNat_add (by omega) (by omega), show p2 (1 : Int).toNat = 2 from rfl] at h1
        have h2 : (2 * mst F r + 1) * p2 (est F L r - B).toNat ≤ p2 (fr + 2) * p2 (est F L r - B).toNat := Int.mul_le_mul_of_nonneg_right (by rw [show p2 (fr + 2) = 4 * F by rw [hfr, p2, p2]; omega]; omega) (by omega)
        have h3 : p2 (fr + 2) * p2 (est F L r - B).toNat ≤ A * p2 (est F L r - B).toNat := Int.mul_le_mul_of_nonneg_right hA (by omega)
        have h4 : A * p2 (est F L r - B).toNat ≤ A * (2 * p2 (e - B).toNat) := Int.mul_le_mul_of_nonneg_left h1 (by have := p2_pos (fr + 2); omega)
        have h5 : A * (2 * p2 (e - B).toNat) = 2 * (A * p2 (e - B).toNat) := Int.mul_left_comm _ _ _
        omega
    have hk : p2 (est F L r - B).toNat = p2 (est F L r - e - 1).toNat * (2 * p2 (e - B).toNat) := by
      rw [show (2 : Int) * p2 (e - B).toNat = p2 (1 + (e - B)).toNat by rw [p2_toNat_add (by omega) (by omega)]; rfl, ← p2_toNat_add (by omega) (by omega)]
      congr 2
      omega
    have hk2 : (2 * mst F r + 1) * p2 (est F L r - B).toNat = ((2 * mst F r + 1) * p2 (est F L r - e - 1).toNat) * (2 * p2 (e - B).toNat) := by rw [hk, Int.mul_assoc]
    rw [hk2] at mid1 mid2
    clear hk hk2
    generalize (2 * mst F r + 1) * p2 (est F L r - e - 1).toNat = kk at mid1 mid2
    have e1 : kk * (2 * p2 (e - B).toNat) = 2 * (kk * p2 (e - B).toNat) := Int.mul_left_comm _ _ _
    rw [e1] at mid1 mid2
    have b1 : A < kk := Int.lt_of_mul_lt_mul_right (a := p2 (e - B).toNat) (by omega) (by omega)
    have b2 : kk < A + 1 := Int.lt_of_mul_lt_mul_right (a := p2 (e - B).toNat) (by omega) (by omega)
    omega
  rcases Int.lt_trichotomy r r' with c | c | c
  · exact (key h h' hE hE' l1 u2 c).elim
  · exact c
  · exact (key h' h hE' hE l2 u1 c).elim
theorem sc_twice {N E B : Int} (h : B ≤ E - 1) : sc N E B = sc (2 * N) (E - 1) B := by
  have e1 := sc_up (N := N) (E := E - 1) (B := B) (k := 1) h
  rw [show E - 1 + ((1 : Nat) : Int) = E by omega, show N * p2 1 = 2 * N by rw [show p2 1 = 2 from rfl]; omega] at e1
  exact e1
theorem sgn_scale {x y c : Int} (hc : 0 < c) : sgn (x * c) (y * c) = sgn x y := by
  unfold sgn
  have h1 : x * c < y * c ↔ x < y := ⟨fun h => Int.lt_of_mul_lt_mul_right h (Int.le_of_lt hc), fun h => Int.mul_lt_mul_of_pos_right h hc⟩
  have h2 : y * c < x * c ↔ y < x := ⟨fun h => Int.lt_of_mul_lt_mul_right h (Int.le_of_lt hc), fun h => Int.mul_lt_mul_of_pos_right h hc⟩
  simp only [h1, h2]
def b2i' (b : Bool) : Int := if b then 1 else 0
/-- what stands behind so many digits says no more than that something does -/
def Stick (A : Int) (mb : Bool) (e A' : Int) (mb' : Bool) (e' : Int) : Prop :=
  (A' = A ∧ mb' = mb ∧ e' = e) ∨ ∃ d : Nat, A' = A / p2 d ∧ e' = e + d ∧ p2 100 ≤ A' ∧ mb' = (mb || decide (0 < A % p2 d))
theorem stick_same {F L I A A' e e' r r' : Int} {mb mb' : Bool} {fr : Nat} (hfr : F = p2 fr) (h52 : fr ≤ 52) (A0 : 0 ≤ A) (h : Near F L I (2 * A + b2i' mb) (e - 1) r) (h' : Near F L I (2 * A' + b2i' mb') (e' - 1) r') (hs : Stick A mb e A' mb' e') : r = r' := by
  have hF : 0 < F := by rw [hfr]; exact p2_pos fr
  rcases hs with ⟨rfl, rfl, rfl⟩ | ⟨d, hA, rfl, h100, hm⟩
  · exact near_unique hF h h'
  · have hD := p2_pos d
    have hdm := Int.mul_ediv_add_emod A (p2 d)
    have r0 := Int.emod_nonneg A (b := p2 d) (by omega)
    have r1 := Int.emod_lt_of_pos A hD
    rw [← hA] at hdm
    have hB1 : min (e - 1) L ≤ e - 1 := by omega
    have hB2 : min (e - 1) L ≤ L := by omega
    generalize min (e - 1) L = B at hB1 hB2
    have hu := p2_pos (e - 1 - B).toNat
    cases hmb : mb'
    · rw [hmb] at hm h'
      have hmb2 : mb = false := by cases mb; rfl; simp at hm
      have hz : A % p2 d = 0 := by
        rw [hmb2] at hm
        simp at hm
        omega
      rw [hmb2] at h
      refine near_same (B := B) hF h h' hB1 (by omega) hB2 ?_
      have e1 := sc_up (N := 2 * A' + b2i' false) (E := e - 1) (B := B) (k := d) hB1
      rw [show e + (d : Int) - 1 = e - 1 + (d : Int) by omega, e1, show (2 * A + b2i' false : Int) = (2 * A' + b2i' false) * p2 d by
        simp only [b2i']
        rw [hz, Int.add_zero] at hdm
        rw [← hdm]
        grind]
    · rw [hmb] at hm h'
      have hmm : 0 < 2 * (A % p2 d) + b2i' mb ∧ 2 * (A % p2 d) + b2i' mb < 2 * p2 d := by
        cases mb
        · simp at hm
          simp only [b2i']
          constructor <;> simp <;> omega
        · simp only [b2i']
          constructor <;> simp <;> omega
      have hA2 : p2 (fr + 2) ≤ A' := by
        have := p2_mono (m := fr + 2) (n := 100) (by omega)
        omega
      have eU : p2 (e + d - B).toNat = 2 * p2 d * p2 (e - 1 - B).toNat := by
        rw [show e + (d : Int) - B = ((d + 1 : Nat) : Int) + (e - 1 - B) by omega, p2_toNat_add (by omega) (by omega), Int.toNat_natCast, p2]
      have eV : p2 (e + d - 1 - B).toNat = p2 d * p2 (e - 1 - B).toNat := by
        rw [show e + (d : Int) - 1 - B = (d : Int) + (e - 1 - B) by omega, p2_toNat_add (by omega) (by omega), Int.toNat_natCast]
      refine near_gap (A := A') (B := B) (e := e + d) hfr hA2 h h' hB1 (by omega) hB2 (by omega) ?_ ?_ ?_ ?_
      · rw [eU]; unfold sc
        generalize p2 (e - 1 - B).toNat = u at *
        generalize p2 d = D at *
        have e1 : A' * (2 * D * u) = (2 * (D * A')) * u := by grind
        rw [e1]
        exact Int.mul_lt_mul_of_pos_right (by omega) hu
      · rw [eU]; unfold sc
        generalize p2 (e - 1 - B).toNat = u at *
        generalize p2 d = D at *
        have e1 : (A' + 1) * (2 * D * u) = (2 * (D * A') + 2 * D) * u := by grind
        rw [e1]
        exact Int.mul_lt_mul_of_pos_right (by omega) hu
      · rw [eU]; unfold sc; rw [eV]
        generalize p2 (e - 1 - B).toNat = u at *
        generalize p2 d = D at *
        have hDu : 0 < D * u := Int.mul_pos hD hu
        have e1 : A' * (2 * D * u) = 2 * A' * (D * u) := by grind
        rw [e1]
        exact Int.mul_lt_mul_of_pos_right (by rw [show b2i' true = 1 from rfl]; omega) hDu
      · rw [eU]; unfold sc; rw [eV]
        generalize p2 (e - 1 - B).toNat = u at *
        generalize p2 d = D at *
        have hDu : 0 < D * u := Int.mul_pos hD hu
        have e1 : (A' + 1) * (2 * D * u) = (2 * A' + 2) * (D * u) := by grind
        rw [e1]
        exact Int.mul_lt_mul_of_pos_right (by rw [show b2i' true = 1 from rfl]; omega) hDu
theorem est_succ {F L s : Int} (hF : 0 < F) (s0 : 0 ≤ s) : est F L (s + 1) = est F L s ∨ est F L (s + 1) = est F L s + 1 := by
  unfold est
  by_cases a : s + 1 < F
  · rw [if_pos a, if_pos (by omega)]; exact Or.inl rfl
  · rw [if_neg a]
    by_cases b : s < F
    · rw [if_pos b, show s + 1 = F by omega, Int.ediv_self (by omega)]; exact Or.inl (by omega)
    · rw [if_neg b]
      have hd := Int.mul_ediv_add_emod s F
      have m0 := Int.emod_nonneg s (b := F) (by omega)
      have m1 := Int.emod_lt_of_pos s hF
      by_cases c : s % F + 1 < F
      · left
        rw [show s + 1 = (s % F + 1) + F * (s / F) by omega, Int.add_mul_ediv_left _ _ (by omega), Int.ediv_eq_zero_of_lt (by omega) c]
        omega
      · right
        rw [show s + 1 = F * (s / F + 1) by rw [Int.mul_add, Int.mul_one]; omega, Int.mul_ediv_cancel_left _ (by omega)]
        omega
theorem sgn_le {x y : Int} : sgn x y ≤ 0 ↔ x ≤ y := by
  unfold sgn
  by_cases h : x < y
  · rw [if_pos h]; omega
  · rw [if_neg h]
    by_cases g : y < x
    · rw [if_pos g]; omega
    · rw [if_neg g]; omega
theorem sgn_at {N E n f B : Int} (h1 : B ≤ E) (h2 : B ≤ f) : sgn (sc n f (min f E)) (sc N E (min f E)) = sgn (sc n f B) (sc N E B) := by
  rw [sc_shift (N := n) (E := f) (B := min f E) (C := B) (by omega) (by omega), sc_shift (N := N) (E := E) (B := min f E) (C := B) (by omega) (by omega), sgn_scale (p2_pos _)]
theorem sgn_mid {F L N E s m B : Int} (hF : 0 < F) (s0 : 0 ≤ s) (h1 : B ≤ E) (h2 : B ≤ L)
    (hm : (est F L (s + 1) = est F L s ∧ m = mst F s + mst F (s + 1)) ∨ (est F L (s + 1) = est F L s + 1 ∧ m = mst F s + 2 * mst F (s + 1))) :
    sgn (sc N E (min E (est F L s - 1))) (sc m (est F L s - 1) (min E (est F L s - 1))) = sgn (2 * sc N E B) (um F L B s + um F L B (s + 1)) := by
  have e0 := est_ge (L := L) (s := s) hF
  have hc := p2_pos (min E (est F L s - 1) - (B - 1)).toNat
  rw [← sgn_scale hc, ← sc_shift (by omega) (by omega), ← sc_shift (by omega) (by omega)]
  congr 1
  · unfold sc
    rw [show E - (B - 1) = 1 + (E - B) by omega, p2_toNat_add (by omega) (by omega), show p2 (1 : Int).toNat = 2 from rfl, Int.mul_left_comm]
  · unfold um sc
    rw [show est F L s - 1 - (B - 1) = est F L s - B by omega]
    rcases hm with ⟨g, rfl⟩ | ⟨g, rfl⟩
    · rw [g, Int.add_mul]
    · rw [g, show est F L s + 1 - B = 1 + (est F L s - B) by omega, p2_toNat_add (by omega) (by omega), show p2 (1 : Int).toNat = 2 from rfl, Int.add_mul]
      congr 1
      rw [Int.mul_comm 2, Int.mul_assoc]
/-- the end of the search -/
theorem near_found {F L I N E lo r c : Int} (hF : 0 < F) (l0 : 0 ≤ lo) (l1 : lo < I) (hlo : ∀ B, B ≤ E → B ≤ L → um F L B lo ≤ sc N E B) (hhi : ∀ B, B ≤ E → B ≤ L → sc N E B < um F L B (lo + 1))
    (hc : ∀ B, B ≤ E → B ≤ L → c = sgn (2 * sc N E B) (um F L B lo + um F L B (lo + 1))) (hr : ((0 < c ∨ (c = 0 ∧ lo % 2 = 1)) ∧ r = lo + 1) ∨ (¬ (0 < c ∨ (c = 0 ∧ lo % 2 = 1)) ∧ r = lo)) : Near F L I N E r := by
  refine ⟨by omega, by omega, fun B hE hB => ?_⟩
  have a1 := hlo B hE hB
  have a2 := hhi B hE hB
  have a3 := hc B hE hB
  unfold sgn at a3
  rcases hr with ⟨g, rfl⟩ | ⟨g, rfl⟩
  · have u1 := um_lt (F := F) (L := L) (B := B) (s := lo + 1) hF (by omega) hB
    refine ⟨fun _ => ⟨by omega, fun e => by omega⟩, fun _ => ?_⟩
    rw [Int.add_sub_cancel]
    split at a3
    · omega
    · split at a3
      · exact ⟨by omega, fun e => by omega⟩
      · exact ⟨by omega, fun e => by omega⟩
  · refine ⟨fun _ => ?_, fun hr => ?_⟩
    · split at a3
      · exact ⟨by omega, fun e => by omega⟩
      · split at a3
        · omega
        · exact ⟨by omega, fun e => by omega⟩
    · have u1 := um_lt (F := F) (L := L) (B := B) (s := r - 1) hF (by omega) hB
      rw [Int.sub_add_cancel] at u1
      exact ⟨by omega, fun e => by omega⟩
theorem near_end {F L I N E : Int} (hF : 0 < F) (hI : 0 < I) (hlo : ∀ B, B ≤ E → B ≤ L → um F L B I ≤ sc N E B) : Near F L I N E I := by
  refine ⟨by omega, by omega, fun B hE hB => ⟨fun h => by omega, fun _ => ?_⟩⟩
  have a1 := hlo B hE hB
  have u1 := um_lt (F := F) (L := L) (B := B) (s := I - 1) hF (by omega) hB
  rw [Int.sub_add_cancel] at u1
  exact ⟨by omega, fun e => by omega⟩
theorem near_scaled {F L I N E N' E' r : Int} (hE : E' ≤ E) (h : ∀ B, B ≤ E' → sc N E B = sc N' E' B) (hn : Near F L I N E r) : Near F L I N' E' r := by
  obtain ⟨r0, r1, h2⟩ := hn
  refine ⟨r0, r1, fun B hB hL => ?_⟩
  have := h2 B (by omega) hL
  rwa [h B hB] at this

end Go.Proofs.YtlhjbmdkfdabmaaGreatDoor

namespace Go.Proofs.YtlhjbmdkfdabmaaGreatDoor
open Go.RowKit

end Go.Proofs.YtlhjbmdkfdabmaaGreatDoor
