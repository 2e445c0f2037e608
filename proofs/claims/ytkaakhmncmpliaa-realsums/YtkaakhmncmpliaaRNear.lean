/- the model's own rounding is the nearest pattern -/
import Derived.Test.YtkaakhmncmpliaaIRound
import Ieee.Arith
namespace Go.Proofs.Ytkaakhmncmpliaa
set_option linter.unusedVariables false

/-- N times 2 to the power of E, rounded to steps of 2 to the power of t -/
theorem near_round {F L I N E q t K : Int} {fr len : Nat} (hfr : F = p2 fr) (fr1 : 1 ≤ fr) (hI : I = K * F) (hK : 2 ≤ K) (hN : 0 < N) (hlen : IsLen N len) (ht : t = max (E + len - 1 - fr) L)
    (hq1 : t ≤ E → q = N * p2 (E - t).toNat) (hq2 : E < t → Half q (p2 (t - E).toNat) (2 * N)) (q0 : 0 ≤ q) :
    q ≤ 2 * F ∧ (t = L ∨ F ≤ q) ∧ (q + (t - L) * F ≤ I → Near F L I N E (q + (t - L) * F)) ∧ (I ≤ q + (t - L) * F → Near F L I N E I) := by
  have hF0 : 0 < F := by rw [hfr]; exact p2_pos fr
  have hF2 : F % 2 = 0 := by
    rw [hfr]
    obtain ⟨n, rfl⟩ : ∃ n, fr = n + 1 := ⟨fr - 1, by omega⟩
    rw [p2]
    omega
  have tL : L ≤ t := by omega
  have len0 : 0 < len := by
    rcases Nat.eq_zero_or_pos len with c | c
    · subst c; have := hlen.1; simp only [p2] at this; omega
    · exact c
  have hhalf : ∀ B, B ≤ E → B ≤ L → Half q (p2 (t - B).toNat) (2 * sc N E B) := by
    intro B hB hBL
    unfold sc
    have hu := p2_pos (E - B).toNat
    rcases Int.lt_or_le E t with c | c
    · have h := half_scale hu (hq2 c)
      rw [← p2_toNat_add (by omega) (by omega), show t - E + (E - B) = t - B by omega, Int.mul_assoc] at h
      exact h
    · have hT := p2_pos (t - B).toNat
      have h := half_exact (q := q) hT
      rw [show 2 * q * p2 (t - B).toNat = 2 * (N * p2 (E - B).toNat) by
        rw [hq1 c, show E - B = (E - t) + (t - B) by omega, p2_toNat_add (by omega) (by omega), Int.mul_assoc, Int.mul_assoc]] at h
      exact h
  have hlow : L < t → ∀ B, B ≤ E → B ≤ L → 2 * F * p2 (t - B).toNat ≤ 2 * sc N E B := by
    intro hl B hB hBL
    have ht' : t = E + len - 1 - fr := by omega
    unfold sc
    have h1 : 2 * F * p2 (t - B).toNat = 2 * (p2 (len - 1) * p2 (E - B).toNat) := by
      rw [hfr, Int.mul_assoc, show p2 fr = p2 ((fr : Int)).toNat by rw [Int.toNat_natCast], ← p2_toNat_add (by omega) (by omega), show p2 (len - 1) = p2 (((len - 1 : Nat) : Int)).toNat by rw [Int.toNat_natCast], ← p2_toNat_add (by omega) (by omega)]
      congr 3
      omega
    rw [h1]
    have := Int.mul_le_mul_of_nonneg_right (hlen.2 len0) (c := p2 (E - B).toNat) (by have := p2_pos (E - B).toNat; omega)
    omega
  have hB1 : min E L ≤ E := by omega
  have hB2 : min E L ≤ L := by omega
  have hh := hhalf (min E L) hB1 hB2
  have hT := p2_pos (t - min E L).toNat
  have hup : 2 * sc N E (min E L) < 4 * F * p2 (t - min E L).toNat := by
    unfold sc
    have hu := p2_pos (E - min E L).toNat
    have h1 : N * p2 (E - min E L).toNat < p2 len * p2 (E - min E L).toNat := Int.mul_lt_mul_of_pos_right hlen.1 hu
    have h2 : p2 len * p2 (E - min E L).toNat = p2 (len + (E - min E L)).toNat := by
      rw [p2_toNat_add (by omega) (by omega), Int.toNat_natCast]
    have h3 : 4 * F * p2 (t - min E L).toNat = 2 * p2 (fr + 1 + (t - min E L)).toNat := by
      rw [show ((fr : Int) + 1 + (t - min E L)) = ((fr + 1 : Nat) : Int) + (t - min E L) by omega, p2_toNat_add (by omega) (by omega), Int.toNat_natCast, p2, hfr, show (4 : Int) * p2 fr = 2 * (2 * p2 fr) by omega, Int.mul_assoc 2]
    have h4 := p2_mono (m := (len + (E - min E L)).toNat) (n := (fr + 1 + (t - min E L)).toNat) (by omega)
    rw [h3]
    rw [h2] at h1
    omega
  have hq2F : q ≤ 2 * F := by
    rcases Int.lt_or_le (2 * F) q with c | c
    · have h1 := hh.1
      have h2 : (2 * F + 1) * (2 * p2 (t - min E L).toNat) ≤ q * (2 * p2 (t - min E L).toNat) := Int.mul_le_mul_of_nonneg_right (by omega) (by omega)
      generalize p2 (t - min E L).toNat = T at *
      have e1 : q * (2 * T) = 2 * q * T := by grind
      have e2 : (2 * F + 1) * (2 * T) = 4 * F * T + 2 * T := by grind
      omega
    · exact c
  have hqF : t = L ∨ F ≤ q := by
    rcases Int.lt_or_eq_of_le tL with c | c
    · right
      have h1 := hlow c _ hB1 hB2
      have h2 := hh.2.1
      rcases Int.lt_or_le q F with c2 | c2
      · have h3 : q * (2 * p2 (t - min E L).toNat) ≤ (F - 1) * (2 * p2 (t - min E L).toNat) := Int.mul_le_mul_of_nonneg_right (by omega) (by omega)
        generalize p2 (t - min E L).toNat = T at *
        have e1 : q * (2 * T) = 2 * q * T := by grind
        have e2 : (F - 1) * (2 * T) = 2 * F * T - 2 * T := by grind
        omega
      · exact c2
    · left; exact c.symm
  refine ⟨hq2F, hqF, fun hrI => near_pattern hF0 hF2 tL q0 hq2F hqF hrI hhalf hlow, fun hge => ?_⟩
  rcases Int.lt_or_eq_of_le hge with hgt | heq
  · have hI0 : 2 * F ≤ I := by
      rw [hI]; exact Int.mul_le_mul_of_nonneg_right hK (by omega)
    refine ⟨by omega, by omega, fun B hB hBL => ⟨fun h => by omega, fun _ => ?_⟩⟩
    have hIq : I = F * K := by rw [hI, Int.mul_comm]
    have eI : um F L B I = F * p2 (L - 1 + K - B).toNat := by
      unfold um sc mst est
      rw [if_neg (by omega), if_neg (by omega), hIq, Int.mul_emod_right, Int.mul_ediv_cancel_left _ (by omega), Int.zero_add]
    have hs := um_lt (F := F) (L := L) (B := B) (s := I - 1) hF0 (by omega) hBL
    rw [Int.sub_add_cancel] at hs
    have hbig : um F L B I ≤ sc N E B := by
      rw [eI]
      have ht1 : K - 1 ≤ t - L := by
        rcases Int.lt_or_le (t - L) (K - 1) with c | c
        · have : (t - L) * F ≤ (K - 2) * F := Int.mul_le_mul_of_nonneg_right (by omega) (by omega)
          rw [Int.sub_mul K 2 F] at this
          omega
        · exact c
      rcases Int.lt_or_eq_of_le ht1 with c | c
      · have h1 := hlow (by omega) B hB hBL
        have h2 := p2_mono (m := (L - 1 + K - B).toNat) (n := (t - B).toNat) (by omega)
        have h3 : F * p2 (L - 1 + K - B).toNat ≤ F * p2 (t - B).toNat := Int.mul_le_mul_of_nonneg_left h2 (by omega)
        have h4 : 2 * F * p2 (t - B).toNat = 2 * (F * p2 (t - B).toNat) := Int.mul_assoc _ _ _
        omega
      · have hq1 : F + 1 ≤ q := by
          have : (t - L) * F = (K - 1) * F := by rw [c]
          rw [Int.sub_mul K 1 F, Int.one_mul] at this
          omega
        have h1 := (hhalf B hB hBL).1
        rw [show L - 1 + K - B = t - B by omega]
        have hT := p2_pos (t - B).toNat
        generalize p2 (t - B).toNat = T at *
        have h2 : (F + 1) * T ≤ q * T := Int.mul_le_mul_of_nonneg_right hq1 (by omega)
        have h3 : 2 * q * T = 2 * (q * T) := Int.mul_assoc _ _ _
        have h4 : (F + 1) * T = F * T + T := by rw [Int.add_mul, Int.one_mul]
        omega
    exact ⟨by omega, fun e => by omega⟩
  · have := near_pattern (I := I) hF0 hF2 tL q0 hq2F hqF (by omega) hhalf hlow
    rw [← heq] at this
    exact this

theorem p2_cast (n : Nat) : p2 n = ((2 ^ n : Nat) : Int) := by
  induction n with
  | zero => rfl
  | succ n ih => rw [p2, ih, Nat.pow_succ]; omega
theorem isLen_log2 {n : Nat} (h : n ≠ 0) : IsLen (n : Int) (n.log2 + 1) := by
  have h1 := Nat.log2_self_le h
  have h2 := Nat.lt_log2_self (n := n)
  refine ⟨?_, fun _ => ?_⟩
  · rw [p2_cast]; omega
  · rw [Nat.add_sub_cancel, p2_cast]; omega

/-- the model's way to the nearest whole number -/
theorem cut_even (neg : Bool) (n drop : Nat) : (drop = 0 → Ieee.Toward.even.cut neg n drop = n) ∧ Half (Ieee.Toward.even.cut neg n drop) (p2 drop) (2 * n) := by
  have hlog := Nat.lt_log2_self (n := n)
  unfold Ieee.Toward.cut
  dsimp only
  rw [Nat.one_shiftLeft]
  have key : ∀ g : Nat, Half (((n / 2 ^ g + (decide (2 ^ g < 2 * (n % 2 ^ g)) || 2 ^ g == 2 * (n % 2 ^ g) && n / 2 ^ g % 2 == 1).toNat : Nat)) : Int) (p2 g) (2 * n) := by
    intro g
    rw [p2_cast]
    have hG : 0 < 2 ^ g := Nat.two_pow_pos g
    have hd := Nat.div_add_mod n (2 ^ g)
    have hr := Nat.mod_lt n hG
    generalize n % 2 ^ g = rest at *
    generalize n / 2 ^ g = low at *
    generalize 2 ^ g = G at *
    have hn : (n : Int) = low * G + rest := by
      have : ((G * low + rest : Nat) : Int) = n := by rw [hd]
      rw [Int.natCast_add, Int.natCast_mul, Int.mul_comm] at this
      omega
    have eG : ∀ q : Int, 2 * q * (G : Int) = 2 * (q * G) := fun q => Int.mul_assoc _ _ _
    unfold Half
    rw [eG, hn]
    by_cases c : (decide (G < 2 * rest) || G == 2 * rest && low % 2 == 1) = true
    · rw [c]
      simp only [Bool.or_eq_true, decide_eq_true_eq, Bool.and_eq_true, beq_iff_eq] at c
      have e1 : ((low + true.toNat : Nat) : Int) * (G : Int) = low * G + G := by
        rw [show (low + true.toNat : Nat) = low + 1 from rfl, Int.natCast_add, Int.add_mul]; simp
      rw [e1]
      have e2 : ((low + true.toNat : Nat) : Int) = low + 1 := rfl
      rw [e2]
      refine ⟨by omega, by omega, fun e => by omega, fun e => by omega⟩
    · rw [Bool.not_eq_true] at c
      rw [c]
      simp only [Bool.or_eq_false_iff, decide_eq_false_iff_not, Bool.and_eq_false_iff, beq_eq_false_iff_ne, ne_eq] at c
      have e2 : ((low + false.toNat : Nat) : Int) = low := rfl
      rw [e2]
      refine ⟨by omega, by omega, fun e => by omega, fun e => by omega⟩
  refine ⟨fun h => ?_, ?_⟩
  · subst h
    rw [Nat.zero_min, Nat.pow_zero, Nat.div_one, Nat.mod_one]
    rfl
  · rcases Nat.lt_or_ge (n.log2 + 2) drop with c | c
    · rw [Nat.min_eq_right (by omega)]
      have hpow : 2 ^ (n.log2 + 2) = 2 * 2 ^ (n.log2 + 1) := by rw [Nat.pow_succ 2 (n.log2 + 1), Nat.mul_comm]
      have h1 : n < 2 ^ (n.log2 + 2) := by omega
      rw [Nat.mod_eq_of_lt h1, Nat.div_eq_of_lt h1]
      have h2 : ¬ 2 ^ (n.log2 + 2) < 2 * n := by omega
      have h3 : ¬ 2 ^ (n.log2 + 2) = 2 * n := by omega
      have h4 : (decide (2 ^ (n.log2 + 2) < 2 * n) || 2 ^ (n.log2 + 2) == 2 * n && 0 % 2 == 1) = false := by
        simp
        omega
      rw [h4]
      have h5 := p2_mono (m := n.log2 + 2) (n := drop) (by omega)
      rw [p2_cast (n.log2 + 2)] at h5
      have e2 : ((0 + false.toNat : Nat) : Int) = 0 := rfl
      rw [e2]
      unfold Half
      refine ⟨by omega, by omega, fun e => by omega, fun e => by omega⟩
    · rw [Nat.min_eq_left (by omega)]
      exact key drop

theorem word_false (f : Ieee.Format) (r : Nat) : f.word false r = r := rfl
theorem word_true (f : Ieee.Format) (r : Nat) : f.word true r = f.signWeight + r := rfl
theorem nearest_word (f : Ieee.Format) (neg : Bool) (mag : Nat) (place : Int) : f.nearest neg mag place = f.word neg (f.nearest false mag place) := by
  unfold Ieee.Format.nearest
  by_cases h : mag = 0
  · rw [if_pos h, if_pos h, word_false]
  · rw [if_neg h, if_neg h, word_false]
    rfl
/-- the word that the model writes is the nearest -/
theorem near_ieee (f : Ieee.Format) (K : Int) (hfr : 1 ≤ f.fractionBits) (hI : (f.infRung : Int) = K * (f.binade : Int)) (hK : 2 ≤ K) (mag : Nat) (place : Int) : Near f.binade f.leastPlace f.infRung mag place (f.nearest false mag place) := by
  have hF : (f.binade : Int) = p2 f.fractionBits := by rw [p2_cast]; rfl
  have hF0 := p2_pos f.fractionBits
  have hI0 : 0 < (f.infRung : Int) := by
    rw [hI, hF]; exact Int.mul_pos (by omega) hF0
  unfold Ieee.Format.nearest
  by_cases h : mag = 0
  · rw [if_pos h, word_false, h]
    refine ⟨by omega, by omega, fun B hB hBL => ⟨fun _ => ?_, fun h => by omega⟩⟩
    have e0 : um f.binade f.leastPlace B 0 = 0 := by unfold um sc mst; rw [if_pos (by omega), Int.zero_mul]
    have e1 := um_lt (F := f.binade) (L := f.leastPlace) (B := B) (s := 0) (by omega) (by omega) hBL
    unfold sc
    rw [show (((0 : Nat) : Int)) = 0 from rfl, e0, Int.zero_mul]
    rw [e0] at e1
    exact ⟨by omega, fun e => by omega⟩
  · rw [if_neg h, word_false]
    have hlen := isLen_log2 h
    generalize mag.log2 = lg at *
    obtain ⟨last, hlast⟩ : ∃ t, max (place + (lg : Int) - (f.fractionBits : Int)) f.leastPlace = t := ⟨_, rfl⟩
    rw [hlast]
    obtain ⟨kept, hkept⟩ : ∃ q, Ieee.Toward.even.cut false (mag <<< (place - last).toNat) (last - place).toNat = q := ⟨_, rfl⟩
    rw [hkept]
    have hcut := cut_even false (mag <<< (place - last).toNat) (last - place).toNat
    rw [hkept] at hcut
    have R := near_round (F := f.binade) (L := f.leastPlace) (I := f.infRung) (N := mag) (E := place) (q := kept) (t := last) (K := K) (fr := f.fractionBits) (len := lg + 1) hF hfr hI hK (by omega) hlen (by omega)
      (fun c => by
        have e := hcut.1 (by omega)
        rw [e, Nat.shiftLeft_eq, p2_cast, Int.natCast_mul])
      (fun c => by
        have e := hcut.2
        rw [show (place - last).toNat = 0 by omega, Nat.shiftLeft_zero] at e
        exact e)
      (by omega)
    have hcast : ((last - f.leastPlace).toNat * f.binade + kept : Nat) = (kept : Int) + (last - f.leastPlace) * (f.binade : Int) := by
      rw [Int.natCast_add, Int.natCast_mul, Int.toNat_of_nonneg (by omega)]
      omega
    rcases Nat.le_total ((last - f.leastPlace).toNat * f.binade + kept) f.infRung with c | c
    · rw [Nat.min_eq_left c, hcast]
      exact R.2.2.1 (by omega)
    · rw [Nat.min_eq_right c]
      exact R.2.2.2 (by omega)

theorem near_double (mag : Nat) (place : Int) : Near 4503599627370496 (-1074) 9218868437227405312 mag place (Ieee.double.nearest false mag place) :=
  near_ieee Ieee.double 2047 (by decide) (by decide) (by decide) mag place
theorem near_single (mag : Nat) (place : Int) : Near 8388608 (-149) 2139095040 mag place (Ieee.single.nearest false mag place) :=
  near_ieee Ieee.single 255 (by decide) (by decide) (by decide) mag place

end Go.Proofs.Ytkaakhmncmpliaa
