/- halves: what the walk wants of each -/
import Derived.Test.YtkaakhmncmpliabRHalf
namespace Go.Proofs.Ytkaakhmncmpliab
open Go.RowKit
set_option linter.unusedVariables false

theorem read_c24 : Ieee.double.read 4715268809856909312 = .number false 4503599627370496 (-28) := by decide
theorem low_zero : Ieee.double.div (Ieee.double.nearest false 0 0) 4715268809856909312 = some (subH 0) ∧ HFact 0 (subH 0) ∧ subH 0 < 4544132024016830464 := by
  have e0 : subH 0 = 0 := rfl
  rw [e0]
  refine ⟨by decide +kernel, ⟨by decide, by decide, by decide +kernel, by decide +kernel, fun _ => ⟨0, by decide +kernel, by decide +kernel⟩, fun g => by omega⟩, by decide⟩
theorem p2_join {a b c : Int} (ha : 0 ≤ a) (hb : 0 ≤ b) (h : a + b = c) : p2 a.toNat * p2 b.toNat = p2 c.toNat := by rw [← p2_toNat_add ha hb, h]
set_option maxRecDepth 100000 in
theorem half_low {s : Nat} (h1 : 1 ≤ s) (h2 : s < 1024) : Ieee.double.div (Ieee.double.nearest false s 0) 4715268809856909312 = some (subH s) ∧ HFact s (subH s) ∧ subH s < 4544132024016830464 := by
  obtain ⟨lg, P, Q, hP, hQ, l9, a1, a2⟩ : ∃ lg P Q, 2 ^ lg = P ∧ 2 ^ (52 - lg) = Q ∧ lg ≤ 9 ∧ P ≤ s ∧ s < 2 * P := by
    refine ⟨s.log2, _, _, rfl, rfl, ?_, Nat.log2_self_le (by omega), ?_⟩
    · have := (Nat.log2_lt (n := s) (k := 10) (by omega)).2 (by omega)
      omega
    · have := Nat.lt_log2_self (n := s)
      rw [Nat.pow_succ] at this
      omega
  have hPQ : P * Q = 4503599627370496 := by rw [← hP, ← hQ, ← Nat.pow_add, show lg + (52 - lg) = 52 by omega]
  have Q0 : 0 < Q := by rw [← hQ]; exact Nat.two_pow_pos _
  have t1 : (s - P) * Q < 4503599627370496 := by rw [← hPQ]; exact Nat.mul_lt_mul_of_pos_right (by omega) Q0
  have hc : (((s - P : Nat) : Int) * Q) = (((s - P) * Q : Nat) : Int) := (Int.natCast_mul _ _).symm
  obtain ⟨z, hz⟩ : ∃ z, z = (lg + 999) * 4503599627370496 + (s - P) * Q := ⟨_, rfl⟩
  obtain ⟨r, hr⟩ : ∃ r, r = (lg + 1023) * 4503599627370496 + (s - P) * Q := ⟨_, rfl⟩
  have W := hide (small_word (E := -24) (r := z) hP hQ (by omega) a1 a2 (by decide) (by decide) (by rw [hc, hz]; generalize (s - P) * Q = t at *; omega))
  have V := hide (small_word (E := 0) (r := r) hP hQ (by omega) a1 a2 (by decide) (by decide) (by rw [hc, hr]; generalize (s - P) * Q = t at *; omega))
  have esub : subH s = z := W.out.2.2.2.2
  have efl : Ieee.double.nearest false s 0 = r := V.out.2.2.2.2
  rw [esub, efl]
  have zlt : z < 4544132024016830464 := by rw [hz]; generalize (s - P) * Q = t at *; omega
  have rlt : r < 9218868437227405312 := V.out.2.2.1
  have zd : z / 4503599627370496 = lg + 999 := by rw [hz]; generalize (s - P) * Q = t at *; omega
  have hpw : hpow z = 4733283208366391296 := by
    unfold hpow
    rw [zd, show max (lg + 999) 1009 = 1009 by omega]
  have m1 : s * Q < 9007199254740992 := by
    have : s * Q < 2 * P * Q := Nat.mul_lt_mul_of_pos_right a2 Q0
    rw [Nat.mul_assoc, hPQ] at this
    exact this
  have m0 : 4503599627370496 ≤ s * Q := by rw [← hPQ]; exact Nat.mul_le_mul_right _ a1
  have hpq : p2 (52 - lg) = (Q : Int) := by rw [p2_cast, hQ]
  have zlt2 : z < 9218868437227405312 := by omega
  clear hz hr hPQ t1 hc Q0 hP hQ
  obtain ⟨z1, z2⟩ := plain_word (x := z) (by omega)
  obtain ⟨r1, r2⟩ := plain_word (x := r) (by omega)
  have facts : (lg : Int) + -24 - 52 = (lg : Int) - 76 ∧ (lg : Int) + 0 - 52 = (lg : Int) - 52 := ⟨by omega, by omega⟩
  have pL52 : p2 (52 - lg) = p2 (52 - (lg : Int)).toNat := by congr 1; omega
  have l0 : (0 : Int) ≤ lg := by omega
  have l9' : (lg : Int) ≤ 9 := by omega
  -- the two words, read
  obtain ⟨m, e, rz, hm, he⟩ := read_num (b := z) (by rw [z1]; exact zlt2)
  obtain ⟨n, f, rr, hn, hf⟩ := read_num (b := r) (by rw [r1]; exact rlt)
  rw [z2] at rz
  rw [r2] at rr
  rw [z1, W.out.1] at hm
  rw [z1, W.out.2.1, facts.1] at he
  rw [r1, V.out.1] at hn
  rw [r1, V.out.2.1, facts.2] at hf
  have HS := hide (half_step (z := z) (N := s) (p := 4733283208366391296) (E := -24) (ez := (lg : Int) - 76) zlt2 (by decide) (by decide) (by decide) (by omega) (by omega) (by omega) (hide (by rw [W.out.2.1]; exact facts.1)) (hide (by rw [W.out.1, pL52, show -24 - ((lg : Int) - 76) = 52 - lg by omega])))
  have umz : ∀ B, B ≤ -1074 → um 4503599627370496 (-1074) B z = sc s (-24) B := fun B hB => W.out.2.2.2.1 B (by omega)
  have umr : ∀ B, B ≤ -1074 → um 4503599627370496 (-1074) B r = sc s 0 B := fun B hB => V.out.2.2.2.1 B (by omega)
  have mulv : Ieee.double.mul z 4715268809856909312 = some r := by
    unfold Ieee.Format.mul
    rw [rz, read_c24]
    change some (Ieee.double.nearest false (m * 4503599627370496) (e + -28)) = some r
    congr 1
    refine nearest_um (by omega) (fun B hB hL => ?_)
    rw [umr B hL]
    unfold sc
    rw [Int.natCast_mul, hm, he, pL52, show ((4503599627370496 : Nat) : Int) = p2 (52 : Int).toNat by decide, Int.mul_assoc, Int.mul_assoc]
    congr 1
    rw [p2_join (a := 52) (b := (lg : Int) - 76 + -28 - B) (c := (lg : Int) - 52 - B) (by decide) (by omega) (by omega)]
    exact p2_join (by omega) (by omega) (by omega)
  have intv : (Ieee.double.read r).toInt .zero = some (s : Int) := by
    obtain ⟨q, hq, q1, q2, _⟩ := trunc_read (b := r) (by rw [r1]; exact rlt)
    rw [r1] at q1 q2
    have hu : uD r = s * pL := umr (-1074) (Int.le_refl _)
    rw [hu] at q1 q2
    have hp := pL_pos
    have l1 : (q : Int) ≤ s := by
      rcases Int.lt_or_le (s : Int) q with c | c
      · have : (s : Int) * pL < q * pL := Int.mul_lt_mul_of_pos_right c hp
        exact absurd (Int.lt_of_lt_of_le this q1) (Int.lt_irrefl _)
      · exact c
    have l2 : (s : Int) < q + 1 := by
      rcases Int.lt_or_le (s : Int) (q + 1) with c | c
      · exact c
      · have : ((q : Int) + 1) * pL ≤ s * pL := Int.mul_le_mul_of_nonneg_right c (Int.le_of_lt hp)
        exact absurd (Int.lt_of_lt_of_le q2 this) (Int.lt_irrefl _)
    rw [hq, r2, if_neg (by decide), Int.le_antisymm l1 (Int.lt_add_one_iff.1 l2)]
  have divv : Ieee.double.div r 4715268809856909312 = some z := by
    unfold Ieee.Format.div
    rw [rr, read_c24]
    have hnq : n = s * Q := by
      have : (n : Int) = ((s * Q : Nat) : Int) := by rw [hn, hpq, Int.natCast_mul]
      omega
    have hlog : n.log2 = 52 := (Nat.log2_eq_iff (by omega)).2 ⟨by rw [hnq]; exact m0, by rw [hnq]; exact m1⟩
    have hq : Ieee.Datum.quotient (Ieee.double.fractionBits + 2) (.number false n f) (.number false 4503599627370496 (-28)) = some (.number false (8 * n) (f - 27)) := by
      change (if (4503599627370496 : Nat) = 0 then (if n = 0 then none else some (Ieee.Datum.infinity (false ^^ false))) else some (Ieee.Datum.number (false ^^ false) (2 * ((n <<< (Ieee.double.fractionBits + 2 + (4503599627370496 : Nat).log2 - n.log2)) / 4503599627370496) + ((n <<< (Ieee.double.fractionBits + 2 + (4503599627370496 : Nat).log2 - n.log2)) % 4503599627370496 != 0).toNat) (f - -28 - (((Ieee.double.fractionBits + 2 + (4503599627370496 : Nat).log2 - n.log2) : Nat) : Int) - 1))) = _
      rw [if_neg (by decide), hlog, show Ieee.double.fractionBits + 2 + (4503599627370496 : Nat).log2 - 52 = 54 by decide, Nat.shiftLeft_eq, show n * 2 ^ 54 / 4503599627370496 = 4 * n by omega, show n * 2 ^ 54 % 4503599627370496 = 0 by omega]
      have g1 : 2 * (4 * n) + ((0 : Nat) != 0).toNat = 8 * n := by
        change 2 * (4 * n) + 0 = 8 * n
        omega
      have g2 : f - -28 - ((54 : Nat) : Int) - 1 = f - 27 := by omega
      rw [g1, g2]
      rfl
    rw [hq]
    change some (Ieee.double.nearest false (8 * n) (f - 27)) = some z
    congr 1
    refine nearest_um (by omega) (fun B hB hL => ?_)
    rw [umz B hL]
    unfold sc
    rw [Int.natCast_mul, hn, hf, pL52, show ((8 : Nat) : Int) = p2 (3 : Int).toNat by decide, Int.mul_left_comm, Int.mul_assoc]
    congr 1
    rw [Int.mul_assoc, p2_join (a := 52 - (lg : Int)) (b := (lg : Int) - 52 - 27 - B) (c := -27 - B) (by omega) (by omega) (by omega)]
    exact p2_join (by decide) (by omega) (by omega)
  refine ⟨divv, ⟨by omega, by rw [hpw]; decide, ?_, ?_, fun _ => ⟨r, mulv, intv⟩, fun g => by omega⟩, zlt⟩
  · unfold hsum
    rw [hpw]
    exact add_fin (by rw [z1]; exact zlt2) (by decide)
  · unfold hsum
    have yb : szD (4733283208366391296 + s) < 9218868437227405312 := by
      obtain ⟨y1, _⟩ := plain_word (x := 4733283208366391296 + s) (by clear facts; omega)
      rw [y1]
      clear y1 facts
      omega
    rw [hpw, HS.out.1, sub_fin yb (by decide), HS.out.2.1]
set_option maxRecDepth 100000 in
theorem half_high {s : Nat} (h1 : 1024 ≤ s) (h2 : s < 31744) : HFact s (s * 4398046511104 + 4539628424389459968) ∧ 4544132024016830464 ≤ s * 4398046511104 + 4539628424389459968 := by
  obtain ⟨k, f, hk, hf, k1, k2⟩ : ∃ k f, s = k * 1024 + f ∧ f < 1024 ∧ 1 ≤ k ∧ k < 31 := ⟨s / 1024, s % 1024, by omega, by omega, by omega, by omega⟩
  obtain ⟨z, hz⟩ : ∃ z, z = s * 4398046511104 + 4539628424389459968 := ⟨_, rfl⟩
  have ez : z = (k + 1008) * 4503599627370496 + f * 4398046511104 := by
    have e1 : k * 1024 * 4398046511104 = k * 4503599627370496 := Nat.mul_assoc _ _ _
    have e2 : (4539628424389459968 : Nat) = 1008 * 4503599627370496 := rfl
    rw [hz, hk, Nat.add_mul, e1, e2, Nat.add_mul k 1008, Nat.add_right_comm]
  have ed : z / 4503599627370496 = k + 1008 := by omega
  have ep : hpow z = (k + 1050) * 4503599627370496 := by
    unfold hpow
    rw [ed, show max (k + 1008) 1009 = k + 1008 by omega]
  have zt : z < 4679240012837945344 := by omega
  have zl : 4544132024016830464 ≤ z := by omega
  have zq : z / 4398046511104 = s + 1032192 := by omega
  rw [← hz]
  have W := hide (word_at (x := z) (q := (k : Int) + 1008) (r := (f : Int) * 4398046511104) (by omega) (by omega) (by omega) (by omega))
  have e1 : (k : Int) + 1008 - 1075 = (k : Int) - 67 := by omega
  have m1 : (f : Int) * 4398046511104 + 4503599627370496 = ((1024 + f : Nat) : Int) * 4398046511104 := by omega
  have p42 : p2 ((k : Int) - 25 - ((k : Int) - 67)).toNat = 4398046511104 := by rw [show (k : Int) - 25 - ((k : Int) - 67) = 42 by omega]; decide
  have hS := half_step (z := z) (N := 1024 + f) (p := (k + 1050) * 4503599627370496) (E := (k : Int) - 25) (ez := (k : Int) - 67) (by omega) (by omega) (by omega) (by omega) (by omega) (by omega) (by omega) (hide (by rw [W.out.2, e1])) (hide (by rw [W.out.1, m1, p42]))
  have HS := hide hS
  obtain ⟨z1, _⟩ := plain_word (x := z) (by omega)
  obtain ⟨p1, _⟩ := plain_word (x := (k + 1050) * 4503599627370496) (by omega)
  obtain ⟨y1, _⟩ := plain_word (x := (k + 1050) * 4503599627370496 + (1024 + f)) (by omega)
  have lz : szD z < 9218868437227405312 := by omega
  have lp : szD ((k + 1050) * 4503599627370496) < 9218868437227405312 := by omega
  have ly : szD ((k + 1050) * 4503599627370496 + (1024 + f)) < 9218868437227405312 := by
    rw [y1]
    clear z1 p1 y1 HS hS W lz lp ez ed ep zq hz zt zl e1 m1 p42
    omega
  have lpp : (k + 1050) * 4503599627370496 < 9218868437227405312 := by omega
  clear hS W
  refine ⟨⟨zt, by rw [ep]; exact lpp, ?_, ?_, fun g => by omega, fun _ => zq⟩, zl⟩
  · unfold hsum
    rw [ep]
    exact add_fin lz lp
  · unfold hsum
    rw [ep, HS.out.1, sub_fin ly lp, HS.out.2.1]

end Go.Proofs.Ytkaakhmncmpliab
