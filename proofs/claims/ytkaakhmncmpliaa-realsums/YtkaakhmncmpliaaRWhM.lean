/- whole numbers among the floats -/
import Derived.Test.YtkaakhmncmpliaaRNear
import Derived.Test.YtkaakhmncmpliaaRMath
namespace Go.Proofs.Ytkaakhmncmpliaa
set_option linter.unusedVariables false

theorem near_exact5 {F L I N E r : Int} (hF : 0 < F) (r0 : 0 ≤ r) (r1 : r ≤ I) (h : ∀ B, B ≤ E → B ≤ L → sc N E B = um F L B r) : Near F L I N E r := by
  refine ⟨r0, r1, fun B hE hB => ?_⟩
  rw [h B hE hB]
  refine ⟨fun _ => ?_, fun hr => ?_⟩
  · have := um_lt (F := F) (L := L) (B := B) (s := r) hF r0 hB
    exact ⟨by omega, fun e => by omega⟩
  · have := um_lt (F := F) (L := L) (B := B) (s := r - 1) hF (by omega) hB
    rw [Int.sub_add_cancel] at this
    exact ⟨by omega, fun e => by omega⟩
/-- 2 to the power of 1074, and a size's number in steps of the least one -/
def pL : Int := p2 1074
theorem pL_pos : 0 < pL := p2_pos 1074
def uD (s : Int) : Int := um 4503599627370496 (-1074) (-1074) s
theorem uD_zero : uD 0 = 0 := um_zero (by decide)
theorem uD_lt {s t : Int} (h0 : 0 ≤ s) (h : s < t) : uD s < uD t := um_lt' (by decide) h0 (Int.le_refl _) h
theorem uD_le {s t : Int} (h0 : 0 ≤ s) (h : s ≤ t) : uD s ≤ uD t := um_le (by decide) h0 (Int.le_refl _) h
theorem uD_nonneg {s : Int} (h0 : 0 ≤ s) : 0 ≤ uD s := by have := uD_le (Int.le_refl 0) h0; rwa [uD_zero] at this
theorem uD_parts (s : Int) : uD s = mst 4503599627370496 s * p2 (est 4503599627370496 (-1074) s + 1074).toNat := rfl
theorem uD_succ {s : Int} (h0 : 0 ≤ s) : uD (s + 1) = uD s + p2 (est 4503599627370496 (-1074) s + 1074).toNat := um_succ (by decide) h0 (Int.le_refl _)
theorem pL_split {n : Nat} (h : n ≤ 1074) : pL = p2 n * p2 (1074 - n) := by
  unfold pL
  rw [← p2_add]
  congr 1
  omega
theorem p2_more (n : Nat) : p2 (n + 1074) = p2 n * pL := p2_add n 1074
theorem uD_R : uD 4890909195324358656 = 9223372036854775808 * pL := by
  rw [uD_parts, show mst 4503599627370496 4890909195324358656 = 4503599627370496 by decide, show est 4503599627370496 (-1074) 4890909195324358656 = 11 by decide, show ((11 : Int) + 1074).toNat = 11 + 1074 from rfl, p2_more, show p2 11 = 2048 by decide, ← Int.mul_assoc]
  rfl
theorem uD_one : uD 4607182418800017408 = pL := by
  rw [uD_parts, show mst 4503599627370496 4607182418800017408 = 4503599627370496 by decide, show est 4503599627370496 (-1074) 4607182418800017408 = -52 by decide, show ((-52 : Int) + 1074).toNat = 1074 - 52 from rfl, pL_split (n := 52) (by decide), show p2 52 = 4503599627370496 by decide]
/-- what a nearest pattern of a whole number says -/
theorem near_whole {N r : Int} (h : Near 4503599627370496 (-1074) 9218868437227405312 N 0 r) : (r < 9218868437227405312 → 2 * (N * pL) ≤ uD r + uD (r + 1)) ∧ (0 < r → uD (r - 1) + uD r ≤ 2 * (N * pL)) := by
  obtain ⟨_, _, h3⟩ := h
  obtain ⟨a, b⟩ := h3 (-1074) (by decide) (by decide)
  have e : sc N 0 (-1074) = N * pL := rfl
  rw [e] at a b
  exact ⟨fun g => (a g).1, fun g => (b g).1⟩
theorem est_mono {s t : Int} (h0 : 0 ≤ s) (h : s ≤ t) : est 4503599627370496 (-1074) s ≤ est 4503599627370496 (-1074) t := by
  unfold est
  split
  · split
    · omega
    · omega
  · rw [if_neg (by omega)]
    omega
theorem two_le_of {a b S : Int} (hS : 0 < S) (h : 2 * (a * S) ≤ 2 * (b * S) + S) : a ≤ b := by
  rcases Int.lt_or_le b a with c | c
  · have : (b + 1) * S ≤ a * S := Int.mul_le_mul_of_nonneg_right (by omega) (by omega)
    rw [Int.add_mul, Int.one_mul] at this
    omega
  · exact c
/-- where the steps are no greater than 1, a whole number is its own nearest -/
theorem near_int {N r : Int} (N0 : 0 ≤ N) (r0 : 0 ≤ r) (r1 : r < 9218868437227405312) (he : est 4503599627370496 (-1074) r ≤ 0) (h : Near 4503599627370496 (-1074) 9218868437227405312 N 0 r) : uD r = N * pL := by
  obtain ⟨a, b⟩ := near_whole h
  have a := a r1
  have hg := est_ge (F := 4503599627370496) (L := -1074) (s := r) (by decide)
  have hs := uD_succ r0
  have hM := uD_parts r
  obtain ⟨k, hk⟩ : ∃ k : Nat, est 4503599627370496 (-1074) r = -(k : Int) := ⟨(-(est 4503599627370496 (-1074) r)).toNat, by omega⟩
  have hk2 : k ≤ 1074 := by omega
  have hS : p2 (est 4503599627370496 (-1074) r + 1074).toNat = p2 (1074 - k) := by congr 1; omega
  have hp := pL_split hk2
  have S0 := p2_pos (1074 - k)
  have eN : N * pL = N * p2 k * p2 (1074 - k) := by rw [hp, Int.mul_assoc]
  rw [hS] at hM hs
  have low : mst 4503599627370496 r ≤ N * p2 k := by
    rcases Int.lt_or_eq_of_le r0 with c | c
    · have b := b c
      have hs1 := uD_succ (s := r - 1) (by omega)
      rw [Int.sub_add_cancel] at hs1
      have hm := est_mono (s := r - 1) (t := r) (by omega) (by omega)
      have hle := p2_mono (m := (est 4503599627370496 (-1074) (r - 1) + 1074).toNat) (n := 1074 - k) (by omega)
      refine two_le_of S0 ?_
      rw [← hM, ← eN]
      omega
    · have hz : mst 4503599627370496 r = 0 := by rw [← c]; decide
      rw [hz]
      exact Int.mul_nonneg N0 (Int.le_of_lt (p2_pos _))
  have up : N * p2 k ≤ mst 4503599627370496 r := by
    refine two_le_of S0 ?_
    rw [← hM, ← eN]
    omega
  rw [hM, eN, show mst 4503599627370496 r = N * p2 k by omega]
theorem nearest_exact {N s : Nat} (hs : s ≤ 9218868437227405312) (h : uD s = N * pL) : Ieee.double.nearest false N 0 = s := by
  have h1 := near_double N 0
  have h2 : Near 4503599627370496 (-1074) 9218868437227405312 N 0 s := by
    refine near_exact5 (by decide) (by omega) (by omega) (fun B hE hB => ?_)
    have hg := est_ge (F := 4503599627370496) (L := -1074) (s := s) (by decide)
    have e1 : sc N 0 B = sc N 0 (-1074) * p2 (-1074 - B).toNat := sc_shift hB (by decide)
    have e2 : um 4503599627370496 (-1074) B s = uD s * p2 (-1074 - B).toNat := sc_shift hB hg
    rw [e1, e2, h]
    rfl
  have := near_unique (by decide) h1 h2
  omega
theorem cut_zero (neg : Bool) (n drop : Nat) : Ieee.Toward.zero.cut neg n drop = n / 2 ^ drop := by
  unfold Ieee.Toward.cut
  have hlog := Nat.lt_log2_self (n := n)
  change n / (1 <<< min drop (n.log2 + 2)) + false.toNat = n / 2 ^ drop
  rw [Nat.one_shiftLeft, show false.toNat = 0 from rfl, Nat.add_zero]
  rcases Nat.lt_or_ge (n.log2 + 2) drop with c | c
  · rw [Nat.min_eq_right (by omega)]
    have h1 : n < 2 ^ (n.log2 + 2) := Nat.lt_of_lt_of_le hlog (Nat.pow_le_pow_right (by decide) (by omega))
    have h2 : n < 2 ^ drop := Nat.lt_of_lt_of_le h1 (Nat.pow_le_pow_right (by decide) (by omega))
    rw [Nat.div_eq_of_lt h1, Nat.div_eq_of_lt h2]
  · rw [Nat.min_eq_left c]
/-- a finite word cut towards 0 -/
theorem trunc_read {b : Nat} (h : szD b < 9218868437227405312) : ∃ q : Nat, (Ieee.double.read b).toInt .zero = some (if ngD b = true then -(q : Int) else q) ∧ (q : Int) * pL ≤ uD (szD b) ∧ uD (szD b) < ((q : Int) + 1) * pL ∧ (0 ≤ est 4503599627370496 (-1074) (szD b) → uD (szD b) = q * pL) := by
  obtain ⟨m, e, er, hm, he⟩ := read_num h
  have hg := est_ge (F := 4503599627370496) (L := -1074) (s := szD b) (by decide)
  have hu := uD_parts (szD b)
  rw [← hm, ← he] at hu
  rw [← he] at hg ⊢
  refine ⟨m * 2 ^ e.toNat / 2 ^ (-e).toNat, ?_, ?_⟩
  · rw [er]
    change some (Ieee.signed (ngD b) (Ieee.Toward.zero.cut (ngD b) (m <<< e.toNat) (-e).toNat) 0) = _
    rw [cut_zero, Nat.shiftLeft_eq]
    unfold Ieee.signed
    rw [Nat.shiftLeft_zero]
  · rcases Int.lt_or_le e 0 with c | c
    · obtain ⟨k, hk⟩ : ∃ k : Nat, e = -(k : Int) := ⟨(-e).toNat, by omega⟩
      have hk2 : k ≤ 1074 := by omega
      rw [show e.toNat = 0 by omega, show (-e).toNat = k by omega, Nat.pow_zero, Nat.mul_one]
      rw [show (e + 1074).toNat = 1074 - k by omega] at hu
      have hp := pL_split hk2
      have S0 := p2_pos (1074 - k)
      have hd : ((m / 2 ^ k : Nat) : Int) = (m : Int) / p2 k := by rw [p2_cast]; exact Int.natCast_ediv _ _
      rw [hd, hu, hp]
      have d1 := Int.mul_ediv_add_emod (m : Int) (p2 k)
      have d2 := Int.emod_nonneg (m : Int) (b := p2 k) (by have := p2_pos k; omega)
      have d3 := Int.emod_lt_of_pos (m : Int) (p2_pos k)
      refine ⟨?_, ?_, fun g => by omega⟩
      · rw [← Int.mul_assoc]
        exact Int.mul_le_mul_of_nonneg_right (by rw [Int.mul_comm]; omega) (by omega)
      · rw [← Int.mul_assoc]
        refine Int.mul_lt_mul_of_pos_right ?_ S0
        rw [Int.add_mul, Int.one_mul, Int.mul_comm ((m : Int) / p2 k)]
        omega
    · rw [show (-e).toNat = 0 by omega, Nat.pow_zero, Nat.div_one]
      rw [show (e + 1074).toNat = e.toNat + 1074 by omega, p2_more, ← Int.mul_assoc] at hu
      have hq : ((m * 2 ^ e.toNat : Nat) : Int) = (m : Int) * p2 e.toNat := by rw [Int.natCast_mul, p2_cast]
      have := pL_pos
      rw [hq, hu]
      refine ⟨Int.le_refl _, ?_, fun _ => rfl⟩
      rw [Int.add_mul]
      omega
theorem word_sz {s : Bool} {r : Nat} (h : r < 9223372036854775808) : szD (Ieee.double.word s r) = r ∧ ngD (Ieee.double.word s r) = s := by
  unfold szD ngD Ieee.Format.word
  rw [show Ieee.double.signWeight = 9223372036854775808 from rfl]
  cases s
  · simp only [Bool.false_eq_true, reduceIte]
    rw [show r / 9223372036854775808 = 0 by omega]
    exact ⟨by omega, rfl⟩
  · simp only [reduceIte]
    rw [show (9223372036854775808 + r) / 9223372036854775808 = 1 by omega]
    exact ⟨by omega, rfl⟩
/-- the float of a whole number -/
theorem float_word (n : Int) : floatOfInt .f64 n = Ieee.double.word (decide (n < 0)) (Ieee.double.nearest false n.natAbs 0) := nearest_word _ _ _ _
theorem float_top (n : Nat) : Ieee.double.nearest false n 0 ≤ 9218868437227405312 := by
  have := (near_double n 0).2.1
  omega
/-- the float of what is left when the rest is cut off is the float itself just if nothing was cut off -/
theorem whole_cmp {b q : Nat} (h : szD b < 9218868437227405312) (h1 : (q : Int) * pL ≤ uD (szD b)) (h2 : 0 ≤ est 4503599627370496 (-1074) (szD b) → uD (szD b) = q * pL) :
    (FloatKind.f64.format.order (floatOfInt .f64 (if ngD b = true then -(q : Int) else q)) b == some .eq) = decide (uD (szD b) = q * pL) := by
  have hz := float_top q
  rw [float_word, show (if ngD b = true then -(q : Int) else q).natAbs = q by cases ngD b <;> simp]
  obtain ⟨e1, e2⟩ := word_sz (s := decide ((if ngD b = true then -(q : Int) else q) < 0)) (r := Ieee.double.nearest false q 0) (by omega)
  have hn := near_double q 0
  have hx : uD (szD b) = q * pL → Ieee.double.nearest false q 0 = szD b := fun g => nearest_exact (by omega) g
  generalize Ieee.double.nearest false q 0 = z at *
  generalize Ieee.double.word (decide ((if ngD b = true then -(q : Int) else q) < 0)) z = r at *
  have nr : ¬ nanD r := by unfold nanD; rw [e1]; omega
  have nb : ¬ nanD b := by unfold nanD; omega
  rw [order_eq, decide_eq_false nr, decide_eq_false nb]
  simp only [Bool.not_false, Bool.true_and]
  have hp := pL_pos
  have key : rkD r = rkD b ↔ uD (szD b) = q * pL := by
    unfold rkD
    rw [e1, e2]
    constructor
    · intro g
      have hzs : z = szD b := by
        revert g
        generalize decide ((if ngD b = true then -(q : Int) else q) < 0) = sg
        cases sg <;> cases ngD b <;> simp only [Bool.false_eq_true, reduceIte] <;> omega
      rcases Int.lt_or_le (est 4503599627370496 (-1074) (szD b)) 0 with c | c
      · rw [hzs] at hn
        exact near_int (by omega) (by omega) (by omega) (by omega) hn
      · exact h2 c
    · intro g
      have hzs := hx g
      rcases Nat.eq_zero_or_pos q with c | c
      · subst c
        have hs0 : szD b = 0 := by
          rcases Nat.eq_zero_or_pos (szD b) with d | d
          · exact d
          · have := uD_lt (s := 0) (t := szD b) (by omega) (by omega)
            rw [uD_zero, g] at this
            simp at this
        rw [hzs, hs0]
        simp
      · rw [hzs]
        rcases hs : ngD b with _ | _
        · rw [show decide ((if false = true then -(q : Int) else q) < 0) = false from decide_eq_false (by simp)]
        · rw [show decide ((if true = true then -(q : Int) else q) < 0) = true from decide_eq_true (by simp; omega)]
  by_cases g : uD (szD b) = q * pL
  · rw [decide_eq_true g, decide_eq_true (key.2 g)]
  · rw [decide_eq_false g, decide_eq_false (fun k => g (key.1 k))]

/-- the number of a float, if it is a whole one -/
def IsV (b : Nat) (k : Int) : Prop := szD b < 9218868437227405312 ∧ (if ngD b = true then -(uD (szD b)) else uD (szD b)) = k * pL
theorem IsV.unique {b : Nat} {k j : Int} (h : IsV b k) (g : IsV b j) : k = j := by
  have := h.2.symm.trans g.2
  have hp := pL_pos
  exact Int.eq_of_mul_eq_mul_right (by omega) this
def Wh (b : Nat) (k : Int) (ok : Bool) : Prop := (ok = true ∧ IsV b k ∧ -9223372036854775808 ≤ k ∧ k ≤ 9223372036854775807) ∨ (ok = false ∧ k = 0 ∧ ∀ j, -9223372036854775808 ≤ j → j ≤ 9223372036854775807 → ¬ IsV b j)
theorem Wh.unique {b : Nat} {k j : Int} {p q : Bool} (h : Wh b k p) (g : Wh b j q) : k = j ∧ p = q := by
  rcases h with ⟨rfl, h1, h2, h3⟩ | ⟨rfl, rfl, h1⟩
  · rcases g with ⟨rfl, g1, g2, g3⟩ | ⟨rfl, rfl, g1⟩
    · exact ⟨h1.unique g1, rfl⟩
    · exact absurd h1 (g1 k h2 h3)
  · rcases g with ⟨rfl, g1, g2, g3⟩ | ⟨rfl, rfl, g1⟩
    · exact absurd g1 (h1 j g2 g3)
    · exact ⟨rfl, rfl⟩

end Go.Proofs.Ytkaakhmncmpliaa
