/- sums of floats: what they are, by sizes -/
import Derived.Test.YtkaakhmncmpliaaRealC
namespace Go.Proofs.Ytkaakhmncmpliaa
set_option linter.unusedVariables false

theorem flip_lt {b : Nat} (h : b < 18446744073709551616) : flipD b < 18446744073709551616 := by
  unfold flipD
  exact Nat.xor_lt_two_pow (n := 64) h (by decide)
theorem flip_sz {b : Nat} (h : b < 18446744073709551616) : szD (flipD b) = szD b ∧ ngD (flipD b) = !ngD b := by
  have hx : flipD b = if b < 9223372036854775808 then b + 9223372036854775808 else b - 9223372036854775808 := by
    unfold flipD
    by_cases c : b < 9223372036854775808
    · rw [if_pos c]
      have h1 := Nat.two_pow_add_eq_or_of_lt (i := 63) (b := b) c 1
      rw [Nat.mul_one] at h1
      have h2 : b ^^^ 2 ^ 63 = 2 ^ 63 ||| b := by
        apply Nat.eq_of_testBit_eq
        intro i
        rw [Nat.testBit_xor, Nat.testBit_or, Nat.testBit_two_pow]
        by_cases d : 63 = i
        · subst d
          rw [Nat.testBit_lt_two_pow c]; rfl
        · simp [d]
      rw [h2, ← h1]; omega
    · rw [if_neg c]
      obtain ⟨d, rfl⟩ : ∃ d, b = 2 ^ 63 + d := ⟨b - 2 ^ 63, by omega⟩
      have hd : d < 2 ^ 63 := by omega
      have h1 := Nat.two_pow_add_eq_or_of_lt (i := 63) (b := d) hd 1
      rw [Nat.mul_one] at h1
      rw [h1]
      have h2 : (2 ^ 63 ||| d) ^^^ 2 ^ 63 = d := by
        apply Nat.eq_of_testBit_eq
        intro i
        rw [Nat.testBit_xor, Nat.testBit_or, Nat.testBit_two_pow]
        by_cases e : 63 = i
        · subst e
          rw [Nat.testBit_lt_two_pow hd]; rfl
        · simp [e]
      rw [h2, ← h1]; omega
  rw [hx]
  unfold szD ngD
  by_cases c : b < 9223372036854775808
  · rw [if_pos c, show (b + 9223372036854775808) / 9223372036854775808 = 1 by omega, show b / 9223372036854775808 = 0 by omega]
    exact ⟨by omega, rfl⟩
  · rw [if_neg c, show (b - 9223372036854775808) / 9223372036854775808 = 0 by omega, show b / 9223372036854775808 = 1 by omega]
    exact ⟨by omega, rfl⟩
theorem read_flip {b : Nat} (h : b < 18446744073709551616) : Ieee.double.read (flipD b) = (Ieee.double.read b).opposite := by
  obtain ⟨hs, hn⟩ := flip_sz h
  unfold Ieee.Format.read
  change (if szD (flipD b) < 4503599627370496 then Ieee.Datum.number (ngD (flipD b)) (szD (flipD b)) (-1074) else if szD (flipD b) < 9218868437227405312 then Ieee.Datum.number (ngD (flipD b)) (4503599627370496 + szD (flipD b) % 4503599627370496) (-1074 + ((szD (flipD b) / 4503599627370496 - 1 : Nat) : Int)) else if szD (flipD b) = 9218868437227405312 then Ieee.Datum.infinity (ngD (flipD b)) else Ieee.Datum.nan (ngD (flipD b)) (szD (flipD b) - 9218868437227405312)) = (if szD b < 4503599627370496 then Ieee.Datum.number (ngD b) (szD b) (-1074) else if szD b < 9218868437227405312 then Ieee.Datum.number (ngD b) (4503599627370496 + szD b % 4503599627370496) (-1074 + ((szD b / 4503599627370496 - 1 : Nat) : Int)) else if szD b = 9218868437227405312 then Ieee.Datum.infinity (ngD b) else Ieee.Datum.nan (ngD b) (szD b - 9218868437227405312)).opposite
  rw [hs, hn]
  repeat' split
  all_goals rfl
theorem sub_flip {a b : Nat} (h : b < 18446744073709551616) : subD a b = sumD a (flipD b) := by
  unfold subD sumD Ieee.Format.sub Ieee.Format.add
  rw [read_flip h]

/-- the sum of two finite words, by their sizes in steps of 2 to the power of B -/
theorem one_word {s : Bool} {r : Nat} (h : r ≤ 9218868437227405312) : oneD (Ieee.double.word s r) = (if s = true then 9223372036854775808 else 0) + (r : Int) := by
  have hn : ¬ nanD (Ieee.double.word s r) := by
    unfold nanD szD Ieee.Format.word
    rw [show Ieee.double.signWeight = 9223372036854775808 from rfl]
    cases s <;> simp only [Bool.false_eq_true, reduceIte] <;> omega
  rw [one_not hn]
  unfold Ieee.Format.word
  rw [show Ieee.double.signWeight = 9223372036854775808 from rfl]
  cases s <;> simp only [Bool.false_eq_true, reduceIte] <;> omega
theorem sum_fin {a b : Nat} {X Y B : Int} (ha : szD a < 9218868437227405312) (hb : szD b < 9218868437227405312) (hB : B = min (est 4503599627370496 (-1074) (szD a)) (est 4503599627370496 (-1074) (szD b)))
    (hX : X = um 4503599627370496 (-1074) B (szD a)) (hY : Y = um 4503599627370496 (-1074) B (szD b)) (X0 : 0 ≤ X) (Y0 : 0 ≤ Y) :
    (ngD a = ngD b → sumD a b = Ieee.double.word (ngD a) (Ieee.double.nearest false (X + Y).toNat B)) ∧
    (ngD a ≠ ngD b → (X = Y → sumD a b = 0) ∧ (Y < X → sumD a b = Ieee.double.word (ngD a) (Ieee.double.nearest false (X - Y).toNat B)) ∧ (X < Y → sumD a b = Ieee.double.word (ngD b) (Ieee.double.nearest false (Y - X).toNat B))) := by
  obtain ⟨m, i, ea, hm, hi⟩ := read_num ha
  obtain ⟨n, j, eb, hn, hj⟩ := read_num hb
  have hB' : B = min i j := by rw [hB, hi, hj]
  have key : sumD a b = (Ieee.double.nearest (if (if ngD a = true then -X else X) + (if ngD b = true then -Y else Y) = 0 then ngD a && ngD b else decide ((if ngD a = true then -X else X) + (if ngD b = true then -Y else Y) < 0)) ((if ngD a = true then -X else X) + (if ngD b = true then -Y else Y)).natAbs B) := by
    unfold sumD Ieee.Format.add
    rw [ea, eb]
    change Ieee.double.nearest (if Ieee.signed (ngD a) m (i - min i j).toNat + Ieee.signed (ngD b) n (j - min i j).toNat = 0 then ngD a && ngD b else decide (Ieee.signed (ngD a) m (i - min i j).toNat + Ieee.signed (ngD b) n (j - min i j).toNat < 0)) (Ieee.signed (ngD a) m (i - min i j).toNat + Ieee.signed (ngD b) n (j - min i j).toNat).natAbs (min i j) = _
    rw [signed_um (Int.min_le_left _ _) hm hi, signed_um (Int.min_le_right _ _) hn hj, ← hB', ← hX, ← hY]
  clear hX hY hB hB' ea eb hm hi hn hj
  rw [key]
  refine ⟨fun h => ?_, fun h => ⟨fun e => ?_, fun e => ?_, fun e => ?_⟩⟩
  · rw [nearest_word, ← h]
    rcases hs : ngD a with _ | _
    · simp only [Bool.false_eq_true, reduceIte, Bool.and_false]
      rw [show (X + Y).natAbs = (X + Y).toNat by omega]
      congr 1
      by_cases z : X + Y = 0
      · rw [if_pos z]
      · rw [if_neg z, decide_eq_false (by omega)]
    · simp only [reduceIte, Bool.and_true]
      rw [show (-X + -Y).natAbs = (X + Y).toNat by omega]
      congr 1
      by_cases z : -X + -Y = 0
      · rw [if_pos z]
      · rw [if_neg z, decide_eq_true (by omega)]
  · subst e
    have : (if ngD a = true then -X else X) + (if ngD b = true then -X else X) = 0 := by
      revert h
      cases ngD a <;> cases ngD b <;> simp <;> omega
    rw [this]
    have h2 : (ngD a && ngD b) = false := by revert h; cases ngD a <;> cases ngD b <;> simp
    rw [if_pos rfl, h2]
    rfl
  · rw [nearest_word]
    revert h
    rcases hs : ngD a with _ | _ <;> rcases ht : ngD b with _ | _
    · intro h; exact absurd rfl h
    · intro _
      simp only [Bool.false_eq_true, reduceIte]
      rw [if_neg (by omega), decide_eq_false (by omega), show (X + -Y).natAbs = (X - Y).toNat by omega]
    · intro _
      simp only [Bool.false_eq_true, reduceIte]
      rw [if_neg (by omega), decide_eq_true (by omega), show (-X + Y).natAbs = (X - Y).toNat by omega]
    · intro h; exact absurd rfl h
  · rw [nearest_word]
    revert h
    rcases hs : ngD a with _ | _ <;> rcases ht : ngD b with _ | _
    · intro h; exact absurd rfl h
    · intro _
      simp only [Bool.false_eq_true, reduceIte]
      rw [if_neg (by omega), decide_eq_true (by omega), show (X + -Y).natAbs = (Y - X).toNat by omega]
    · intro _
      simp only [Bool.false_eq_true, reduceIte]
      rw [if_neg (by omega), decide_eq_false (by omega), show (-X + Y).natAbs = (Y - X).toNat by omega]
    · intro h; exact absurd rfl h
/-- what a nearest pattern says of the sum -/
theorem sum_near {s : Bool} {Z B r : Int} {x : Nat} (Z0 : 0 ≤ Z) (hx : x = Ieee.double.word s (Ieee.double.nearest false Z.toNat B)) (hr : Near 4503599627370496 (-1074) 9218868437227405312 Z B r) : oneD x = (if s = true then 9223372036854775808 else 0) + r := by
  have h := near_double Z.toNat B
  rw [show ((Z.toNat : Nat) : Int) = Z by omega] at h
  have e := near_unique (by decide) hr h
  rw [hx, one_word (by have := h.2.1; omega), e]
theorem sum_inf {a b : Nat} (ha : szD a = 9218868437227405312) (hb : ¬ nanD b) (hab : szD b = 9218868437227405312 → ngD a = ngD b) : sumD a b = Ieee.double.word (ngD a) 9218868437227405312 := by
  unfold sumD Ieee.Format.add
  rw [read_inf ha]
  unfold nanD at hb
  rcases Nat.lt_or_ge (szD b) 9218868437227405312 with c | c
  · obtain ⟨n, j, eb, _, _⟩ := read_num c
    rw [eb]
    rfl
  · have c' : szD b = 9218868437227405312 := by omega
    rw [read_inf c', hab c']
    change ((if ngD b = ngD b then some (Ieee.Datum.infinity (ngD b)) else none).map Ieee.double.write).getD _ = _
    rw [if_pos rfl]
    rfl
theorem sum_inf2 {a b : Nat} (ha : szD a < 9218868437227405312) (hb : szD b = 9218868437227405312) : sumD a b = Ieee.double.word (ngD b) 9218868437227405312 := by
  unfold sumD Ieee.Format.add
  rw [read_inf hb]
  obtain ⟨n, j, ea, _, _⟩ := read_num ha
  rw [ea]
  rfl
theorem sum_none {a b : Nat} (ha : szD a = 9218868437227405312) (hb : szD b = 9218868437227405312) (hab : ngD a ≠ ngD b) : sumD a b = 9221120237041090560 := by
  unfold sumD Ieee.Format.add
  rw [read_inf ha, read_inf hb]
  change ((if ngD a = ngD b then some (Ieee.Datum.infinity (ngD a)) else none).map Ieee.double.write).getD _ = _
  rw [if_neg hab]
  rfl

end Go.Proofs.Ytkaakhmncmpliaa
