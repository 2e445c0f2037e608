/- floats: what a word reads as, the order, no number -/
import Derived.Test.YtkaakhmncmpliaaRNear
import Derived.Laws.ComplexArith
namespace Go.Proofs.Ytkaakhmncmpliaa
set_option linter.unusedVariables false

/-- the size of a word of 64 bits, whether it has the sign, whether it is no number -/
def szD (b : Nat) : Nat := b % 9223372036854775808
def ngD (b : Nat) : Bool := b / 9223372036854775808 % 2 == 1
def nanD (b : Nat) : Prop := 9218868437227405312 < szD b
instance (b : Nat) : Decidable (nanD b) := inferInstanceAs (Decidable (_ < _))
/-- its place on the line -/
def rkD (b : Nat) : Int := if ngD b = true then -(szD b : Int) else szD b
/-- the pattern; of no number the one -/
def oneD (b : Nat) : Int := if nanD b then 9221120237041090560 else b

theorem szD_lt (b : Nat) : szD b < 9223372036854775808 := Nat.mod_lt _ (by decide)
theorem word_szD {b : Nat} (h : b < 18446744073709551616) : b = Ieee.double.word (ngD b) (szD b) := by
  unfold ngD szD Ieee.Format.word
  rw [show Ieee.double.signWeight = 9223372036854775808 from rfl]
  by_cases c : b < 9223372036854775808
  · rw [show b / 9223372036854775808 = 0 by omega]
    simp
    omega
  · rw [show b / 9223372036854775808 = 1 by omega]
    simp
    omega

/-- a finite word, read -/
theorem read_num {b : Nat} (h : szD b < 9218868437227405312) : ∃ (m : Nat) (e : Int), Ieee.double.read b = .number (ngD b) m e ∧ (m : Int) = mst 4503599627370496 (szD b) ∧ e = est 4503599627370496 (-1074) (szD b) := by
  unfold Ieee.Format.read
  rw [show Ieee.double.signWeight = 9223372036854775808 from rfl, show Ieee.double.binade = 4503599627370496 from rfl, show Ieee.double.infRung = 9218868437227405312 from rfl, show Ieee.double.leastPlace = -1074 from rfl]
  unfold mst est
  change ∃ (m : Nat) (e : Int), (if szD b < 4503599627370496 then Ieee.Datum.number (ngD b) (szD b) (-1074) else if szD b < 9218868437227405312 then Ieee.Datum.number (ngD b) (4503599627370496 + szD b % 4503599627370496) (-1074 + ((szD b / 4503599627370496 - 1 : Nat) : Int)) else if szD b = 9218868437227405312 then Ieee.Datum.infinity (ngD b) else Ieee.Datum.nan (ngD b) (szD b - 9218868437227405312)) = _ ∧ _
  by_cases c : szD b < 4503599627370496
  · rw [if_pos c, if_pos (by omega), if_pos (by omega)]
    exact ⟨_, _, rfl, rfl, rfl⟩
  · rw [if_neg c, if_pos h, if_neg (by omega), if_neg (by omega)]
    refine ⟨_, _, rfl, by omega, by omega⟩
theorem read_inf {b : Nat} (h : szD b = 9218868437227405312) : Ieee.double.read b = .infinity (ngD b) := by
  unfold Ieee.Format.read
  change (if szD b < 4503599627370496 then Ieee.Datum.number (ngD b) (szD b) (-1074) else if szD b < 9218868437227405312 then Ieee.Datum.number (ngD b) (4503599627370496 + szD b % 4503599627370496) (-1074 + ((szD b / 4503599627370496 - 1 : Nat) : Int)) else if szD b = 9218868437227405312 then Ieee.Datum.infinity (ngD b) else Ieee.Datum.nan (ngD b) (szD b - 9218868437227405312)) = _
  rw [if_neg (by omega), if_neg (by omega), if_pos h]
theorem read_nan {b : Nat} (h : nanD b) : ∃ t, Ieee.double.read b = .nan (ngD b) t := by
  unfold nanD at h
  refine ⟨szD b - 9218868437227405312, ?_⟩
  unfold Ieee.Format.read
  change (if szD b < 4503599627370496 then Ieee.Datum.number (ngD b) (szD b) (-1074) else if szD b < 9218868437227405312 then Ieee.Datum.number (ngD b) (4503599627370496 + szD b % 4503599627370496) (-1074 + ((szD b / 4503599627370496 - 1 : Nat) : Int)) else if szD b = 9218868437227405312 then Ieee.Datum.infinity (ngD b) else Ieee.Datum.nan (ngD b) (szD b - 9218868437227405312)) = _
  rw [if_neg (by omega), if_neg (by omega), if_neg (by omega)]

theorem um_zero {F L B : Int} (hF : 0 < F) : um F L B 0 = 0 := by unfold um sc mst; rw [if_pos hF, Int.zero_mul]
theorem um_pos {F L B s : Int} (hF : 0 < F) (hB : B ≤ L) (h : 0 < s) : 0 < um F L B s := by
  have := um_lt' (F := F) (L := L) (B := B) (s := 0) hF (by omega) hB h
  rwa [um_zero hF] at this
/-- the number of a finite word, in steps of 2 to the power of B -/
theorem signed_um {b m : Nat} {e B : Int} (hB : B ≤ e) (hm : (m : Int) = mst 4503599627370496 (szD b)) (he : e = est 4503599627370496 (-1074) (szD b)) (s : Bool) :
    Ieee.signed s m (e - B).toNat = if s = true then -(um 4503599627370496 (-1074) B (szD b)) else um 4503599627370496 (-1074) B (szD b) := by
  have h : ((m <<< (e - B).toNat : Nat) : Int) = um 4503599627370496 (-1074) B (szD b) := by
    unfold um sc
    rw [← hm, ← he, Nat.shiftLeft_eq, Int.natCast_mul, p2_cast]
  unfold Ieee.signed
  rw [h]
theorem cmp_int (x y : Int) : compare x y = if x < y then Ordering.lt else if x = y then Ordering.eq else Ordering.gt := rfl
theorem cmp_like {x y x' y' : Int} (h1 : x < y ↔ x' < y') (h2 : x = y ↔ x' = y') : compare x y = compare x' y' := by
  rw [cmp_int, cmp_int]
  by_cases c : x < y
  · rw [if_pos c, if_pos (h1.1 c)]
  · rw [if_neg c, if_neg (fun h => c (h1.2 h))]
    by_cases d : x = y
    · rw [if_pos d, if_pos (h2.1 d)]
    · rw [if_neg d, if_neg (fun h => d (h2.2 h))]
/-- two sizes, in steps that fit both: in their order -/
theorem um_base {F L s t B : Int} (hF : 0 < F) (s0 : 0 ≤ s) (t0 : 0 ≤ t) (hB : B = min (est F L s) (est F L t)) : (um F L B s < um F L B t ↔ s < t) ∧ (um F L B s = um F L B t ↔ s = t) ∧ 0 ≤ um F L B s ∧ 0 ≤ um F L B t ∧ (um F L B s = 0 ↔ s = 0) ∧ (um F L B t = 0 ↔ t = 0) := by
  have hi := est_ge (L := L) (s := s) hF
  have hj := est_ge (L := L) (s := t) hF
  have xs : um F L L s = um F L B s * p2 (B - L).toNat := by unfold um; exact sc_shift (by omega) (by omega)
  have xt : um F L L t = um F L B t * p2 (B - L).toNat := by unfold um; exact sc_shift (by omega) (by omega)
  have P := p2_pos (B - L).toNat
  generalize p2 (B - L).toNat = p at *
  have lt1 : s < t → um F L L s < um F L L t := fun h => um_lt' hF s0 (Int.le_refl _) h
  have lt2 : t < s → um F L L t < um F L L s := fun h => um_lt' hF t0 (Int.le_refl _) h
  have eq1 : s = t → um F L L s = um F L L t := fun h => by rw [h]
  have zs : 0 < s → 0 < um F L L s := fun h => um_pos hF (Int.le_refl _) h
  have zt : 0 < t → 0 < um F L L t := fun h => um_pos hF (Int.le_refl _) h
  have zs0 : s = 0 → um F L L s = 0 := fun h => by rw [h]; exact um_zero hF
  have zt0 : t = 0 → um F L L t = 0 := fun h => by rw [h]; exact um_zero hF
  have la : ∀ x y : Int, x < y ↔ x * p < y * p := fun x y => ⟨fun h => Int.mul_lt_mul_of_pos_right h P, fun h => Int.lt_of_mul_lt_mul_right h (by omega)⟩
  have le : ∀ x : Int, 0 ≤ x ↔ 0 ≤ x * p := fun x => by
    have := la x 0
    rw [Int.zero_mul] at this
    omega
  have eqp : ∀ x y : Int, x = y ↔ x * p = y * p := fun x y => ⟨fun h => by rw [h], fun h => Int.eq_of_mul_eq_mul_right (by omega) h⟩
  have ez : ∀ x : Int, x = 0 ↔ x * p = 0 := fun x => by
    have := eqp x 0
    rwa [Int.zero_mul] at this
  rw [la, eqp, le (um F L B s), le (um F L B t), ez (um F L B s), ez (um F L B t), ← xs, ← xt]
  generalize um F L L s = us at *
  generalize um F L L t = ut at *
  clear xs xt la le eqp ez hi hj hB P
  refine ⟨by omega, by omega, by omega, by omega, by omega, by omega⟩
/-- the language's order of floats is that of their places -/
theorem order_nan {a b : Nat} (h : nanD a ∨ nanD b) : FloatKind.f64.format.order a b = none := by
  change (Ieee.double.read a).order (Ieee.double.read b) = none
  rcases h with h | h
  · obtain ⟨t, e⟩ := read_nan h
    rw [e]
    rfl
  · obtain ⟨t, e⟩ := read_nan h
    rw [e]
    cases Ieee.double.read a <;> rfl
theorem order_rk {a b : Nat} (ha : ¬ nanD a) (hb : ¬ nanD b) : FloatKind.f64.format.order a b = some (compare (rkD a) (rkD b)) := by
  change (Ieee.double.read a).order (Ieee.double.read b) = _
  unfold nanD at ha hb
  unfold rkD
  rcases Nat.lt_or_ge (szD a) 9218868437227405312 with ca | ca
  · obtain ⟨m, i, ea, hm, hi⟩ := read_num ca
    rw [ea]
    rcases Nat.lt_or_ge (szD b) 9218868437227405312 with cb | cb
    · obtain ⟨n, j, eb, hn, hj⟩ := read_num cb
      rw [eb]
      change some (compare (Ieee.signed (ngD a) m (i - min i j).toNat) (Ieee.signed (ngD b) n (j - min i j).toNat)) = _
      rw [signed_um (by omega) hm hi, signed_um (by omega) hn hj]
      obtain ⟨h1, h2, h3, h4, h5, h6⟩ := um_base (F := 4503599627370496) (L := -1074) (s := szD a) (t := szD b) (B := min i j) (by decide) (by omega) (by omega) (by rw [hi, hj])
      clear hi hj hm hn ea eb
      generalize um 4503599627370496 (-1074) (min i j) (szD a) = ua at *
      generalize um 4503599627370496 (-1074) (min i j) (szD b) = ub at *
      congr 1
      apply cmp_like
      · cases ngD a <;> cases ngD b <;> simp only [Bool.false_eq_true, reduceIte] <;> omega
      · cases ngD a <;> cases ngD b <;> simp only [Bool.false_eq_true, reduceIte] <;> omega
    · rw [read_inf (by omega)]
      change some (if ngD b = true then Ordering.gt else Ordering.lt) = _
      rw [cmp_int]
      cases ngD a <;> cases ngD b <;> simp only [Bool.false_eq_true, reduceIte] <;> (first | (rw [if_pos (by omega)]; done) | (rw [if_neg (by omega), if_neg (by omega)]))
  · rw [read_inf (by omega : szD a = 9218868437227405312)]
    rcases Nat.lt_or_ge (szD b) 9218868437227405312 with cb | cb
    · obtain ⟨n, j, eb, hn, hj⟩ := read_num cb
      rw [eb]
      change some (if ngD a = true then Ordering.lt else Ordering.gt) = _
      rw [cmp_int]
      cases ngD a <;> cases ngD b <;> simp only [Bool.false_eq_true, reduceIte] <;> (first | (rw [if_pos (by omega)]; done) | (rw [if_neg (by omega), if_neg (by omega)]))
    · rw [read_inf (by omega)]
      change some (compare (ngD b).toNat (ngD a).toNat) = _
      rw [show szD a = szD b by omega]
      have hs : 0 < szD b := by omega
      generalize szD b = z at *
      rw [cmp_int]
      cases ngD a <;> cases ngD b <;> simp only [Bool.false_eq_true, reduceIte]
      · simp
      · rw [if_neg (by omega), if_neg (by omega)]; rfl
      · rw [if_pos (by omega)]; rfl
      · simp
theorem order_self (b : Nat) : (FloatKind.f64.format.order b b == some .eq) = !decide (nanD b) := by
  by_cases h : nanD b
  · rw [order_nan (Or.inl h)]; simp [h]
  · rw [order_rk h h, cmp_int, if_neg (by omega), if_pos rfl]; simp [h]
theorem order_self' (b : Nat) : (FloatKind.f64.format.order b b != some .eq) = decide (nanD b) := by
  rw [bne, order_self, Bool.not_not]
theorem order_eq {a b : Nat} : (FloatKind.f64.format.order a b == some .eq) = (!decide (nanD a) && !decide (nanD b) && decide (rkD a = rkD b)) := by
  by_cases h : nanD a
  · rw [order_nan (Or.inl h)]; simp [h]
  · by_cases g : nanD b
    · rw [order_nan (Or.inr g)]; simp [g]
    · rw [order_rk h g, cmp_int]
      by_cases c : rkD a < rkD b
      · rw [if_pos c, show decide (rkD a = rkD b) = false from decide_eq_false (by omega)]; simp
      · rw [if_neg c]
        by_cases d : rkD a = rkD b
        · rw [if_pos d]; simp [h, g, d]
        · rw [if_neg d]; simp [d]
theorem order_lt {a b : Nat} : (FloatKind.f64.format.order a b == some .lt) = (!decide (nanD a) && !decide (nanD b) && decide (rkD a < rkD b)) := by
  by_cases h : nanD a
  · rw [order_nan (Or.inl h)]; simp [h]
  · by_cases g : nanD b
    · rw [order_nan (Or.inr g)]; simp [g]
    · rw [order_rk h g, cmp_int]
      by_cases c : rkD a < rkD b
      · rw [if_pos c]; simp [h, g, c]
      · rw [if_neg c]
        by_cases d : rkD a = rkD b
        · rw [if_pos d]; simp [d]
        · rw [if_neg d]; simp [c]
theorem order_gt {a b : Nat} : (FloatKind.f64.format.order a b == some .gt) = (!decide (nanD a) && !decide (nanD b) && decide (rkD b < rkD a)) := by
  by_cases h : nanD a
  · rw [order_nan (Or.inl h)]; simp [h]
  · by_cases g : nanD b
    · rw [order_nan (Or.inr g)]; simp [g]
    · rw [order_rk h g, cmp_int]
      by_cases c : rkD a < rkD b
      · rw [if_pos c, show decide (rkD b < rkD a) = false from decide_eq_false (by omega)]; simp
      · rw [if_neg c]
        by_cases d : rkD a = rkD b
        · rw [if_pos d, show decide (rkD b < rkD a) = false from decide_eq_false (by omega)]; simp
        · rw [if_neg d, show decide (rkD b < rkD a) = true from decide_eq_true (by omega)]; simp [h, g]
theorem one_rk {a b : Nat} (ha : a < 18446744073709551616) (hb : b < 18446744073709551616) (h : rkD a = rkD b) (hz : szD a ≠ 0) : a = b := by
  have ea := word_szD ha
  have eb := word_szD hb
  unfold rkD at h
  have h1 : ngD a = ngD b ∧ szD a = szD b := by
    clear ea eb
    rcases hx : ngD a with _ | _ <;> rcases hy : ngD b with _ | _ <;> rw [hx, hy] at h
    · exact ⟨rfl, by rw [if_neg (by decide), if_neg (by decide)] at h; omega⟩
    · rw [if_neg (by decide), if_pos rfl] at h; exfalso; omega
    · rw [if_pos rfl, if_neg (by decide)] at h; exfalso; omega
    · exact ⟨rfl, by rw [if_pos rfl, if_pos rfl] at h; omega⟩
  rw [ea, eb, h1.1, h1.2]

end Go.Proofs.Ytkaakhmncmpliaa
