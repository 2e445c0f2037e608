/- sums of floats: any order of two, 0 and -0, one by one -/
import Derived.Test.YtkaakhmncmpliaaRHalf
namespace Go.Proofs.Ytkaakhmncmpliaa
open Go.RowKit
set_option linter.unusedVariables false

theorem one_back (b : Nat) : oneD (oneD b).toNat = oneD b := by
  by_cases h : nanD b
  · rw [one_nan h]; exact one_nan nan_one
  · rw [one_not h, Int.toNat_natCast]; exact one_not h
/-- sums one by one, of no number the one -/
def FS (l : List Nat) (a : Int) : Int := l.foldl (fun s z => oneD (sumD s.toNat z)) a
theorem FS_append (l m : List Nat) (a : Int) : FS (l ++ m) a = FS m (FS l a) := List.foldl_append ..
theorem FS_cons (z : Nat) (l : List Nat) (a : Int) : FS (z :: l) a = FS l (oneD (sumD a.toNat z)) := rfl
theorem sum_fs {zs : List (Nat × Nat)} {a b x y : Nat} (h : SumIs zs a b x y) : oneD x = FS (zs.map Prod.fst) (oneD a) ∧ oneD y = FS (zs.map Prod.snd) (oneD b) := by
  induction zs generalizing a b with
  | nil =>
    obtain ⟨rfl, rfl⟩ := h
    exact ⟨rfl, rfl⟩
  | cons z zs ih =>
    obtain ⟨p, q, h1, h2, h3⟩ := h
    obtain ⟨i1, i2⟩ := ih h3
    refine ⟨?_, ?_⟩
    · rw [i1, List.map_cons, FS_cons, one_add h1, sum_like (one_back a) rfl]
    · rw [i2, List.map_cons, FS_cons, one_add h2, sum_like (one_back b) rfl]
theorem dsum_comm (d e : Ieee.Datum) : d.sum e = e.sum d := by
  cases d <;> cases e <;> try rfl
  · rename_i s m i t n j
    change some (Ieee.Datum.number (if Ieee.signed s m (i - min i j).toNat + Ieee.signed t n (j - min i j).toNat = 0 then s && t else decide (Ieee.signed s m (i - min i j).toNat + Ieee.signed t n (j - min i j).toNat < 0)) (Ieee.signed s m (i - min i j).toNat + Ieee.signed t n (j - min i j).toNat).natAbs (min i j)) =
      some (Ieee.Datum.number (if Ieee.signed t n (j - min j i).toNat + Ieee.signed s m (i - min j i).toNat = 0 then t && s else decide (Ieee.signed t n (j - min j i).toNat + Ieee.signed s m (i - min j i).toNat < 0)) (Ieee.signed t n (j - min j i).toNat + Ieee.signed s m (i - min j i).toNat).natAbs (min j i))
    rw [Int.min_comm j i, Int.add_comm (Ieee.signed t n _), Bool.and_comm t s]
  · rename_i s t
    change (if s = t then some (Ieee.Datum.infinity s) else none) = (if t = s then some (Ieee.Datum.infinity t) else none)
    by_cases h : s = t
    · rw [if_pos h, if_pos h.symm, h]
    · rw [if_neg h, if_neg (fun g => h g.symm)]
theorem sum_comm (a b : Nat) : sumD a b = sumD b a := by
  unfold sumD Ieee.Format.add
  rw [dsum_comm]
theorem nearest_zero {N : Nat} {E : Int} (hE : -1074 ≤ E) (h : Ieee.double.nearest false N E = 0) : N = 0 := by
  have hn := near_double N E
  rw [h] at hn
  obtain ⟨_, _, h3⟩ := hn
  have h4 := ((h3 (-1074) hE (Int.le_refl _)).1 (by decide)).1
  have u0 : um 4503599627370496 (-1074) (-1074) ((0 : Nat) : Int) = 0 := um_zero (by decide)
  have u1 : um 4503599627370496 (-1074) (-1074) (((0 : Nat) : Int) + 1) = 1 := by decide
  rw [u0, u1] at h4
  unfold sc at h4
  rcases Nat.eq_zero_or_pos N with c | c
  · exact c
  · have hp := p2_pos (E - -1074).toNat
    have : (1 : Int) * p2 (E - -1074).toNat ≤ N * p2 (E - -1074).toNat := Int.mul_le_mul_of_nonneg_right (by omega) (Int.le_of_lt hp)
    omega
/-- a nought and a finite word -/
theorem um_nearest {s : Nat} (h : s ≤ 9218868437227405312) : Ieee.double.nearest false (um 4503599627370496 (-1074) (-1074) s).toNat (-1074) = s := by
  have h0 : 0 ≤ um 4503599627370496 (-1074) (-1074) s := uD_nonneg (Int.natCast_nonneg s)
  refine nearest_um h (fun B hB hL => ?_)
  rw [Int.toNat_of_nonneg h0]
  have hg := est_ge (F := 4503599627370496) (L := -1074) (s := s) (by decide)
  unfold um
  exact sc_sc hB hg
theorem est_low (s : Nat) : min (est 4503599627370496 (-1074) 0) (est 4503599627370496 (-1074) s) = -1074 := by
  have hg := est_ge (F := 4503599627370496) (L := -1074) (s := s) (by decide)
  rw [show est 4503599627370496 (-1074) 0 = -1074 by decide]
  exact Int.min_eq_left hg
theorem sum_nought {a b : Nat} (ha : szD a = 0) (hb : b < 18446744073709551616) (hx : ngD a = false → b ≠ 9223372036854775808) : oneD (sumD a b) = oneD b := by
  by_cases n : nanD b
  · unfold sumD
    rw [add_nan (Or.inr n), one_nan n]
    exact one_nan nan_one
  have wb := word_szD hb
  by_cases i : szD b = 9218868437227405312
  · rw [sum_inf2 (by rw [ha]; decide) i, ← i, ← wb]
  have fb : szD b < 9218868437227405312 := by unfold nanD at n; omega
  have Y0 : 0 ≤ um 4503599627370496 (-1074) (-1074) (szD b) := uD_nonneg (Int.natCast_nonneg _)
  have hz : um 4503599627370496 (-1074) (-1074) ((0 : Nat) : Int) = 0 := um_zero (by decide)
  obtain ⟨S1, S2⟩ := sum_fin (a := a) (b := b) (X := 0) (Y := um 4503599627370496 (-1074) (-1074) (szD b)) (B := -1074) (by rw [ha]; decide) fb (by rw [ha]; exact (est_low _).symm) (by rw [ha]; exact hz.symm) rfl (Int.le_refl _) Y0
  have hn := um_nearest (s := szD b) (Nat.le_of_lt fb)
  have pos : szD b ≠ 0 → 0 < um 4503599627370496 (-1074) (-1074) (szD b) := fun h => um_pos (by decide) (by decide) (by omega)
  have z0 : szD b = 0 → um 4503599627370496 (-1074) (-1074) (szD b) = 0 := fun h => by rw [h]; exact hz
  generalize um 4503599627370496 (-1074) (-1074) (szD b) = Y at *
  by_cases s : ngD a = ngD b
  · rw [S1 s, Int.zero_add, hn, s, ← wb]
  · by_cases z : szD b = 0
    · have hsa : ngD a = true := by
        cases ha' : ngD a
        · exfalso
          have hb' : ngD b = true := by
            cases hb' : ngD b
            · rw [ha', hb'] at s; exact absurd rfl s
            · rfl
          refine hx ha' ?_
          rw [wb, hb', z]
          rfl
        · rfl
      have hsb : ngD b = false := by
        cases hb' : ngD b
        · rfl
        · rw [hsa, hb'] at s; exact absurd rfl s
      rw [(S2 s).1 (z0 z).symm, wb, hsb, z]
      rfl
    · rw [(S2 s).2.2 (pos z), Int.sub_zero, hn, ← wb]
theorem sum_zero {b : Nat} (hb : b < 18446744073709551616) (hx : b ≠ 9223372036854775808) : oneD (sumD 0 b) = oneD b := sum_nought (by decide) hb (fun _ => hx)
theorem sum_mzero {b : Nat} (hb : b < 18446744073709551616) : oneD (sumD 9223372036854775808 b) = oneD b := sum_nought (by decide) hb (fun h => absurd h (by decide))
/-- a sum is -0 only of -0 -/
theorem sum_never {a b : Nat} (ha : a < 18446744073709551616) (hb : b < 18446744073709551616) (hx : a ≠ 9223372036854775808) : sumD a b ≠ 9223372036854775808 := by
  intro h
  have wa := word_szD ha
  have hm : (9223372036854775808 : Nat) = Ieee.double.word true 0 := by decide
  have inj : ∀ (s : Bool) (r : Nat), r < 9223372036854775808 → Ieee.double.word s r = 9223372036854775808 → s = true ∧ r = 0 := by
    intro s r hr he
    obtain ⟨a1, a2⟩ := word_sz (s := s) (r := r) hr
    rw [he] at a1 a2
    exact ⟨a2.symm.trans (by decide), a1.symm.trans (by decide)⟩
  by_cases na : nanD a ∨ nanD b
  · unfold sumD at h
    rw [add_nan na] at h
    exact absurd h (by decide)
  have na1 : ¬ nanD a := fun g => na (Or.inl g)
  have nb1 : ¬ nanD b := fun g => na (Or.inr g)
  by_cases ia : szD a = 9218868437227405312
  · by_cases ib : szD b = 9218868437227405312
    · by_cases s : ngD a = ngD b
      · rw [sum_inf ia nb1 (fun _ => s)] at h
        exact absurd (inj _ _ (by decide) h).2 (by decide)
      · rw [sum_none ia ib s] at h
        exact absurd h (by decide)
    · rw [sum_inf ia nb1 (fun g => absurd g ib)] at h
      exact absurd (inj _ _ (by decide) h).2 (by decide)
  have fa : szD a < 9218868437227405312 := by unfold nanD at na1; omega
  by_cases ib : szD b = 9218868437227405312
  · rw [sum_inf2 fa ib] at h
    exact absurd (inj _ _ (by decide) h).2 (by decide)
  have fb : szD b < 9218868437227405312 := by unfold nanD at nb1; omega
  have ga := est_ge (F := 4503599627370496) (L := -1074) (s := szD a) (by decide)
  have gb := est_ge (F := 4503599627370496) (L := -1074) (s := szD b) (by decide)
  have U := um_base (F := 4503599627370496) (L := -1074) (s := szD a) (t := szD b) (by decide) (Int.natCast_nonneg _) (Int.natCast_nonneg _) rfl
  have gB : -1074 ≤ min (est 4503599627370496 (-1074) (szD a)) (est 4503599627370496 (-1074) (szD b)) := Int.le_min.2 ⟨ga, gb⟩
  obtain ⟨S1, S2⟩ := sum_fin (a := a) (b := b) fa fb rfl rfl rfl U.2.2.1 U.2.2.2.1
  obtain ⟨_, _, u3, u4, u5, _⟩ := U
  generalize min (est 4503599627370496 (-1074) (szD a)) (est 4503599627370496 (-1074) (szD b)) = B at *
  generalize um 4503599627370496 (-1074) B (szD a) = X at *
  generalize um 4503599627370496 (-1074) B (szD b) = Y at *
  have top : ∀ N : Nat, Ieee.double.nearest false N B < 9223372036854775808 := fun N => by
    have := (near_double N B).2.1
    omega
  by_cases s : ngD a = ngD b
  · rw [S1 s] at h
    obtain ⟨h1, h2⟩ := inj _ _ (top _) h
    have h3 := nearest_zero gB h2
    have hX : X = 0 := by omega
    have hsz : szD a = 0 := by have := u5.1 hX; omega
    apply hx
    rw [wa, h1, hsz]
    exact hm.symm
  · rcases Int.lt_trichotomy X Y with c | c | c
    · rw [(S2 s).2.2 c] at h
      have h3 := nearest_zero gB (inj _ _ (top _) h).2
      omega
    · rw [(S2 s).1 c] at h
      exact absurd h (by decide)
    · rw [(S2 s).2.1 c] at h
      have h3 := nearest_zero gB (inj _ _ (top _) h).2
      omega
theorem op_never {a b p : Nat} (h : OpIs .add a b p) (ha : a < 18446744073709551616) (hb : b < 18446744073709551616) (hx : a ≠ 9223372036854775808) : p ≠ 9223372036854775808 := by
  rcases h with h | ⟨_, h, _⟩
  · have : sumD a b = p := by unfold sumD; rw [show Ieee.double.add a b = some p from h]; rfl
    rw [← this]
    exact sum_never ha hb hx
  · intro e
    rw [e] at h
    exact absurd h (by decide)
def COk (zs : List (Nat × Nat)) : Prop := ∀ z ∈ zs, z.1 < 18446744073709551616 ∧ z.2 < 18446744073709551616
theorem sums_never {zs : List (Nat × Nat)} {a b x y : Nat} (h : SumIs zs a b x y) (hz : COk zs) (ha : a < 18446744073709551616) (hb : b < 18446744073709551616) (ax : a ≠ 9223372036854775808) (bx : b ≠ 9223372036854775808) :
    (x < 18446744073709551616 ∧ x ≠ 9223372036854775808) ∧ (y < 18446744073709551616 ∧ y ≠ 9223372036854775808) := by
  induction zs generalizing a b with
  | nil =>
    obtain ⟨rfl, rfl⟩ := h
    exact ⟨⟨ha, ax⟩, ⟨hb, bx⟩⟩
  | cons z zs ih =>
    obtain ⟨p, q, h1, h2, h3⟩ := h
    obtain ⟨z1, z2⟩ := hz z (List.mem_cons_self ..)
    exact ih h3 (fun u hu => hz u (List.mem_cons_of_mem _ hu)) (opIs_lt h1) (opIs_lt h2) (op_never h1 ha z1 ax) (op_never h2 hb z2 bx)
/-- two change places -/
theorem sum_swap {c f p q u v : Nat} (hc : c < 18446744073709551616) (hf : f < 18446744073709551616) (fx : f ≠ 9223372036854775808) (h1 : OpIs .add 0 c u) (h2 : OpIs .add u f p) (g1 : OpIs .add 0 f v) (g2 : OpIs .add v c q) : oneD p = oneD q := by
  rw [one_add h2, one_add g2, sum_like (one_add h1) rfl, sum_like ((one_add g1).trans (sum_zero hf fx)) rfl]
  by_cases e : c = 9223372036854775808
  · subst e
    rw [sum_comm f, sum_mzero hf, sum_like (show oneD (sumD 0 9223372036854775808) = oneD 0 by decide +kernel) rfl]
    exact sum_zero hf fx
  · rw [sum_like (sum_zero hc e) rfl, sum_comm]
/-- what is taken off itself -/
theorem sub_self {x : Nat} (hx : x < 18446744073709551616) : (szD x < 9218868437227405312 → Ieee.double.sub x x = some 0) ∧ (¬ szD x < 9218868437227405312 → Ieee.double.sub x x = none) := by
  constructor
  · intro h
    rw [sub_fin h h, sub_flip hx]
    obtain ⟨f1, f2⟩ := flip_sz hx
    have u0 := uD_nonneg (Int.natCast_nonneg (szD x))
    have U := um_base (F := 4503599627370496) (L := -1074) (s := szD x) (t := szD x) (by decide) (Int.natCast_nonneg _) (Int.natCast_nonneg _) rfl
    rw [((sum_fin (a := x) (b := flipD x) h (by rw [f1]; exact h) rfl rfl (by rw [f1]) (by rw [f1]; exact U.2.2.1) (by rw [f1]; exact U.2.2.1)).2 (by rw [f2]; cases ngD x <;> decide)).1 rfl]
  · intro h
    by_cases n : nanD x
    · exact sub_nan (Or.inl n)
    · have i : szD x = 9218868437227405312 := by unfold nanD at n; omega
      unfold Ieee.Format.sub
      rw [read_inf i]
      cases ngD x <;> rfl
theorem flip_flip (b : Nat) : flipD (flipD b) = b := by unfold flipD; rw [Nat.xor_assoc, Nat.xor_self, Nat.xor_zero]

end Go.Proofs.Ytkaakhmncmpliaa
