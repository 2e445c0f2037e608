/- digits: the number that they tell -/
import Derived.Test.YtfnfnkakaggmbabGreatDoorIMath
import Derived.Test.YtfnfnkakaggmbabGreatDoorKit
namespace Go.Proofs.YtfnfnkakaggmbabGreatDoor
open Go.RowKit
set_option linter.unusedVariables false

/-- the middle above a size, twice, in steps of 2 to the power of L -/
def mid2 (F L r : Int) : Int := um F L L r + um F L L (r + 1)
/-- r is the nearest pattern to X over D, in steps of 2 to the power of L -/
def DN (F L I X D r : Int) : Prop := 0 ≤ r ∧ r ≤ I ∧
  (r < I → 2 * X ≤ mid2 F L r * D ∧ (2 * X = mid2 F L r * D → r % 2 = 0)) ∧
  (0 < r → mid2 F L (r - 1) * D ≤ 2 * X ∧ (2 * X = mid2 F L (r - 1) * D → r % 2 = 0))
theorem mid2_lt {F L s t : Int} (hF : 0 < F) (h0 : 0 ≤ s) (h : s < t) : mid2 F L s < mid2 F L t := by
  unfold mid2
  have a := um_lt' (L := L) (B := L) (s := s) (t := t) hF h0 (by omega) h
  have b := um_lt' (L := L) (B := L) (s := s + 1) (t := t + 1) hF (by omega) (by omega) (by omega)
  omega
theorem mid2_le {F L s t : Int} (hF : 0 < F) (h0 : 0 ≤ s) (h : s ≤ t) : mid2 F L s ≤ mid2 F L t := by
  rcases Int.lt_or_le s t with g | g
  · have := mid2_lt (L := L) hF h0 g; omega
  · rw [show s = t by omega]; exact Int.le_refl _
theorem dn_le {F L I X D r X' D' r' : Int} (hF : 0 < F) (hD : 0 < D) (hD' : 0 < D') (h : DN F L I X D r) (h' : DN F L I X' D' r') (hv : X * D' ≤ X' * D) : r ≤ r' := by
  rcases Int.lt_or_le r' r with g | g
  · exfalso
    obtain ⟨a0, a1, a2, a3⟩ := h
    obtain ⟨b0, b1, b2, b3⟩ := h'
    obtain ⟨c1, c2⟩ := a3 (by omega)
    obtain ⟨d1, d2⟩ := b2 (by omega)
    have m := mid2_le (L := L) (s := r') (t := r - 1) hF b0 (by omega)
    have DD : 0 < D * D' := Int.mul_pos hD hD'
    have e1 : mid2 F L (r - 1) * D * D' ≤ 2 * X * D' := Int.mul_le_mul_of_nonneg_right c1 (by omega)
    have e2 : 2 * X' * D ≤ mid2 F L r' * D' * D := Int.mul_le_mul_of_nonneg_right d1 (by omega)
    have e3 : mid2 F L r' * (D * D') ≤ mid2 F L (r - 1) * (D * D') := Int.mul_le_mul_of_nonneg_right m (by omega)
    have f1 : mid2 F L (r - 1) * D * D' = mid2 F L (r - 1) * (D * D') := Int.mul_assoc _ _ _
    have f2 : mid2 F L r' * D' * D = mid2 F L r' * (D * D') := by rw [Int.mul_assoc, Int.mul_comm D' D]
    have f3 : 2 * X * D' = 2 * (X * D') := Int.mul_assoc _ _ _
    have f4 : 2 * X' * D = 2 * (X' * D) := Int.mul_assoc _ _ _
    rw [f1, f3] at e1
    rw [f2, f4] at e2
    have g1 : mid2 F L r' * (D * D') = mid2 F L (r - 1) * (D * D') := by omega
    have g2 := Int.eq_of_mul_eq_mul_right (by omega) g1
    have g3 : r' = r - 1 := by
      rcases Int.lt_or_le r' (r - 1) with k | k
      · have := mid2_lt (L := L) hF b0 k; omega
      · omega
    have h1 : 2 * X = mid2 F L (r - 1) * D := by
      have : 2 * X * D' = mid2 F L (r - 1) * D * D' := by rw [f3, f1]; omega
      exact Int.eq_of_mul_eq_mul_right (by omega) this
    have h2 : 2 * X' = mid2 F L r' * D' := by
      have : 2 * X' * D = mid2 F L r' * D' * D := by rw [f4, f2]; omega
      exact Int.eq_of_mul_eq_mul_right (by omega) this
    have := c2 h1
    have := d2 h2
    omega
  · exact g
theorem dn_unique {F L I X D r X' D' r' : Int} (hF : 0 < F) (hD : 0 < D) (hD' : 0 < D') (h : DN F L I X D r) (h' : DN F L I X' D' r') (hv : X * D' = X' * D) : r = r' := by
  have := dn_le hF hD hD' h h' (by omega)
  have := dn_le hF hD' hD h' h (by omega)
  omega

/-- what is cut off and only told as something more changes nothing -/
theorem dc_up {a D rest G H F mb : Int} (hG : 0 < G) (hD : 0 < D) (r0 : 0 ≤ rest) (r1 : rest < D) (hmb : mb = if rest = 0 then 0 else 1) (hH : (∃ j, H = j * G) ∨ H < 2 * F * G) (ha : rest ≠ 0 → 2 * F ≤ a)
    (h : (2 * a + mb) * G ≤ 2 * H) : (a * D + rest) * G ≤ H * D ∧ ((a * D + rest) * G = H * D → (2 * a + mb) * G = 2 * H) := by
  by_cases z : rest = 0
  · rw [if_pos z] at hmb
    subst hmb
    subst z
    have e : (a * D + 0) * G = a * G * D := by rw [Int.add_zero]; ac_rfl
    have f : (2 * a + 0) * G = 2 * (a * G) := by rw [Int.add_zero, Int.mul_assoc]
    rw [e, f]
    rw [f] at h
    refine ⟨Int.mul_le_mul_of_nonneg_right (by omega) (by omega), fun g => ?_⟩
    have := Int.eq_of_mul_eq_mul_right (by omega) g
    omega
  · rw [if_neg z] at hmb
    subst hmb
    have ha := ha z
    have key : (a * D + rest) * G < H * D := by
      rcases hH with ⟨j, rfl⟩ | hH
      · have g : (2 * a + 1) * G ≤ 2 * j * G := by rw [Int.mul_assoc]; exact h
        have g2 := Int.le_of_mul_le_mul_right g hG
        have g3 : (a + 1) * D ≤ j * D := Int.mul_le_mul_of_nonneg_right (by omega) (by omega)
        rw [Int.add_mul, Int.one_mul] at g3
        have g4 : (a * D + rest) * G < j * D * G := Int.mul_lt_mul_of_pos_right (by omega) hG
        rw [show j * G * D = j * D * G by ac_rfl]
        exact g4
      · exfalso
        have g : 2 * F * G ≤ a * G := Int.mul_le_mul_of_nonneg_right ha (by omega)
        have f : (2 * a + 1) * G = 2 * (a * G) + G := by rw [Int.add_mul, Int.one_mul, Int.mul_assoc]
        omega
    exact ⟨by omega, fun g => by omega⟩
theorem dc_dn {a D rest G H F mb : Int} (hG : 0 < G) (hD : 0 < D) (r0 : 0 ≤ rest) (r1 : rest < D) (hmb : mb = if rest = 0 then 0 else 1) (hH : (∃ j, H = j * G) ∨ H < 2 * F * G) (ha : rest ≠ 0 → 2 * F ≤ a)
    (h : 2 * H ≤ (2 * a + mb) * G) : H * D ≤ (a * D + rest) * G ∧ ((a * D + rest) * G = H * D → (2 * a + mb) * G = 2 * H) := by
  by_cases z : rest = 0
  · rw [if_pos z] at hmb
    subst hmb
    subst z
    have e : (a * D + 0) * G = a * G * D := by rw [Int.add_zero]; ac_rfl
    have f : (2 * a + 0) * G = 2 * (a * G) := by rw [Int.add_zero, Int.mul_assoc]
    rw [e, f]
    rw [f] at h
    refine ⟨Int.mul_le_mul_of_nonneg_right (by omega) (by omega), fun g => ?_⟩
    have := Int.eq_of_mul_eq_mul_right (by omega) g
    omega
  · rw [if_neg z] at hmb
    subst hmb
    have ha := ha z
    have low : H ≤ a * G := by
      rcases hH with ⟨j, rfl⟩ | hH
      · have g : 2 * j * G ≤ (2 * a + 1) * G := by rw [Int.mul_assoc]; exact h
        have g2 := Int.le_of_mul_le_mul_right g hG
        exact Int.mul_le_mul_of_nonneg_right (by omega) (by omega)
      · have g : 2 * F * G ≤ a * G := Int.mul_le_mul_of_nonneg_right ha (by omega)
        omega
    have key : H * D < (a * D + rest) * G := by
      have g1 : H * D ≤ a * G * D := Int.mul_le_mul_of_nonneg_right low (by omega)
      have g2 : 0 < rest * G := Int.mul_pos (by omega) hG
      rw [Int.add_mul, show a * D * G = a * G * D by ac_rfl]
      omega
    exact ⟨by omega, fun g => by omega⟩

theorem um_lift {F L B s : Int} (hF : 0 < F) (hB : B ≤ L) : um F L B s = um F L L s * p2 (L - B).toNat := by
  unfold um
  exact sc_shift hB (est_ge hF)
theorem um_here (F L s : Int) : um F L L s = mst F s * p2 (est F L s - L).toNat := rfl
theorem mst_rng {F s : Int} (hF : 0 < F) (h0 : 0 ≤ s) : 0 ≤ mst F s ∧ mst F s < 2 * F := by
  unfold mst
  split
  · omega
  · have := Int.emod_nonneg s (b := F) (by omega)
    have := Int.emod_lt_of_pos s hF
    omega
theorem mid2_at {F L r : Int} (hF : 0 < F) (h0 : 0 ≤ r) : mid2 F L r = (2 * mst F r + 1) * p2 (est F L r - L).toNat := by
  unfold mid2
  rw [um_succ hF h0 (by omega), um_here, Int.add_mul, Int.one_mul, Int.mul_assoc]; omega
/-- the middle above r, as so many steps -/
theorem mid2_kind {F L r : Int} (up : Nat) (hF : 0 < F) (hL : L ≤ 0) (h0 : 0 ≤ r) : (∃ j, mid2 F L r * p2 up = j * p2 (1 - L).toNat) ∨ mid2 F L r * p2 up < 2 * F * p2 (1 - L).toNat := by
  obtain ⟨m0, m1⟩ := mst_rng hF h0
  have l1 := est_ge (F := F) (L := L) (s := r) hF
  rw [mid2_at hF h0, Int.mul_assoc, ← p2_add]
  by_cases c : (1 - L).toNat ≤ (est F L r - L).toNat + up
  · left
    obtain ⟨d, hd⟩ : ∃ d, (est F L r - L).toNat + up = d + (1 - L).toNat := ⟨(est F L r - L).toNat + up - (1 - L).toNat, by omega⟩
    rw [hd, p2_add]
    exact ⟨(2 * mst F r + 1) * p2 d, by rw [Int.mul_assoc]⟩
  · right
    have g : p2 ((est F L r - L).toNat + up + 1) ≤ p2 (1 - L).toNat := p2_mono (by omega)
    rw [p2] at g
    have x0 := p2_pos ((est F L r - L).toNat + up)
    generalize p2 ((est F L r - L).toNat + up) = x at *
    have k : (2 * mst F r + 1) * x ≤ (4 * F - 1) * x := Int.mul_le_mul_of_nonneg_right (by omega) (by omega)
    have k2 : 2 * F * (2 * x) ≤ 2 * F * p2 (1 - L).toNat := Int.mul_le_mul_of_nonneg_left g (by omega)
    have k3 : (4 * F - 1) * x = 2 * F * (2 * x) - x := by
      rw [Int.sub_mul, Int.one_mul]; congr 1; rw [Int.mul_comm 2 x, ← Int.mul_assoc, Int.mul_comm (2 * F * x) 2, ← Int.mul_assoc, ← Int.mul_assoc]; rfl
    omega

/-- one rounding of what long division gives -/
theorem near_dn {F L I a D rest X Y mb r : Int} {up : Nat} (hF : 0 < F) (hL : L ≤ 0) (hD : 0 < D) (hY : 0 < Y) (r0 : 0 ≤ rest) (r1 : rest < D) (hmb : mb = if rest = 0 then 0 else 1) (ha : rest ≠ 0 → 2 * F ≤ a)
    (hX : X * (D * p2 up) = (a * D + rest) * (p2 (-L).toNat * Y)) (h : Near F L I (2 * a + mb) (-(up : Int) - 1) r) : DN F L I X Y r := by
  obtain ⟨h0, h1, hn⟩ := h
  obtain ⟨hu, hl⟩ := hn (L - up - 1) (by omega) (by omega)
  have G0 := p2_pos (1 - L).toNat
  have P0 := p2_pos up
  have es : sc (2 * a + mb) (-(up : Int) - 1) (L - up - 1) = (2 * a + mb) * p2 (-L).toNat := by
    unfold sc; congr 2; omega
  have eg : p2 (1 - L).toNat = 2 * p2 (-L).toNat := by
    rw [show (1 - L).toNat = (-L).toNat + 1 by omega, p2]
  have ep : p2 (L - (L - (up : Int) - 1)).toNat = 2 * p2 up := by
    rw [show (L - (L - (up : Int) - 1)).toNat = up + 1 by omega, p2]
  have um' : ∀ s, um F L (L - up - 1) s = um F L L s * (2 * p2 up) := fun s => by rw [um_lift hF (by omega), ep]
  have hs : 2 * ((2 * a + mb) * p2 (-L).toNat) = (2 * a + mb) * p2 (1 - L).toNat := by rw [eg]; rw [Int.mul_left_comm]
  have hm : ∀ x y, x * (2 * p2 up) + y * (2 * p2 up) = 2 * ((x + y) * p2 up) := fun x y => by rw [← Int.add_mul, Int.mul_left_comm]
  rw [es, um', um', hs, hm] at hu
  rw [es, um', um', hs, hm] at hl
  have cmp : ∀ h' : Int, ((a * D + rest) * p2 (1 - L).toNat ≤ h' * p2 up * D ↔ 2 * X ≤ h' * Y) ∧ (h' * p2 up * D ≤ (a * D + rest) * p2 (1 - L).toNat ↔ h' * Y ≤ 2 * X) := by
    intro h'
    have c0 : 0 < D * p2 up := Int.mul_pos hD P0
    have e1 : (a * D + rest) * p2 (1 - L).toNat * Y = 2 * X * (D * p2 up) := by rw [Int.mul_assoc 2, hX, eg]; ac_rfl
    have e2 : h' * p2 up * D * Y = h' * Y * (D * p2 up) := by ac_rfl
    have le : ∀ {x y c : Int}, 0 < c → (x * c ≤ y * c ↔ x ≤ y) := fun {x y c} hc => ⟨fun h => Int.le_of_mul_le_mul_right h hc, fun h => Int.mul_le_mul_of_nonneg_right h (by omega)⟩
    constructor
    · rw [← le hY, e1, e2, le c0]
    · rw [← le hY (x := h' * p2 up * D), e1, e2, le c0]
  refine ⟨h0, h1, fun g => ?_, fun g => ?_⟩
  · obtain ⟨u1, u2⟩ := hu g
    obtain ⟨v1, v2⟩ := dc_up (F := F) G0 hD r0 r1 hmb (mid2_kind up hF hL h0) ha u1
    obtain ⟨c1, c2⟩ := cmp (mid2 F L r)
    refine ⟨c1.1 v1, fun e => u2 (v2 ?_)⟩
    have := c2.2 (by omega)
    unfold mid2 at *
    omega
  · obtain ⟨u1, u2⟩ := hl g
    have k := mid2_kind (L := L) (r := r - 1) up hF hL (by omega)
    have k' : mid2 F L (r - 1) = um F L L (r - 1) + um F L L r := by unfold mid2; rw [show r - 1 + 1 = r by omega]
    rw [← k'] at u1 u2
    obtain ⟨v1, v2⟩ := dc_dn (F := F) G0 hD r0 r1 hmb k ha u1
    obtain ⟨c1, c2⟩ := cmp (mid2 F L (r - 1))
    refine ⟨c2.1 v1, fun e => u2 (v2 ?_)⟩
    have := c1.2 (by omega)
    omega
/-- a whole number -/
theorem near_dn_up {F L I N r : Int} {e : Nat} (hF : 0 < F) (hL : L < 0) (h : Near F L I (2 * N + 0) ((e : Int) - 1) r) : DN F L I (N * p2 e * p2 (-L).toNat) 1 r := by
  obtain ⟨h0, h1, hn⟩ := h
  obtain ⟨hu, hl⟩ := hn L (by omega) (by omega)
  have es : sc (2 * N + 0) ((e : Int) - 1) L = N * p2 e * p2 (-L).toNat := by
    unfold sc
    rw [Int.add_zero, Int.mul_assoc N, ← p2_add, show e + (-L).toNat = ((e : Int) - 1 - L).toNat + 1 by omega, p2]
    ac_rfl
  rw [es] at hu hl
  refine ⟨h0, h1, fun g => ?_, fun g => ?_⟩
  · rw [Int.mul_one]; exact hu g
  · rw [Int.mul_one]
    have := hl g
    unfold mid2
    rw [show r - 1 + 1 = r by omega]
    exact this

/-- 10 to a power -/
def tn (n : Nat) : Int := 10 ^ n
theorem tn_pos (n : Nat) : 0 < tn n := Int.pow_pos (by omega)
theorem tn_add (a b : Nat) : tn (a + b) = tn a * tn b := Int.pow_add 10 a b
theorem tn_succ (a : Nat) : tn (a + 1) = 10 * tn a := by unfold tn; rw [Int.pow_succ, Int.mul_comm]
theorem tn_zero : tn 0 = 1 := rfl
theorem tn_nat (n : Nat) : tn n = ((10 ^ n : Nat) : Int) := by unfold tn; simp
theorem tn_mono {a b : Nat} (h : a ≤ b) : tn a ≤ tn b := by
  obtain ⟨c, rfl⟩ : ∃ c, b = a + c := ⟨b - a, by omega⟩
  rw [tn_add]
  have h1 := tn_pos c
  have h2 := tn_pos a
  have := Int.mul_le_mul_of_nonneg_left (show (1 : Int) ≤ tn c by omega) (show 0 ≤ tn a by omega)
  omega
theorem mle {x y c : Int} (hc : 0 < c) : (x * c ≤ y * c ↔ x ≤ y) := ⟨fun h => Int.le_of_mul_le_mul_right h hc, fun h => Int.mul_le_mul_of_nonneg_right h (by omega)⟩
theorem mlt {x y c : Int} (hc : 0 < c) : (x * c < y * c ↔ x < y) := ⟨fun h => Int.lt_of_mul_lt_mul_right h (by omega), fun h => Int.mul_lt_mul_of_pos_right h hc⟩
theorem tn_shift {A B : Int} {x y x' y' : Nat} (h : x + y' = x' + y) : A * tn x ≤ B * tn y ↔ A * tn x' ≤ B * tn y' := by
  rcases Nat.le_total x x' with g | g
  · obtain ⟨c, rfl⟩ : ∃ c, x' = x + c := ⟨x' - x, by omega⟩
    have e : y' = y + c := by omega
    subst e
    rw [tn_add, tn_add, ← Int.mul_assoc, ← Int.mul_assoc, mle (tn_pos c)]
  · obtain ⟨c, rfl⟩ : ∃ c, x = x' + c := ⟨x - x', by omega⟩
    have e : y = y' + c := by omega
    subst e
    rw [tn_add, tn_add, ← Int.mul_assoc, ← Int.mul_assoc, mle (tn_pos c)]
theorem tn_shift_eq {A B : Int} {x y x' y' : Nat} (h : x + y' = x' + y) : A * tn x = B * tn y ↔ A * tn x' = B * tn y' := by
  have a := tn_shift (A := A) (B := B) h
  have b := tn_shift (A := B) (B := A) (x := y) (y := x) (x' := y') (y' := x') (by omega)
  omega
/-- r is the nearest pattern to N times 10 to the power of q -/
def DV (F L I N q r : Int) : Prop := DN F L I (N * tn q.toNat * p2 (-L).toNat) (tn (-q).toNat) r
/-- one decimal number is at most another -/
def dle (N q N' q' : Int) : Prop := N * tn (q.toNat + (-q').toNat) ≤ N' * tn (q'.toNat + (-q).toNat)
theorem dle_base {N q N' q' b : Int} (h : b ≤ q) (h' : b ≤ q') : dle N q N' q' ↔ N * tn (q - b).toNat ≤ N' * tn (q' - b).toNat := by
  unfold dle
  exact tn_shift (by omega)
theorem dv_cross {F L I N q r N' q' r' : Int} (hF : 0 < F) (h : DV F L I N q r) (h' : DV F L I N' q' r') (hv : dle N q N' q') : r ≤ r' := by
  refine dn_le hF (tn_pos _) (tn_pos _) h h' ?_
  unfold dle at hv
  have P := p2_pos (-L).toNat
  rw [tn_add, tn_add] at hv
  have := Int.mul_le_mul_of_nonneg_right hv (show 0 ≤ p2 (-L).toNat by omega)
  have e1 : N * tn q.toNat * p2 (-L).toNat * tn (-q').toNat = N * (tn q.toNat * tn (-q').toNat) * p2 (-L).toNat := by ac_rfl
  have e2 : N' * tn q'.toNat * p2 (-L).toNat * tn (-q).toNat = N' * (tn q'.toNat * tn (-q).toNat) * p2 (-L).toNat := by ac_rfl
  rw [e1, e2]; exact this
theorem dv_same {F L I N q r N' q' r' : Int} (hF : 0 < F) (h : DV F L I N q r) (h' : DV F L I N' q' r') (hv : dle N q N' q') (hv' : dle N' q' N q) : r = r' := by
  have := dv_cross hF h h' hv
  have := dv_cross hF h' h hv'
  omega
theorem dle_refl (N q : Int) : dle N q N q := Int.le_refl _
theorem dn_scale {F L I X D X' D' r : Int} (hD : 0 < D) (hD' : 0 < D') (e : X * D' = X' * D) (h : DN F L I X D r) : DN F L I X' D' r := by
  have key : ∀ m : Int, (2 * X ≤ m * D ↔ 2 * X' ≤ m * D') ∧ (m * D ≤ 2 * X ↔ m * D' ≤ 2 * X') := by
    intro m
    have e1 : 2 * X * D' = 2 * X' * D := by rw [Int.mul_assoc, e, Int.mul_assoc]
    have e2 : m * D * D' = m * D' * D := by ac_rfl
    constructor
    · rw [← mle hD', e1, e2, mle hD]
    · rw [← mle hD' (x := m * D), e1, e2, mle hD]
  obtain ⟨h0, h1, h2, h3⟩ := h
  refine ⟨h0, h1, fun g => ?_, fun g => ?_⟩
  · obtain ⟨a, b⟩ := h2 g
    obtain ⟨k1, k2⟩ := key (mid2 F L r)
    exact ⟨k1.1 a, fun z => b (by have := k2.2 (by omega); omega)⟩
  · obtain ⟨a, b⟩ := h3 g
    obtain ⟨k1, k2⟩ := key (mid2 F L (r - 1))
    exact ⟨k2.1 a, fun z => b (by have := k1.2 (by omega); omega)⟩
theorem dv_move {F L I N q r N' q' : Int} (h : DV F L I N q r) (e : N * tn (q.toNat + (-q').toNat) = N' * tn (q'.toNat + (-q).toNat)) : DV F L I N' q' r := by
  refine dn_scale (tn_pos _) (tn_pos _) ?_ h
  rw [tn_add, tn_add] at e
  have e1 : N * tn q.toNat * p2 (-L).toNat * tn (-q').toNat = N * (tn q.toNat * tn (-q').toNat) * p2 (-L).toNat := by ac_rfl
  have e2 : N' * tn q'.toNat * p2 (-L).toNat * tn (-q).toNat = N' * (tn q'.toNat * tn (-q).toNat) * p2 (-L).toNat := by ac_rfl
  rw [e1, e2, e]
/-- noughts behind -/
theorem dv_behind {F L I N q r : Int} (c : Nat) (h : DV F L I N q r) : DV F L I (N * tn c) (q - c) r := by
  refine dv_move h ?_
  rw [Int.mul_assoc, ← tn_add]
  congr 2
  omega
theorem dv_ahead {F L I N q r : Int} (c : Nat) (h : DV F L I (N * tn c) (q - c) r) : DV F L I N q r := by
  refine dv_move h ?_
  rw [Int.mul_assoc, ← tn_add]
  congr 2
  omega

/-- what is said of a width: so few digits, the ends of its numbers -/
structure Wide (F L I : Int) : Prop where
  f0 : 2 ≤ F
  l0 : -1074 ≤ L
  l1 : L < 0
  i0 : 1 < I
  few : 2 * F * 5 ^ (-L).toNat ≤ tn 799
  low : 2 * p2 (-L).toNat ≤ tn 330
  top : mid2 F L (I - 1) < 2 * tn 310 * p2 (-L).toNat

theorem mid2_zero {F L : Int} (hF : 2 ≤ F) : mid2 F L 0 = 1 := by
  rw [mid2_at (by omega) (by omega)]
  have a : mst F 0 = 0 := by unfold mst; rw [if_pos (by omega)]
  have b : est F L 0 = L := by unfold est; rw [if_pos (by omega)]
  rw [a, b, Int.sub_self]; rfl
theorem dv_zero {F L I q : Int} (W : Wide F L I) : DV F L I 0 q 0 := by
  have := W.i0
  have := tn_pos (-q).toNat
  refine ⟨by omega, by omega, fun _ => ?_, fun g => absurd g (by omega)⟩
  rw [Int.zero_mul, Int.zero_mul, mid2_zero W.f0]
  refine ⟨by omega, fun _ => by decide⟩
theorem dv_small {F L I N q : Int} {k : Nat} (W : Wide F L I) (h0 : 0 ≤ N) (hN : N < tn k) (hq : q + k ≤ -330) : DV F L I N q 0 := by
  have := W.i0
  have hlow := W.low
  have key : 2 * (N * tn q.toNat * p2 (-L).toNat) < tn (-q).toNat := by
    have e0 : q.toNat = 0 := by omega
    obtain ⟨c, hc⟩ : ∃ c, (-q).toNat = k + 330 + c := ⟨(-q).toNat - k - 330, by omega⟩
    rw [e0, tn_zero, Int.mul_one, hc]
    have a : N * (2 * p2 (-L).toNat) < tn k * (2 * p2 (-L).toNat) := Int.mul_lt_mul_of_pos_right hN (by have := p2_pos (-L).toNat; omega)
    have b : tn k * (2 * p2 (-L).toNat) ≤ tn k * tn 330 := Int.mul_le_mul_of_nonneg_left hlow (by have := tn_pos k; omega)
    have d : tn (k + 330) ≤ tn (k + 330 + c) := tn_mono (by omega)
    rw [tn_add] at d
    have e : 2 * (N * p2 (-L).toNat) = N * (2 * p2 (-L).toNat) := by ac_rfl
    omega
  refine ⟨by omega, by omega, fun _ => ?_, fun g => absurd g (by omega)⟩
  rw [mid2_zero W.f0]
  exact ⟨by omega, fun _ => by decide⟩
theorem dv_large {F L I N q : Int} {k : Nat} (W : Wide F L I) (hN : tn k ≤ N) (hq : 310 ≤ q + k) : DV F L I N q I := by
  have := W.i0
  have htop := W.top
  have P := p2_pos (-L).toNat
  refine ⟨by omega, by omega, fun g => absurd g (by omega), fun _ => ?_⟩
  have a : mid2 F L (I - 1) * tn (-q).toNat < 2 * tn 310 * p2 (-L).toNat * tn (-q).toNat := Int.mul_lt_mul_of_pos_right htop (tn_pos _)
  have b : tn (310 + (-q).toNat) ≤ tn (k + q.toNat) := tn_mono (by omega)
  have c : tn k * tn q.toNat ≤ N * tn q.toNat := Int.mul_le_mul_of_nonneg_right hN (by have := tn_pos q.toNat; omega)
  rw [tn_add, tn_add] at b
  have d : tn 310 * tn (-q).toNat * (2 * p2 (-L).toNat) ≤ N * tn q.toNat * (2 * p2 (-L).toNat) := Int.mul_le_mul_of_nonneg_right (by omega) (by omega)
  have e1 : 2 * tn 310 * p2 (-L).toNat * tn (-q).toNat = tn 310 * tn (-q).toNat * (2 * p2 (-L).toNat) := by ac_rfl
  have e2 : 2 * (N * tn q.toNat * p2 (-L).toNat) = N * tn q.toNat * (2 * p2 (-L).toNat) := by ac_rfl
  rw [e1] at a
  rw [e2]
  exact ⟨by omega, fun g => by omega⟩
theorem p2_pow (n : Nat) : p2 n = 2 ^ n := by
  induction n with
  | zero => rfl
  | succ n ih => rw [p2, ih, Int.pow_succ, Int.mul_comm]
theorem tn_p2 (n : Nat) : tn n = 5 ^ n * p2 n := by
  rw [p2_pow, ← Int.mul_pow]; rfl
/-- no middle has so many digits -/
theorem mid2_off {F L I A r : Int} {c : Nat} (W : Wide F L I) (hA : tn 799 ≤ A) (h0 : 0 ≤ r) : mid2 F L r * tn c ≤ A * p2 (1 - L).toNat ∨ (A + 1) * p2 (1 - L).toNat ≤ mid2 F L r * tn c := by
  have f0 := W.f0
  have l1 := W.l1
  have G0 := p2_pos (1 - L).toNat
  by_cases z : ∃ j, mid2 F L r * tn c = j * p2 (1 - L).toNat
  · obtain ⟨j, hj⟩ := z
    rw [hj, mle G0, mle G0]
    omega
  · left
    obtain ⟨m0, m1⟩ := mst_rng (F := F) (s := r) (by omega) h0
    have l2 := est_ge (F := F) (L := L) (s := r) (by omega)
    have k : (est F L r - L).toNat + c < (1 - L).toNat := by
      rcases Nat.lt_or_ge ((est F L r - L).toNat + c) (1 - L).toNat with g | g
      · exact g
      · exfalso
        obtain ⟨d, hd⟩ : ∃ d, (est F L r - L).toNat + c = d + (1 - L).toNat := ⟨(est F L r - L).toNat + c - (1 - L).toNat, by omega⟩
        refine z ⟨(2 * mst F r + 1) * p2 d * 5 ^ c, ?_⟩
        rw [mid2_at (by omega) h0, tn_p2]
        have e : (2 * mst F r + 1) * p2 (est F L r - L).toNat * (5 ^ c * p2 c) = (2 * mst F r + 1) * (p2 (est F L r - L).toNat * p2 c) * 5 ^ c := by ac_rfl
        rw [e, ← p2_add, hd, p2_add]
        ac_rfl
    have e : mid2 F L r * tn c = (2 * mst F r + 1) * (p2 ((est F L r - L).toNat + c) * 5 ^ c) := by
      rw [mid2_at (by omega) h0, tn_p2, p2_add]; ac_rfl
    have q0 : 0 < (5 : Int) ^ c := Int.pow_pos (by omega)
    have g1 : p2 ((est F L r - L).toNat + c) * 5 ^ c ≤ p2 (-L).toNat * 5 ^ (-L).toNat := by
      have a : p2 ((est F L r - L).toNat + c) ≤ p2 (-L).toNat := p2_mono (by omega)
      have b : (5 : Int) ^ c ≤ 5 ^ (-L).toNat := by
        obtain ⟨d, hd⟩ : ∃ d, (-L).toNat = c + d := ⟨(-L).toNat - c, by omega⟩
        rw [hd, Int.pow_add]
        have : 0 < (5 : Int) ^ d := Int.pow_pos (by omega)
        have := Int.mul_le_mul_of_nonneg_left (show (1 : Int) ≤ 5 ^ d by omega) (show 0 ≤ (5 : Int) ^ c by omega)
        omega
      have x := p2_pos ((est F L r - L).toNat + c)
      exact Int.mul_le_mul a b (by omega) (by have := p2_pos (-L).toNat; omega)
    have P := p2_pos (-L).toNat
    have g2 : (2 * mst F r + 1) * (p2 ((est F L r - L).toNat + c) * 5 ^ c) ≤ 4 * F * (p2 (-L).toNat * 5 ^ (-L).toNat) :=
      Int.mul_le_mul (by omega) g1 (Int.mul_nonneg (by have := p2_pos ((est F L r - L).toNat + c); omega) (by omega)) (by omega)
    have eg : p2 (1 - L).toNat = 2 * p2 (-L).toNat := by rw [show (1 - L).toNat = (-L).toNat + 1 by omega, p2]
    have g3 : 4 * F * (p2 (-L).toNat * 5 ^ (-L).toNat) = 2 * F * 5 ^ (-L).toNat * p2 (1 - L).toNat := by
      rw [eg, show 4 * F = 2 * (2 * F) by omega]; ac_rfl
    have g4 : 2 * F * 5 ^ (-L).toNat * p2 (1 - L).toNat ≤ A * p2 (1 - L).toNat := Int.mul_le_mul_of_nonneg_right (by have := W.few; omega) (by omega)
    rw [e]
    omega
/-- digits behind so many count only as something more -/
theorem dn_cut {F L I A N N' r : Int} {j j' c : Nat} (W : Wide F L I) (hA : tn 799 ≤ A) (a1 : A * tn j < N) (a2 : N < (A + 1) * tn j) (b1 : A * tn j' < N') (b2 : N' < (A + 1) * tn j')
    (h : DN F L I (N * p2 (-L).toNat) (tn (j + c)) r) : DN F L I (N' * p2 (-L).toNat) (tn (j' + c)) r := by
  have l1 := W.l1
  have G0 := p2_pos (1 - L).toNat
  have eg : p2 (1 - L).toNat = 2 * p2 (-L).toNat := by rw [show (1 - L).toNat = (-L).toNat + 1 by omega, p2]
  have side : ∀ {M : Int} {i : Nat} (s : Int), A * tn i < M → M < (A + 1) * tn i → 0 ≤ s →
      (mid2 F L s * tn c ≤ A * p2 (1 - L).toNat → mid2 F L s * tn (i + c) < 2 * (M * p2 (-L).toNat)) ∧ ((A + 1) * p2 (1 - L).toNat ≤ mid2 F L s * tn c → 2 * (M * p2 (-L).toNat) < mid2 F L s * tn (i + c)) := by
    intro M i s u1 u2 hs
    have T := tn_pos i
    have e1 : 2 * (M * p2 (-L).toNat) = M * p2 (1 - L).toNat := by rw [eg]; ac_rfl
    have e2 : mid2 F L s * tn (i + c) = mid2 F L s * tn c * tn i := by rw [tn_add]; ac_rfl
    rw [e1, e2]
    constructor
    · intro g
      have v1 := Int.mul_le_mul_of_nonneg_right g (show 0 ≤ tn i by omega)
      have v2 := Int.mul_lt_mul_of_pos_right u1 G0
      have e3 : A * p2 (1 - L).toNat * tn i = A * tn i * p2 (1 - L).toNat := by ac_rfl
      omega
    · intro g
      have v1 := Int.mul_le_mul_of_nonneg_right g (show 0 ≤ tn i by omega)
      have v2 := Int.mul_lt_mul_of_pos_right u2 G0
      have e3 : (A + 1) * p2 (1 - L).toNat * tn i = (A + 1) * tn i * p2 (1 - L).toNat := by ac_rfl
      omega
  obtain ⟨h0, h1, h2, h3⟩ := h
  refine ⟨h0, h1, fun g => ?_, fun g => ?_⟩
  · obtain ⟨x1, x2⟩ := h2 g
    obtain ⟨s1, s2⟩ := side (M := N) (i := j) r a1 a2 h0
    obtain ⟨t1, t2⟩ := side (M := N') (i := j') r b1 b2 h0
    rcases mid2_off (c := c) W hA h0 with k | k
    · have := s1 k; omega
    · have := t2 k
      exact ⟨by omega, fun z => by omega⟩
  · obtain ⟨x1, x2⟩ := h3 g
    obtain ⟨s1, s2⟩ := side (M := N) (i := j) (r - 1) a1 a2 (by omega)
    obtain ⟨t1, t2⟩ := side (M := N') (i := j') (r - 1) b1 b2 (by omega)
    rcases mid2_off (c := c) (r := r - 1) W hA (by omega) with k | k
    · have := t1 k
      exact ⟨by omega, fun z => by omega⟩
    · have := s2 k; omega
theorem dv_cut {F L I A N N' q q' r : Int} {j j' : Nat} (W : Wide F L I) (hA : tn 799 ≤ A) (a1 : A * tn j < N) (a2 : N < (A + 1) * tn j) (b1 : A * tn j' < N') (b2 : N' < (A + 1) * tn j')
    (hq : q + j ≤ 0) (hq' : q' + j' = q + j) (h : DV F L I N q r) : DV F L I N' q' r := by
  unfold DV at h ⊢
  obtain ⟨c, hc⟩ : ∃ c : Nat, (c : Int) = -(q + j) := ⟨(-(q + j)).toNat, by omega⟩
  rw [show q.toNat = 0 by omega, tn_zero, Int.mul_one, show (-q).toNat = j + c by omega] at h
  rw [show q'.toNat = 0 by omega, tn_zero, Int.mul_one, show (-q').toNat = j' + c by omega]
  exact dn_cut W hA a1 a2 b1 b2 h

theorem wide_h : Wide 1024 (-24) 31744 := ⟨by decide, by decide, by decide, by decide, by unfold tn; decide +kernel, by unfold tn; decide +kernel, by rw [mid2_at (by decide) (by decide)]; unfold tn; decide +kernel⟩
theorem wide_s : Wide 8388608 (-149) 2139095040 := ⟨by decide, by decide, by decide, by decide, by unfold tn; decide +kernel, by unfold tn; decide +kernel, by rw [mid2_at (by decide) (by decide)]; unfold tn; decide +kernel⟩
theorem wide_d : Wide 4503599627370496 (-1074) 9218868437227405312 := ⟨by decide, by decide, by decide, by decide, by unfold tn; decide +kernel, by unfold tn; decide +kernel, by rw [mid2_at (by decide) (by decide)]; unfold tn; decide +kernel⟩

/-- the number that digits tell -/
def dg : List Int → Int
  | [] => 0
  | a :: x => (a - 48) * tn x.length + dg x
/-- digits alone -/
def Dgt (es : List Int) : Prop := ∀ x ∈ es, 48 ≤ x ∧ x ≤ 57
/-- bytes -/
def Byt (es : List Int) : Prop := ∀ x ∈ es, 0 ≤ x ∧ x < 256
theorem Dgt.byt {es : List Int} (h : Dgt es) : Byt es := fun x hx => by have := h x hx; omega
theorem Dgt.take {es : List Int} (h : Dgt es) (n : Nat) : Dgt (es.take n) := fun x hx => h x (List.mem_of_mem_take hx)
theorem Dgt.drop {es : List Int} (h : Dgt es) (n : Nat) : Dgt (es.drop n) := fun x hx => h x (List.mem_of_mem_drop hx)
theorem Dgt.append {es fs : List Int} (h : Dgt es) (g : Dgt fs) : Dgt (es ++ fs) := fun x hx => by
  rcases List.mem_append.1 hx with k | k
  · exact h x k
  · exact g x k
theorem dg_append (xs ys : List Int) : dg (xs ++ ys) = dg xs * tn ys.length + dg ys := by
  induction xs with
  | nil => simp [dg]
  | cons a x ih =>
    rw [List.cons_append, dg, ih, dg, List.length_append, tn_add, Int.add_mul, ← Int.mul_assoc]
    omega
theorem dg_one (a : Int) : dg [a] = a - 48 := by simp [dg, tn_zero]
theorem dg_snoc (xs : List Int) (b : Int) : dg (xs ++ [b]) = dg xs * 10 + (b - 48) := by
  rw [dg_append, dg_one]; rfl
theorem dg_range {xs : List Int} (h : Dgt xs) : 0 ≤ dg xs ∧ dg xs < tn xs.length := by
  induction xs with
  | nil => simp [dg, tn_zero]
  | cons a x ih =>
    obtain ⟨i0, i1⟩ := ih (fun y hy => h y (List.mem_cons_of_mem _ hy))
    obtain ⟨a0, a1⟩ := h a List.mem_cons_self
    rw [dg, List.length_cons, tn_succ]
    have p := tn_pos x.length
    have q0 : 0 ≤ (a - 48) * tn x.length := Int.mul_nonneg (by omega) (by omega)
    have q1 : (a - 48) * tn x.length ≤ 9 * tn x.length := Int.mul_le_mul_of_nonneg_right (by omega) (by omega)
    omega
theorem dg_lead {a : Int} {xs : List Int} (h : Dgt (a :: xs)) (ha : a ≠ 48) : tn xs.length ≤ dg (a :: xs) := by
  obtain ⟨i0, i1⟩ := dg_range (xs := xs) (fun y hy => h y (List.mem_cons_of_mem _ hy))
  obtain ⟨a0, a1⟩ := h a List.mem_cons_self
  have p := tn_pos xs.length
  have q1 : 1 * tn xs.length ≤ (a - 48) * tn xs.length := Int.mul_le_mul_of_nonneg_right (by omega) (by omega)
  rw [dg]; omega
theorem dg_lead' {xs : List Int} (h : Dgt xs) (hl : 0 < xs.length) (ha : Nt.lb xs 0 ≠ 48) : tn (xs.length - 1) ≤ dg xs := by
  cases xs with
  | nil => simp at hl
  | cons a x => exact dg_lead h (by simpa [Nt.lb] using ha)
theorem dg_noughts (n : Nat) : dg (List.replicate n 48) = 0 := by
  induction n with
  | zero => rfl
  | succ n ih => rw [List.replicate_succ, dg, ih]; omega
theorem lb_get {es : List Int} {p : Nat} (h : p < es.length) : Nt.lb es p = es[p] := by simp [Nt.lb, h]
theorem lb_in {es : List Int} {p : Nat} (h : p < es.length) : Nt.lb es p ∈ es := by rw [lb_get h]; exact List.getElem_mem h
theorem dg_take {ds : List Int} {k : Nat} (h : k < ds.length) : dg (ds.take (k + 1)) = dg (ds.take k) * 10 + (Nt.lb ds k - 48) := by
  rw [List.take_add_one, List.getElem?_eq_getElem h, lb_get h]
  exact dg_snoc _ _
/-- a text's byte -/
theorem txt_at {es : List Int} {p : Nat} (h : p < (strOfNums es).size) (hb : Byt es) : (((strOfNums es)[p]'h).toNat : Int) = Nt.lb es p := by
  have hl : p < es.length := by rw [strOfNums_size] at h; exact h
  have e : (strOfNums es)[p]'h = UInt8.ofNat (es[p]).toNat := by
    show (strOfNums es).data[p]'h = _
    simp [strOfNums]
  have hp := hb _ (lb_in hl)
  rw [lb_get hl] at hp ⊢
  rw [e, UInt8.toNat_ofNat']
  omega
theorem txt_cut (es : List Int) (a b : Nat) : (strOfNums es).extract a b = strOfNums ((es.take b).drop a) := by
  apply Go.WideShapes.bytes_inj
  simp [strOfNums, List.map_take, List.map_drop]
  try rw [List.drop_take]
theorem txt_of (s : ByteArray) : ∃ es, Byt es ∧ es.length = s.size ∧ s = strOfNums es := by
  refine ⟨s.data.toList.map fun b => (b.toNat : Int), ?_, by simp, ?_⟩
  · intro x hx
    obtain ⟨b, _, rfl⟩ := List.mem_map.1 hx
    have := b.toNat_lt
    omega
  · apply Go.WideShapes.bytes_inj
    rw [strOfNums_data, List.map_map]
    have : (fun n : Int => UInt8.ofNat n.toNat) ∘ (fun b : UInt8 => (b.toNat : Int)) = id := by
      funext b; simp
    rw [this, List.map_id]
theorem txt_join (xs ys : List Int) : strOfNums xs ++ strOfNums ys = strOfNums (xs ++ ys) := by
  apply Go.WideShapes.bytes_inj
  simp [strOfNums]
theorem dg_all {es : List Int} (h : ∀ j, j < es.length → Nt.lb es j = 48) : es = List.replicate es.length 48 := by
  apply List.ext_getElem (by simp)
  intro i h1 h2
  rw [List.getElem_replicate, ← lb_get h1]
  exact h i h1
/-- the digits between the noughts at both ends -/
theorem dg_between {es : List Int} {f e : Nat} (he : e ≤ es.length) (hf : f ≤ e) (h0 : ∀ j, j < f → Nt.lb es j = 48) (h1 : ∀ j, e ≤ j → j < es.length → Nt.lb es j = 48) :
    dg es = dg ((es.take e).drop f) * tn (es.length - e) := by
  have a : es = es.take e ++ es.drop e := (List.take_append_drop e es).symm
  have b : es.take e = (es.take e).take f ++ (es.take e).drop f := (List.take_append_drop f _).symm
  have c : (es.take e).take f = List.replicate f 48 := by
    have := dg_all (es := (es.take e).take f) (fun j hj => by
      have hj' : j < f ∧ j < e := by rw [List.length_take, List.length_take] at hj; omega
      rw [lb_get hj, List.getElem_take, List.getElem_take, ← lb_get (by omega)]
      exact h0 j hj'.1)
    rw [this]; congr 1; rw [List.length_take, List.length_take]; omega
  have d : es.drop e = List.replicate (es.length - e) 48 := by
    have := dg_all (es := es.drop e) (fun j hj => by
      have hj' : e + j < es.length := by rw [List.length_drop] at hj; omega
      rw [lb_get hj, List.getElem_drop, ← lb_get (by omega)]
      exact h1 _ (by omega) hj')
    rw [this]; congr 1; rw [List.length_drop]
  have g1 : dg (es.take e) = dg ((es.take e).drop f) := by
    have k := congrArg dg b
    rw [dg_append, c, dg_noughts, Int.zero_mul, Int.zero_add] at k
    exact k
  have k := congrArg dg a
  rw [dg_append, g1, d, dg_noughts, List.length_replicate, Int.add_zero] at k
  exact k

end Go.Proofs.YtfnfnkakaggmbabGreatDoor
