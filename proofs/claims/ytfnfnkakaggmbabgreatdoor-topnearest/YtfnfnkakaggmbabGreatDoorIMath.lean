/- the nearest pattern, by whole numbers alone -/
import Derived.Test.YtfnfnkakaggmbabGreatDoorLen
namespace Go.Proofs.YtfnfnkakaggmbabGreatDoor
set_option linter.unusedVariables false

/-- the steps that a size counts, and the power of 2 that a step is -/
def mst (F s : Int) : Int := if s < F then s else s % F + F
def est (F L s : Int) : Int := if s < F then L else L - 1 + s / F
/-- N times 2 to the power of E, in steps of 2 to the power of B -/
def sc (N E B : Int) : Int := N * p2 (E - B).toNat
/-- the number of a size -/
def um (F L B s : Int) : Int := sc (mst F s) (est F L s) B
/-- r is the nearest pattern to N times 2 to the power of E -/
def Near (F L I N E r : Int) : Prop := 0 ≤ r ∧ r ≤ I ∧ ∀ B, B ≤ E → B ≤ L → 
  (r < I → 2 * sc N E B ≤ um F L B r + um F L B (r + 1) ∧ (2 * sc N E B = um F L B r + um F L B (r + 1) → r % 2 = 0)) ∧
  (0 < r → um F L B (r - 1) + um F L B r ≤ 2 * sc N E B ∧ (2 * sc N E B = um F L B (r - 1) + um F L B r → r % 2 = 0))

theorem p2_toNat_add {a b : Int} (ha : 0 ≤ a) (hb : 0 ≤ b) : p2 (a + b).toNat = p2 a.toNat * p2 b.toNat := by
  rw [← p2_add]; congr 1; omega
theorem sc_shift {N E B C : Int} (h : C ≤ B) (hE : B ≤ E) : sc N E C = sc N E B * p2 (B - C).toNat := by
  unfold sc
  rw [show E - C = (E - B) + (B - C) by omega, p2_toNat_add (by omega) (by omega), Int.mul_assoc]
theorem sc_up {N E B : Int} {k : Nat} (hE : B ≤ E) : sc N (E + k) B = sc (N * p2 k) E B := by
  unfold sc
  rw [show E + k - B = k + (E - B) by omega, p2_toNat_add (by omega) (by omega), Int.toNat_natCast, Int.mul_assoc]
theorem est_ge {F L s : Int} (hF : 0 < F) : L ≤ est F L s := by
  unfold est
  split
  · omega
  · have : 1 ≤ s / F := by rw [Int.le_ediv_iff_mul_le hF]; omega
    omega
/-- one step more -/
theorem um_succ {F L B s : Int} (hF : 0 < F) (h0 : 0 ≤ s) (hB : B ≤ L) : um F L B (s + 1) = um F L B s + p2 (est F L s - B).toNat := by
  unfold um sc
  by_cases a : s + 1 < F
  · have e1 : mst F (s + 1) = s + 1 := by unfold mst; rw [if_pos a]
    have e2 : mst F s = s := by unfold mst; rw [if_pos (by omega)]
    have e3 : est F L (s + 1) = L := by unfold est; rw [if_pos a]
    have e4 : est F L s = L := by unfold est; rw [if_pos (by omega)]
    rw [e1, e2, e3, e4, Int.add_mul, Int.one_mul]
  · by_cases b : s < F
    · have hs : s + 1 = F := by omega
      have e1 : mst F (s + 1) = s + 1 := by unfold mst; rw [if_neg a, hs, Int.emod_self]; omega
      have e2 : mst F s = s := by unfold mst; rw [if_pos b]
      have e3 : est F L (s + 1) = L := by unfold est; rw [if_neg a, hs, Int.ediv_self (by omega)]; omega
      have e4 : est F L s = L := by unfold est; rw [if_pos b]
      rw [e1, e2, e3, e4, Int.add_mul, Int.one_mul]
    · have e2 : mst F s = s % F + F := by unfold mst; rw [if_neg b]
      have e4 : est F L s = L - 1 + s / F := by unfold est; rw [if_neg b]
      have hd := Int.mul_ediv_add_emod s F
      have m0 := Int.emod_nonneg s (b := F) (by omega)
      have m1 := Int.emod_lt_of_pos s hF
      have hq1 : 1 ≤ s / F := by rw [Int.le_ediv_iff_mul_le hF]; omega
      by_cases c : s % F + 1 < F
      · have hq : (s + 1) / F = s / F := by
          rw [show s + 1 = (s % F + 1) + F * (s / F) by omega, Int.add_mul_ediv_left _ _ (by omega), Int.ediv_eq_zero_of_lt (by omega) c, Int.zero_add]
        have hr : (s + 1) % F = s % F + 1 := by
          rw [show s + 1 = (s % F + 1) + F * (s / F) by omega, Int.add_mul_emod_self_left, Int.emod_eq_of_lt (by omega) c]
        have e1 : mst F (s + 1) = s % F + 1 + F := by unfold mst; rw [if_neg a, hr]
        have e3 : est F L (s + 1) = L - 1 + s / F := by unfold est; rw [if_neg a, hq]
        rw [e1, e2, e3, e4, show s % F + 1 + F = (s % F + F) + 1 by omega, Int.add_mul, Int.one_mul]
      · have hr0 : s % F = F - 1 := by omega
        have hs1 : s + 1 = F * (s / F + 1) := by rw [Int.mul_add, Int.mul_one]; omega
        have hq : (s + 1) / F = s / F + 1 := by rw [hs1, Int.mul_ediv_cancel_left _ (by omega)]
        have hr : (s + 1) % F = 0 := by rw [hs1, Int.mul_emod_right]
        have e1 : mst F (s + 1) = F := by unfold mst; rw [if_neg a, hr]; omega
        have e3 : est F L (s + 1) = L - 1 + s / F + 1 := by unfold est; rw [if_neg a, hq]; omega
        rw [e1, e2, e3, e4, hr0, show L - 1 + s / F + 1 - B = 1 + (L - 1 + s / F - B) by omega, p2_toNat_add (by omega) (by omega), show p2 (1 : Int).toNat = 2 from rfl]
        generalize p2 (L - 1 + s / F - B).toNat = P
        rw [show F - 1 + F = 2 * F - 1 by omega, Int.sub_mul, Int.one_mul, ← Int.mul_assoc, Int.mul_comm F 2]
        omega
theorem um_lt {F L B s : Int} (hF : 0 < F) (h0 : 0 ≤ s) (hB : B ≤ L) : um F L B s < um F L B (s + 1) := by
  rw [um_succ hF h0 hB]
  have := p2_pos (est F L s - B).toNat
  omega
theorem um_mono {F L B s : Int} (hF : 0 < F) (h0 : 0 ≤ s) (hB : B ≤ L) (n : Nat) : um F L B s ≤ um F L B (s + n) := by
  induction n with
  | zero => simp
  | succ n ih =>
    have := um_lt (s := s + n) hF (by omega) hB
    rw [show s + ((n + 1 : Nat) : Int) = s + n + 1 by omega]
    omega
theorem um_le {F L B s t : Int} (hF : 0 < F) (h0 : 0 ≤ s) (hB : B ≤ L) (h : s ≤ t) : um F L B s ≤ um F L B t := by
  have := um_mono hF h0 hB (t - s).toNat
  rwa [show s + ((t - s).toNat : Int) = t by omega] at this
theorem um_lt' {F L B s t : Int} (hF : 0 < F) (h0 : 0 ≤ s) (hB : B ≤ L) (h : s < t) : um F L B s < um F L B t := by
  have h1 := um_lt (s := s) hF h0 hB
  have h2 := um_le (s := s + 1) (t := t) hF (by omega) hB (by omega)
  omega
/-- the nearest patterns of two numbers are in their order -/
theorem near_le {F L I N E N' E' r r' B : Int} (hF : 0 < F) (h : Near F L I N E r) (h' : Near F L I N' E' r') (hE : B ≤ E) (hE' : B ≤ E') (hB : B ≤ L) (hv : sc N E B ≤ sc N' E' B) : r ≤ r' := by
  rcases Int.lt_or_le r' r with c | c
  · exfalso
    obtain ⟨r0, r1, hn⟩ := h
    obtain ⟨q0, q1, hn'⟩ := h'
    obtain ⟨_, lo⟩ := hn B hE hB
    obtain ⟨hi, _⟩ := hn' B hE' hB
    obtain ⟨l1, l2⟩ := lo (by omega)
    obtain ⟨u1, u2⟩ := hi (by omega)
    have a1 := um_le (s := r') (t := r - 1) hF q0 hB (by omega)
    have a2 := um_le (s := r' + 1) (t := r) hF (by omega) hB (by omega)
    by_cases e : r' + 1 = r
    · have e1 : r - 1 = r' := by omega
      rw [e1, ← e] at l1 l2
      have p1 := l2 (by omega)
      have p2 := u2 (by omega)
      omega
    · have a3 := um_lt' (s := r') (t := r - 1) hF q0 hB (by omega)
      omega
  · exact c
theorem near_unique {F L I N E r r' : Int} (hF : 0 < F) (h : Near F L I N E r) (h' : Near F L I N E r') : r = r' := by
  have a := near_le (B := min E L) hF h h' (by omega) (by omega) (by omega) (Int.le_refl _)
  have b := near_le (B := min E L) hF h' h (by omega) (by omega) (by omega) (Int.le_refl _)
  omega
/-- q is the whole number next to V / 2T, of two the even one -/
def Half (q T V : Int) : Prop := 2 * q * T - T ≤ V ∧ V ≤ 2 * q * T + T ∧ (V = 2 * q * T - T → q % 2 = 0) ∧ (V = 2 * q * T + T → q % 2 = 0)
/-- the value of what pattern makes -/
theorem um_pattern {F L B q t : Int} (hF : 0 < F) (hB : B ≤ L) (ht : L ≤ t) (q0 : 0 ≤ q) (q1 : q ≤ 2 * F) (hq : t = L ∨ F ≤ q) : um F L B (q + (t - L) * F) = q * p2 (t - B).toNat := by
  by_cases a : q < F
  · obtain rfl : t = L := by omega
    rw [Int.sub_self, Int.zero_mul, Int.add_zero]
    unfold um sc mst est
    rw [if_pos a, if_pos a]
  · have hn : ¬ q + (t - L) * F < F := by
      have : 0 ≤ (t - L) * F := Int.mul_nonneg (by omega) (by omega)
      omega
    by_cases b : q = 2 * F
    · have hd : (q + (t - L) * F) = F * (t - L + 2) := by rw [b, Int.mul_add, Int.mul_comm F (t - L)]; omega
      have e1 : mst F (q + (t - L) * F) = F := by unfold mst; rw [if_neg hn, hd, Int.mul_emod_right]; omega
      have e2 : est F L (q + (t - L) * F) = t + 1 := by unfold est; rw [if_neg hn, hd, Int.mul_ediv_cancel_left _ (by omega)]; omega
      unfold um sc
      rw [e1, e2, b, show t + 1 - B = 1 + (t - B) by omega, p2_toNat_add (by omega) (by omega), show p2 (1 : Int).toNat = 2 from rfl, ← Int.mul_assoc, Int.mul_comm F 2]
    · have hd : (q + (t - L) * F) = (q - F) + F * (t - L + 1) := by rw [Int.mul_add, Int.mul_comm F (t - L)]; omega
      have e1 : mst F (q + (t - L) * F) = q := by unfold mst; rw [if_neg hn, hd, Int.add_mul_emod_self_left, Int.emod_eq_of_lt (by omega) (by omega)]; omega
      have e2 : est F L (q + (t - L) * F) = t := by unfold est; rw [if_neg hn, hd, Int.add_mul_ediv_left _ _ (by omega), Int.ediv_eq_zero_of_lt (by omega) (by omega)]; omega
      unfold um sc
      rw [e1, e2]
theorem est_pattern {F L q t : Int} (hF : 0 < F) (ht : L ≤ t) (q0 : 0 ≤ q) (q1 : q < 2 * F) (hq : t = L ∨ F ≤ q) : est F L (q + (t - L) * F) = t := by
  by_cases a : q < F
  · obtain rfl : t = L := by omega
    rw [Int.sub_self, Int.zero_mul, Int.add_zero]
    unfold est
    rw [if_pos a]
  · have hn : ¬ q + (t - L) * F < F := by
      have : 0 ≤ (t - L) * F := Int.mul_nonneg (by omega) (by omega)
      omega
    have hd : (q + (t - L) * F) = (q - F) + F * (t - L + 1) := by rw [Int.mul_add, Int.mul_comm F (t - L)]; omega
    unfold est
    rw [if_neg hn, hd, Int.add_mul_ediv_left _ _ (by omega), Int.ediv_eq_zero_of_lt (by omega) (by omega)]; omega
/-- what pattern makes of a rounded number of steps is the nearest -/
theorem near_pattern {F L I N E q t : Int} (hF : 0 < F) (hF2 : F % 2 = 0) (ht : L ≤ t) (q0 : 0 ≤ q) (q1 : q ≤ 2 * F) (hq : t = L ∨ F ≤ q) (hI : q + (t - L) * F ≤ I)
    (hh : ∀ B, B ≤ E → B ≤ L → Half q (p2 (t - B).toNat) (2 * sc N E B)) (hlow : L < t → ∀ B, B ≤ E → B ≤ L → 2 * F * p2 (t - B).toNat ≤ 2 * sc N E B) : Near F L I N E (q + (t - L) * F) := by
  have h0 : 0 ≤ (t - L) * F := Int.mul_nonneg (by omega) (by omega)
  have hpar : (q + (t - L) * F) % 2 = q % 2 := by
    have : ((t - L) * F) % 2 = 0 := by rw [Int.mul_emod, hF2, Int.mul_zero]; rfl
    omega
  refine ⟨by omega, hI, fun B hE hB => ?_⟩
  obtain ⟨h1, h2, h3, h4⟩ := hh B hE hB
  have hu := um_pattern (B := B) hF hB ht q0 q1 hq
  have hT := p2_pos (t - B).toNat
  have e2q : 2 * q * p2 (t - B).toNat = 2 * (q * p2 (t - B).toNat) := Int.mul_assoc _ _ _
  rw [hpar]
  refine ⟨fun _ => ?_, fun hr => ?_⟩
  · rw [um_succ hF (by omega) hB, hu]
    by_cases c : q < 2 * F
    · rw [est_pattern hF ht q0 c hq]
      refine ⟨by omega, fun e => h4 (by omega)⟩
    · have e : q = 2 * F := by omega
      have hd : (q + (t - L) * F) = F * (t - L + 2) := by rw [e, Int.mul_add, Int.mul_comm F (t - L)]; omega
      have hest : est F L (q + (t - L) * F) = t + 1 := by
        unfold est
        rw [if_neg (by omega), hd, Int.mul_ediv_cancel_left _ (by omega)]; omega
      rw [hest, show t + 1 - B = 1 + (t - B) by omega, p2_toNat_add (by omega) (by omega), show p2 (1 : Int).toNat = 2 from rfl]
      refine ⟨by omega, fun e => by omega⟩
  · have hs := um_succ (s := q + (t - L) * F - 1) hF (by omega) hB
    rw [Int.sub_add_cancel, hu] at hs
    by_cases c : t = L ∨ F < q
    · have hest : est F L (q + (t - L) * F - 1) = t := by
        rw [show q + (t - L) * F - 1 = (q - 1) + (t - L) * F by omega]
        rcases Int.lt_or_le (q - 1) 0 with d | d
        · have : q = 0 := by omega
          have ht' : t = L := by omega
          subst ht'
          rw [Int.sub_self, Int.zero_mul] at hr
          omega
        · exact est_pattern hF ht d (by omega) (by omega)
      rw [hest] at hs
      rw [hu]
      refine ⟨by omega, fun e => h3 (by omega)⟩
    · have e : q = F := by omega
      have hl := hlow (by omega) B hE hB
      have hp := p2_pos (est F L (q + (t - L) * F - 1) - B).toNat
      have e3 : 2 * F * p2 (t - B).toNat = 2 * (q * p2 (t - B).toNat) := by rw [e, Int.mul_assoc]
      rw [hu]
      refine ⟨by omega, fun e => by omega⟩
/-- digits far behind say no more than that something is there -/
theorem half_sticky {q T Z a b top k : Int} (hZ : 0 < Z) (hT : T = k * Z) (a0 : 0 ≤ a) (a1 : a < Z) (b0 : 0 ≤ b) (b1 : b < Z) (hab : a = 0 ↔ b = 0) (h : Half q T (top * Z + b)) : Half q T (top * Z + a) := by
  obtain ⟨h1, h2, h3, h4⟩ := h
  subst hT
  have e1 : 2 * q * (k * Z) - k * Z = (2 * q * k - k) * Z := by rw [Int.sub_mul, Int.mul_assoc (2 * q) k Z]
  have e2 : 2 * q * (k * Z) + k * Z = (2 * q * k + k) * Z := by rw [Int.add_mul, Int.mul_assoc (2 * q) k Z]
  unfold Half
  rw [e1] at h1 h3 ⊢
  rw [e2] at h2 h4 ⊢
  generalize 2 * q * k - k = u at *
  generalize 2 * q * k + k = v at *
  have low : ∀ c, 0 ≤ c → c < Z → (u * Z ≤ top * Z + c ↔ u ≤ top) := by
    intro c c0 c1
    constructor
    · intro h
      rcases Int.lt_or_le top u with d | d
      · have : (top + 1) * Z ≤ u * Z := Int.mul_le_mul_of_nonneg_right (by omega) (by omega)
        rw [Int.add_mul, Int.one_mul] at this
        omega
      · exact d
    · intro h
      have : u * Z ≤ top * Z := Int.mul_le_mul_of_nonneg_right h (by omega)
      omega
  have eq : ∀ c x, 0 ≤ c → c < Z → (top * Z + c = x * Z ↔ top = x ∧ c = 0) := by
    intro c x c0 c1
    constructor
    · intro h
      rcases Int.lt_trichotomy top x with d | d | d
      · have : (top + 1) * Z ≤ x * Z := Int.mul_le_mul_of_nonneg_right (by omega) (by omega)
        rw [Int.add_mul, Int.one_mul] at this
        omega
      · subst d; exact ⟨rfl, by omega⟩
      · have : (x + 1) * Z ≤ top * Z := Int.mul_le_mul_of_nonneg_right (by omega) (by omega)
        rw [Int.add_mul, Int.one_mul] at this
        omega
    · rintro ⟨rfl, rfl⟩; omega
  have up : ∀ c, 0 ≤ c → c < Z → (top * Z + c ≤ v * Z ↔ (top < v ∨ (top = v ∧ c = 0))) := by
    intro c c0 c1
    constructor
    · intro h
      rcases Int.lt_trichotomy top v with d | d | d
      · exact Or.inl d
      · subst d; exact Or.inr ⟨rfl, by omega⟩
      · have : (v + 1) * Z ≤ top * Z := Int.mul_le_mul_of_nonneg_right (by omega) (by omega)
        rw [Int.add_mul, Int.one_mul] at this
        omega
    · rintro (d | ⟨rfl, rfl⟩)
      · have : (top + 1) * Z ≤ v * Z := Int.mul_le_mul_of_nonneg_right (by omega) (by omega)
        rw [Int.add_mul, Int.one_mul] at this
        omega
      · omega
  rw [low b b0 b1] at h1
  rw [up b b0 b1] at h2
  rw [eq b u b0 b1] at h3
  rw [eq b v b0 b1] at h4
  rw [low a a0 a1, up a a0 a1, eq a u a0 a1, eq a v a0 a1, hab]
  exact ⟨h1, h2, h3, h4⟩

end Go.Proofs.YtfnfnkakaggmbabGreatDoor
