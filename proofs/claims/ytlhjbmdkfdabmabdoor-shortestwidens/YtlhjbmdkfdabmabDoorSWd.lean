/- SWidM, SWid -/
import Derived.Test.YtlhjbmdkfdabmabDoorSB
import Derived.Test.YtlhjbmdkfdabmabDoorWC
import Derived.Test.YtlhjbmdkfdabmabDoorSDw
import Derived.Test.YtlhjbmdkfdabmabDoorRT4
namespace Go.Proofs.YtlhjbmdkfdabmabDoor
set_option linter.unusedVariables false

theorem um_top {F L I lim B : Int} {fr : Nat} (hfr : F = p2 fr) (hI : I = (lim + 1 - fr - L) * F) (hlim : L ≤ lim - 1 - fr) (hBL : B ≤ L) : um F L B I = p2 (lim - B).toNat := by
  have hF0 : 0 < F := by rw [hfr]; exact p2_pos fr
  have hI0 : 2 * F ≤ I := by
    have h1 : 2 * F ≤ (lim + 1 - fr - L) * F := Int.mul_le_mul_of_nonneg_right (by omega) (by omega)
    omega
  have hIq : I = F * (lim + 1 - fr - L) := by rw [hI, Int.mul_comm]
  unfold um sc mst est
  rw [if_neg (by omega), if_neg (by omega), hIq, Int.mul_emod_right, Int.mul_ediv_cancel_left _ (by omega), Int.zero_add, hfr, show L - 1 + (lim + 1 - fr - L) - B = lim - fr - B by omega, show p2 fr = p2 ((fr : Int)).toNat by rw [Int.toNat_natCast], ← p2_toNat_add (by omega) (by omega)]
  congr 2
  omega
theorem has_len : ∀ (m : Nat) (x : Int), 0 ≤ x → x < p2 m → ∃ k, IsLen x k ∧ k ≤ m := by
  intro m
  induction m with
  | zero => intro x h0 h1; exact ⟨0, ⟨h1, fun h => by omega⟩, Nat.le_refl _⟩
  | succ m ih =>
    intro x h0 h1
    rcases Int.lt_or_le x (p2 m) with c | c
    · obtain ⟨k, h, hk⟩ := ih x h0 c
      exact ⟨k, h, by omega⟩
    · exact ⟨m + 1, ⟨h1, fun _ => by rwa [Nat.add_sub_cancel]⟩, Nat.le_refl _⟩
/-- a narrower width's number is one of the wider -/
theorem embed {P Lp Ip limp Q Lq Iq limq s : Int} {frp frq : Nat} (hp : P = p2 frp) (hq : Q = p2 frq) (hpq : frp ≤ frq) (hL : Lq ≤ Lp) (hlim : limp ≤ limq) (hIp : Ip = (limp + 1 - frp - Lp) * P) (hIq : Iq = (limq + 1 - frq - Lq) * Q) (h1 : Lp ≤ limp - 1 - frp) (h2 : Lq ≤ limq - 1 - frq) (s0 : 0 ≤ s) (s1 : s < Ip) :
    ∃ q, 0 ≤ q ∧ q < Iq ∧ ∀ B, B ≤ Lq → um Q Lq B q = um P Lp B s := by
  have hP0 : 0 < P := by rw [hp]; exact p2_pos frp
  have hQ0 : 0 < Q := by rw [hq]; exact p2_pos frq
  rcases Int.lt_or_eq_of_le s0 with sp | sp
  rotate_left
  · have hI0 : 0 < Iq := by rw [hIq]; exact Int.mul_pos (by omega) hQ0
    refine ⟨0, Int.le_refl _, hI0, fun B hB => ?_⟩
    rw [← sp]
    unfold um sc mst
    rw [if_pos hQ0, if_pos hP0, Int.zero_mul, Int.zero_mul]
  have hm1 : mst P s < 2 * P := by
    unfold mst
    split
    · omega
    · have := Int.emod_lt_of_pos s hP0; omega
  have hmp : 0 < mst P s := by
    unfold mst
    split
    · omega
    · have := Int.emod_nonneg s (b := P) (by omega); omega
  have hm0 : 0 ≤ mst P s := by
    unfold mst
    split
    · omega
    · have := Int.emod_nonneg s (b := P) (by omega); omega
  have he := est_ge (L := Lp) (s := s) hP0
  obtain ⟨ln, hln, hln2⟩ := has_len (frp + 1) (mst P s) hm0 (by rw [p2, ← hp]; exact hm1)
  obtain ⟨t, ht⟩ : ∃ t, t = max (est P Lp s + ln - 1 - frq) Lq := ⟨_, rfl⟩
  have ht1 : t ≤ est P Lp s := by omega
  have ht2 : Lq ≤ t := by omega
  have hpt := p2_pos (est P Lp s - t).toNat
  have hq0 : 0 ≤ mst P s * p2 (est P Lp s - t).toNat := Int.mul_nonneg hm0 (by omega)
  have hq1 : mst P s * p2 (est P Lp s - t).toNat < 2 * Q := by
    have a1 : mst P s * p2 (est P Lp s - t).toNat < p2 ln * p2 (est P Lp s - t).toNat := Int.mul_lt_mul_of_pos_right hln.1 hpt
    rw [← p2_add] at a1
    have a2 := p2_mono (m := ln + (est P Lp s - t).toNat) (n := frq + 1) (by omega)
    rw [p2, ← hq] at a2
    omega
  have hq2 : t = Lq ∨ Q ≤ mst P s * p2 (est P Lp s - t).toNat := by
    rcases Int.lt_or_eq_of_le ht2 with c | c
    · right
      rcases Nat.eq_zero_or_pos ln with z | z
      · exfalso
        have h9 := hln.1
        rw [z] at h9
        simp only [p2] at h9
        omega
      · have a1 : p2 (ln - 1) * p2 (est P Lp s - t).toNat ≤ mst P s * p2 (est P Lp s - t).toNat := Int.mul_le_mul_of_nonneg_right (hln.2 z) (by omega)
        rw [← p2_add, show ln - 1 + (est P Lp s - t).toNat = frq by omega, ← hq] at a1
        exact a1
    · left; exact c.symm
  have hum : ∀ B, B ≤ Lq → um Q Lq B (mst P s * p2 (est P Lp s - t).toNat + (t - Lq) * Q) = um P Lp B s := by
    intro B hB
    rw [um_pattern hQ0 hB ht2 hq0 (by omega) hq2]
    unfold um sc
    rw [Int.mul_assoc, ← p2_toNat_add (by omega) (by omega), show est P Lp s - t + (t - B) = est P Lp s - B by omega]
  have hn0 : 0 ≤ (t - Lq) * Q := Int.mul_nonneg (by omega) (by omega)
  refine ⟨_, by omega, ?_, hum⟩
  rcases Int.lt_or_le (mst P s * p2 (est P Lp s - t).toNat + (t - Lq) * Q) Iq with c | c
  · exact c
  · exfalso
    have a1 := um_le (F := Q) (L := Lq) (B := Lq) (s := Iq) (t := mst P s * p2 (est P Lp s - t).toNat + (t - Lq) * Q) hQ0 (by
      rw [hIq]; exact Int.mul_nonneg (by omega) (by omega)) (Int.le_refl _) c
    rw [hum Lq (Int.le_refl _), um_top hq hIq h2 (Int.le_refl _)] at a1
    have a2 := um_lt' (F := P) (L := Lp) (B := Lq) (s := s) (t := Ip) hP0 s0 hL s1
    rw [um_top hp hIp h1 hL] at a2
    have a3 := p2_mono (m := (limp - Lq).toNat) (n := (limq - Lq).toNat) (by omega)
    omega
/-- the number that parts tell -/
theorem part_um {F L I s m E : Int} {ng a ok : Bool} (hF : 0 < F) (hL : L ≤ 0) (s0 : 0 ≤ s) (s1 : s < I) (h : PartIs F L I s ng a m E ok) : L ≤ E ∧ ∀ B, B ≤ L → sc m E B = um F L B s := by
  obtain ⟨_, _, p, q⟩ := h.2 s1
  rcases Int.lt_or_eq_of_le s0 with c | c
  · obtain ⟨o, n, n64, hm, hE⟩ := q c
    have e0 := est_ge (L := L) (s := s) hF
    refine ⟨by omega, fun B hB => ?_⟩
    unfold um
    rw [hE, sc_up (by omega), ← hm]
  · obtain ⟨rfl, rfl⟩ := p c.symm
    refine ⟨hL, fun B hB => ?_⟩
    rw [← c]
    unfold um sc mst
    rw [if_pos hF, Int.zero_mul, Int.zero_mul]
/-- unlike parts, unlike numbers -/
theorem part_eq {F L I s F' L' I' s' m E m' E' B : Int} {ng a ok ng' a' ok' : Bool} (hF : 0 < F) (hF' : 0 < F') (hL : L ≤ 0) (hL' : L' ≤ 0) (s0 : 0 ≤ s) (s1 : s < I) (s0' : 0 ≤ s') (s1' : s' < I') (h : PartIs F L I s ng a m E ok) (h' : PartIs F' L' I' s' ng' a' m' E' ok') (hB : B ≤ L) (hB' : B ≤ L') (he : um F L B s = um F' L' B s') : m = m' ∧ E = E' := by
  obtain ⟨e1, u1⟩ := part_um hF hL s0 s1 h
  obtain ⟨e2, u2⟩ := part_um hF' hL' s0' s1' h'
  have he2 : m * p2 (E - B).toNat = m' * p2 (E' - B).toNat := by
    have := (u1 B hB).trans (he.trans (u2 B hB').symm)
    exact this
  obtain ⟨_, _, p, q⟩ := h.2 s1
  obtain ⟨_, _, p', q'⟩ := h'.2 s1'
  have k1 := p2_pos (E - B).toNat
  have k2 := p2_pos (E' - B).toNat
  rcases Int.lt_or_eq_of_le s0 with c | c
  · obtain ⟨o, -⟩ := q c
    rcases Int.lt_or_eq_of_le s0' with c' | c'
    · obtain ⟨o', -⟩ := q' c'
      obtain ⟨r1, r2⟩ := odd_unique o o' he2
      exact ⟨r1, by omega⟩
    · obtain ⟨rfl, rfl⟩ := p' c'.symm
      rw [Int.zero_mul] at he2
      rcases Int.mul_eq_zero.1 he2 with z | z
      · omega
      · omega
  · obtain ⟨rfl, rfl⟩ := p c.symm
    rcases Int.lt_or_eq_of_le s0' with c' | c'
    · obtain ⟨o', -⟩ := q' c'
      rw [Int.zero_mul] at he2
      rcases Int.mul_eq_zero.1 he2.symm with z | z
      · omega
      · omega
    · obtain ⟨rfl, rfl⟩ := p' c'.symm
      exact ⟨rfl, rfl⟩
/-- the nearest pattern to a pattern's number is that pattern -/
theorem near_self {F L I s m E r : Int} {ng a ok : Bool} (hF : 0 < F) (hL : L ≤ 0) (s0 : 0 ≤ s) (s1 : s < I) (h : PartIs F L I s ng a m E ok) (hN : Near F L I (2 * m + 0) (E - 1) r) : r = s := by
  obtain ⟨e1, u1⟩ := part_um hF hL s0 s1 h
  refine near_unique hF hN ?_
  refine ⟨s0, by omega, fun B hE hB => ?_⟩
  have hv : sc (2 * m + 0) (E - 1) B = um F L B s := by
    rw [Int.add_zero, ← u1 B hB]
    have e2 := sc_up (N := m) (E := E - 1) (B := B) (k := 1) hE
    rw [show E - 1 + ((1 : Nat) : Int) = E by omega, show m * p2 1 = 2 * m by rw [show p2 1 = 2 from rfl]; omega] at e2
    exact e2.symm
  rw [hv]
  refine ⟨fun _ => ?_, fun hr => ?_⟩
  · have := um_lt (F := F) (L := L) (B := B) (s := s) hF s0 hB
    exact ⟨by omega, fun e => by omega⟩
  · have := um_lt (F := F) (L := L) (B := B) (s := s - 1) hF (by omega) hB
    rw [Int.sub_add_cancel] at this
    exact ⟨by omega, fun e => by omega⟩
/-- the nearest pattern to a number that another width's pattern is, where this width has it -/
theorem near_there {F L I F' L' I' s q m E r : Int} {ng a ok : Bool} (hF : 0 < F) (hF' : 0 < F') (hL : L ≤ 0) (hL' : L' ≤ 0) (s0 : 0 ≤ s) (s1 : s < I) (h : PartIs F L I s ng a m E ok) (q0 : 0 ≤ q) (q1 : q ≤ I') (hu : ∀ B, B ≤ L → B ≤ L' → um F' L' B q = um F L B s) (hN : Near F' L' I' (2 * m + 0) (E - 1) r) : r = q := by
  obtain ⟨e1, u1⟩ := part_um hF hL s0 s1 h
  have hB1 : min (E - 1) (min L L') ≤ E - 1 := by omega
  have hB2 : min (E - 1) (min L L') ≤ L := by omega
  have hB3 : min (E - 1) (min L L') ≤ L' := by omega
  generalize min (E - 1) (min L L') = B at hB1 hB2 hB3
  have hv : sc (2 * m + 0) (E - 1) B = um F' L' B q := by
    rw [hu B hB2 hB3, Int.add_zero, ← u1 B hB2]
    have e2 := sc_up (N := m) (E := E - 1) (B := B) (k := 1) hB1
    rw [show E - 1 + ((1 : Nat) : Int) = E by omega, show m * p2 1 = 2 * m by rw [show p2 1 = 2 from rfl]; omega] at e2
    exact e2.symm
  obtain ⟨r0, r1, hn⟩ := hN
  obtain ⟨hi, lo⟩ := hn B hB1 hB3
  rw [hv] at hi lo
  rcases Int.lt_trichotomy r q with c | c | c
  · exfalso
    obtain ⟨g, _⟩ := hi (by omega)
    have a1 := um_le (F := F') (L := L') (B := B) (s := r + 1) (t := q) hF' (by omega) hB3 (by omega)
    have a2 := um_lt (F := F') (L := L') (B := B) (s := r) hF' r0 hB3
    omega
  · exact c
  · exfalso
    obtain ⟨g, _⟩ := lo (by omega)
    have a1 := um_le (F := F') (L := L') (B := B) (s := q) (t := r - 1) hF' q0 hB3 (by omega)
    have a2 := um_lt (F := F') (L := L') (B := B) (s := r - 1) hF' (by omega) hB3
    rw [Int.sub_add_cancel] at a2
    omega

/-- the number of a pattern is read as the pattern -/
theorem near_val {F L I N E q : Int} (hF : 0 < F) (q0 : 0 ≤ q) (q1 : q ≤ I) (h : ∀ B, B ≤ E → B ≤ L → sc N E B = um F L B q) : Near F L I N E q := by
  refine ⟨q0, q1, fun B hE hB => ?_⟩
  rw [h B hE hB]
  have a := um_lt (L := L) (B := B) (s := q) hF q0 hB
  refine ⟨fun _ => ⟨by omega, fun e => by omega⟩, fun g => ?_⟩
  have b := um_lt (L := L) (B := B) (s := q - 1) hF (by omega) hB
  rw [show q - 1 + 1 = q by omega] at b
  exact ⟨by omega, fun e => by omega⟩
/-- of one number in two widths: the wider one's step is less than a quarter -/
theorem est_wide {F L F' L' s s' : Int} (hF : 0 < F) (hF' : 0 < F') (h8 : 8 * F ≤ F') (hL : L' + 2 ≤ L) (s0 : 0 < s) (s0' : 0 < s') (hu : um F' L' L' s' = um F L L' s) : est F' L' s' + 2 ≤ est F L s := by
  have m := (mst_lt (F := F) (s := s) hF (by omega)).2
  have l1 := est_ge (F := F) (L := L) (s := s) hF
  have l2 := est_ge (F := F') (L := L') (s := s') hF'
  rcases Int.lt_or_le (est F' L' s') (est F L s - 1) with c | c
  · omega
  · exfalso
    have big : F' ≤ mst F' s' := by
      unfold mst
      split
      · rename_i g
        have : est F' L' s' = L' := by unfold est; rw [if_pos g]
        omega
      · have := Int.emod_nonneg s' (b := F') (by omega)
        omega
    unfold um sc at hu
    have pe := p2_pos (est F L s - L').toNat
    have e1 : p2 (est F L s - L').toNat ≤ 2 * p2 (est F' L' s' - L').toNat := by
      have : p2 (est F L s - L').toNat ≤ p2 ((est F' L' s' - L').toNat + 1) := p2_mono (by omega)
      rw [p2] at this
      exact this
    have a1 : F' * p2 (est F' L' s' - L').toNat ≤ mst F' s' * p2 (est F' L' s' - L').toNat := Int.mul_le_mul_of_nonneg_right big (Int.le_of_lt (p2_pos _))
    have a2 : mst F s * p2 (est F L s - L').toNat < 2 * F * p2 (est F L s - L').toNat := Int.mul_lt_mul_of_pos_right m pe
    have a3 : 2 * F * p2 (est F L s - L').toNat ≤ 2 * F * (2 * p2 (est F' L' s' - L').toNat) := Int.mul_le_mul_of_nonneg_left e1 (by omega)
    have a4 : 8 * F * p2 (est F' L' s' - L').toNat ≤ F' * p2 (est F' L' s' - L').toNat := Int.mul_le_mul_of_nonneg_right h8 (Int.le_of_lt (p2_pos _))
    have p0 := p2_pos (est F' L' s' - L').toNat
    generalize p2 (est F' L' s' - L').toNat = y at *
    have a5 : 2 * F * (2 * y) = 4 * (F * y) := by rw [Int.mul_assoc, Int.mul_left_comm F 2 y]; omega
    have a6 : 8 * F * y = 8 * (F * y) := by rw [Int.mul_assoc]
    have : 0 < F * y := Int.mul_pos hF p0
    omega
theorem v_wide {F L F' L' s s' : Int} (hF : 0 < F) (hF' : 0 < F') (h8 : 8 * F ≤ F') (hL : L' + 2 ≤ L) (s0 : 0 < s) (s0' : 0 < s') (hu : um F' L' L' s' = um F L L' s) :
    vV F' L' s' = vV F L s * p2 (L - L').toNat ∧ vLo F L s * p2 (L - L').toNat < vLo F' L' s' ∧ vHi F' L' s' < vHi F L s * p2 (L - L').toNat := by
  have ew := est_wide hF hF' h8 hL s0 s0' hu
  have l1 := est_ge (F := F) (L := L) (s := s) hF
  have l1' := est_ge (F := F) (L := L) (s := s - 1) hF
  have l2 := est_ge (F := F') (L := L') (s := s') hF'
  have l2' := est_ge (F := F') (L := L') (s := s' - 1) hF'
  have b : ∀ t, um F L L' t = um F L L t * p2 (L - L').toNat := fun t => um_base_shift hF (by omega)
  have n1 := um_succ (F := F) (L := L) (B := L') (s := s) hF (by omega) (by omega)
  have n2 := um_succ (F := F) (L := L) (B := L') (s := s - 1) hF (by omega) (by omega)
  have w1 := um_succ (F := F') (L := L') (B := L') (s := s') hF' (by omega) (by omega)
  have w2 := um_succ (F := F') (L := L') (B := L') (s := s' - 1) hF' (by omega) (by omega)
  rw [show s - 1 + 1 = s by omega] at n2
  rw [show s' - 1 + 1 = s' by omega] at w2
  have lo1 : est F L s - 1 ≤ est F L (s - 1) := by rcases est_pred (L := L) hF s0 with g | ⟨g, _⟩ <;> omega
  have lo2 : est F' L' (s' - 1) ≤ est F' L' s' := by rcases est_pred (L := L') hF' s0' with g | ⟨g, _⟩ <;> omega
  have c1 : p2 (est F' L' s' - L').toNat < p2 (est F L s - L').toNat := by
    have : p2 ((est F' L' s' - L').toNat + 1) ≤ p2 (est F L s - L').toNat := p2_mono (by omega)
    rw [p2] at this
    have := p2_pos (est F' L' s' - L').toNat
    omega
  have c2 : p2 (est F' L' (s' - 1) - L').toNat < p2 (est F L (s - 1) - L').toNat := by
    have : p2 ((est F' L' (s' - 1) - L').toNat + 1) ≤ p2 (est F L (s - 1) - L').toNat := p2_mono (by omega)
    rw [p2] at this
    have := p2_pos (est F' L' (s' - 1) - L').toNat
    omega
  have E0 := E5_pos
  unfold vV vLo vHi
  rw [show 2 * um F L L s * E5 * p2 (L - L').toNat = 2 * um F L L' s * E5 by rw [b]; generalize E5 = E; ac_rfl,
    show (um F L L (s - 1) + um F L L s) * E5 * p2 (L - L').toNat = (um F L L' (s - 1) + um F L L' s) * E5 by rw [b, b, ← Int.add_mul]; generalize E5 = E; ac_rfl,
    show (um F L L s + um F L L (s + 1)) * E5 * p2 (L - L').toNat = (um F L L' s + um F L L' (s + 1)) * E5 by rw [b, b, ← Int.add_mul]; generalize E5 = E; ac_rfl, hu]
  refine ⟨rfl, Int.mul_lt_mul_of_pos_right (by omega) E0, Int.mul_lt_mul_of_pos_right (by omega) E0⟩
theorem tt_wide {L L' : Int} (hL : L' ≤ L) (hL1 : L ≤ 1) (q : Int) : TT (gG L') q = TT (gG L) q * p2 (L - L').toNat := by
  unfold TT gG
  rw [Int.mul_assoc, ← p2_add]
  congr 2
  omega
/-- a wider width has at least as many digits -/
theorem widen {F L F' L' s s' p p' c c' : Int} {k k' : Nat} (hF : 0 < F) (hF' : 0 < F') (h8 : 8 * F ≤ F') (hL : L' + 2 ≤ L) (hL1 : L ≤ 1) (s0 : 0 < s) (s0' : 0 < s') (hu : um F' L' L' s' = um F L L' s) (h : ShP F L s p k c) (h' : ShP F' L' s' p' k' c') : k ≤ k' := by
  obtain ⟨v1, v2, v3⟩ := v_wide hF hF' h8 hL s0 s0' hu
  have hD := p2_pos (L - L').toNat
  have lo := h'.lo
  have hi := h'.hi
  rw [tt_wide (L := L) (by omega) hL1, v1] at lo hi
  have lo2 : TT (gG L) (p' - 1) ≤ vV F L s := Int.le_of_mul_le_mul_right lo hD
  have hi2 : vV F L s < TT (gG L) p' := Int.lt_of_mul_lt_mul_right hi (Int.le_of_lt hD)
  have pp : p = p' := by
    have a := TT_lt (gG_pos L) (Int.lt_of_le_of_lt h.lo hi2)
    have b := TT_lt (gG_pos L) (Int.lt_of_le_of_lt lo2 h.hi)
    omega
  subst pp
  rcases Nat.lt_or_ge k' k with g | g
  · exfalso
    obtain ⟨o1, o2⟩ := h.out k' h'.k1 g
    have t0 := TT_pos (gG_pos L) (p - k')
    have pk := h'.pick
    rw [tt_wide (L := L) (by omega) hL1, v1] at pk
    have eq : vV F L s * p2 (L - L').toNat / (TT (gG L) (p - k') * p2 (L - L').toNat) = vV F L s / TT (gG L) (p - k') := Int.mul_ediv_mul_of_pos_left _ _ hD
    unfold Pick at pk
    rw [eq] at pk
    have key : ∀ x, Inn (vLo F' L' s') (vHi F' L' s') (s' % 2 = 0) (x * (TT (gG L) (p - k') * p2 (L - L').toNat)) → Inn (vLo F L s) (vHi F L s) (s % 2 = 0) (x * TT (gG L) (p - k')) := by
      intro x hx
      rw [← Int.mul_assoc] at hx
      left
      have a : vLo F L s * p2 (L - L').toNat < x * TT (gG L) (p - k') * p2 (L - L').toNat := by
        rcases hx with ⟨h1, _⟩ | ⟨_, h1 | h1⟩
        · omega
        · omega
        · have := vLo_lt (L := L') hF' s0'; have := vHi_gt (L := L') (s := s') hF' (by omega); omega
      have b : x * TT (gG L) (p - k') * p2 (L - L').toNat < vHi F L s * p2 (L - L').toNat := by
        rcases hx with ⟨_, h1⟩ | ⟨_, h1 | h1⟩
        · omega
        · have := vLo_lt (L := L') hF' s0'; have := vHi_gt (L := L') (s := s') hF' (by omega); omega
        · omega
      exact ⟨Int.lt_of_mul_lt_mul_right a (Int.le_of_lt hD), Int.lt_of_mul_lt_mul_right b (Int.le_of_lt hD)⟩
    rcases pk with ⟨_, h1, _⟩ | ⟨_, h1, _⟩
    · exact o1 (key _ h1)
    · exact o2 (key _ h1)
  · exact g

end Go.Proofs.YtlhjbmdkfdabmabDoor

namespace Go.Proofs.YtlhjbmdkfdabmabDoor
open Go.RowKit
set_option linter.unusedVariables false

theorem to_wide {Sb Fb Lb Ib limb Fa La Ia lima s y : Int} {fra frb : Nat} {ng ok : Bool} (ha : Fa = p2 fra) (hb : Fb = p2 frb) (hab : fra ≤ frb) (hL : Lb ≤ La) (hlim : lima ≤ limb) (hIa : Ia = (lima + 1 - fra - La) * Fa) (hIb : Ib = (limb + 1 - frb - Lb) * Fb) (h1 : La ≤ lima - 1 - fra) (h2 : Lb ≤ limb - 1 - frb) (La0 : La ≤ 0) (Lb0 : Lb ≤ 0)
    (s0 : 0 ≤ s) (s1 : s < Ia) (h : ToR Sb Fb Lb Ib Fa La Ia s ng y ok) : ok = true ∧ ∃ r, 0 ≤ r ∧ r < Ib ∧ y = r + b2i ng * Sb ∧ um Fb Lb Lb r = um Fa La Lb s := by
  have hFa : 0 < Fa := by rw [ha]; exact p2_pos fra
  have hFb : 0 < Fb := by rw [hb]; exact p2_pos frb
  rcases h with ⟨a, -, -⟩ | ⟨a, -, -⟩ | ⟨a, m, E, r, p, n, f, k, g1, g2, rfl, g4, rfl⟩
  · omega
  · omega
  · obtain ⟨q, q0, q1, hu⟩ := embed ha hb hab hL hlim hIa hIb h1 h2 s0 a
    obtain ⟨le, pu⟩ := part_um hFa La0 s0 a g1
    have hrq : q = r := g2 q (near_val hFb q0 (by omega) (fun B hE hB => by
      have e : (2 * m + b2i false) = 2 * m := by simp [b2i]
      rw [e, ← sc_twice hE, pu B (by omega), hu B hB]))
    subst hrq
    have hk : k = true := (g4.2 q1).1
    obtain ⟨e1, e2⟩ := part_eq (B := Lb) hFb hFa Lb0 La0 q0 q1 s0 a g4 g1 (Int.le_refl _) hL (hu Lb (Int.le_refl _))
    subst e1 e2 hk
    exact ⟨by simp, q, q0, q1, rfl, hu Lb (Int.le_refl _)⟩
theorem txt_len {F L s p c : Int} {k : Nat} (hF : 0 < F) (h0 : 0 < s) (hL : -1074 ≤ L) (h : ShP F L s p k c) (h17 : k ≤ 17) : (strOfNums (txt k c)).size = k := by
  have hp := point_low hF h0 hL h.hi
  rw [strOfNums_size]
  unfold txt
  rcases h.cases (gG_pos L) (by omega) with ⟨e, rfl, _⟩ | ⟨e, _⟩
  · rw [if_pos e]; rfl
  · rw [if_neg e, dl_len]
theorem um_nought {F L B s : Int} (hF : 0 < F) (h0 : 0 ≤ s) (h : um F L B s = 0) : s = 0 := by
  rcases Int.lt_or_le 0 s with c | c
  · exfalso
    unfold um sc at h
    have a := mst_pos hF c
    have := Int.mul_pos a (p2_pos (est F L s - B).toNat)
    omega
  · omega
theorem um_of_nought {F L B : Int} (hF : 0 < F) : um F L B 0 = 0 := by unfold um sc mst; rw [if_pos hF, Int.zero_mul]
theorem wid_val {Fa La Ia Fb Lb Ib s r qa qb : Int} {ng a b oka okb : Bool} {ta tb : ByteArray} (hF : 0 < Fa) (hF' : 0 < Fb) (h8 : 8 * Fa ≤ Fb) (hL : Lb + 2 ≤ La) (hL1 : La ≤ 1) (hL2 : -1074 ≤ Lb) (s0 : 0 ≤ s) (s1 : s < Ia) (r0 : 0 ≤ r) (r1 : r < Ib) (hu : um Fb Lb Lb r = um Fa La Lb s)
    (ha : Dg Fa La Ia s ng (.agg #[.bool a, .string ta, .int .i64 qa]) oka) (hb : Dg Fb Lb Ib r ng (.agg #[.bool b, .string tb, .int .i64 qb]) okb) : okb = true ∧ a = b ∧ (ta.size : Int) ≤ (tb.size : Int) := by
  by_cases z : s = 0
  · have rz : r = 0 := um_nought hF' r0 (by rw [hu, z]; exact um_of_nought hF)
    obtain ⟨e1, e2⟩ := ha.2.1 z
    obtain ⟨f1, f2⟩ := hb.2.1 rz
    injection e1 with e1
    injection f1 with f1
    simp at e1 f1
    obtain ⟨rfl, rfl, rfl⟩ := e1
    obtain ⟨rfl, rfl, rfl⟩ := f1
    exact ⟨f2, rfl, by omega⟩
  · have rp : 0 < r := by
      rcases Int.lt_or_le 0 r with c | c
      · exact c
      · exfalso
        have : r = 0 := by omega
        rw [this, um_of_nought hF'] at hu
        exact z (um_nought hF s0 hu.symm)
    obtain ⟨e2, p, k, c, sh, k17, e1⟩ := ha.2.2 (by omega) s1
    obtain ⟨f2, p', k', c', sh', k17', f1⟩ := hb.2.2 rp r1
    injection e1 with e1
    injection f1 with f1
    simp at e1 f1
    obtain ⟨rfl, rfl, rfl⟩ := e1
    obtain ⟨rfl, rfl, rfl⟩ := f1
    have w := widen hF hF' h8 hL hL1 (by omega) rp hu sh sh'
    rw [txt_len hF (by omega) (by omega) sh k17, txt_len hF' rp hL2 sh' k17']
    exact ⟨f2, rfl, by omega⟩

set_option maxRecDepth 100000 in
set_option maxHeartbeats 8000000 in
theorem widens_h {w : World} (T : Lays w) (U : Brn w) (x n : Int) (x0 : 0 ≤ x) (x1 : x < 18446744073709551616) (n0 : 0 ≤ n) (n1 : n < 256) (hr : n % 3 = 0) :
    Calls Tryd.prog 4 #[.int .u64 x, .int .u8 n] w fun e w' => e = .returned (.bool true) ∧ Below w.heap.size w w' := by
  go_enter Tryd.func4, Tryd.ntmps4
  go_wp2_with fail
  refine (lwidth_h w n n0 n1 hr).mono ?_
  rintro r w' ⟨rfl, rfl⟩
  go_wp2_with fail
  refine (lcut_h w' x x0 x1).mono ?_
  rintro r w ⟨rfl, rfl⟩
  obtain ⟨xx, hxx⟩ : ∃ a, x % 65536 = a := ⟨_, rfl⟩
  have y0 : 0 ≤ xx := by omega
  have y1 : xx < 65536 := by omega
  rw [hxx]
  clear hxx hr
  obtain ⟨s, hs⟩ : ∃ a, xx % 32768 = a := ⟨_, rfl⟩
  have s0 : 0 ≤ s := by omega
  obtain ⟨ng, hng'⟩ : ∃ b, decide (32768 ≤ xx) = b := ⟨_, rfl⟩
  have hng := hide hng'
  clear hng'
  go_wp2_with fail
  refine (ldigits_h T U xx s ng (by omega) (by omega) (by omega) hng.out.symm).mono ?_
  rintro r w1 ⟨a, ta, qa, ok, rfl, dg, K1⟩
  have CA := cell3_new w1 (.bool a) (.string ta) (.int .i64 qa) 28
  have KR := below_trans K1 (bel_new w1 (.cells #[.bool a, .string ta, .int .i64 qa] 28))
  have HD := hide dg
  go_upto_region 6 with fail
  generalize w1.alloc (.cells #[.bool a, .string ta, .int .i64 qa] 28) = w2 at *
  by_cases fin : s < 31744
  · have hok : ok = true := by
      obtain ⟨_, ⟨k, h, _⟩ | ⟨k, _⟩⟩ := Dg.unique (by decide) s0 dg dg
      · omega
      · exact k
    subst hok
    clear dg K1
    go_wp2
    go_loopg [8] 2 (fun c sto wr => ((c = 2 ∧ sto = .int .i64 32) ∨ (c = 1 ∧ sto = .int .i64 64) ∨ (c = 0 ∧ sto = .int .i64 128)) ∧ Cell3 wr w1.heap.size 0 (.bool a) (.string ta) (.int .i64 qa) ∧ Below w.heap.size w wr)
    case atStart => exact ⟨by simp, CA, KR⟩
    case round =>
      clear CA KR
      obtain ⟨hc, CA, KR⟩ := hrel
      rcases hc with ⟨rfl, rfl⟩ | ⟨rfl, rfl⟩ | ⟨rfl, rfl⟩
      · go_wp2_with fail
        refine (rTo_s_h wr xx s ng (by omega) (by omega) (by omega) hng.out.symm).mono ?_
        rintro r w1 ⟨y, same, rfl, hto, b1⟩
        obtain ⟨rfl, r0, r00, r01, hy, hu⟩ := to_wide (fra := 10) (frb := 23) (lima := 16) (limb := 128) fr_h fr_s (by decide) (by decide) (by decide) (by decide) (by decide) (by decide) (by decide) (by decide) (by decide) s0 fin hto
        have hyb : 0 ≤ y ∧ y < 4294967296 ∧ y % 2147483648 = r0 ∧ ng = decide (2147483648 ≤ y) := by
          cases ng with
          | false => simp [b2i] at hy; exact ⟨by omega, by omega, by omega, (decide_eq_false (by omega)).symm⟩
          | true => simp [b2i] at hy; exact ⟨by omega, by omega, by omega, (decide_eq_true (by omega)).symm⟩
        obtain ⟨hy0, hy1, hy2, hy3⟩ := hyb
        have HU := hide hu
        have HY2 := hide hy2
        have HY3 := hide hy3
        clear hto hy hu hy2 hy3
        have K1 := below_trans KR b1
        go_wp2_with fail
        refine (ldigits_s (T.below K1) (U.below K1) y r0 ng hy0 hy1 HY2.out HY3.out).mono ?_
        rintro r w2 ⟨bb, tb, qb, okb, rfl, dg2, b2⟩
        obtain ⟨rfl, eab, hle⟩ := wid_val (Fa := 1024) (La := -24) (Ia := 31744) (Fb := 8388608) (Lb := -149) (Ib := 2139095040) (by decide) (by decide) (by decide) (by decide) (by decide) (by decide) s0 fin r00 r01 HU.out HD.out dg2
        clear dg2 HU
        have C2 := ((CA.below b1).below b2).below (bel_new w2 (.cells #[.bool bb, .string tb, .int .i64 qb] 28))
        have D2 := cell3_new w2 (.bool bb) (.string tb) (.int .i64 qb) 28
        have K2 := below_trans (below_trans K1 b2) (bel_new w2 (.cells #[.bool bb, .string tb, .int .i64 qb] 28))
        go_upto_region 13 with fail
        generalize w2.alloc (.cells #[.bool bb, .string tb, .int .i64 qb] 28) = w3 at *
        have c0 := C2.c0
        have c1 := C2.c1
        have c2 := C2.c2
        have d0 := D2.c0
        have d1 := D2.c1
        have d2 := D2.c2
        have nlt : ¬ (tb.size : Int) < (ta.size : Int) := by omega
        have nlt2 : decide ((tb.size : Int) < (ta.size : Int)) = false := decide_eq_false nlt
        subst eab
        have nq : (a != a) = false := by simp
        have F := hide (And.intro C2 K2)
        clear K1 b1 b2 K2 C2 D2 hle CA KR
        go_wp2
        go_roundg 1
        case measure => omega
        case rel => exact ⟨by simp, F.out.1, F.out.2⟩
      · go_wp2_with fail
        refine (rTo_d_h wr xx s ng (by omega) (by omega) (by omega) hng.out.symm).mono ?_
        rintro r w1 ⟨y, same, rfl, hto, b1⟩
        obtain ⟨rfl, r0, r00, r01, hy, hu⟩ := to_wide (fra := 10) (frb := 52) (lima := 16) (limb := 1024) fr_h fr_d (by decide) (by decide) (by decide) (by decide) (by decide) (by decide) (by decide) (by decide) (by decide) s0 fin hto
        have hyb : 0 ≤ y ∧ y < 18446744073709551616 ∧ y % 9223372036854775808 = r0 ∧ ng = decide (9223372036854775808 ≤ y) := by
          cases ng with
          | false => simp [b2i] at hy; exact ⟨by omega, by omega, by omega, (decide_eq_false (by omega)).symm⟩
          | true => simp [b2i] at hy; exact ⟨by omega, by omega, by omega, (decide_eq_true (by omega)).symm⟩
        obtain ⟨hy0, hy1, hy2, hy3⟩ := hyb
        have HU := hide hu
        have HY2 := hide hy2
        have HY3 := hide hy3
        clear hto hy hu hy2 hy3
        have K1 := below_trans KR b1
        go_wp2_with fail
        refine (ldigits_d (T.below K1) (U.below K1) y r0 ng hy0 hy1 HY2.out HY3.out).mono ?_
        rintro r w2 ⟨bb, tb, qb, okb, rfl, dg2, b2⟩
        obtain ⟨rfl, eab, hle⟩ := wid_val (Fa := 1024) (La := -24) (Ia := 31744) (Fb := 4503599627370496) (Lb := -1074) (Ib := 9218868437227405312) (by decide) (by decide) (by decide) (by decide) (by decide) (by decide) s0 fin r00 r01 HU.out HD.out dg2
        clear dg2 HU
        have C2 := ((CA.below b1).below b2).below (bel_new w2 (.cells #[.bool bb, .string tb, .int .i64 qb] 28))
        have D2 := cell3_new w2 (.bool bb) (.string tb) (.int .i64 qb) 28
        have K2 := below_trans (below_trans K1 b2) (bel_new w2 (.cells #[.bool bb, .string tb, .int .i64 qb] 28))
        go_upto_region 13 with fail
        generalize w2.alloc (.cells #[.bool bb, .string tb, .int .i64 qb] 28) = w3 at *
        have c0 := C2.c0
        have c1 := C2.c1
        have c2 := C2.c2
        have d0 := D2.c0
        have d1 := D2.c1
        have d2 := D2.c2
        have nlt : ¬ (tb.size : Int) < (ta.size : Int) := by omega
        have nlt2 : decide ((tb.size : Int) < (ta.size : Int)) = false := decide_eq_false nlt
        subst eab
        have nq : (a != a) = false := by simp
        have F := hide (And.intro C2 K2)
        clear K1 b1 b2 K2 C2 D2 hle CA KR
        go_wp2
        go_roundg 0
        case measure => omega
        case rel => exact ⟨by simp, F.out.1, F.out.2⟩
      · go_wp2_with fail
        refine (lives6 (T.below KR) (U.below KR)).mono ?_
        rintro r wb ⟨rfl, bb⟩
        go_wp2
        go_ret
        exact ⟨rfl, below_trans KR bb⟩
  · have hok : ok = false := (dg.1 (by omega)).2
    subst hok
    clear dg
    go_wp2_with fail
    refine (lives6 (T.below KR) (U.below KR)).mono ?_
    rintro r wb ⟨rfl, bb⟩
    go_wp2
    go_ret
    exact ⟨rfl, below_trans KR bb⟩

set_option maxRecDepth 100000 in
set_option maxHeartbeats 8000000 in
theorem widens_s {w : World} (T : Lays w) (U : Brn w) (x n : Int) (x0 : 0 ≤ x) (x1 : x < 18446744073709551616) (n0 : 0 ≤ n) (n1 : n < 256) (hr : n % 3 = 1) :
    Calls Tryd.prog 4 #[.int .u64 x, .int .u8 n] w fun e w' => e = .returned (.bool true) ∧ Below w.heap.size w w' := by
  go_enter Tryd.func4, Tryd.ntmps4
  go_wp2_with fail
  refine (lwidth_s w n n0 n1 hr).mono ?_
  rintro r w' ⟨rfl, rfl⟩
  go_wp2_with fail
  refine (lcut_s w' x x0 x1).mono ?_
  rintro r w ⟨rfl, rfl⟩
  obtain ⟨xx, hxx⟩ : ∃ a, x % 4294967296 = a := ⟨_, rfl⟩
  have y0 : 0 ≤ xx := by omega
  have y1 : xx < 4294967296 := by omega
  rw [hxx]
  clear hxx hr
  obtain ⟨s, hs⟩ : ∃ a, xx % 2147483648 = a := ⟨_, rfl⟩
  have s0 : 0 ≤ s := by omega
  obtain ⟨ng, hng'⟩ : ∃ b, decide (2147483648 ≤ xx) = b := ⟨_, rfl⟩
  have hng := hide hng'
  clear hng'
  go_wp2_with fail
  refine (ldigits_s T U xx s ng (by omega) (by omega) (by omega) hng.out.symm).mono ?_
  rintro r w1 ⟨a, ta, qa, ok, rfl, dg, K1⟩
  have CA := cell3_new w1 (.bool a) (.string ta) (.int .i64 qa) 28
  have KR := below_trans K1 (bel_new w1 (.cells #[.bool a, .string ta, .int .i64 qa] 28))
  have HD := hide dg
  go_upto_region 6 with fail
  generalize w1.alloc (.cells #[.bool a, .string ta, .int .i64 qa] 28) = w2 at *
  by_cases fin : s < 2139095040
  · have hok : ok = true := by
      obtain ⟨_, ⟨k, h, _⟩ | ⟨k, _⟩⟩ := Dg.unique (by decide) s0 dg dg
      · omega
      · exact k
    subst hok
    clear dg K1
    go_wp2
    go_loopg [8] 1 (fun c sto wr => ((c = 1 ∧ sto = .int .i64 64) ∨ (c = 0 ∧ sto = .int .i64 128)) ∧ Cell3 wr w1.heap.size 0 (.bool a) (.string ta) (.int .i64 qa) ∧ Below w.heap.size w wr)
    case atStart => exact ⟨by simp, CA, KR⟩
    case round =>
      clear CA KR
      obtain ⟨hc, CA, KR⟩ := hrel
      rcases hc with ⟨rfl, rfl⟩ | ⟨rfl, rfl⟩
      · go_wp2_with fail
        refine (rTo_d_s wr xx s ng (by omega) (by omega) (by omega) hng.out.symm).mono ?_
        rintro r w1 ⟨y, same, rfl, hto, b1⟩
        obtain ⟨rfl, r0, r00, r01, hy, hu⟩ := to_wide (fra := 23) (frb := 52) (lima := 128) (limb := 1024) fr_s fr_d (by decide) (by decide) (by decide) (by decide) (by decide) (by decide) (by decide) (by decide) (by decide) s0 fin hto
        have hyb : 0 ≤ y ∧ y < 18446744073709551616 ∧ y % 9223372036854775808 = r0 ∧ ng = decide (9223372036854775808 ≤ y) := by
          cases ng with
          | false => simp [b2i] at hy; exact ⟨by omega, by omega, by omega, (decide_eq_false (by omega)).symm⟩
          | true => simp [b2i] at hy; exact ⟨by omega, by omega, by omega, (decide_eq_true (by omega)).symm⟩
        obtain ⟨hy0, hy1, hy2, hy3⟩ := hyb
        have HU := hide hu
        have HY2 := hide hy2
        have HY3 := hide hy3
        clear hto hy hu hy2 hy3
        have K1 := below_trans KR b1
        go_wp2_with fail
        refine (ldigits_d (T.below K1) (U.below K1) y r0 ng hy0 hy1 HY2.out HY3.out).mono ?_
        rintro r w2 ⟨bb, tb, qb, okb, rfl, dg2, b2⟩
        obtain ⟨rfl, eab, hle⟩ := wid_val (Fa := 8388608) (La := -149) (Ia := 2139095040) (Fb := 4503599627370496) (Lb := -1074) (Ib := 9218868437227405312) (by decide) (by decide) (by decide) (by decide) (by decide) (by decide) s0 fin r00 r01 HU.out HD.out dg2
        clear dg2 HU
        have C2 := ((CA.below b1).below b2).below (bel_new w2 (.cells #[.bool bb, .string tb, .int .i64 qb] 28))
        have D2 := cell3_new w2 (.bool bb) (.string tb) (.int .i64 qb) 28
        have K2 := below_trans (below_trans K1 b2) (bel_new w2 (.cells #[.bool bb, .string tb, .int .i64 qb] 28))
        go_upto_region 13 with fail
        generalize w2.alloc (.cells #[.bool bb, .string tb, .int .i64 qb] 28) = w3 at *
        have c0 := C2.c0
        have c1 := C2.c1
        have c2 := C2.c2
        have d0 := D2.c0
        have d1 := D2.c1
        have d2 := D2.c2
        have nlt : ¬ (tb.size : Int) < (ta.size : Int) := by omega
        have nlt2 : decide ((tb.size : Int) < (ta.size : Int)) = false := decide_eq_false nlt
        subst eab
        have nq : (a != a) = false := by simp
        have F := hide (And.intro C2 K2)
        clear K1 b1 b2 K2 C2 D2 hle CA KR
        go_wp2
        go_roundg 0
        case measure => omega
        case rel => exact ⟨by simp, F.out.1, F.out.2⟩
      · go_wp2_with fail
        refine (lives6 (T.below KR) (U.below KR)).mono ?_
        rintro r wb ⟨rfl, bb⟩
        go_wp2
        go_ret
        exact ⟨rfl, below_trans KR bb⟩
  · have hok : ok = false := (dg.1 (by omega)).2
    subst hok
    clear dg
    go_wp2_with fail
    refine (lives6 (T.below KR) (U.below KR)).mono ?_
    rintro r wb ⟨rfl, bb⟩
    go_wp2
    go_ret
    exact ⟨rfl, below_trans KR bb⟩

set_option maxRecDepth 100000 in
set_option maxHeartbeats 8000000 in
theorem widens_d {w : World} (T : Lays w) (U : Brn w) (x n : Int) (x0 : 0 ≤ x) (x1 : x < 18446744073709551616) (n0 : 0 ≤ n) (n1 : n < 256) (hr : n % 3 = 2) :
    Calls Tryd.prog 4 #[.int .u64 x, .int .u8 n] w fun e w' => e = .returned (.bool true) ∧ Below w.heap.size w w' := by
  go_enter Tryd.func4, Tryd.ntmps4
  go_wp2_with fail
  refine (lwidth_d w n n0 n1 hr).mono ?_
  rintro r w' ⟨rfl, rfl⟩
  go_wp2_with fail
  refine (lcut_s w' x x0 x1).mono ?_
  rintro r w ⟨rfl, rfl⟩
  obtain ⟨xx, hxx⟩ : ∃ a, x % 4294967296 = a := ⟨_, rfl⟩
  have y0 : 0 ≤ xx := by omega
  have y1 : xx < 4294967296 := by omega
  rw [hxx]
  clear hxx hr
  obtain ⟨s, hs⟩ : ∃ a, xx % 2147483648 = a := ⟨_, rfl⟩
  have s0 : 0 ≤ s := by omega
  obtain ⟨ng, hng'⟩ : ∃ b, decide (2147483648 ≤ xx) = b := ⟨_, rfl⟩
  have hng := hide hng'
  clear hng'
  go_wp2_with fail
  refine (ldigits_s T U xx s ng (by omega) (by omega) (by omega) hng.out.symm).mono ?_
  rintro r w1 ⟨a, ta, qa, ok, rfl, dg, K1⟩
  have CA := cell3_new w1 (.bool a) (.string ta) (.int .i64 qa) 28
  have KR := below_trans K1 (bel_new w1 (.cells #[.bool a, .string ta, .int .i64 qa] 28))
  have HD := hide dg
  go_upto_region 6 with fail
  generalize w1.alloc (.cells #[.bool a, .string ta, .int .i64 qa] 28) = w2 at *
  by_cases fin : s < 2139095040
  · have hok : ok = true := by
      obtain ⟨_, ⟨k, h, _⟩ | ⟨k, _⟩⟩ := Dg.unique (by decide) s0 dg dg
      · omega
      · exact k
    subst hok
    clear dg K1
    go_wp2
    go_loopg [8] 1 (fun c sto wr => ((c = 1 ∧ sto = .int .i64 64) ∨ (c = 0 ∧ sto = .int .i64 128)) ∧ Cell3 wr w1.heap.size 0 (.bool a) (.string ta) (.int .i64 qa) ∧ Below w.heap.size w wr)
    case atStart => exact ⟨by simp, CA, KR⟩
    case round =>
      clear CA KR
      obtain ⟨hc, CA, KR⟩ := hrel
      rcases hc with ⟨rfl, rfl⟩ | ⟨rfl, rfl⟩
      · go_wp2_with fail
        refine (rTo_d_s wr xx s ng (by omega) (by omega) (by omega) hng.out.symm).mono ?_
        rintro r w1 ⟨y, same, rfl, hto, b1⟩
        obtain ⟨rfl, r0, r00, r01, hy, hu⟩ := to_wide (fra := 23) (frb := 52) (lima := 128) (limb := 1024) fr_s fr_d (by decide) (by decide) (by decide) (by decide) (by decide) (by decide) (by decide) (by decide) (by decide) s0 fin hto
        have hyb : 0 ≤ y ∧ y < 18446744073709551616 ∧ y % 9223372036854775808 = r0 ∧ ng = decide (9223372036854775808 ≤ y) := by
          cases ng with
          | false => simp [b2i] at hy; exact ⟨by omega, by omega, by omega, (decide_eq_false (by omega)).symm⟩
          | true => simp [b2i] at hy; exact ⟨by omega, by omega, by omega, (decide_eq_true (by omega)).symm⟩
        obtain ⟨hy0, hy1, hy2, hy3⟩ := hyb
        have HU := hide hu
        have HY2 := hide hy2
        have HY3 := hide hy3
        clear hto hy hu hy2 hy3
        have K1 := below_trans KR b1
        go_wp2_with fail
        refine (ldigits_d (T.below K1) (U.below K1) y r0 ng hy0 hy1 HY2.out HY3.out).mono ?_
        rintro r w2 ⟨bb, tb, qb, okb, rfl, dg2, b2⟩
        obtain ⟨rfl, eab, hle⟩ := wid_val (Fa := 8388608) (La := -149) (Ia := 2139095040) (Fb := 4503599627370496) (Lb := -1074) (Ib := 9218868437227405312) (by decide) (by decide) (by decide) (by decide) (by decide) (by decide) s0 fin r00 r01 HU.out HD.out dg2
        clear dg2 HU
        have C2 := ((CA.below b1).below b2).below (bel_new w2 (.cells #[.bool bb, .string tb, .int .i64 qb] 28))
        have D2 := cell3_new w2 (.bool bb) (.string tb) (.int .i64 qb) 28
        have K2 := below_trans (below_trans K1 b2) (bel_new w2 (.cells #[.bool bb, .string tb, .int .i64 qb] 28))
        go_upto_region 13 with fail
        generalize w2.alloc (.cells #[.bool bb, .string tb, .int .i64 qb] 28) = w3 at *
        have c0 := C2.c0
        have c1 := C2.c1
        have c2 := C2.c2
        have d0 := D2.c0
        have d1 := D2.c1
        have d2 := D2.c2
        have nlt : ¬ (tb.size : Int) < (ta.size : Int) := by omega
        have nlt2 : decide ((tb.size : Int) < (ta.size : Int)) = false := decide_eq_false nlt
        subst eab
        have nq : (a != a) = false := by simp
        have F := hide (And.intro C2 K2)
        clear K1 b1 b2 K2 C2 D2 hle CA KR
        go_wp2
        go_roundg 0
        case measure => omega
        case rel => exact ⟨by simp, F.out.1, F.out.2⟩
      · go_wp2_with fail
        refine (lives6 (T.below KR) (U.below KR)).mono ?_
        rintro r wb ⟨rfl, bb⟩
        go_wp2
        go_ret
        exact ⟨rfl, below_trans KR bb⟩
  · have hok : ok = false := (dg.1 (by omega)).2
    subst hok
    clear dg
    go_wp2_with fail
    refine (lives6 (T.below KR) (U.below KR)).mono ?_
    rintro r wb ⟨rfl, bb⟩
    go_wp2
    go_ret
    exact ⟨rfl, below_trans KR bb⟩

theorem widens_walk {w : World} (h : Lays w ∧ Brn w) (x : Int) (x0 : 0 ≤ x) (x1 : x < 18446744073709551616) (n : Int) (n0 : 0 ≤ n) (n1 : n < 256) :
    Calls Tryd.prog 4 #[.int .u64 x, .int .u8 n] w fun e w' => e = .returned (.bool true) ∧ Below w.heap.size w w' := by
  have : n % 3 = 0 ∨ n % 3 = 1 ∨ n % 3 = 2 := by omega
  rcases this with r | r | r
  · exact widens_h h.1 h.2 x n x0 x1 n0 n1 r
  · exact widens_s h.1 h.2 x n x0 x1 n0 n1 r
  · exact widens_d h.1 h.2 x n x0 x1 n0 n1 r

end Go.Proofs.YtlhjbmdkfdabmabDoor
