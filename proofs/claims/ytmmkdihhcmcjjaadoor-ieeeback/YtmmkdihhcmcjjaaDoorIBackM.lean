/- IeeeBack: plain numbers -/
import Derived.Test.YtmmkdihhcmcjjaaDoorIFrom
import Derived.Test.YtmmkdihhcmcjjaaDoorITo
namespace Go.Proofs.YtmmkdihhcmcjjaaDoor
set_option linter.unusedVariables false

theorem um_top {F L I lim B : Int} {fr : Nat} (hfr : F = p2 fr) (hI : I = (lim + 1 - fr - L) * F) (hlim : L ≤ lim - 1 - fr) (hBL : B ≤ L) : um F L B I = p2 (lim - B).toNat := by
  have hF0 : 0 < F := by rw [hfr]; exact p2_pos fr
  have hI0 : 2 * F ≤ I := by
    have h1 : 2 * F ≤ (lim + 1 - fr - L) * F := Int.mul_le_mul_of_nonneg_right (by omega) (by omega)
    omega
  have hIq : I = F * (lim + 1 - fr - L) := by rw [hI, Int.mul_comm]
  unfold um sc mst est
  rw [if_neg (by omega), if_neg (by omega), hIq, Int.mul_emod_right, Int.mul_ediv_cancel_left _ (by omega), Int.zero_add, hfr, show L - 1 + (lim + 1 - fr - L) - B = lim - fr - B by omega, show p2 fr = p2 ((fr : Int)).toNat by rw [Int.toNat_natCast], ← p2_toNat_add (by omega) (by omega)]
  congr 2
  omega
theorem has_len : ∀ (m : Nat) (x : Int), 0 ≤ x → x < p2 m → ∃ k, IsLen x k ∧ k ≤ m := by
  intro m
  induction m with
  | zero => intro x h0 h1; exact ⟨0, ⟨h1, fun h => by omega⟩, Nat.le_refl _⟩
  | succ m ih =>
    intro x h0 h1
    rcases Int.lt_or_le x (p2 m) with c | c
    · obtain ⟨k, h, hk⟩ := ih x h0 c
      exact ⟨k, h, by omega⟩
    · exact ⟨m + 1, ⟨h1, fun _ => by rwa [Nat.add_sub_cancel]⟩, Nat.le_refl _⟩
/-- a narrower width's number is one of the wider -/
theorem embed {P Lp Ip limp Q Lq Iq limq s : Int} {frp frq : Nat} (hp : P = p2 frp) (hq : Q = p2 frq) (hpq : frp ≤ frq) (hL : Lq ≤ Lp) (hlim : limp ≤ limq) (hIp : Ip = (limp + 1 - frp - Lp) * P) (hIq : Iq = (limq + 1 - frq - Lq) * Q) (h1 : Lp ≤ limp - 1 - frp) (h2 : Lq ≤ limq - 1 - frq) (s0 : 0 ≤ s) (s1 : s < Ip) :
    ∃ q, 0 ≤ q ∧ q < Iq ∧ ∀ B, B ≤ Lq → um Q Lq B q = um P Lp B s := by
  have hP0 : 0 < P := by rw [hp]; exact p2_pos frp
  have hQ0 : 0 < Q := by rw [hq]; exact p2_pos frq
  rcases Int.lt_or_eq_of_le s0 with sp | sp
  rotate_left
  · have hI0 : 0 < Iq := by rw [hIq]; exact Int.mul_pos (by omega) hQ0
    refine ⟨0, Int.le_refl _, hI0, fun B hB => ?_⟩
    rw [← sp]
    unfold um sc mst
    rw [if_pos hQ0, if_pos hP0, Int.zero_mul, Int.zero_mul]
  have hm1 : mst P s < 2 * P := by
    unfold mst
    split
    · omega
    · have := Int.emod_lt_of_pos s hP0; omega
  have hmp : 0 < mst P s := by
    unfold mst
    split
    · omega
    · have := Int.emod_nonneg s (b := P) (by omega); omega
  have hm0 : 0 ≤ mst P s := by
    unfold mst
    split
    · omega
    · have := Int.emod_nonneg s (b := P) (by omega); omega
  have he := est_ge (L := Lp) (s := s) hP0
  obtain ⟨ln, hln, hln2⟩ := has_len (frp + 1) (mst P s) hm0 (by rw [p2, ← hp]; exact hm1)
  obtain ⟨t, ht⟩ : ∃ t, t = max (est P Lp s + ln - 1 - frq) Lq := ⟨_, rfl⟩
  have ht1 : t ≤ est P Lp s := by omega
  have ht2 : Lq ≤ t := by omega
  have hpt := p2_pos (est P Lp s - t).toNat
  have hq0 : 0 ≤ mst P s * p2 (est P Lp s - t).toNat := Int.mul_nonneg hm0 (by omega)
  have hq1 : mst P s * p2 (est P Lp s - t).toNat < 2 * Q := by
    have a1 : mst P s * p2 (est P Lp s - t).toNat < p2 ln * p2 (est P Lp s - t).toNat := Int.mul_lt_mul_of_pos_right hln.1 hpt
    rw [← p2_add] at a1
    have a2 := p2_mono (m := ln + (est P Lp s - t).toNat) (n := frq + 1) (by omega)
    rw [p2, ← hq] at a2
    omega
  have hq2 : t = Lq ∨ Q ≤ mst P s * p2 (est P Lp s - t).toNat := by
    rcases Int.lt_or_eq_of_le ht2 with c | c
    · right
      rcases Nat.eq_zero_or_pos ln with z | z
      · exfalso
        have h9 := hln.1
        rw [z] at h9
        simp only [p2] at h9
        omega
      · have a1 : p2 (ln - 1) * p2 (est P Lp s - t).toNat ≤ mst P s * p2 (est P Lp s - t).toNat := Int.mul_le_mul_of_nonneg_right (hln.2 z) (by omega)
        rw [← p2_add, show ln - 1 + (est P Lp s - t).toNat = frq by omega, ← hq] at a1
        exact a1
    · left; exact c.symm
  have hum : ∀ B, B ≤ Lq → um Q Lq B (mst P s * p2 (est P Lp s - t).toNat + (t - Lq) * Q) = um P Lp B s := by
    intro B hB
    rw [um_pattern hQ0 hB ht2 hq0 (by omega) hq2]
    unfold um sc
    rw [Int.mul_assoc, ← p2_toNat_add (by omega) (by omega), show est P Lp s - t + (t - B) = est P Lp s - B by omega]
  have hn0 : 0 ≤ (t - Lq) * Q := Int.mul_nonneg (by omega) (by omega)
  refine ⟨_, by omega, ?_, hum⟩
  rcases Int.lt_or_le (mst P s * p2 (est P Lp s - t).toNat + (t - Lq) * Q) Iq with c | c
  · exact c
  · exfalso
    have a1 := um_le (F := Q) (L := Lq) (B := Lq) (s := Iq) (t := mst P s * p2 (est P Lp s - t).toNat + (t - Lq) * Q) hQ0 (by
      rw [hIq]; exact Int.mul_nonneg (by omega) (by omega)) (Int.le_refl _) c
    rw [hum Lq (Int.le_refl _), um_top hq hIq h2 (Int.le_refl _)] at a1
    have a2 := um_lt' (F := P) (L := Lp) (B := Lq) (s := s) (t := Ip) hP0 s0 hL s1
    rw [um_top hp hIp h1 hL] at a2
    have a3 := p2_mono (m := (limp - Lq).toNat) (n := (limq - Lq).toNat) (by omega)
    omega
/-- the number that parts tell -/
theorem part_um {F L I s m E : Int} {ng a ok : Bool} (hF : 0 < F) (hL : L ≤ 0) (s0 : 0 ≤ s) (s1 : s < I) (h : PartIs F L I s ng a m E ok) : L ≤ E ∧ ∀ B, B ≤ L → sc m E B = um F L B s := by
  obtain ⟨_, _, p, q⟩ := h.2 s1
  rcases Int.lt_or_eq_of_le s0 with c | c
  · obtain ⟨o, n, n64, hm, hE⟩ := q c
    have e0 := est_ge (L := L) (s := s) hF
    refine ⟨by omega, fun B hB => ?_⟩
    unfold um
    rw [hE, sc_up (by omega), ← hm]
  · obtain ⟨rfl, rfl⟩ := p c.symm
    refine ⟨hL, fun B hB => ?_⟩
    rw [← c]
    unfold um sc mst
    rw [if_pos hF, Int.zero_mul, Int.zero_mul]
/-- unlike parts, unlike numbers -/
theorem part_eq {F L I s F' L' I' s' m E m' E' B : Int} {ng a ok ng' a' ok' : Bool} (hF : 0 < F) (hF' : 0 < F') (hL : L ≤ 0) (hL' : L' ≤ 0) (s0 : 0 ≤ s) (s1 : s < I) (s0' : 0 ≤ s') (s1' : s' < I') (h : PartIs F L I s ng a m E ok) (h' : PartIs F' L' I' s' ng' a' m' E' ok') (hB : B ≤ L) (hB' : B ≤ L') (he : um F L B s = um F' L' B s') : m = m' ∧ E = E' := by
  obtain ⟨e1, u1⟩ := part_um hF hL s0 s1 h
  obtain ⟨e2, u2⟩ := part_um hF' hL' s0' s1' h'
  have he2 : m * p2 (E - B).toNat = m' * p2 (E' - B).toNat := by
    have := (u1 B hB).trans (he.trans (u2 B hB').symm)
    exact this
  obtain ⟨_, _, p, q⟩ := h.2 s1
  obtain ⟨_, _, p', q'⟩ := h'.2 s1'
  have k1 := p2_pos (E - B).toNat
  have k2 := p2_pos (E' - B).toNat
  rcases Int.lt_or_eq_of_le s0 with c | c
  · obtain ⟨o, -⟩ := q c
    rcases Int.lt_or_eq_of_le s0' with c' | c'
    · obtain ⟨o', -⟩ := q' c'
      obtain ⟨r1, r2⟩ := odd_unique o o' he2
      exact ⟨r1, by omega⟩
    · obtain ⟨rfl, rfl⟩ := p' c'.symm
      rw [Int.zero_mul] at he2
      rcases Int.mul_eq_zero.1 he2 with z | z
      · omega
      · omega
  · obtain ⟨rfl, rfl⟩ := p c.symm
    rcases Int.lt_or_eq_of_le s0' with c' | c'
    · obtain ⟨o', -⟩ := q' c'
      rw [Int.zero_mul] at he2
      rcases Int.mul_eq_zero.1 he2.symm with z | z
      · omega
      · omega
    · obtain ⟨rfl, rfl⟩ := p' c'.symm
      exact ⟨rfl, rfl⟩
/-- the nearest pattern to a pattern's number is that pattern -/
theorem near_self {F L I s m E r : Int} {ng a ok : Bool} (hF : 0 < F) (hL : L ≤ 0) (s0 : 0 ≤ s) (s1 : s < I) (h : PartIs F L I s ng a m E ok) (hN : Near F L I (2 * m + 0) (E - 1) r) : r = s := by
  obtain ⟨e1, u1⟩ := part_um hF hL s0 s1 h
  refine near_unique hF hN ?_
  refine ⟨s0, by omega, fun B hE hB => ?_⟩
  have hv : sc (2 * m + 0) (E - 1) B = um F L B s := by
    rw [Int.add_zero, ← u1 B hB]
    have e2 := sc_up (N := m) (E := E - 1) (B := B) (k := 1) hE
    rw [show E - 1 + ((1 : Nat) : Int) = E by omega, show m * p2 1 = 2 * m by rw [show p2 1 = 2 from rfl]; omega] at e2
    exact e2.symm
  rw [hv]
  refine ⟨fun _ => ?_, fun hr => ?_⟩
  · have := um_lt (F := F) (L := L) (B := B) (s := s) hF s0 hB
    exact ⟨by omega, fun e => by omega⟩
  · have := um_lt (F := F) (L := L) (B := B) (s := s - 1) hF (by omega) hB
    rw [Int.sub_add_cancel] at this
    exact ⟨by omega, fun e => by omega⟩
/-- the nearest pattern to a number that another width's pattern is, where this width has it -/
theorem near_there {F L I F' L' I' s q m E r : Int} {ng a ok : Bool} (hF : 0 < F) (hF' : 0 < F') (hL : L ≤ 0) (hL' : L' ≤ 0) (s0 : 0 ≤ s) (s1 : s < I) (h : PartIs F L I s ng a m E ok) (q0 : 0 ≤ q) (q1 : q ≤ I') (hu : ∀ B, B ≤ L → B ≤ L' → um F' L' B q = um F L B s) (hN : Near F' L' I' (2 * m + 0) (E - 1) r) : r = q := by
  obtain ⟨e1, u1⟩ := part_um hF hL s0 s1 h
  have hB1 : min (E - 1) (min L L') ≤ E - 1 := by omega
  have hB2 : min (E - 1) (min L L') ≤ L := by omega
  have hB3 : min (E - 1) (min L L') ≤ L' := by omega
  generalize min (E - 1) (min L L') = B at hB1 hB2 hB3
  have hv : sc (2 * m + 0) (E - 1) B = um F' L' B q := by
    rw [hu B hB2 hB3, Int.add_zero, ← u1 B hB2]
    have e2 := sc_up (N := m) (E := E - 1) (B := B) (k := 1) hB1
    rw [show E - 1 + ((1 : Nat) : Int) = E by omega, show m * p2 1 = 2 * m by rw [show p2 1 = 2 from rfl]; omega] at e2
    exact e2.symm
  obtain ⟨r0, r1, hn⟩ := hN
  obtain ⟨hi, lo⟩ := hn B hB1 hB3
  rw [hv] at hi lo
  rcases Int.lt_trichotomy r q with c | c | c
  · exfalso
    obtain ⟨g, _⟩ := hi (by omega)
    have a1 := um_le (F := F') (L := L') (B := B) (s := r + 1) (t := q) hF' (by omega) hB3 (by omega)
    have a2 := um_lt (F := F') (L := L') (B := B) (s := r) hF' r0 hB3
    omega
  · exact c
  · exfalso
    obtain ⟨g, _⟩ := lo (by omega)
    have a1 := um_le (F := F') (L := L') (B := B) (s := q) (t := r - 1) hF' q0 hB3 (by omega)
    have a2 := um_lt (F := F') (L := L') (B := B) (s := r - 1) hF' (by omega) hB3
    rw [Int.sub_add_cancel] at a2
    omega

theorem back_up {Sa Fa La Ia lima Sb Fb Lb Ib limb s y z : Int} {fra frb : Nat} {ng ok ok2 : Bool} (ha : Fa = p2 fra) (hb : Fb = p2 frb) (hab : fra ≤ frb) (hL : Lb ≤ La) (hlim : lima ≤ limb) (hIa : Ia = (lima + 1 - fra - La) * Fa) (hIb : Ib = (limb + 1 - frb - Lb) * Fb) (h1 : La ≤ lima - 1 - fra) (h2 : Lb ≤ limb - 1 - frb) (La0 : La ≤ 0) (Lb0 : Lb ≤ 0)
    (s0 : 0 ≤ s) (s1 : s ≤ Ia) (h : ToP Sb Fb Lb Ib Fa La Ia s ng y ok) : ok = true ∧ ∃ s', 0 ≤ s' ∧ s' ≤ Ib ∧ y = s' + b2i ng * Sb ∧ (ToP Sa Fa La Ia Fb Lb Ib s' ng z ok2 → z = s + b2i ng * Sa) := by
  have hFa : 0 < Fa := by rw [ha]; exact p2_pos fra
  have hFb : 0 < Fb := by rw [hb]; exact p2_pos frb
  have hIb0 : 0 ≤ Ib := by rw [hIb]; exact Int.mul_nonneg (by omega) (by omega)
  rcases h with ⟨a, -, -⟩ | ⟨a, rfl, rfl⟩ | ⟨a, m, E, r, p, n, f, k, g1, g2, rfl, g4, rfl⟩
  · omega
  · refine ⟨rfl, Ib, hIb0, Int.le_refl _, rfl, fun hz => ?_⟩
    rcases hz with ⟨b, -⟩ | ⟨b, rfl, -⟩ | ⟨b, -⟩
    · omega
    · rw [a]
    · omega
  · obtain ⟨q, q0, q1, hu⟩ := embed ha hb hab hL hlim hIa hIb h1 h2 s0 a
    have hrq : r = q := near_there hFa hFb La0 Lb0 s0 a g1 q0 (by omega) (fun B _ hB => hu B hB) g2
    subst hrq
    have hk : k = true := (g4.2 q1).1
    obtain ⟨e1, e2⟩ := part_eq (B := Lb) hFb hFa Lb0 La0 q0 q1 s0 a g4 g1 (Int.le_refl _) hL (hu Lb (Int.le_refl _))
    subst e1 e2 hk
    refine ⟨by simp, r, q0, by omega, rfl, fun hz => ?_⟩
    rcases hz with ⟨b, -⟩ | ⟨b, -⟩ | ⟨b, m', E', r2, p', n', f', k', c1, c2, rfl, c4, -⟩
    · omega
    · omega
    · obtain ⟨-, rfl, rfl, -⟩ := g4.unique q0 c1
      have := near_self hFa La0 s0 a g1 c2
      rw [this]
theorem back_down {Sa Fa La Ia lima Sb Fb Lb Ib limb s y z : Int} {fra frb : Nat} {ng ok ok2 : Bool} (ha : Fa = p2 fra) (hb : Fb = p2 frb) (hab : frb ≤ fra) (hL : La ≤ Lb) (hlim : limb ≤ lima) (hIa : Ia = (lima + 1 - fra - La) * Fa) (hIb : Ib = (limb + 1 - frb - Lb) * Fb) (h1 : La ≤ lima - 1 - fra) (h2 : Lb ≤ limb - 1 - frb) (La0 : La ≤ 0) (Lb0 : Lb ≤ 0)
    (s0 : 0 ≤ s) (s1 : s ≤ Ia) (h : ToP Sb Fb Lb Ib Fa La Ia s ng y ok) : ∃ s', 0 ≤ s' ∧ s' ≤ Ib ∧ y = s' + b2i ng * Sb ∧ (ToP Sa Fa La Ia Fb Lb Ib s' ng z ok2 → ok = decide (z = s + b2i ng * Sa)) := by
  have hFa : 0 < Fa := by rw [ha]; exact p2_pos fra
  have hFb : 0 < Fb := by rw [hb]; exact p2_pos frb
  have hIb0 : 0 ≤ Ib := by rw [hIb]; exact Int.mul_nonneg (by omega) (by omega)
  rcases h with ⟨a, -, -⟩ | ⟨a, rfl, rfl⟩ | ⟨a, m, E, r, p, n, f, k, g1, g2, rfl, g4, rfl⟩
  · omega
  · refine ⟨Ib, hIb0, Int.le_refl _, rfl, fun hz => ?_⟩
    rcases hz with ⟨b, -⟩ | ⟨b, rfl, -⟩ | ⟨b, -⟩
    · omega
    · rw [a, decide_eq_true rfl]
    · omega
  · refine ⟨r, g2.1, g2.2.1, rfl, fun hz => ?_⟩
    rcases hz with ⟨b, -⟩ | ⟨b, rfl, -⟩ | ⟨b, m', E', r2, p', n', f', k', c1, c2, rfl, c4, -⟩
    · have := g2.2.1; omega
    · have hk : k = false := (g4.1 (by omega)).2.2.2
      rw [hk, decide_eq_false (by omega)]
      simp
    · obtain ⟨-, rfl, rfl, hk⟩ := g4.unique g2.1 c1
      subst hk
      obtain ⟨q, q0, q1, hu⟩ := embed hb ha hab hL hlim hIb hIa h2 h1 g2.1 b
      have hrq : r2 = q := near_there hFb hFa Lb0 La0 g2.1 b c1 q0 (by omega) (fun B _ hB => hu B hB) c2
      by_cases e : n = m ∧ f = E
      · obtain ⟨rfl, rfl⟩ := e
        have := near_self hFa La0 s0 a g1 c2
        rw [this, decide_eq_true rfl]
        simp
      · have hne : ¬ r2 + b2i ng * Sa = s + b2i ng * Sa := by
          intro h
          have hs : s = q := by omega
          subst hs
          obtain ⟨e1, e2⟩ := part_eq (B := La) hFa hFb La0 Lb0 s0 a g2.1 b g1 c1 (Int.le_refl _) hL (hu La (Int.le_refl _))
          exact e ⟨e1.symm, e2.symm⟩
        rw [decide_eq_false hne]
        by_cases e1 : n = m
        · have e2 : ¬ f = E := fun h => e ⟨e1, h⟩
          simp [e2]
        · simp [e1]
theorem from_back {S F L I s n z : Int} {ng fine : Bool} (hF : 0 < F) (hS : 2 * F ≤ S) (hL : -1100 ≤ L) (L0 : L ≤ 0) (s0 : 0 ≤ s) (s1 : s < S) (hq : est F L s ≤ 2100) (hS2 : S ≤ 9223372036854775808) (hI0 : 0 < I) (h : IntIs F L I s ng n true) (h' : FromP S F L I n z fine) : fine = true ∧ (z = s + b2i ng * S ∨ (s = 0 ∧ ng = true ∧ z = 0)) := by
  have h9 := h
  obtain ⟨a, m, E, k, hP, h1⟩ := h
  obtain ⟨m0, -⟩ := part_bounds hF hS hL s0 s1 hq hS2 hP
  rcases h1 with ⟨rfl, c2, -, rfl⟩ | ⟨-, c, -⟩
  · have fin : s < I := by
      rcases Int.lt_or_le s I with c | c
      · exact c
      · have := (hP.1 c).2.2.2; cases this
    obtain ⟨-, rfl, pz, po⟩ := hP.2 fin
    have hV0 : 0 ≤ m * p2 E.toNat := Int.mul_nonneg m0 (Int.le_of_lt (p2_pos _))
    have hmag : mag (wn a (m * p2 E.toNat)) = m * p2 E.toNat := by unfold mag wn; cases a <;> simp <;> omega
    obtain ⟨r, n2, k2, hN, rfl, hI, rfl⟩ := h'
    rw [hmag] at hN
    obtain ⟨e1, u1⟩ := part_um hF L0 s0 fin hP
    have hrs : r = s := by
      refine near_unique hF hN ?_
      refine ⟨s0, by omega, fun B hE hB => ?_⟩
      have hv : sc (2 * (m * p2 E.toNat) + b2i false) (0 - 1) B = um F L B s := by
        rw [show (2 * (m * p2 E.toNat) + b2i false : Int) = (m * p2 E.toNat) * p2 1 by rw [show b2i false = 0 from rfl, show p2 1 = 2 from rfl]; omega, ← u1 B hB]
        have e2 := sc_up (N := m * p2 E.toNat) (E := 0 - 1) (B := B) (k := 1) hE
        rw [← e2, show ((0 : Int) - 1 + ((1 : Nat) : Int)) = 0 by omega]
        have e3 := sc_up (N := m) (E := 0) (B := B) (k := E.toNat) (by omega)
        rw [← e3, show (0 : Int) + (E.toNat : Int) = E by omega]
      rw [hv]
      refine ⟨fun _ => ?_, fun hr => ?_⟩
      · have := um_lt (F := F) (L := L) (B := B) (s := s) hF s0 hB
        exact ⟨by omega, fun e => by omega⟩
      · have := um_lt (F := F) (L := L) (B := B) (s := s - 1) hF (by omega) hB
        rw [Int.sub_add_cancel] at this
        exact ⟨by omega, fun e => by omega⟩
    subst hrs
    rcases Int.lt_or_eq_of_le s0 with c | c
    · have hm : 0 < m := by have := (po c).1; omega
      have hV : 0 < m * p2 E.toNat := Int.mul_pos hm (p2_pos _)
      have hsg : decide (wn a (m * p2 E.toNat) < 0) = a := by
        unfold wn
        cases a
        · simp; omega
        · simp; omega
      rw [hsg] at hI ⊢
      obtain ⟨rfl, rfl⟩ := hI.unique s0 h9
      exact ⟨by simp, Or.inl rfl⟩
    · obtain ⟨rfl, rfl⟩ := pz c.symm
      have hw : wn a (0 * p2 (0 : Int).toNat) = 0 := by rw [Int.zero_mul]; unfold wn; cases a <;> simp
      rw [hw] at hI ⊢
      rw [decide_eq_false (by omega : ¬ (0 : Int) < 0)] at hI ⊢
      have h0 : IntIs F L I r false 0 true := ⟨false, 0, 0, true, ⟨fun h => by omega, fun _ => ⟨rfl, rfl, fun _ => ⟨rfl, rfl⟩, fun h => by omega⟩⟩, Or.inl ⟨rfl, Int.le_refl _, rfl, by rw [Int.zero_mul]; rfl⟩⟩
      obtain ⟨rfl, rfl⟩ := hI.unique s0 h0
      refine ⟨by simp, ?_⟩
      rw [show b2i false = 0 from rfl, Int.zero_mul, Int.add_zero, ← c]
      cases a
      · left; rw [show b2i false = 0 from rfl]; omega
      · right; exact ⟨rfl, rfl, rfl⟩
  · cases c

end Go.Proofs.YtmmkdihhcmcjjaaDoor
