/- DecimalBack -/
import Derived.Test.YtigehipclkoecaaGreatDoorDLawE
import Derived.Test.YtigehipclkoecaaGreatDoorDLives
namespace Go.Proofs.YtigehipclkoecaaGreatDoor
open Go.RowKit
set_option linter.unusedVariables false

def ToP (Sb Fb Lb Ib Fa La Ia s : Int) (ng : Bool) (y : Int) (ok : Bool) : Prop :=
  (Ia < s ∧ y = Ib + Fb / 2 ∧ ok = true) ∨ (s = Ia ∧ y = Ib + b2i ng * Sb ∧ ok = true) ∨
  (s < Ia ∧ ∃ m E r a n f k, PartIs Fa La Ia s ng ng m E true ∧ Near Fb Lb Ib (2 * m + b2i false) (E - 1) r ∧ y = r + b2i ng * Sb ∧ PartIs Fb Lb Ib r ng a n f k ∧ ok = (k && (n == m) && (f == E)))
theorem part_bounds {F L I S s : Int} {ng a ok : Bool} {m E : Int} (hF : 0 < F) (hS : 2 * F ≤ S) (hL : -1100 ≤ L) (s0 : 0 ≤ s) (s1 : s < S) (hq : est F L s ≤ 2100) (hS2 : S ≤ 9223372036854775808) (h : PartIs F L I s ng a m E ok) : 0 ≤ m ∧ m < 9223372036854775808 ∧ -1100 ≤ E ∧ E ≤ 2200 := by
  obtain ⟨h1, h2⟩ := h
  rcases Int.lt_or_le s I with c | c
  · obtain ⟨_, _, p, q⟩ := h2 c
    rcases Int.lt_or_eq_of_le s0 with g | g
    · obtain ⟨o, n, n64, hm, hE⟩ := q g
      obtain ⟨m0, m1⟩ := mst_range (F := F) (s := s) (S := S) hF g hS s1
      have hp := p2_pos n
      have e0 := est_ge (F := F) (L := L) (s := s) hF
      have mp : 0 < m := by
        rcases Int.lt_or_le 0 m with k | k
        · exact k
        · have : m * p2 n ≤ 0 := Int.mul_nonpos_of_nonpos_of_nonneg k (by omega)
          omega
      have : m * 1 ≤ m * p2 n := Int.mul_le_mul_of_nonneg_left (by omega) (by omega)
      exact ⟨by omega, by omega, by omega, by omega⟩
    · obtain ⟨rfl, rfl⟩ := p g.symm
      exact ⟨by decide, by decide, by decide, by decide⟩
  · obtain ⟨_, rfl, rfl, _⟩ := h1 c
    exact ⟨by decide, by decide, by decide, by decide⟩
theorem um_top {F L I lim B : Int} {fr : Nat} (hfr : F = p2 fr) (hI : I = (lim + 1 - fr - L) * F) (hlim : L ≤ lim - 1 - fr) (hBL : B ≤ L) : um F L B I = p2 (lim - B).toNat := by
  have hF0 : 0 < F := by rw [hfr]; exact p2_pos fr
  have hI0 : 2 * F ≤ I := by
    have h1 : 2 * F ≤ (lim + 1 - fr - L) * F := Int.mul_le_mul_of_nonneg_right (by omega) (by omega)
    omega
  have hIq : I = F * (lim + 1 - fr - L) := by rw [hI, Int.mul_comm]
  unfold um sc mst est
  rw [if_neg (by omega), if_neg (by omega), hIq, Int.mul_emod_right, Int.mul_ediv_cancel_left _ (by omega), Int.zero_add, hfr, show L - 1 + (lim + 1 - fr - L) - B = lim - fr - B by omega, show p2 fr = p2 ((fr : Int)).toNat by rw [Int.toNat_natCast], ← p2_toNat_add (by omega) (by omega)]
  congr 2
  omega
theorem has_len : ∀ (m : Nat) (x : Int), 0 ≤ x → x < p2 m → ∃ k, IsLen x k ∧ k ≤ m := by
  intro m
  induction m with
  | zero => intro x h0 h1; exact ⟨0, ⟨h1, fun h => by omega⟩, Nat.le_refl _⟩
  | succ m ih =>
    intro x h0 h1
    rcases Int.lt_or_le x (p2 m) with c | c
    · obtain ⟨k, h, hk⟩ := ih x h0 c
      exact ⟨k, h, by omega⟩
    · exact ⟨m + 1, ⟨h1, fun _ => by rwa [Nat.add_sub_cancel]⟩, Nat.le_refl _⟩
/-- a narrower width's number is one of the wider -/
theorem embed {P Lp Ip limp Q Lq Iq limq s : Int} {frp frq : Nat} (hp : P = p2 frp) (hq : Q = p2 frq) (hpq : frp ≤ frq) (hL : Lq ≤ Lp) (hlim : limp ≤ limq) (hIp : Ip = (limp + 1 - frp - Lp) * P) (hIq : Iq = (limq + 1 - frq - Lq) * Q) (h1 : Lp ≤ limp - 1 - frp) (h2 : Lq ≤ limq - 1 - frq) (s0 : 0 ≤ s) (s1 : s < Ip) :
    ∃ q, 0 ≤ q ∧ q < Iq ∧ ∀ B, B ≤ Lq → um Q Lq B q = um P Lp B s := by
  have hP0 : 0 < P := by rw [hp]; exact p2_pos frp
  have hQ0 : 0 < Q := by rw [hq]; exact p2_pos frq
  rcases Int.lt_or_eq_of_le s0 with sp | sp
  rotate_left
  · have hI0 : 0 < Iq := by rw [hIq]; exact Int.mul_pos (by omega) hQ0
    refine ⟨0, Int.le_refl _, hI0, fun B hB => ?_⟩
    rw [← sp]
    unfold um sc mst
    rw [if_pos hQ0, if_pos hP0, Int.zero_mul, Int.zero_mul]
  have hm1 : mst P s < 2 * P := by
    unfold mst
    split
    · omega
    · have := Int.emod_lt_of_pos s hP0; omega
  have hmp : 0 < mst P s := by
    unfold mst
    split
    · omega
    · have := Int.emod_nonneg s (b := P) (by omega); omega
  have hm0 : 0 ≤ mst P s := by
    unfold mst
    split
    · omega
    · have := Int.emod_nonneg s (b := P) (by omega); omega
  have he := est_ge (L := Lp) (s := s) hP0
  obtain ⟨ln, hln, hln2⟩ := has_len (frp + 1) (mst P s) hm0 (by rw [p2, ← hp]; exact hm1)
  obtain ⟨t, ht⟩ : ∃ t, t = max (est P Lp s + ln - 1 - frq) Lq := ⟨_, rfl⟩
  have ht1 : t ≤ est P Lp s := by omega
  have ht2 : Lq ≤ t := by omega
  have hpt := p2_pos (est P Lp s - t).toNat
  have hq0 : 0 ≤ mst P s * p2 (est P Lp s - t).toNat := Int.mul_nonneg hm0 (by omega)
  have hq1 : mst P s * p2 (est P Lp s - t).toNat < 2 * Q := by
    have a1 : mst P s * p2 (est P Lp s - t).toNat < p2 ln * p2 (est P Lp s - t).toNat := Int.mul_lt_mul_of_pos_right hln.1 hpt
    rw [← p2_add] at a1
    have a2 := p2_mono (m := ln + (est P Lp s - t).toNat) (n := frq + 1) (by omega)
    rw [p2, ← hq] at a2
    omega
  have hq2 : t = Lq ∨ Q ≤ mst P s * p2 (est P Lp s - t).toNat := by
    rcases Int.lt_or_eq_of_le ht2 with c | c
    · right
      rcases Nat.eq_zero_or_pos ln with z | z
      · exfalso
        have h9 := hln.1
        rw [z] at h9
        simp only [p2] at h9
        omega
      · have a1 : p2 (ln - 1) * p2 (est P Lp s - t).toNat ≤ mst P s * p2 (est P Lp s - t).toNat := Int.mul_le_mul_of_nonneg_right (hln.2 z) (by omega)
        rw [← p2_add, show ln - 1 + (est P Lp s - t).toNat = frq by omega, ← hq] at a1
        exact a1
    · left; exact c.symm
  have hum : ∀ B, B ≤ Lq → um Q Lq B (mst P s * p2 (est P Lp s - t).toNat + (t - Lq) * Q) = um P Lp B s := by
    intro B hB
    rw [um_pattern hQ0 hB ht2 hq0 (by omega) hq2]
    unfold um sc
    rw [Int.mul_assoc, ← p2_toNat_add (by omega) (by omega), show est P Lp s - t + (t - B) = est P Lp s - B by omega]
  have hn0 : 0 ≤ (t - Lq) * Q := Int.mul_nonneg (by omega) (by omega)
  refine ⟨_, by omega, ?_, hum⟩
  rcases Int.lt_or_le (mst P s * p2 (est P Lp s - t).toNat + (t - Lq) * Q) Iq with c | c
  · exact c
  · exfalso
    have a1 := um_le (F := Q) (L := Lq) (B := Lq) (s := Iq) (t := mst P s * p2 (est P Lp s - t).toNat + (t - Lq) * Q) hQ0 (by
      rw [hIq]; exact Int.mul_nonneg (by omega) (by omega)) (Int.le_refl _) c
    rw [hum Lq (Int.le_refl _), um_top hq hIq h2 (Int.le_refl _)] at a1
    have a2 := um_lt' (F := P) (L := Lp) (B := Lq) (s := s) (t := Ip) hP0 s0 hL s1
    rw [um_top hp hIp h1 hL] at a2
    have a3 := p2_mono (m := (limp - Lq).toNat) (n := (limq - Lq).toNat) (by omega)
    omega

theorem part_um {F L I s m E : Int} {ng a ok : Bool} (hF : 0 < F) (hL : L ≤ 0) (s0 : 0 ≤ s) (s1 : s < I) (h : PartIs F L I s ng a m E ok) : L ≤ E ∧ ∀ B, B ≤ L → sc m E B = um F L B s := by
  obtain ⟨_, _, p, q⟩ := h.2 s1
  rcases Int.lt_or_eq_of_le s0 with c | c
  · obtain ⟨o, n, n64, hm, hE⟩ := q c
    have e0 := est_ge (L := L) (s := s) hF
    refine ⟨by omega, fun B hB => ?_⟩
    unfold um
    rw [hE, sc_up (by omega), ← hm]
  · obtain ⟨rfl, rfl⟩ := p c.symm
    refine ⟨hL, fun B hB => ?_⟩
    rw [← c]
    unfold um sc mst
    rw [if_pos hF, Int.zero_mul, Int.zero_mul]
/-- the nearest pattern to a number that another width's pattern is, where this width has it -/
theorem near_there {F L I F' L' I' s q m E r : Int} {ng a ok : Bool} (hF : 0 < F) (hF' : 0 < F') (hL : L ≤ 0) (hL' : L' ≤ 0) (s0 : 0 ≤ s) (s1 : s < I) (h : PartIs F L I s ng a m E ok) (q0 : 0 ≤ q) (q1 : q ≤ I') (hu : ∀ B, B ≤ L → B ≤ L' → um F' L' B q = um F L B s) (hN : Near F' L' I' (2 * m + 0) (E - 1) r) : r = q := by
  obtain ⟨e1, u1⟩ := part_um hF hL s0 s1 h
  have hB1 : min (E - 1) (min L L') ≤ E - 1 := by omega
  have hB2 : min (E - 1) (min L L') ≤ L := by omega
  have hB3 : min (E - 1) (min L L') ≤ L' := by omega
  generalize min (E - 1) (min L L') = B at hB1 hB2 hB3
  have hv : sc (2 * m + 0) (E - 1) B = um F' L' B q := by
    rw [hu B hB2 hB3, Int.add_zero, ← u1 B hB2]
    have e2 := sc_up (N := m) (E := E - 1) (B := B) (k := 1) hB1
    rw [show E - 1 + ((1 : Nat) : Int) = E by omega, show m * p2 1 = 2 * m by rw [show p2 1 = 2 from rfl]; omega] at e2
    exact e2.symm
  obtain ⟨r0, r1, hn⟩ := hN
  obtain ⟨hi, lo⟩ := hn B hB1 hB3
  rw [hv] at hi lo
  rcases Int.lt_trichotomy r q with c | c | c
  · exfalso
    obtain ⟨g, _⟩ := hi (by omega)
    have a1 := um_le (F := F') (L := L') (B := B) (s := r + 1) (t := q) hF' (by omega) hB3 (by omega)
    have a2 := um_lt (F := F') (L := L') (B := B) (s := r) hF' r0 hB3
    omega
  · exact c
  · exfalso
    obtain ⟨g, _⟩ := lo (by omega)
    have a1 := um_le (F := F') (L := L') (B := B) (s := q) (t := r - 1) hF' q0 hB3 (by omega)
    have a2 := um_lt (F := F') (L := L') (B := B) (s := r - 1) hF' (by omega) hB3
    rw [Int.sub_add_cancel] at a2
    omega

theorem sgn_part {S r : Int} (ng : Bool) (r0 : 0 ≤ r) (r1 : r < S) : (r + b2i ng * S) % S = r ∧ ng = decide (S ≤ r + b2i ng * S) ∧ 0 ≤ r + b2i ng * S ∧ r + b2i ng * S < 2 * S := by
  cases ng
  · rw [show b2i false = 0 from rfl, Int.zero_mul, Int.add_zero]
    exact ⟨Int.emod_eq_of_lt r0 r1, by rw [decide_eq_false]; omega, r0, by omega⟩
  · rw [show b2i true = 1 from rfl, Int.one_mul]
    exact ⟨by rw [Int.add_emod_right, Int.emod_eq_of_lt r0 r1], by rw [decide_eq_true]; omega, by omega, by omega⟩

set_option maxHeartbeats 1000000 in
theorem noNumber_d (w : World) : Calls Tryz.prog 67 #[.agg #[.int .i64 64, .int .i64 52, .int .i64 (-1074)]] w fun e w' => e = .returned (.int .u64 9221120237041090560) ∧ Below w.heap.size w w' := by
  have ho : bits .or .u64 9218868437227405312 2251799813685248 = 9221120237041090560 := by decide
  go_enter Tryz.func67, Tryz.ntmps67
  go_upto_region 1 with fail
  have C := cell3_new w (.int .i64 64) (.int .i64 52) (.int .i64 (-1074)) 68
  have K1 := bel_new w (.cells #[.int .i64 64, .int .i64 52, .int .i64 (-1074)] 68)
  generalize w.alloc (.cells #[.int .i64 64, .int .i64 52, .int .i64 (-1074)] 68) = w1 at *
  have K : Below w1.heap.size w1 w1.drew := (Below.refl _ _).drew
  go_region_held3 (fun w' => w'.cell? ⟨w.heap.size, 0, none⟩ = some (.int .i64 64) ∧ w'.cell? ⟨w.heap.size, 1, none⟩ = some (.int .i64 52) ∧ w'.cell? ⟨w.heap.size, 2, none⟩ = some (.int .i64 (-1074)))
    (first
      | with_reducible exact ⟨(C.below K).c0, (C.below K).c1, (C.below K).c2⟩
      | go_keep)
    (first
      | (go_at_call 36; (with_reducible refine (infinite_d _).mono ?_); rintro e w2 ⟨rfl, hb⟩; replace K := below_trans K hb; clear hb)
      | (go_at_call 63; (with_reducible refine (leastNormal_d _).mono ?_); rintro e w2 ⟨rfl, hb⟩; replace K := below_trans K hb; clear hb))
  all_goals go_wp2
  all_goals go_ret
  all_goals exact ⟨rfl, below_trans K1 K⟩

set_option maxRecDepth 20000 in
set_option maxHeartbeats 8000000 in
theorem to_64_16 {w : World} (L : Lays w) (T : Brn w) (x s : Int) (ng : Bool) (h0 : 0 ≤ x) (h1 : x < 65536) (hs : x % 32768 = s) (hng : ng = decide (32768 ≤ x)) : Calls Tryz.prog 40 #[.int .u16 x] w fun e w' => ∃ y ok, e = .returned (.tuple #[.int .u64 y, .bool ok]) ∧ 0 ≤ y ∧ y < 18446744073709551616 ∧ ToP 9223372036854775808 4503599627370496 (-1074) 9218868437227405312 1024 (-24) 31744 s ng y ok ∧ Below w.heap.size w w' := by
  have s0 : 0 ≤ s := by omega
  have s1 : s < 32768 := by omega
  have hxs : x = s + b2i ng * 32768 := by
    subst hng
    by_cases c : 32768 ≤ x
    · rw [decide_eq_true c, show b2i true = 1 from rfl]; omega
    · rw [decide_eq_false c, show b2i false = 0 from rfl]; omega
  have Hxs := hide hxs
  have Hs := hide hs
  clear hxs hs
  go_enter Tryz.func40, Tryz.ntmps40
  go_wp2_with fail
  with_reducible refine (layoutOf_64 L).mono ?_
  rintro e w1 ⟨rfl, K1⟩
  go_upto_region 2 with fail
  have C := cell3_new w1 (.int .i64 64) (.int .i64 52) (.int .i64 (-1074)) 68
  have K := below_trans K1 (bel_new w1 (.cells #[.int .i64 64, .int .i64 52, .int .i64 (-1074)] 68))
  generalize w1.alloc (.cells #[.int .i64 64, .int .i64 52, .int .i64 (-1074)] 68) = w2 at *
  go_wp2_with fail
  with_reducible refine (parts_16 (L.below K) (T.below K) x s ng h0 h1 Hs.out hng).mono ?_
  rintro x' w3 ⟨a, m, E, ok, rfl, hP, kb⟩
  replace C := C.below kb
  replace K := below_trans K kb
  clear kb
  obtain ⟨m0, m1, E0, E1⟩ := part_bounds (F := 1024) (L := (-24)) (S := 32768) (by decide) (by decide) (by decide) s0 s1 (by unfold est; split <;> omega) (by decide) hP
  have Hng := hide hng
  clear hng
  by_cases fin : s < 31744
  · obtain ⟨rfl, rfl, -, -⟩ := hP.2 fin
    have HP := hide hP
    clear hP
    go_wp2_with fail
    with_reducible refine (from_any m m0 (by omega)).mono ?_
    rintro x' w4 ⟨vm, rfl, hM, kb⟩
    replace K := below_trans K kb
    clear kb
    go_wp2_with fail
    with_reducible refine (round_64 (L.below K) (neg := a) (more := false) hM.arg (by decide) (by omega) (by omega)).mono ?_
    rintro x' w5 ⟨r, rfl, hN, kb⟩
    replace K := below_trans K kb
    clear kb hM
    have r0 := hN.1
    have r1 := hN.2.1
    obtain ⟨y1, y2, y3, y4⟩ := sgn_part (S := 9223372036854775808) a r0 (by omega)
    have HN := hide hN
    clear hN
    generalize hy : r + b2i a * 9223372036854775808 = y at *
    have HY := hide hy
    clear hy
    go_wp2_with fail
    with_reducible refine (parts_64 (L.below K) (T.below K) y r a y3 (by omega) y1 y2).mono ?_
    rintro x' w6 ⟨p, n, g, k, rfl, hP2, kb⟩
    replace K := below_trans K kb
    clear kb
    have HT := hide (show ToP 9223372036854775808 4503599627370496 (-1074) 9218868437227405312 1024 (-24) 31744 s a y (k && (n == m) && (g == E)) from Or.inr (Or.inr ⟨fin, m, E, r, p, n, g, k, HP.out, HN.out, HY.out.symm, hP2, rfl⟩))
    clear hP2 y1 y2 HN HY HP
    cases k
    · go_wp2
      go_ret2
      exact ⟨y, _, rfl, y3, by omega, HT.out, K⟩
    by_cases en : n = m
    · have en' : (n == m) = true := by simp [en]
      by_cases ef : g = E
      · have ef' : (g == E) = true := by simp [ef]
        have HT2 := hide (show ToP 9223372036854775808 4503599627370496 (-1074) 9218868437227405312 1024 (-24) 31744 s a y true by have h := HT.out; rw [en', ef'] at h; exact h)
        clear en ef HT
        go_wp2
        go_ret2
        exact ⟨y, _, rfl, y3, by omega, HT2.out, K⟩
      · have ef' : (g == E) = false := by simp [ef]
        have HT2 := hide (show ToP 9223372036854775808 4503599627370496 (-1074) 9218868437227405312 1024 (-24) 31744 s a y false by have h := HT.out; rw [en', ef'] at h; exact h)
        clear en ef HT
        go_wp2
        go_ret2
        exact ⟨y, _, rfl, y3, by omega, HT2.out, K⟩
    · have en' : (n == m) = false := by simp [en]
      have HT2 := hide (show ToP 9223372036854775808 4503599627370496 (-1074) 9218868437227405312 1024 (-24) 31744 s a y false by have h := HT.out; rw [en'] at h; simpa using h)
      clear en HT
      go_wp2
      go_ret2
      exact ⟨y, _, rfl, y3, by omega, HT2.out, K⟩
  obtain ⟨rfl, rfl, rfl, rfl⟩ := hP.1 (by omega)
  clear hP
  go_wp2_with fail
  with_reducible refine (class_16 (L.below K) x s h0 h1 Hs.out).mono ?_
  rintro x' w4 ⟨rfl, kb⟩
  replace C := C.below kb
  replace K := below_trans K kb
  clear kb
  have HCN := hide (cls_nan 32768 1024 s)
  generalize cls 32768 1024 s = cl at *
  have c0 := C.c0; have c1 := C.c1; have c2 := C.c2
  by_cases nan : 31744 < s
  · have ec : cl = 5 := HCN.out.2 (by omega)
    have ec' : (cl == 5) = true := by simp [ec]
    have HT := hide (show ToP 9223372036854775808 4503599627370496 (-1074) 9218868437227405312 1024 (-24) 31744 s ng 9221120237041090560 true from Or.inl ⟨nan, by decide, rfl⟩)
    clear ec HCN
    go_wp2_with fail
    with_reducible refine (noNumber_d _).mono ?_
    rintro x' w5 ⟨rfl, kb⟩
    go_wp2
    go_ret2
    exact ⟨_, _, rfl, by decide, by decide, HT.out, below_trans K kb⟩
  have ec : ¬ cl = 5 := fun h => nan (by have := HCN.out.1 h; omega)
  have ec' : (cl == 5) = false := by simp [ec]
  have es : s = 31744 := by omega
  clear ec HCN c0 c1 c2
  go_wp2_with fail
  with_reducible refine (layoutOf_16 (L.below K)).mono ?_
  rintro x' w5 ⟨rfl, kb⟩
  replace C := C.below kb
  replace K := below_trans K kb
  clear kb
  go_wp2_with fail
  with_reducible refine (infinite_h _).mono ?_
  rintro x' w6 ⟨rfl, kb⟩
  replace C := C.below kb
  replace K := below_trans K kb
  clear kb
  have c0 := C.c0; have c1 := C.c1; have c2 := C.c2
  cases ng
  · have ex : x = 31744 := by have h := Hxs.out; rw [show b2i false = 0 from rfl] at h; omega
    have ex' : (x == 31744) = true := by simp [ex]
    have HT := hide (show ToP 9223372036854775808 4503599627370496 (-1074) 9218868437227405312 1024 (-24) 31744 s false 9218868437227405312 true from Or.inr (Or.inl ⟨es, by decide, rfl⟩))
    clear ex es Hxs Hs
    go_wp2_with fail
    with_reducible refine (infinite_d _).mono ?_
    rintro x' w7 ⟨rfl, kb⟩
    go_wp2
    go_ret2
    exact ⟨_, _, rfl, by decide, by decide, HT.out, below_trans K kb⟩
  · have ex : ¬ x = 31744 := by have h := Hxs.out; rw [show b2i true = 1 from rfl] at h; omega
    have ex' : (x == 31744) = false := by simp [ex]
    have HT := hide (show ToP 9223372036854775808 4503599627370496 (-1074) 9218868437227405312 1024 (-24) 31744 s true 18442240474082181120 true from Or.inr (Or.inl ⟨es, by decide, rfl⟩))
    have ho : bits .or .u64 9218868437227405312 9223372036854775808 = 18442240474082181120 := by decide
    clear ex es Hxs Hs
    go_upto_region 11 with fail
    have KK : Below w6.heap.size w6 w6.drew := (Below.refl _ _).drew
    go_region_held3 (fun w' => w'.cell? ⟨w1.heap.size, 0, none⟩ = some (.int .i64 64) ∧ w'.cell? ⟨w1.heap.size, 1, none⟩ = some (.int .i64 52) ∧ w'.cell? ⟨w1.heap.size, 2, none⟩ = some (.int .i64 (-1074)))
      (first
        | with_reducible exact ⟨(C.below KK).c0, (C.below KK).c1, (C.below KK).c2⟩
        | go_keep)
      (first
        | (go_at_call 36; (with_reducible refine (infinite_d _).mono ?_); rintro e w7 ⟨rfl, hb⟩; replace KK := below_trans KK hb; clear hb)
        | (go_at_call 62; (with_reducible refine (sign_d _).mono ?_); rintro e w7 ⟨rfl, hb⟩; replace KK := below_trans KK hb; clear hb))
    all_goals go_wp2
    all_goals go_ret2
    all_goals exact ⟨_, _, rfl, by decide, by decide, HT.out, below_trans K KK⟩

set_option maxRecDepth 20000 in
set_option maxHeartbeats 8000000 in
theorem to_64_32 {w : World} (L : Lays w) (T : Brn w) (x s : Int) (ng : Bool) (h0 : 0 ≤ x) (h1 : x < 4294967296) (hs : x % 2147483648 = s) (hng : ng = decide (2147483648 ≤ x)) : Calls Tryz.prog 39 #[.int .u32 x] w fun e w' => ∃ y ok, e = .returned (.tuple #[.int .u64 y, .bool ok]) ∧ 0 ≤ y ∧ y < 18446744073709551616 ∧ ToP 9223372036854775808 4503599627370496 (-1074) 9218868437227405312 8388608 (-149) 2139095040 s ng y ok ∧ Below w.heap.size w w' := by
  have s0 : 0 ≤ s := by omega
  have s1 : s < 2147483648 := by omega
  have hxs : x = s + b2i ng * 2147483648 := by
    subst hng
    by_cases c : 2147483648 ≤ x
    · rw [decide_eq_true c, show b2i true = 1 from rfl]; omega
    · rw [decide_eq_false c, show b2i false = 0 from rfl]; omega
  have Hxs := hide hxs
  have Hs := hide hs
  clear hxs hs
  go_enter Tryz.func39, Tryz.ntmps39
  go_wp2_with fail
  with_reducible refine (layoutOf_64 L).mono ?_
  rintro e w1 ⟨rfl, K1⟩
  go_upto_region 2 with fail
  have C := cell3_new w1 (.int .i64 64) (.int .i64 52) (.int .i64 (-1074)) 68
  have K := below_trans K1 (bel_new w1 (.cells #[.int .i64 64, .int .i64 52, .int .i64 (-1074)] 68))
  generalize w1.alloc (.cells #[.int .i64 64, .int .i64 52, .int .i64 (-1074)] 68) = w2 at *
  go_wp2_with fail
  with_reducible refine (parts_32 (L.below K) (T.below K) x s ng h0 h1 Hs.out hng).mono ?_
  rintro x' w3 ⟨a, m, E, ok, rfl, hP, kb⟩
  replace C := C.below kb
  replace K := below_trans K kb
  clear kb
  obtain ⟨m0, m1, E0, E1⟩ := part_bounds (F := 8388608) (L := (-149)) (S := 2147483648) (by decide) (by decide) (by decide) s0 s1 (by unfold est; split <;> omega) (by decide) hP
  have Hng := hide hng
  clear hng
  by_cases fin : s < 2139095040
  · obtain ⟨rfl, rfl, -, -⟩ := hP.2 fin
    have HP := hide hP
    clear hP
    go_wp2_with fail
    with_reducible refine (from_any m m0 (by omega)).mono ?_
    rintro x' w4 ⟨vm, rfl, hM, kb⟩
    replace K := below_trans K kb
    clear kb
    go_wp2_with fail
    with_reducible refine (round_64 (L.below K) (neg := a) (more := false) hM.arg (by decide) (by omega) (by omega)).mono ?_
    rintro x' w5 ⟨r, rfl, hN, kb⟩
    replace K := below_trans K kb
    clear kb hM
    have r0 := hN.1
    have r1 := hN.2.1
    obtain ⟨y1, y2, y3, y4⟩ := sgn_part (S := 9223372036854775808) a r0 (by omega)
    have HN := hide hN
    clear hN
    generalize hy : r + b2i a * 9223372036854775808 = y at *
    have HY := hide hy
    clear hy
    go_wp2_with fail
    with_reducible refine (parts_64 (L.below K) (T.below K) y r a y3 (by omega) y1 y2).mono ?_
    rintro x' w6 ⟨p, n, g, k, rfl, hP2, kb⟩
    replace K := below_trans K kb
    clear kb
    have HT := hide (show ToP 9223372036854775808 4503599627370496 (-1074) 9218868437227405312 8388608 (-149) 2139095040 s a y (k && (n == m) && (g == E)) from Or.inr (Or.inr ⟨fin, m, E, r, p, n, g, k, HP.out, HN.out, HY.out.symm, hP2, rfl⟩))
    clear hP2 y1 y2 HN HY HP
    cases k
    · go_wp2
      go_ret2
      exact ⟨y, _, rfl, y3, by omega, HT.out, K⟩
    by_cases en : n = m
    · have en' : (n == m) = true := by simp [en]
      by_cases ef : g = E
      · have ef' : (g == E) = true := by simp [ef]
        have HT2 := hide (show ToP 9223372036854775808 4503599627370496 (-1074) 9218868437227405312 8388608 (-149) 2139095040 s a y true by have h := HT.out; rw [en', ef'] at h; exact h)
        clear en ef HT
        go_wp2
        go_ret2
        exact ⟨y, _, rfl, y3, by omega, HT2.out, K⟩
      · have ef' : (g == E) = false := by simp [ef]
        have HT2 := hide (show ToP 9223372036854775808 4503599627370496 (-1074) 9218868437227405312 8388608 (-149) 2139095040 s a y false by have h := HT.out; rw [en', ef'] at h; exact h)
        clear en ef HT
        go_wp2
        go_ret2
        exact ⟨y, _, rfl, y3, by omega, HT2.out, K⟩
    · have en' : (n == m) = false := by simp [en]
      have HT2 := hide (show ToP 9223372036854775808 4503599627370496 (-1074) 9218868437227405312 8388608 (-149) 2139095040 s a y false by have h := HT.out; rw [en'] at h; simpa using h)
      clear en HT
      go_wp2
      go_ret2
      exact ⟨y, _, rfl, y3, by omega, HT2.out, K⟩
  obtain ⟨rfl, rfl, rfl, rfl⟩ := hP.1 (by omega)
  clear hP
  go_wp2_with fail
  with_reducible refine (class_32 (L.below K) x s h0 h1 Hs.out).mono ?_
  rintro x' w4 ⟨rfl, kb⟩
  replace C := C.below kb
  replace K := below_trans K kb
  clear kb
  have HCN := hide (cls_nan 2147483648 8388608 s)
  generalize cls 2147483648 8388608 s = cl at *
  have c0 := C.c0; have c1 := C.c1; have c2 := C.c2
  by_cases nan : 2139095040 < s
  · have ec : cl = 5 := HCN.out.2 (by omega)
    have ec' : (cl == 5) = true := by simp [ec]
    have HT := hide (show ToP 9223372036854775808 4503599627370496 (-1074) 9218868437227405312 8388608 (-149) 2139095040 s ng 9221120237041090560 true from Or.inl ⟨nan, by decide, rfl⟩)
    clear ec HCN
    go_wp2_with fail
    with_reducible refine (noNumber_d _).mono ?_
    rintro x' w5 ⟨rfl, kb⟩
    go_wp2
    go_ret2
    exact ⟨_, _, rfl, by decide, by decide, HT.out, below_trans K kb⟩
  have ec : ¬ cl = 5 := fun h => nan (by have := HCN.out.1 h; omega)
  have ec' : (cl == 5) = false := by simp [ec]
  have es : s = 2139095040 := by omega
  clear ec HCN c0 c1 c2
  go_wp2_with fail
  with_reducible refine (layoutOf_32 (L.below K)).mono ?_
  rintro x' w5 ⟨rfl, kb⟩
  replace C := C.below kb
  replace K := below_trans K kb
  clear kb
  go_wp2_with fail
  with_reducible refine (infinite_s _).mono ?_
  rintro x' w6 ⟨rfl, kb⟩
  replace C := C.below kb
  replace K := below_trans K kb
  clear kb
  have c0 := C.c0; have c1 := C.c1; have c2 := C.c2
  cases ng
  · have ex : x = 2139095040 := by have h := Hxs.out; rw [show b2i false = 0 from rfl] at h; omega
    have ex' : (x == 2139095040) = true := by simp [ex]
    have HT := hide (show ToP 9223372036854775808 4503599627370496 (-1074) 9218868437227405312 8388608 (-149) 2139095040 s false 9218868437227405312 true from Or.inr (Or.inl ⟨es, by decide, rfl⟩))
    clear ex es Hxs Hs
    go_wp2_with fail
    with_reducible refine (infinite_d _).mono ?_
    rintro x' w7 ⟨rfl, kb⟩
    go_wp2
    go_ret2
    exact ⟨_, _, rfl, by decide, by decide, HT.out, below_trans K kb⟩
  · have ex : ¬ x = 2139095040 := by have h := Hxs.out; rw [show b2i true = 1 from rfl] at h; omega
    have ex' : (x == 2139095040) = false := by simp [ex]
    have HT := hide (show ToP 9223372036854775808 4503599627370496 (-1074) 9218868437227405312 8388608 (-149) 2139095040 s true 18442240474082181120 true from Or.inr (Or.inl ⟨es, by decide, rfl⟩))
    have ho : bits .or .u64 9218868437227405312 9223372036854775808 = 18442240474082181120 := by decide
    clear ex es Hxs Hs
    go_upto_region 11 with fail
    have KK : Below w6.heap.size w6 w6.drew := (Below.refl _ _).drew
    go_region_held3 (fun w' => w'.cell? ⟨w1.heap.size, 0, none⟩ = some (.int .i64 64) ∧ w'.cell? ⟨w1.heap.size, 1, none⟩ = some (.int .i64 52) ∧ w'.cell? ⟨w1.heap.size, 2, none⟩ = some (.int .i64 (-1074)))
      (first
        | with_reducible exact ⟨(C.below KK).c0, (C.below KK).c1, (C.below KK).c2⟩
        | go_keep)
      (first
        | (go_at_call 36; (with_reducible refine (infinite_d _).mono ?_); rintro e w7 ⟨rfl, hb⟩; replace KK := below_trans KK hb; clear hb)
        | (go_at_call 62; (with_reducible refine (sign_d _).mono ?_); rintro e w7 ⟨rfl, hb⟩; replace KK := below_trans KK hb; clear hb))
    all_goals go_wp2
    all_goals go_ret2
    all_goals exact ⟨_, _, rfl, by decide, by decide, HT.out, below_trans K KK⟩

/-- a finite pattern's digits are read as it -/
theorem exv_dv {F L I s pt : Int} {ds : List Int} (W : Wide F L I) (h : ExV F L s ds pt) (s0 : 0 ≤ s) (s1 : s < I) : DV F L I (dg ds) (pt - ds.length) s := by
  have f0 := W.f0
  have e := h.2.2.2.2.2.2
  unfold DV
  rw [e]
  have T := tn_pos (-(pt - (ds.length : Int))).toNat
  generalize tn (-(pt - (ds.length : Int))).toNat = D at *
  refine ⟨s0, by omega, fun _ => ?_, fun hr => ?_⟩
  · have g := um_lt (F := F) (L := L) (B := L) (s := s) (by omega) s0 (by omega)
    have g2 := Int.mul_lt_mul_of_pos_right g T
    unfold mid2
    rw [Int.add_mul]
    exact ⟨by omega, fun e => by omega⟩
  · have g := um_lt (F := F) (L := L) (B := L) (s := s - 1) (by omega) (by omega) (by omega)
    have g2 := Int.mul_lt_mul_of_pos_right g T
    unfold mid2
    rw [Int.add_mul]
    rw [Int.sub_add_cancel] at g2 ⊢
    exact ⟨by omega, fun e => by omega⟩
/-- one number has one spelling -/
theorem exv_one {F L F' L' s s' pt pt' : Int} {ds ds' : List Int} (hF : 0 < F) (hL : L' ≤ L) (hL0 : L ≤ 0) (s0 : 0 ≤ s) (s0' : 0 ≤ s') (hz : s = 0 ↔ s' = 0) (hu : um F' L' L' s' = um F L L' s) (h : ExV F L s ds pt) (h' : ExV F' L' s' ds' pt') : ds' = ds ∧ pt' = pt := by
  obtain ⟨n1, -, -, -, z1, p1, e1⟩ := h
  obtain ⟨n2, -, -, -, z2, p2', e2⟩ := h'
  rcases Int.lt_or_eq_of_le s0 with c | c
  rotate_left
  · obtain ⟨rfl, rfl⟩ := z1 c.symm
    obtain ⟨rfl, rfl⟩ := z2 (hz.1 c.symm)
    exact ⟨rfl, rfl⟩
  have d1 := p1 c
  have d2 := p2' (by rcases Int.lt_or_eq_of_le s0' with k | k; exact k; exact absurd (hz.2 k.symm) (by omega))
  rw [um_lift hF hL] at hu
  generalize hq : pt - (ds.length : Int) = q at *
  generalize hq' : pt' - (ds'.length : Int) = q' at *
  have P := p2_pos (-L).toNat
  have Q := p2_pos (L - L').toNat
  have PQ : p2 (-L').toNat = p2 (-L).toNat * p2 (L - L').toNat := by
    rw [← p2_add]; congr 1; omega
  have key : dg ds * tn (q.toNat + (-q').toNat) = dg ds' * tn (q'.toNat + (-q).toNat) := by
    have PP := Int.mul_pos P Q
    refine Int.eq_of_mul_eq_mul_right (a := p2 (-L).toNat * p2 (L - L').toNat) (by omega) ?_
    have a1 : dg ds * tn (q.toNat + (-q').toNat) * (p2 (-L).toNat * p2 (L - L').toNat) = um F L L s * p2 (L - L').toNat * (tn (-q).toNat * tn (-q').toNat) := by
      have k : um F L L s * p2 (L - L').toNat * (tn (-q).toNat * tn (-q').toNat) = (um F L L s * tn (-q).toNat) * (p2 (L - L').toNat * tn (-q').toNat) := by ac_rfl
      rw [k, ← e1, tn_add]; ac_rfl
    have a2 : dg ds' * tn (q'.toNat + (-q).toNat) * (p2 (-L).toNat * p2 (L - L').toNat) = um F' L' L' s' * (tn (-q).toNat * tn (-q').toNat) := by
      have k : um F' L' L' s' * (tn (-q).toNat * tn (-q').toNat) = (um F' L' L' s' * tn (-q').toNat) * tn (-q).toNat := by ac_rfl
      rw [k, ← e2, PQ, tn_add]; ac_rfl
    rw [a1, a2, hu]
  have dz : dcmp (dg ds) q (dg ds') q' = 0 := by
    unfold dcmp
    rw [key]
    unfold sgn
    simp
  have pl := dcmp_places (p := pt) (q := pt') n1 n2 d1 d2
  rw [hq, hq', dz] at pl
  by_cases k1 : pt < pt'
  · rw [if_pos k1] at pl; omega
  rw [if_neg k1] at pl
  by_cases k2 : pt' < pt
  · rw [if_pos k2] at pl; omega
  rw [if_neg k2] at pl
  have fe : dg ds * tn ds'.length = dg ds' * tn ds.length := by
    unfold sgn at pl
    revert pl
    repeat' split
    all_goals intro pl
    all_goals omega
  exact ⟨(frac_eq ds ds' n1.1 n2.1 n1.2.2 n2.2.2 fe).symm, by omega⟩

/-- a pattern as one of 64 bits -/
def WideIs (F L I S x y : Int) : Prop := 0 ≤ y ∧ y < 18446744073709551616 ∧
  ((I ≤ x % S ∧ 9218868437227405312 ≤ y % 9223372036854775808) ∨
   (x % S < I ∧ y % 9223372036854775808 < 9218868437227405312 ∧ decide (9223372036854775808 ≤ y) = decide (S ≤ x) ∧ (x % S = 0 ↔ y % 9223372036854775808 = 0) ∧
     um 4503599627370496 (-1074) (-1074) (y % 9223372036854775808) = um F L (-1074) (x % S)))
theorem wide_of {F L I S lim x y : Int} {fr : Nat} {ok : Bool} (hF : F = p2 fr) (hfr : fr ≤ 52) (hL : -1074 ≤ L) (hL0 : L ≤ 0) (hlim : lim ≤ 1024) (hI : I = (lim + 1 - fr - L) * F) (h1 : L ≤ lim - 1 - fr) (hS : 0 < S) (h : ToP 9223372036854775808 4503599627370496 (-1074) 9218868437227405312 F L I (x % S) (decide (S ≤ x)) y ok) (y0 : 0 ≤ y) (y1 : y < 18446744073709551616) : WideIs F L I S x y := by
  refine ⟨y0, y1, ?_⟩
  have s0 : 0 ≤ x % S := Int.emod_nonneg _ (by omega)
  have hF0 : 0 < F := by rw [hF]; exact p2_pos fr
  rcases h with ⟨a, e, -⟩ | ⟨a, e, -⟩ | ⟨a, m, E, r, p, n, f, k, g1, g2, e, -, -⟩
  · left; omega
  · left
    refine ⟨by omega, ?_⟩
    obtain ⟨k, -⟩ := sgn_part (S := 9223372036854775808) (r := 9218868437227405312) (decide (S ≤ x)) (by omega) (by omega)
    rw [e, k]
    decide
  · right
    obtain ⟨q, q0, q1, hu⟩ := embed (limq := 1024) (Lq := -1074) (Q := 4503599627370496) (Iq := 9218868437227405312) (frq := 52) hF (by decide) hfr hL hlim hI (by decide) h1 (by decide) s0 a
    have hrq : r = q := near_there hF0 (by decide) hL0 (by decide) s0 a g1 q0 (by omega) (fun B _ hB => hu B hB) g2
    subst hrq
    obtain ⟨k1, k2, -⟩ := sgn_part (S := 9223372036854775808) (decide (S ≤ x)) q0 (by omega)
    rw [e]
    rw [k1]
    have u := hu (-1074) (by decide)
    refine ⟨a, q1, k2.symm, ?_, u⟩
    constructor
    · intro z
      rw [z, um_lift hF0 hL, um_zero hF0, Int.zero_mul] at u
      rcases Int.lt_or_eq_of_le q0 with c | c
      · have := um_lt' (F := 4503599627370496) (L := -1074) (B := -1074) (s := 0) (t := r) (by decide) (by decide) (by decide) c
        rw [um_zero (by decide)] at this
        omega
      · exact c.symm
    · intro z
      rw [z, um_zero (by decide)] at u
      rcases Int.lt_or_eq_of_le s0 with c | c
      · have := um_lt' (F := F) (L := L) (B := -1074) (s := 0) (t := x % S) hF0 (by decide) hL c
        rw [um_lift (s := 0) hF0 hL, um_zero hF0, Int.zero_mul] at this
        omega
      · exact c.symm

set_option maxHeartbeats 2000000 in
theorem lwide_h {w : World} (T : Lays w) (U : Brn w) {v x : Int} (v0 : 0 ≤ v) (v1 : v < 256) (hv : v % 4 = 0) (x0 : 0 ≤ x) (x1 : x < 65536) :
    Calls Tryz.prog 14 #[.int .u8 v, .int .u64 x] w fun e w' => ∃ y, e = .returned (.int .u64 y) ∧ WideIs 1024 (-24) 31744 32768 x y ∧ Below w.heap.size w w' := by
  have wx : IntKind.u16.wrap x = x := by rw [IntKind.wrap_u16]; exact Int.emod_eq_of_lt x0 x1
  have HE := hide (to_64_16 (w := w) T U x (x % 32768) (decide (32768 ≤ x)) x0 x1 rfl rfl)
  go_enter Tryz.func14, Tryz.ntmps14
  go_wp2_with fail
  refine HE.out.mono ?_
  rintro z w1 ⟨y, ok, rfl, y0, y1, h, b1⟩
  have HH := hide (wide_of (lim := 16) (fr := 10) (by decide) (by decide) (by decide) (by decide) (by decide) (by decide) (by decide) (by decide) h y0 y1)
  clear h HE
  go_wp2
  go_ret
  exact ⟨_, rfl, HH.out, b1⟩

set_option maxHeartbeats 2000000 in
theorem lwide_s {w : World} (T : Lays w) (U : Brn w) {v x : Int} (v0 : 0 ≤ v) (v1 : v < 256) (hv : v % 4 = 1) (x0 : 0 ≤ x) (x1 : x < 4294967296) :
    Calls Tryz.prog 14 #[.int .u8 v, .int .u64 x] w fun e w' => ∃ y, e = .returned (.int .u64 y) ∧ WideIs 8388608 (-149) 2139095040 2147483648 x y ∧ Below w.heap.size w w' := by
  have wx : IntKind.u32.wrap x = x := by rw [IntKind.wrap_u32]; exact Int.emod_eq_of_lt x0 x1
  have HE := hide (to_64_32 (w := w) T U x (x % 2147483648) (decide (2147483648 ≤ x)) x0 x1 rfl rfl)
  go_enter Tryz.func14, Tryz.ntmps14
  go_wp2_with fail
  refine HE.out.mono ?_
  rintro z w1 ⟨y, ok, rfl, y0, y1, h, b1⟩
  have HH := hide (wide_of (lim := 128) (fr := 23) (by decide) (by decide) (by decide) (by decide) (by decide) (by decide) (by decide) (by decide) h y0 y1)
  clear h HE
  go_wp2
  go_ret
  exact ⟨_, rfl, HH.out, b1⟩

set_option maxHeartbeats 2000000 in
theorem lwide_o {w : World} (T : Lays w) (U : Brn w) {v x : Int} (v0 : 0 ≤ v) (v1 : v < 256) (hv : v % 4 = 3) (x0 : 0 ≤ x) (x1 : x < 65536) :
    Calls Tryz.prog 14 #[.int .u8 v, .int .u64 x] w fun e w' => ∃ y, e = .returned (.int .u64 y) ∧ WideIs 1024 (-24) 31744 32768 x y ∧ Below w.heap.size w w' := by
  have wx : IntKind.u16.wrap x = x := by rw [IntKind.wrap_u16]; exact Int.emod_eq_of_lt x0 x1
  have HE := hide (to_64_16 (w := w) T U x (x % 32768) (decide (32768 ≤ x)) x0 x1 rfl rfl)
  go_enter Tryz.func14, Tryz.ntmps14
  go_wp2_with fail
  refine HE.out.mono ?_
  rintro z w1 ⟨y, ok, rfl, y0, y1, h, b1⟩
  have HH := hide (wide_of (lim := 16) (fr := 10) (by decide) (by decide) (by decide) (by decide) (by decide) (by decide) (by decide) (by decide) h y0 y1)
  clear h HE
  go_wp2
  go_ret
  exact ⟨_, rfl, HH.out, b1⟩

set_option maxHeartbeats 2000000 in
theorem lwide_d {w : World} {v x : Int} (v0 : 0 ≤ v) (v1 : v < 256) (hv : v % 4 = 2) (x0 : 0 ≤ x) (x1 : x < 18446744073709551616) :
    Calls Tryz.prog 14 #[.int .u8 v, .int .u64 x] w fun e w' => ∃ y, e = .returned (.int .u64 y) ∧ WideIs 4503599627370496 (-1074) 9218868437227405312 9223372036854775808 x y ∧ Below w.heap.size w w' := by
  have HH := hide (show WideIs 4503599627370496 (-1074) 9218868437227405312 9223372036854775808 x x from ⟨x0, x1, by
    rcases Int.lt_or_le (x % 9223372036854775808) 9218868437227405312 with c | c
    · exact .inr ⟨c, c, rfl, Iff.rfl, rfl⟩
    · exact .inl ⟨c, c⟩⟩)
  go_enter Tryz.func14, Tryz.ntmps14
  go_wp2
  go_ret
  exact ⟨_, rfl, HH.out, Below.refl _ _⟩

theorem lwide_any {w : World} (T : Lays w) (U : Brn w) {v F L I S n x : Int} (h : Wd v F L I S n) (x0 : 0 ≤ x) (x1 : x < 2 * S) :
    Calls Tryz.prog 14 #[.int .u8 v, .int .u64 x] w fun e w' => ∃ y, e = .returned (.int .u64 y) ∧ WideIs F L I S x y ∧ Below w.heap.size w w' := by
  obtain ⟨v0, v1, h⟩ := h
  rcases h with ⟨h, rfl, rfl, rfl, rfl, rfl⟩ | ⟨h, rfl, rfl, rfl, rfl, rfl⟩ | ⟨h, rfl, rfl, rfl, rfl, rfl⟩ | ⟨h, rfl, rfl, rfl, rfl, rfl⟩
  · exact lwide_h T U v0 v1 h x0 (by omega)
  · exact lwide_s T U v0 v1 h x0 (by omega)
  · exact lwide_d v0 v1 h x0 (by omega)
  · exact lwide_o T U v0 v1 h x0 (by omega)

theorem Wd.low {v F L I S n : Int} (h : Wd v F L I S n) : -1074 ≤ L ∧ L ≤ 0 := by
  rcases h.2.2 with ⟨_, rfl, rfl, rfl, rfl, rfl⟩ | ⟨_, rfl, rfl, rfl, rfl, rfl⟩ | ⟨_, rfl, rfl, rfl, rfl, rfl⟩ | ⟨_, rfl, rfl, rfl, rfl, rfl⟩ <;> decide

set_option maxRecDepth 100000 in
set_option maxHeartbeats 8000000 in
theorem back_walk7 {w : World} (TT : Lays w ∧ Brn w) {v x : Int} (v0 : 0 ≤ v) (v1 : v < 256) (x0 : 0 ≤ x) (x1 : x < 18446744073709551616) :
    Calls Tryz.prog 4 #[.int .u8 v, .int .u64 x] w fun e w' => e = .returned (.bool true) ∧ Below w.heap.size w w' := by
  obtain ⟨T, U⟩ := TT
  obtain ⟨F, L, I, S, n, hW⟩ := wd_of v v0 v1
  obtain ⟨i0, i1, i2, -⟩ := hW.ends
  have HW := hide hW
  clear hW
  have S0 : 0 < 2 * S := by omega
  go_enter Tryz.func4, Tryz.ntmps4
  go_wp2_with fail
  refine (lives7 T U).mono ?_
  rintro z w1 ⟨rfl, K⟩
  go_wp2_with fail
  refine (lfit_any HW.out x0 x1).mono ?_
  rintro z w2 ⟨rfl, rfl⟩
  obtain ⟨p, hp⟩ : ∃ p, x % (2 * S) = p := ⟨_, rfl⟩
  have p0 : 0 ≤ p := by rw [← hp]; exact Int.emod_nonneg _ (by omega)
  have p1 : p < 2 * S := by rw [← hp]; exact Int.emod_lt_of_pos _ S0
  rw [hp]
  clear hp
  go_wp2_with fail
  refine (lexact_any (T.below K) (U.below K) HW.out p0 p1).mono ?_
  rintro z w4 ⟨b4, d, ok, rfl, X1⟩
  replace K := below_trans K b4
  have HX1 := hide X1
  clear b4 X1
  have K5 := fun o => below_trans K (al_one w4 o)
  have E2 := hide (show ∀ o, _ from fun o => lwide_any (w := w4.alloc o) (T.below (K5 o)) (U.below (K5 o)) HW.out p0 p1)
  rcases HX1.out with ⟨h1, rfl, rfl⟩ | ⟨h1, rfl, ds, pt, rfl, e1⟩
  · have C1 := cell3_new w4 (.bool false) (.string ⟨#[]⟩) (.int .i64 0) 23
    clear HX1
    go_wp2_with fail
    refine (E2.out _).mono ?_
    rintro z w5 ⟨y, rfl, hY, b5⟩
    have K6 := below_trans (K5 _) b5
    replace C1 := C1.below b5
    have HY := hide hY
    have y0 := hY.1; have y1 := hY.2.1
    clear hY
    go_wp2_with fail
    refine (parts_64 (T.below K6) (U.below K6) y _ _ y0 y1 rfl rfl).mono ?_
    rintro z w6 ⟨a, m, E, ok2, rfl, hP, b6⟩
    have c1 : 9218868437227405312 ≤ y % 9223372036854775808 := by
      rcases HY.out.2.2 with ⟨-, k⟩ | ⟨k, -⟩
      · exact k
      · omega
    obtain ⟨rfl, rfl, rfl, rfl⟩ := hP.1 c1
    clear hP c1
    replace C1 := C1.below b6
    have c0 := C1.c0; have c1 := C1.c1; have c2 := C1.c2
    go_wp2
    go_ret
    exact ⟨rfl, below_trans K6 b6⟩
  · obtain ⟨ng, hng⟩ : ∃ b, decide (S ≤ p) = b := ⟨_, rfl⟩
    rw [hng]
    have HE1 := hide e1
    have C1 := cell3_new w4 (.bool ng) (.string (strOfNums ds)) (.int .i64 pt) 23
    clear e1 HX1
    go_wp2_with fail
    refine (E2.out _).mono ?_
    rintro z w5 ⟨y, rfl, hY, b5⟩
    have K6 := below_trans (K5 _) b5
    replace C1 := C1.below b5
    have HY := hide hY
    have y0 := hY.1; have y1 := hY.2.1
    clear hY b5
    go_wp2_with fail
    refine (parts_64 (T.below K6) (U.below K6) y _ _ y0 y1 rfl rfl).mono ?_
    rintro z w6 ⟨a, m, E, ok2, rfl, hP, b6⟩
    obtain ⟨c1, c2, c3, c4⟩ : y % 9223372036854775808 < 9218868437227405312 ∧ decide (9223372036854775808 ≤ y) = ng ∧ (p % S = 0 ↔ y % 9223372036854775808 = 0) ∧ um 4503599627370496 (-1074) (-1074) (y % 9223372036854775808) = um F L (-1074) (p % S) := by
      rcases HY.out.2.2 with ⟨k, -⟩ | ⟨-, k1, k2, k3, k4⟩
      · omega
      · exact ⟨k1, k2.trans hng, k3, k4⟩
    obtain ⟨rfl, -⟩ := hP.2 c1
    clear hP HY
    replace C1 := C1.below b6
    replace K6 := below_trans K6 b6
    clear b6
    have Hc := hide (And.intro c1 (And.intro c2 (And.intro c3 c4)))
    clear c1 c2 c3 c4 E2
    have c0 := C1.c0; have c1 := C1.c1; have c2 := C1.c2
    go_wp2_with fail
    refine (lread_any (N := ds.length) (T.below K6) HW.out HE1.out.1.1.byt rfl rfl (by have := HE1.out.2.1; omega) (by have := HE1.out.2.2.1; omega) (by have := HE1.out.2.2.2.1; omega)).mono ?_
    rintro z w7 ⟨b7, y', ok3, rfl, hR⟩
    rcases hR with ⟨hno, -, -⟩ | ⟨-, rfl, r, rfl, r0, r1, dv⟩
    · exact absurd HE1.out.1.1 hno
    have q0 : 0 ≤ p % S := Int.emod_nonneg _ (by omega)
    have hr : r = p % S := dv_first HW.out.wide dv (exv_dv HW.out.wide HE1.out q0 h1)
    have ep : r + b2i ng * S = p := by
      rw [hr, ← hng]
      rcases Int.lt_or_le p S with c | c
      · rw [Int.emod_eq_of_lt p0 c, show decide (S ≤ p) = false by simp; omega]; show p + 0 * S = p; omega
      · rw [show decide (S ≤ p) = true by simp; exact c]
        have k : p % S = p - S := by rw [show p = (p - S) + S by omega, Int.add_emod_right, Int.emod_eq_of_lt (by omega) (by omega)]; omega
        rw [k]; show p - S + 1 * S = p; omega
    rw [ep]
    clear ep hr dv r0 r1
    replace C1 := C1.below b7
    replace K6 := below_trans K6 b7
    clear b7 c0 c1 c2 Hc
    go_wp2_with fail
    refine (lwide_any (T.below K6) (U.below K6) HW.out p0 p1).mono ?_
    rintro z w8 ⟨y2, rfl, hY2, b8⟩
    replace C1 := C1.below b8
    replace K6 := below_trans K6 b8
    have z0 := hY2.1; have z1 := hY2.2.1
    have HY2 := hide hY2
    clear hY2 b8
    go_wp2_with fail
    refine (exact_d (T.below K6) (U.below K6) z0 z1 rfl rfl).mono ?_
    rintro z w9 ⟨b9, hX⟩
    obtain ⟨c1, c2, c3, c4⟩ : y2 % 9223372036854775808 < 9218868437227405312 ∧ decide (9223372036854775808 ≤ y2) = ng ∧ (p % S = 0 ↔ y2 % 9223372036854775808 = 0) ∧ um 4503599627370496 (-1074) (-1074) (y2 % 9223372036854775808) = um F L (-1074) (p % S) := by
      rcases HY2.out.2.2 with ⟨k, -⟩ | ⟨-, k1, k2, k3, k4⟩
      · omega
      · exact ⟨k1, k2.trans hng, k3, k4⟩
    rcases hX with ⟨k, -⟩ | ⟨-, ds2, pt2, rfl, e2⟩
    · omega
    obtain ⟨l1, l2⟩ := HW.out.low
    obtain ⟨rfl, rfl⟩ := exv_one (by have := HW.out.wide.f0; omega) l1 l2 q0 (Int.emod_nonneg _ (by decide)) c3 c4 HE1.out e2
    rw [c2]
    clear e2 c1 c2 c3 c4 HY2
    have C2 := cell3_new w9 (.bool ng) (.string (strOfNums ds2)) (.int .i64 pt2) 23
    replace C1 := (C1.below b9).below (al_one w9 (.cells #[.bool ng, .string (strOfNums ds2), .int .i64 pt2] 23))
    replace K6 := below_trans (below_trans K6 b9) (al_one w9 (.cells #[.bool ng, .string (strOfNums ds2), .int .i64 pt2] 23))
    clear b9 hng
    have c0 := C1.c0; have c1 := C1.c1; have c2 := C1.c2
    have c3 := C2.c0; have c4 := C2.c1; have c5 := C2.c2
    clear C1 C2
    obtain ⟨s, hs⟩ : ∃ s, s = strOfNums ds2 := ⟨_, rfl⟩
    have hn : s.size = ds2.length := by rw [hs, strOfNums_size]
    have Hs := hide hs
    clear hs
    rw [← Hs.out] at c0 c1 c2 c3 c4 c5 K6
    rw [← Hs.out]
    rcases Nat.eq_zero_or_pos ds2.length with c | c
    · have pz : pt2 = 0 := by
        have k := HE1.out.2.2.2.2
        exact (k.1 (by
          rcases Int.lt_or_eq_of_le q0 with g | g
          · have := k.2.1 g; omega
          · exact g.symm)).2
      subst pz
      have nz : s.size = 0 := by omega
      clear hn c
      go_wp2
      go_ret
      exact ⟨rfl, K6⟩
    · have nz : 0 < s.size := by omega
      have ix : ∀ q (h : q < s.size), ((s[q]'h).toNat : Int) = Nt.lb ds2 q := by
        intro q h
        have k := Hs.out
        subst k
        exact txt_at h HE1.out.1.1.byt
      have n0 : Nt.lb ds2 0 ≠ 48 := HE1.out.1.2.1 c
      have n1 : Nt.lb ds2 (ds2.length - 1) ≠ 48 := HE1.out.1.2.2 c
      have hz0 : 0 < s.size := nz
      have hz9 : s.size - 1 < s.size := by omega
      have h0 : ¬ (s[0]'hz0).toNat = 48 := fun h => n0 (by rw [← ix 0 (by omega), h]; rfl)
      have h9 : ¬ (s[s.size - 1]'hz9).toNat = 48 := fun h => n1 (by rw [← hn, ← ix (s.size - 1) (by omega), h]; rfl)
      have l9 := HE1.out.2.1
      rw [← hn] at l9
      have hw : wrap64 ((s.size : Int) - 1) = (s.size : Int) - 1 := by unfold wrap64; omega
      have nz2 : ¬ s.size = 0 := by omega
      have nz3 : 0 < (s.size : Int) := by omega
      have b0 := hide (show ((((s[0]'hz0).toNat : Int) != 48) && (((s[s.size - 1]'hz9).toNat : Int) != 48)) = true by simp; omega)
      clear ix n0 n1 hn c l9
      go_wp2
      go_ret
      refine ⟨?_, K6⟩
      show Ending.returned (.bool ((((s[0]'hz0).toNat : Int) != 48) && (((s[s.size - 1]'hz9).toNat : Int) != 48))) = _
      rw [b0.out]

end Go.Proofs.YtigehipclkoecaaGreatDoor
