/- IeeeN, IeeeO, IeeeX -/
import Derived.Test.YtinfkoiifemjmaaGreatDoorS11
import Derived.Test.YtinfkoiifemjmaaGreatDoorS03
import Derived.Test.YtinfkoiifemjmaaGreatDoorS04
import Derived.Test.YtinfkoiifemjmaaGreatDoorS02
import Derived.Laws.Small
namespace Go.Proofs.YtinfkoiifemjmaaGreatDoor
open Go.RowKit
set_option linter.unusedVariables false

theorem or_one (x : Int) (h0 : 0 ≤ x) (h1 : x < 9223372036854775808) : bits .or .u64 (x * 2) 1 = x * 2 + 1 := by
  rw [u64_or (x * 2) 1 (by omega) (by omega) (by decide) (by decide), show (1 : Int).toNat = 1 from rfl]
  have := Nat.two_pow_add_eq_or_of_lt (i := 1) (b := 1) (by decide) x.toNat
  rw [show (x * 2).toNat = 2 ^ 1 * x.toNat by omega, ← this]
  omega
/-- the sticky digit -/
def sty (r mb : Int) : Int := if r = 0 ∧ mb = 0 then 0 else 1
def b2i (b : Bool) : Int := if b then 1 else 0
theorem b2i_or (b : Bool) : b2i b = 0 ∨ b2i b = 1 := by cases b <;> simp [b2i]
theorem cut_low {A : Int} {size d : Nat} (h : IsLen A size) (hA : 0 ≤ A) (hd : d = size - 62) : 0 ≤ A / p2 d ∧ A / p2 d < 4611686018427387904 := by
  have hp := p2_pos d
  refine ⟨Int.ediv_nonneg hA (by omega), ?_⟩
  rw [Int.ediv_lt_iff_lt_mul hp, show (4611686018427387904 : Int) = p2 62 from by decide, ← p2_add]
  have h1 := h.1
  have h2 := p2_mono (m := size) (n := 62 + d) (by omega)
  omega
theorem shr_cut {w : World} {va : Value} {A : Int} {ka size d : Nat} (ha : Arg w va A ka) (hka : ka ≤ 1099511627776) (h : IsLen A size) (hd : d = size - 62) (hb : d ≤ 4503599627370496) :
    Calls Tryz.prog 152 #[va, .int .i64 d] w fun e w' => ∃ v, e = .returned (.tuple #[v, .bool (decide (0 < A % p2 d)), .bool true]) ∧ Num w.heap.size w' v (A / p2 d) ka ∧ Below w.heap.size w w' := by
  have hA := ha.nonneg
  rcases Int.lt_or_eq_of_le hA with c | c
  · refine shr_near (W := d / 32) (s := d % 32) ha hka (by omega) (by omega) ?_
    have hs : 0 < size := by
      rcases Nat.eq_zero_or_pos size with e | e
      · subst e; have := h.1; simp only [p2] at this; omega
      · exact e
    have h1 := h.2 hs
    have h2 := p2_mono (m := 32 * (d / 32)) (n := size - 1) (by omega)
    rw [p2_32] at h2
    omega
  · have hs : size = 0 := by
      rcases Nat.eq_zero_or_pos size with e | e
      · exact e
      · have := h.2 e; have := p2_pos (size - 1); omega
    have hd0 : d = 0 := by omega
    subst hd0
    refine (shr_far (n := ((0 : Nat) : Int)) ha (by decide) (by decide) (by rw [← c]; decide)).mono ?_
    rintro e w' ⟨rfl, rfl⟩
    refine ⟨.slice none 0 0, by rw [← c]; rfl, ?_, Below.refl _ _⟩
    rw [← c]
    exact ⟨[], ⟨none, rfl, by simp [maxLen], fun h => by simp at h⟩, Nt.canon_nil, by simp [Nt.val, Nt.vt], by simp⟩
set_option maxHeartbeats 4000000 in
theorem cut_any {w : World} {va : Value} {A e : Int} {ka size d : Nat} {more : Bool} (ha : Arg w va A ka) (hka : ka ≤ 1099511627776) (hlen : IsLen A size) (hsz : size ≤ 35184372088832) (hd : d = size - 62) (e0 : -4611686018427387904 ≤ e) (e1 : e ≤ 4611686018427387904) :
    Calls Tryz.prog 166 #[va, .int .i64 e, .bool more] w fun x w' => x = .returned (.tuple #[.int .u64 (2 * (A / p2 d) + sty (A % p2 d) (b2i more)), .int .i64 (e + d - 1)]) ∧ Below w.heap.size w w' := by
  have hA := ha.nonneg
  obtain ⟨t0, t1⟩ := cut_low hlen hA hd
  go_enter Tryz.func166, Tryz.ntmps166
  go_wp2_with fail
  with_reducible refine (len_any ha hka).mono ?_
  rintro x w1 ⟨k, rfl, hk, _, rfl⟩
  obtain rfl := isLen_unique hk hlen
  have hmax : (if ((k : Int) - 62) < 0 then 0 else ((k : Int) - 62)) = (d : Int) := by split <;> omega
  have Hd := hide hd
  have Hlen := hide hlen
  clear hd hlen hk
  go_wp2_with fail
  with_reducible refine (shr_cut ha hka Hlen.out Hd.out (by have := Hd.out; omega)).mono ?_
  rintro x w2 ⟨vt, rfl, hN, K⟩
  have hm0 := Int.emod_nonneg A (b := p2 d) (by have := p2_pos d; omega)
  generalize hT : A / p2 d = top at *
  generalize hR : A % p2 d = rest at *
  have HT := hide hT
  have HR := hide hR
  clear hT hR
  go_wp2_with fail
  with_reducible refine (uint_yes hN.arg (by omega)).mono ?_
  rintro x w3 ⟨rfl, rfl⟩
  have ho := or_one top t0 (by omega)
  have hdd : (d : Int) ≤ 35184372088832 := by have := Hd.out; omega
  by_cases c : 0 < rest
  · have hc : decide (0 < rest) = true := decide_eq_true c
    have hs : sty rest (b2i more) = 1 := by unfold sty; rw [if_neg (by omega)]
    have Hs := hide hs
    clear hs
    go_wp2
    go_ret2
    exact ⟨by rw [HT.out, HR.out, Hs.out, Int.mul_comm 2 top]; first | rfl | exact ret_tup2 (by omega), K⟩
  · have hc : decide (0 < rest) = false := decide_eq_false c
    have hr : rest = 0 := by omega
    cases more
    · have hs : sty rest (b2i false) = 0 := by unfold sty b2i; rw [if_pos (by simp [hr])]
      have Hs := hide hs
      clear hs hr
      go_wp2
      go_ret2
      exact ⟨by rw [HT.out, HR.out, Hs.out, Int.mul_comm 2 top, Int.add_zero]; first | rfl | exact ret_tup2 (by omega), K⟩
    · have hs : sty rest (b2i true) = 1 := by unfold sty b2i; rw [if_neg (by simp)]
      have Hs := hide hs
      clear hs hr
      go_wp2
      go_ret2
      exact ⟨by rw [HT.out, HR.out, Hs.out, Int.mul_comm 2 top]; first | rfl | exact ret_tup2 (by omega), K⟩

set_option maxHeartbeats 4000000 in
theorem half_up (w : World) (m : Int) (E : Nat) (m0 : 0 ≤ m) (hE : E < 64) (hf : m * p2 E < 18446744073709551616) : Calls Tryz.prog 168 #[.int .u64 m, .int .i64 E] w fun x w' => x = .returned (.int .u64 (m * p2 E)) ∧ w' = w := by
  have hmin : min E 64 = E := by omega
  have hp := p2_pos E
  have hw : IntKind.u64.wrap (m * 2 ^ E) = m * p2 E := by
    have e : m * (2 : Int) ^ E = m * p2 E := by rw [p2_two]; simp
    rw [e, IntKind.wrap_u64]
    have := Int.mul_nonneg m0 (Int.le_of_lt hp)
    omega
  clear hf
  go_enter Tryz.func168, Tryz.ntmps168
  go_wp2
  go_ret
  exact ⟨by first | rfl | exact ret_int (by simpa using hw), rfl⟩
theorem half_math {m P q0 r : Int} (hP : 0 < P) (hm : m = q0 * (2 * P) + r) (r0 : 0 ≤ r) (r1 : r < 2 * P) :
    (P < r → Half (q0 + 1) (2 * P) (2 * m)) ∧ (r < P → Half q0 (2 * P) (2 * m)) ∧ (r = P → q0 % 2 = 1 → Half (q0 + 1) (2 * P) (2 * m)) ∧ (r = P → q0 % 2 = 0 → Half q0 (2 * P) (2 * m)) := by
  have e1 : 2 * (q0 + 1) * (2 * P) = 2 * (q0 * (2 * P)) + 2 * (2 * P) := by grind
  have e2 : 2 * q0 * (2 * P) = 2 * (q0 * (2 * P)) := by grind
  refine ⟨fun h => ⟨by omega, by omega, fun e => by omega, fun e => by omega⟩, fun h => ⟨by omega, by omega, fun e => by omega, fun e => by omega⟩, fun h h' => ⟨by omega, by omega, fun e => by omega, fun e => by omega⟩, fun h h' => ⟨by omega, by omega, fun e => by omega, fun e => by omega⟩⟩
set_option maxHeartbeats 4000000 in
theorem half_down (w : World) (m e : Int) (D : Nat) (m0 : 0 ≤ m) (m1 : m < 9223372036854775808) (hD0 : 1 ≤ D) (hD : D ≤ 63) (he : e = -(D : Int)) : Calls Tryz.prog 168 #[.int .u64 m, .int .i64 e] w fun x w' => ∃ q, x = .returned (.int .u64 q) ∧ 0 ≤ q ∧ Half q (p2 D) (2 * m) ∧ Below w.heap.size w w' := by
  have hp := p2_pos (D - 1)
  have hpD : p2 D = 2 * p2 (D - 1) := by obtain ⟨n, rfl⟩ : ∃ n, D = n + 1 := ⟨D - 1, by omega⟩; rw [Nat.add_sub_cancel]; rfl
  have hmin : min D 64 = D := by omega
  have hmin2 : min (D - 1) 64 = D - 1 := by omega
  have hneg : -e = (D : Int) := by omega
  have en : ¬ 0 ≤ e := by omega
  have hpow : (2 : Int) ^ D = 2 * p2 (D - 1) := by rw [← hpD, p2_two]; simp
  have hpow2 : (2 : Int) ^ (D - 1) = p2 (D - 1) := by rw [p2_two]; simp
  have hbig := p2_mono (m := D - 1) (n := 62) (by omega)
  rw [show p2 62 = 4611686018427387904 from by decide] at hbig
  rw [hpD]
  have hdm := Int.mul_ediv_add_emod m (2 * p2 (D - 1))
  have r0 := Int.emod_nonneg m (b := 2 * p2 (D - 1)) (by omega)
  have r1 := Int.emod_lt_of_pos m (b := 2 * p2 (D - 1)) (by omega)
  have q0 : 0 ≤ m / (2 * p2 (D - 1)) := Int.ediv_nonneg m0 (by omega)
  have q1 : m / (2 * p2 (D - 1)) ≤ m := Int.ediv_le_self _ m0
  generalize p2 (D - 1) = P at *
  have hq : m / 2 ^ D = m / (2 * P) := by rw [hpow]
  generalize m % (2 * P) = r at *
  generalize m / (2 * P) = q at *
  have hnn : 0 ≤ 2 * P * q := Int.mul_nonneg (by omega) q0
  have hw : IntKind.u64.wrap (q * 2 ^ D) = m - r := by
    rw [hpow, Int.mul_comm q, IntKind.wrap_u64]; omega
  obtain ⟨D1, hD1⟩ : ∃ n, n = D - 1 := ⟨_, rfl⟩
  rw [← hD1] at hmin2 hpow2
  have wD : IntKind.i64.wrap (D : Int) = D := by rw [IntKind.wrap_i64]; omega
  have wD1 : IntKind.i64.wrap ((D : Int) - 1) = (D1 : Int) := by rw [IntKind.wrap_i64]; omega
  have D1n : (0 : Int) ≤ (D1 : Int) := by omega
  have Dn : (0 : Int) ≤ (D : Int) := by omega
  have hw2 : IntKind.u64.wrap (m - (m - r)) = r := by rw [IntKind.wrap_u64]; omega
  have hw3 : IntKind.u64.wrap (1 * 2 ^ D1) = P := by rw [hpow2, IntKind.wrap_u64]; omega
  have hw4 : IntKind.u64.wrap (2 ^ D1) = P := by rw [hpow2, IntKind.wrap_u64]; omega
  obtain ⟨M1, M2, M3, M4⟩ := half_math (m := m) (P := P) (q0 := q) (r := r) hp (by rw [Int.mul_comm]; omega) r0 r1
  have H1 := hide M1
  have H2 := hide M2
  have H3 := hide M3
  have H4 := hide M4
  clear M1 M2 M3 M4 hdm hpow hpow2 hpD hD1 hnn
  go_enter Tryz.func168, Tryz.ntmps168
  go_upto_region 4 with fail
  have K : Below w.heap.size w w.drew := (Below.refl _ _).drew
  go_region_held3 (fun _ => True)
    (trivial)
    (fail)
  all_goals (
    clear hw hw2 hw3 hw4 hq wD wD1 hmin hmin2
    by_cases a1 : P < r
    · have Hq := hide (H1.out a1)
      go_wp2
      go_ret
      exact ⟨_, rfl, by omega, Hq.out, K⟩
    by_cases a2 : r = P
    · have a2' : (r == P) = true := by simp [a2]
      by_cases a3 : q % 2 = 1
      · have a3' : (q % 2 == 1) = true := by simp [a3]
        have Hq := hide (H3.out a2 a3)
        clear a2 a3
        go_wp2
        go_ret
        exact ⟨_, rfl, by omega, Hq.out, K⟩
      · have a3' : (q % 2 == 1) = false := by simp [a3]
        have Hq := hide (H4.out a2 (by omega))
        clear a2 a3
        go_wp2
        go_ret
        exact ⟨_, rfl, by omega, Hq.out, K⟩
    · have a2' : (r == P) = false := by simp [a2]
      have Hq := hide (H2.out (by omega))
      clear a2
      go_wp2
      go_ret
      exact ⟨_, rfl, by omega, Hq.out, K⟩)
theorem half_any (w : World) (m e : Int) (m0 : 0 ≤ m) (m1 : m < 9223372036854775808) (h1 : 0 ≤ e → e < 64 ∧ m * p2 e.toNat < 18446744073709551616) (h2 : e < 0 → -63 ≤ e) :
    Calls Tryz.prog 168 #[.int .u64 m, .int .i64 e] w fun x w' => ∃ q, x = .returned (.int .u64 q) ∧ 0 ≤ q ∧ (0 ≤ e → q = m * p2 e.toNat) ∧ (e < 0 → Half q (p2 (-e).toNat) (2 * m)) ∧ Below w.heap.size w w' := by
  rcases Int.lt_or_le e 0 with c | c
  · refine (half_down w m e (-e).toNat m0 m1 (by omega) (by have := h2 c; omega) (by omega)).mono ?_
    rintro x w' ⟨q, rfl, q0, hq, K⟩
    exact ⟨q, rfl, q0, fun h => by omega, fun _ => hq, K⟩
  · obtain ⟨n, rfl⟩ := Int.eq_ofNat_of_zero_le c
    obtain ⟨h3, h4⟩ := h1 c
    rw [Int.toNat_natCast] at h4
    refine (half_up w m n m0 (by omega) h4).mono ?_
    rintro x w' ⟨rfl, rfl⟩
    exact ⟨_, rfl, Int.mul_nonneg m0 (Int.le_of_lt (p2_pos n)), fun _ => by rw [Int.toNat_natCast], fun h => by omega, Below.refl _ _⟩
theorem short_len {A mb st : Int} {size d : Nat} (hlen : IsLen A size) (hA : 0 ≤ A) (hmb : mb = 0 ∨ mb = 1) (hz : ¬ (size = 0 ∧ mb = 0)) (hd : d = size - 62)
    (hst : (st = 0 ∧ A % p2 d = 0 ∧ mb = 0) ∨ (st = 1 ∧ ¬ (A % p2 d = 0 ∧ mb = 0))) : IsLen (2 * (A / p2 d) + st) (size + 1 - d) := by
  rcases Nat.eq_zero_or_pos d with c | c
  · have e0 : p2 d = 1 := by rw [c]; rfl
    rw [e0, Int.emod_one] at hst
    rw [e0, Int.ediv_one, c, Nat.sub_zero]
    have hs : st = mb := by rcases hst with ⟨h1, _, h2⟩ | ⟨h1, h2⟩ <;> omega
    rw [hs]
    refine ⟨by have := hlen.1; rw [p2]; omega, fun _ => ?_⟩
    rw [Nat.add_sub_cancel]
    rcases Nat.eq_zero_or_pos size with k | k
    · subst k; simp only [p2]; omega
    · have := hlen.2 k
      obtain ⟨n, rfl⟩ : ∃ n, size = n + 1 := ⟨size - 1, by omega⟩
      rw [Nat.add_sub_cancel] at this
      simp only [p2]
      omega
  · have hp := p2_pos d
    have e1 : size + 1 - d = 63 := by omega
    rw [e1]
    have hlo : p2 61 ≤ A / p2 d := by
      rw [Int.le_ediv_iff_mul_le hp, ← p2_add]
      have := hlen.2 (by omega)
      rwa [show size - 1 = 61 + d by omega] at this
    have hhi := (cut_low hlen hA hd).2
    rw [show p2 61 = 2305843009213693952 from by decide] at hlo
    refine ⟨?_, fun _ => ?_⟩
    · rw [show p2 63 = 9223372036854775808 from by decide]; omega
    · rw [show p2 (63 - 1) = 4611686018427387904 from by decide]; omega
theorem sty_or (r mb : Int) : (sty r mb = 0 ∧ r = 0 ∧ mb = 0) ∨ (sty r mb = 1 ∧ ¬ (r = 0 ∧ mb = 0)) := by
  unfold sty
  by_cases h : r = 0 ∧ mb = 0
  · rw [if_pos h]; exact Or.inl ⟨rfl, h⟩
  · rw [if_neg h]; exact Or.inr ⟨rfl, h⟩
/-- that the shift of the cut number fits -/
theorem mid_fits {sh L e t : Int} {fr size d : Nat} (fr2 : fr ≤ 52) (hd : d = size - 62) (hs : IsLen sh (size + 1 - d)) (s0 : 0 ≤ sh) (he : L - size ≤ e) (ht : t = max (e + size - 1 - fr) L) :
    (0 ≤ e + d - 1 - t → e + d - 1 - t < 64 ∧ sh * p2 (e + d - 1 - t).toNat < 18446744073709551616) ∧ (e + d - 1 - t < 0 → -63 ≤ e + d - 1 - t) := by
  refine ⟨fun h => ⟨by omega, ?_⟩, fun h => by omega⟩
  have h1 := p2_pos (e + d - 1 - t).toNat
  have h2 : sh * p2 (e + d - 1 - t).toNat < p2 (size + 1 - d) * p2 (e + d - 1 - t).toNat := Int.mul_lt_mul_of_pos_right hs.1 h1
  rw [← p2_add] at h2
  have h3 := p2_mono (m := size + 1 - d + (e + d - 1 - t).toNat) (n := 53) (by omega)
  rw [show p2 53 = 9007199254740992 from by decide] at h3
  omega

set_option maxHeartbeats 2000000 in
theorem limit_d (w : World) : Calls Tryz.prog 165 #[.agg #[.int .i64 64, .int .i64 52, .int .i64 (-1074)]] w fun x w' => x = .returned (.int .i64 1024) ∧ Below w.heap.size w w' := by
  go_enter Tryz.func165, Tryz.ntmps165
  go_upto_region 1 with fail
  have C := cell3_new w (.int .i64 64) (.int .i64 52) (.int .i64 (-1074)) 80
  have K1 := bel_new w (.cells #[.int .i64 64, .int .i64 52, .int .i64 (-1074)] 80)
  generalize w.alloc (.cells #[.int .i64 64, .int .i64 52, .int .i64 (-1074)] 80) = w1 at *
  have K : Below w1.heap.size w1 w1.drew := (Below.refl _ _).drew
  go_region_held3 (fun w' => w'.cell? ⟨w.heap.size, 0, none⟩ = some (.int .i64 64) ∧ w'.cell? ⟨w.heap.size, 1, none⟩ = some (.int .i64 52) ∧ w'.cell? ⟨w.heap.size, 2, none⟩ = some (.int .i64 (-1074)))
    (first
      | with_reducible exact ⟨(C.below K).c0, (C.below K).c1, (C.below K).c2⟩
      | go_keep)
    (first
      | (go_at_call 43; (with_reducible refine (infinite_d _).mono ?_); rintro e w2 ⟨rfl, hb⟩; replace K := below_trans K hb; clear hb)
      | (go_at_call 106; (with_reducible refine (steps_d _ 9218868437227405312 (by decide) (by decide)).mono ?_); rintro e w2 ⟨rfl, hb⟩; replace K := below_trans K hb; clear hb; rw [show est 4503599627370496 (-1074) 9218868437227405312 = 972 by decide]))
  all_goals (
    have c0 := (C.below K).c0
    have c1 := (C.below K).c1
    have c2 := (C.below K).c2
    go_wp2
    go_ret
    exact ⟨rfl, below_trans K1 K⟩)

set_option maxHeartbeats 2000000 in
theorem pattern_d (w : World) (m e : Int) (m0 : 0 ≤ m) (he : (-1074) ≤ e) (hI : m + (e - (-1074)) * 4503599627370496 ≤ 9218868437227405312) : Calls Tryz.prog 167 #[.agg #[.int .i64 64, .int .i64 52, .int .i64 (-1074)], .int .u64 m, .int .i64 e] w fun x w' => x = .returned (.int .u64 (m + (e - (-1074)) * 4503599627370496)) ∧ Below w.heap.size w w' := by
  obtain ⟨p, rfl⟩ : ∃ p, e = p + (-1074) := ⟨e - (-1074), by omega⟩
  rw [show p + (-1074) - (-1074) = p by omega] at *
  have p0 : 0 ≤ p := by omega
  have p1 : p ≤ 65536 := by omega
  go_enter Tryz.func167, Tryz.ntmps167
  go_wp2
  go_ret
  exact ⟨ret_int (by first | omega | (simp only [IntKind.wrap_u64, IntKind.wrap_i64]; omega)), bel_new _ _⟩

end Go.Proofs.YtinfkoiifemjmaaGreatDoor

namespace Go.Proofs.YtinfkoiifemjmaaGreatDoor
open Go.RowKit
set_option linter.unusedVariables false

set_option maxRecDepth 20000 in
set_option maxHeartbeats 8000000 in
theorem nearest_d {w : World} {va : Value} {A e : Int} {ka : Nat} {more : Bool} (ha : Arg w va A ka) (hka : ka ≤ 1099511627776) (e0 : -9223372036854775808 ≤ e) (e1 : e < 9223372036854775808) :
    Calls Tryz.prog 131 #[.agg #[.int .i64 64, .int .i64 52, .int .i64 (-1074)], va, .int .i64 e, .bool more] w fun x w' => ∃ r, x = .returned (.int .u64 r) ∧ Near 4503599627370496 (-1074) 9218868437227405312 (2 * A + b2i more) (e - 1) r ∧ Below w.heap.size w w' := by
  have hA := ha.nonneg
  go_enter Tryz.func131, Tryz.ntmps131
  go_upto_region 1 with fail
  have C := cell3_new w (.int .i64 64) (.int .i64 52) (.int .i64 (-1074)) 80
  have K1 := bel_new w (.cells #[.int .i64 64, .int .i64 52, .int .i64 (-1074)] 80)
  have A1 := ha.below K1
  generalize w.alloc (.cells #[.int .i64 64, .int .i64 52, .int .i64 (-1074)] 80) = w1 at *
  clear ha
  go_wp2_with fail
  with_reducible refine (len_any A1 hka).mono ?_
  rintro x w2 ⟨size, rfl, hlen, hsz, rfl⟩
  have Hlen := hide hlen
  clear hlen
  have sz1 : (size : Int) ≤ 35184372088832 := by omega
  have c0 := C.c0; have c1 := C.c1; have c2 := C.c2
  by_cases z : size = 0
  · have z' : ((size : Int) == 0) = true := by simp [z]
    cases more
    · have HN := hide (near_low (F := 4503599627370496) (L := (-1074)) (I := 9218868437227405312) (e := e) (by decide) (by decide) hA Hlen.out (b2i_or false) (Or.inl ⟨z, rfl⟩))
      clear z
      go_wp2
      go_ret
      exact ⟨0, rfl, HN.out, K1⟩
    · obtain ⟨more0, hm⟩ : ∃ b, b = true := ⟨_, rfl⟩
      have Hmore := hide hm
      have Hz := hide (show ¬ (size = 0 ∧ b2i more0 = 0) by rw [hm]; simp [b2i])
      clear z hm
      by_cases lo : e < (-1074) - (size : Int)
      · have HN := hide (near_low (F := 4503599627370496) (L := (-1074)) (I := 9218868437227405312) (by decide) (by decide) hA Hlen.out (b2i_or true) (Or.inr lo))
        skip
        go_wp2
        go_ret
        exact ⟨0, rfl, HN.out, K1⟩
      skip
      go_wp2_with fail
      with_reducible refine (limit_d _).mono ?_
      rintro x w3 ⟨rfl, b3⟩
      clear c0 c1 c2
      replace C := C.below b3
      replace K1 := below_trans K1 b3
      replace A1 := A1.below b3
      clear b3
      have c0 := C.c0; have c1 := C.c1; have c2 := C.c2
      by_cases hi : 1024 - (size : Int) < e
      · have HN := hide (near_high (F := 4503599627370496) (L := (-1074)) (I := 9218868437227405312) (lim := 1024) (fr := 52) (by decide) (by decide) (by decide) hA Hlen.out (b2i_or more0) Hz.out hi)
        rw [Hmore.out] at HN
        go_wp2_with fail
        with_reducible refine (infinite_d _).mono ?_
        rintro x w4 ⟨rfl, b4⟩
        go_wp2
        go_ret
        exact ⟨_, rfl, HN.out, below_trans K1 b4⟩
      obtain ⟨d, hd⟩ : ∃ d, d = size - 62 := ⟨_, rfl⟩
      have Hd := hide hd
      clear hd
      go_wp2_with fail
      with_reducible refine (cut_any A1 hka Hlen.out (by omega) Hd.out (by omega) (by omega)).mono ?_
      rintro x w4 ⟨rfl, b4⟩
      clear c0 c1 c2
      replace C := C.below b4
      replace K1 := below_trans K1 b4
      clear b4 A1
      have Hst := hide (sty_or (A % p2 d) (b2i more0))
      have Hsl := hide (short_len Hlen.out hA (b2i_or more0) Hz.out Hd.out Hst.out)
      rw [Hmore.out] at Hst Hsl
      obtain ⟨sl0, sl1⟩ := cut_low Hlen.out hA Hd.out
      have st01 : 0 ≤ sty (A % p2 d) (b2i true) ∧ sty (A % p2 d) (b2i true) ≤ 1 := by rcases Hst.out with h | h <;> omega
      obtain ⟨st0, st1⟩ := st01
      generalize hSH : 2 * (A / p2 d) + sty (A % p2 d) (b2i true) = sh at *
      have sh0 : 0 ≤ sh := by omega
      have sh1 : sh < 9223372036854775808 := by omega
      have HSH := hide hSH
      clear hSH sl0 sl1 st0 st1
      obtain ⟨t, ht⟩ : ∃ t, t = max (e + size - 1 - 52) (-1074) := ⟨_, rfl⟩
      have Hfit := hide (mid_fits (L := (-1074)) (fr := 52) (by decide) Hd.out Hsl.out sh0 (by omega) ht)
      have Hnear : ∀ q, 0 ≤ q → (0 ≤ e + d - 1 - t → q = sh * p2 (e + d - 1 - t).toNat) → (e + d - 1 - t < 0 → Half q (p2 (-(e + d - 1 - t)).toNat) (2 * sh)) → Hid (q ≤ 2 * 4503599627370496 ∧ (t = (-1074) ∨ 4503599627370496 ≤ q) ∧ q + (t - (-1074)) * 4503599627370496 ≤ 9218868437227405312 ∧ Near 4503599627370496 (-1074) 9218868437227405312 (2 * A + b2i true) (e - 1) (q + (t - (-1074)) * 4503599627370496)) := by
        intro q q0 h1 h2
        have hz := Hz.out
        rw [Hmore.out] at hz
        refine hide (near_of (lim := 1024) (fr := 52) (size := size) (d := d) (st := sty (A % p2 d) (b2i true)) (by decide) (by decide) (by decide) (by decide) (by decide) Hlen.out hA (b2i_or _) hz (by omega) Hd.out Hst.out (by rw [ht]; rfl) (fun h => ?_) (fun h => ?_) q0)
        · rw [HSH.out]; exact h1 (by omega)
        · rw [HSH.out, show t - (e + d - 1) = -(e + d - 1 - t) by omega]; exact h2 (by omega)
      have hdd := Hd.out
      have hln : ((size + 1 - d : Nat) : Int) = size + 1 - d := by omega
      have t0 : (-1074) ≤ t := by omega
      have t1 : t ≤ 4611686018427387904 := by omega
      have d0 : (d : Int) ≤ 35184372088832 := by omega
      have hw1 : IntKind.i64.wrap (e + d - 1 + ((size + 1 - d : Nat) : Int)) = e + size := by rw [IntKind.wrap_i64]; omega
      have hw2 : IntKind.i64.wrap (e + size - 1) = e + size - 1 := by rw [IntKind.wrap_i64]; omega
      have hw3 : IntKind.i64.wrap (e + size - 1 - 52) = e + size - 1 - 52 := by rw [IntKind.wrap_i64]; omega
      have hw4 : (if e + size - 1 - 52 < (-1074) then (-1074) else e + size - 1 - 52) = t := by split <;> omega
      have hw5 : IntKind.i64.wrap (e + d - 1 - t) = e + d - 1 - t := by rw [IntKind.wrap_i64]; omega
      have Hnn := hide Hnear
      have HT := hide ht
      clear hdd ht Hnear hln
      go_upto_region 7 with fail
      have K : Below w4.heap.size w4 w4.drew := (Below.refl _ _).drew
      go_region_held3 (fun w' => w'.cell? ⟨w.heap.size, 0, none⟩ = some (.int .i64 64) ∧ w'.cell? ⟨w.heap.size, 1, none⟩ = some (.int .i64 52) ∧ w'.cell? ⟨w.heap.size, 2, none⟩ = some (.int .i64 (-1074)))
        (first
                | with_reducible exact ⟨(C.below K).c0, (C.below K).c1, (C.below K).c2⟩
                | go_keep)
        (first
          | (go_at_call 161; (with_reducible refine (len64_any sh _ sh0 (by omega)).mono ?_); rintro x w5 ⟨ln, rfl, hll, _, rfl⟩; obtain rfl := isLen_unique hll Hsl.out; clear hll))
      all_goals (
        (try simp only [hw1, hw2, hw3, hw4])
        replace C := C.below K
        replace K1 := below_trans K1 K
        clear K hw1 hw2 hw3 hw4
        go_upto_region 8 with fail)
      all_goals (
        have K : Below w4.drew.heap.size w4.drew w4.drew.drew := (Below.refl _ _).drew
        go_region_held3 (fun w' => w'.cell? ⟨w.heap.size, 0, none⟩ = some (.int .i64 64) ∧ w'.cell? ⟨w.heap.size, 1, none⟩ = some (.int .i64 52) ∧ w'.cell? ⟨w.heap.size, 2, none⟩ = some (.int .i64 (-1074)))
          (first
                | with_reducible exact ⟨(C.below K).c0, (C.below K).c1, (C.below K).c2⟩
                | go_keep)
          (first
            | (go_at_call 168; (with_reducible refine (half_any _ sh (e + d - 1 - t) sh0 sh1 Hfit.out.1 Hfit.out.2).mono ?_); rintro x w6 ⟨q, rfl, q0, hq1, hq2, hb⟩; have HN := Hnn.out q q0 hq1 hq2; clear hq1 hq2; replace K := below_trans K hb; clear hb)
            | (go_at_call 167; (with_reducible refine (pattern_d _ q t q0 t0 HN.out.2.2.1).mono ?_); rintro x w7 ⟨rfl, hb⟩; replace K := below_trans K hb; clear hb)))
      all_goals (
        have HN2 := hide HN.out.2.2.2
        rw [show t - (-1074) = t + 1074 by omega] at HN2
        clear HN
        go_wp2
        go_ret
        exact ⟨_, rfl, HN2.out, below_trans K1 K⟩)
  · have z' : ((size : Int) == 0) = false := by simp [z]
    obtain ⟨more0, hm⟩ : ∃ b, b = more := ⟨_, rfl⟩
    have Hmore := hide hm
    have Hz := hide (show ¬ (size = 0 ∧ b2i more0 = 0) by omega)
    clear z hm
    by_cases lo : e < (-1074) - (size : Int)
    · have HN := hide (near_low (F := 4503599627370496) (L := (-1074)) (I := 9218868437227405312) (by decide) (by decide) hA Hlen.out (b2i_or more) (Or.inr lo))
      skip
      go_wp2
      go_ret
      exact ⟨0, rfl, HN.out, K1⟩
    skip
    go_wp2_with fail
    with_reducible refine (limit_d _).mono ?_
    rintro x w3 ⟨rfl, b3⟩
    clear c0 c1 c2
    replace C := C.below b3
    replace K1 := below_trans K1 b3
    replace A1 := A1.below b3
    clear b3
    have c0 := C.c0; have c1 := C.c1; have c2 := C.c2
    by_cases hi : 1024 - (size : Int) < e
    · have HN := hide (near_high (F := 4503599627370496) (L := (-1074)) (I := 9218868437227405312) (lim := 1024) (fr := 52) (by decide) (by decide) (by decide) hA Hlen.out (b2i_or more0) Hz.out hi)
      rw [Hmore.out] at HN
      go_wp2_with fail
      with_reducible refine (infinite_d _).mono ?_
      rintro x w4 ⟨rfl, b4⟩
      go_wp2
      go_ret
      exact ⟨_, rfl, HN.out, below_trans K1 b4⟩
    obtain ⟨d, hd⟩ : ∃ d, d = size - 62 := ⟨_, rfl⟩
    have Hd := hide hd
    clear hd
    go_wp2_with fail
    with_reducible refine (cut_any A1 hka Hlen.out (by omega) Hd.out (by omega) (by omega)).mono ?_
    rintro x w4 ⟨rfl, b4⟩
    clear c0 c1 c2
    replace C := C.below b4
    replace K1 := below_trans K1 b4
    clear b4 A1
    have Hst := hide (sty_or (A % p2 d) (b2i more0))
    have Hsl := hide (short_len Hlen.out hA (b2i_or more0) Hz.out Hd.out Hst.out)
    rw [Hmore.out] at Hst Hsl
    obtain ⟨sl0, sl1⟩ := cut_low Hlen.out hA Hd.out
    have st01 : 0 ≤ sty (A % p2 d) (b2i more) ∧ sty (A % p2 d) (b2i more) ≤ 1 := by rcases Hst.out with h | h <;> omega
    obtain ⟨st0, st1⟩ := st01
    generalize hSH : 2 * (A / p2 d) + sty (A % p2 d) (b2i more) = sh at *
    have sh0 : 0 ≤ sh := by omega
    have sh1 : sh < 9223372036854775808 := by omega
    have HSH := hide hSH
    clear hSH sl0 sl1 st0 st1
    obtain ⟨t, ht⟩ : ∃ t, t = max (e + size - 1 - 52) (-1074) := ⟨_, rfl⟩
    have Hfit := hide (mid_fits (L := (-1074)) (fr := 52) (by decide) Hd.out Hsl.out sh0 (by omega) ht)
    have Hnear : ∀ q, 0 ≤ q → (0 ≤ e + d - 1 - t → q = sh * p2 (e + d - 1 - t).toNat) → (e + d - 1 - t < 0 → Half q (p2 (-(e + d - 1 - t)).toNat) (2 * sh)) → Hid (q ≤ 2 * 4503599627370496 ∧ (t = (-1074) ∨ 4503599627370496 ≤ q) ∧ q + (t - (-1074)) * 4503599627370496 ≤ 9218868437227405312 ∧ Near 4503599627370496 (-1074) 9218868437227405312 (2 * A + b2i more) (e - 1) (q + (t - (-1074)) * 4503599627370496)) := by
      intro q q0 h1 h2
      have hz := Hz.out
      rw [Hmore.out] at hz
      refine hide (near_of (lim := 1024) (fr := 52) (size := size) (d := d) (st := sty (A % p2 d) (b2i more)) (by decide) (by decide) (by decide) (by decide) (by decide) Hlen.out hA (b2i_or _) hz (by omega) Hd.out Hst.out (by rw [ht]; rfl) (fun h => ?_) (fun h => ?_) q0)
      · rw [HSH.out]; exact h1 (by omega)
      · rw [HSH.out, show t - (e + d - 1) = -(e + d - 1 - t) by omega]; exact h2 (by omega)
    have hdd := Hd.out
    have hln : ((size + 1 - d : Nat) : Int) = size + 1 - d := by omega
    have t0 : (-1074) ≤ t := by omega
    have t1 : t ≤ 4611686018427387904 := by omega
    have d0 : (d : Int) ≤ 35184372088832 := by omega
    have hw1 : IntKind.i64.wrap (e + d - 1 + ((size + 1 - d : Nat) : Int)) = e + size := by rw [IntKind.wrap_i64]; omega
    have hw2 : IntKind.i64.wrap (e + size - 1) = e + size - 1 := by rw [IntKind.wrap_i64]; omega
    have hw3 : IntKind.i64.wrap (e + size - 1 - 52) = e + size - 1 - 52 := by rw [IntKind.wrap_i64]; omega
    have hw4 : (if e + size - 1 - 52 < (-1074) then (-1074) else e + size - 1 - 52) = t := by split <;> omega
    have hw5 : IntKind.i64.wrap (e + d - 1 - t) = e + d - 1 - t := by rw [IntKind.wrap_i64]; omega
    have Hnn := hide Hnear
    have HT := hide ht
    clear hdd ht Hnear hln
    go_upto_region 7 with fail
    have K : Below w4.heap.size w4 w4.drew := (Below.refl _ _).drew
    go_region_held3 (fun w' => w'.cell? ⟨w.heap.size, 0, none⟩ = some (.int .i64 64) ∧ w'.cell? ⟨w.heap.size, 1, none⟩ = some (.int .i64 52) ∧ w'.cell? ⟨w.heap.size, 2, none⟩ = some (.int .i64 (-1074)))
      (first
              | with_reducible exact ⟨(C.below K).c0, (C.below K).c1, (C.below K).c2⟩
              | go_keep)
      (first
        | (go_at_call 161; (with_reducible refine (len64_any sh _ sh0 (by omega)).mono ?_); rintro x w5 ⟨ln, rfl, hll, _, rfl⟩; obtain rfl := isLen_unique hll Hsl.out; clear hll))
    all_goals (
      (try simp only [hw1, hw2, hw3, hw4])
      replace C := C.below K
      replace K1 := below_trans K1 K
      clear K hw1 hw2 hw3 hw4
      go_upto_region 8 with fail)
    all_goals (
      have K : Below w4.drew.heap.size w4.drew w4.drew.drew := (Below.refl _ _).drew
      go_region_held3 (fun w' => w'.cell? ⟨w.heap.size, 0, none⟩ = some (.int .i64 64) ∧ w'.cell? ⟨w.heap.size, 1, none⟩ = some (.int .i64 52) ∧ w'.cell? ⟨w.heap.size, 2, none⟩ = some (.int .i64 (-1074)))
        (first
              | with_reducible exact ⟨(C.below K).c0, (C.below K).c1, (C.below K).c2⟩
              | go_keep)
        (first
          | (go_at_call 168; (with_reducible refine (half_any _ sh (e + d - 1 - t) sh0 sh1 Hfit.out.1 Hfit.out.2).mono ?_); rintro x w6 ⟨q, rfl, q0, hq1, hq2, hb⟩; have HN := Hnn.out q q0 hq1 hq2; clear hq1 hq2; replace K := below_trans K hb; clear hb)
          | (go_at_call 167; (with_reducible refine (pattern_d _ q t q0 t0 HN.out.2.2.1).mono ?_); rintro x w7 ⟨rfl, hb⟩; replace K := below_trans K hb; clear hb)))
    all_goals (
      have HN2 := hide HN.out.2.2.2
      rw [show t - (-1074) = t + 1074 by omega] at HN2
      clear HN
      go_wp2
      go_ret
      exact ⟨_, rfl, HN2.out, below_trans K1 K⟩)

theorem or64_d (x : Int) (h0 : 0 ≤ x) (h1 : x < 9223372036854775808) : bits .or .u64 x 9223372036854775808 = x + 9223372036854775808 := by
  rw [u64_or x 9223372036854775808 h0 (by omega) (by decide) (by decide)]
  have := nat_or (n := 63) (x := x.toNat) (by omega)
  rw [show (9223372036854775808 : Int).toNat = 2 ^ 63 from rfl, this]
  omega

set_option maxHeartbeats 4000000 in
theorem round_64 {w : World} (L : Lays w) {va : Value} {A e : Int} {ka : Nat} {neg more : Bool} (ha : Arg w va A ka) (hka : ka ≤ 1099511627776) (e0 : -9223372036854775808 ≤ e) (e1 : e < 9223372036854775808) :
    Calls Tryz.prog 91 #[.bool neg, va, .int .i64 e, .bool more] w fun x w' => ∃ r, x = .returned (.int .u64 (r + b2i neg * 9223372036854775808)) ∧ Near 4503599627370496 (-1074) 9218868437227405312 (2 * A + b2i more) (e - 1) r ∧ Below w.heap.size w w' := by
  go_enter Tryz.func91, Tryz.ntmps91
  go_wp2_with fail
  with_reducible refine (layoutOf_64 L).mono ?_
  rintro e w1 ⟨rfl, K1⟩
  go_upto_region 2 with fail
  have C := cell3_new w1 (.int .i64 64) (.int .i64 52) (.int .i64 (-1074)) 80
  have K2 := below_trans K1 (bel_new w1 (.cells #[.int .i64 64, .int .i64 52, .int .i64 (-1074)] 80))
  generalize w1.alloc (.cells #[.int .i64 64, .int .i64 52, .int .i64 (-1074)] 80) = w2 at *
  have c0 := C.c0; have c1 := C.c1; have c2 := C.c2
  go_wp2_with fail
  with_reducible refine (nearest_d (ha.below K2) hka e0 e1).mono ?_
  rintro x w3 ⟨r, rfl, hN, b3⟩
  clear c0 c1 c2
  replace C := C.below b3
  replace K2 := below_trans K2 b3
  clear b3
  have r0 := hN.1
  have r1 := hN.2.1
  have HN := hide hN
  have ho := or64_d r r0 (by omega)
  clear hN
  have c0 := C.c0; have c1 := C.c1; have c2 := C.c2
  cases neg
  · go_wp2
    go_ret
    exact ⟨r, ret_int (by rw [show b2i false = 0 from rfl]; omega), HN.out, K2⟩
  · go_wp2_with fail
    with_reducible refine (sign_d _).mono ?_
    rintro x w4 ⟨rfl, b4⟩
    go_wp2
    go_ret
    exact ⟨r, ret_int (by rw [show b2i true = 1 from rfl]; omega), HN.out, below_trans K2 b4⟩

end Go.Proofs.YtinfkoiifemjmaaGreatDoor

namespace Go.Proofs.YtinfkoiifemjmaaGreatDoor
open Go.RowKit

end Go.Proofs.YtinfkoiifemjmaaGreatDoor
