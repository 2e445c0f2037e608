/- IeeeN, IeeeO, IInt, IFrom, ITo, IBackM, NMath, NOrd, ITo16, ITo32, ITo64 -/
import Derived.Test.YtjigofmcflmelaaGreatDoorC05
import Derived.Test.YtjigofmcflmelaaGreatDoorC03
import Derived.Test.YtjigofmcflmelaaGreatDoorC06
import Derived.Test.YtjigofmcflmelaaGreatDoorC02
import Derived.Laws.Small
import Derived.Test.YtjigofmcflmelaaGreatDoorC08
namespace Go.Proofs.YtjigofmcflmelaaGreatDoor
open Go.RowKit
set_option linter.unusedVariables false

theorem or_one (x : Int) (h0 : 0 ≤ x) (h1 : x < 9223372036854775808) : bits .or .u64 (x * 2) 1 = x * 2 + 1 := by
  rw [u64_or (x * 2) 1 (by omega) (by omega) (by decide) (by decide), show (1 : Int).toNat = 1 from rfl]
  have := Nat.two_pow_add_eq_or_of_lt (i := 1) (b := 1) (by decide) x.toNat
  rw [show (x * 2).toNat = 2 ^ 1 * x.toNat by omega, ← this]
  omega
/-- the sticky digit -/
def sty (r mb : Int) : Int := if r = 0 ∧ mb = 0 then 0 else 1
def b2i (b : Bool) : Int := if b then 1 else 0
theorem b2i_or (b : Bool) : b2i b = 0 ∨ b2i b = 1 := by cases b <;> simp [b2i]
theorem cut_low {A : Int} {size d : Nat} (h : IsLen A size) (hA : 0 ≤ A) (hd : d = size - 62) : 0 ≤ A / p2 d ∧ A / p2 d < 4611686018427387904 := by
  have hp := p2_pos d
  refine ⟨Int.ediv_nonneg hA (by omega), ?_⟩
  rw [Int.ediv_lt_iff_lt_mul hp, show (4611686018427387904 : Int) = p2 62 from by decide, ← p2_add]
  have h1 := h.1
  have h2 := p2_mono (m := size) (n := 62 + d) (by omega)
  omega
theorem shr_cut {w : World} {va : Value} {A : Int} {ka size d : Nat} (ha : Arg w va A ka) (hka : ka ≤ 1099511627776) (h : IsLen A size) (hd : d = size - 62) (hb : d ≤ 4503599627370496) :
    Calls Tryz.prog 194 #[va, .int .i64 d] w fun e w' => ∃ v, e = .returned (.tuple #[v, .bool (decide (0 < A % p2 d)), .bool true]) ∧ Num w.heap.size w' v (A / p2 d) ka ∧ Below w.heap.size w w' := by
  have hA := ha.nonneg
  rcases Int.lt_or_eq_of_le hA with c | c
  · refine shr_near (W := d / 32) (s := d % 32) ha hka (by omega) (by omega) ?_
    have hs : 0 < size := by
      rcases Nat.eq_zero_or_pos size with e | e
      · subst e; have := h.1; simp only [p2] at this; omega
      · exact e
    have h1 := h.2 hs
    have h2 := p2_mono (m := 32 * (d / 32)) (n := size - 1) (by omega)
    rw [p2_32] at h2
    omega
  · have hs : size = 0 := by
      rcases Nat.eq_zero_or_pos size with e | e
      · exact e
      · have := h.2 e; have := p2_pos (size - 1); omega
    have hd0 : d = 0 := by omega
    subst hd0
    refine (shr_far (n := ((0 : Nat) : Int)) ha (by decide) (by decide) (by rw [← c]; decide)).mono ?_
    rintro e w' ⟨rfl, rfl⟩
    refine ⟨.slice none 0 0, by rw [← c]; rfl, ?_, Below.refl _ _⟩
    rw [← c]
    exact ⟨[], ⟨none, rfl, by simp [maxLen], fun h => by simp at h⟩, Nt.canon_nil, by simp [Nt.val, Nt.vt], by simp⟩
set_option maxHeartbeats 4000000 in
theorem cut_any {w : World} {va : Value} {A e : Int} {ka size d : Nat} {more : Bool} (ha : Arg w va A ka) (hka : ka ≤ 1099511627776) (hlen : IsLen A size) (hsz : size ≤ 35184372088832) (hd : d = size - 62) (e0 : -4611686018427387904 ≤ e) (e1 : e ≤ 4611686018427387904) :
    Calls Tryz.prog 215 #[va, .int .i64 e, .bool more] w fun x w' => x = .returned (.tuple #[.int .u64 (2 * (A / p2 d) + sty (A % p2 d) (b2i more)), .int .i64 (e + d - 1)]) ∧ Below w.heap.size w w' := by
  have hA := ha.nonneg
  obtain ⟨t0, t1⟩ := cut_low hlen hA hd
  go_enter Tryz.func215, Tryz.ntmps215
  go_wp2_with fail
  with_reducible refine (len_any ha hka).mono ?_
  rintro x w1 ⟨k, rfl, hk, _, rfl⟩
  obtain rfl := isLen_unique hk hlen
  have hmax : (if ((k : Int) - 62) < 0 then 0 else ((k : Int) - 62)) = (d : Int) := by split <;> omega
  have Hd := hide hd
  have Hlen := hide hlen
  clear hd hlen hk
  go_wp2_with fail
  with_reducible refine (shr_cut ha hka Hlen.out Hd.out (by have := Hd.out; omega)).mono ?_
  rintro x w2 ⟨vt, rfl, hN, K⟩
  have hm0 := Int.emod_nonneg A (b := p2 d) (by have := p2_pos d; omega)
  generalize hT : A / p2 d = top at *
  generalize hR : A % p2 d = rest at *
  have HT := hide hT
  have HR := hide hR
  clear hT hR
  go_wp2_with fail
  with_reducible refine (uint_yes hN.arg (by omega)).mono ?_
  rintro x w3 ⟨rfl, rfl⟩
  have ho := or_one top t0 (by omega)
  have hdd : (d : Int) ≤ 35184372088832 := by have := Hd.out; omega
  by_cases c : 0 < rest
  · have hc : decide (0 < rest) = true := decide_eq_true c
    have hs : sty rest (b2i more) = 1 := by unfold sty; rw [if_neg (by omega)]
    have Hs := hide hs
    clear hs
    go_wp2
    go_ret2
    exact ⟨by rw [HT.out, HR.out, Hs.out, Int.mul_comm 2 top]; first | rfl | exact ret_tup2 (by omega), K⟩
  · have hc : decide (0 < rest) = false := decide_eq_false c
    have hr : rest = 0 := by omega
    cases more
    · have hs : sty rest (b2i false) = 0 := by unfold sty b2i; rw [if_pos (by simp [hr])]
      have Hs := hide hs
      clear hs hr
      go_wp2
      go_ret2
      exact ⟨by rw [HT.out, HR.out, Hs.out, Int.mul_comm 2 top, Int.add_zero]; first | rfl | exact ret_tup2 (by omega), K⟩
    · have hs : sty rest (b2i true) = 1 := by unfold sty b2i; rw [if_neg (by simp)]
      have Hs := hide hs
      clear hs hr
      go_wp2
      go_ret2
      exact ⟨by rw [HT.out, HR.out, Hs.out, Int.mul_comm 2 top]; first | rfl | exact ret_tup2 (by omega), K⟩

set_option maxHeartbeats 4000000 in
theorem half_up (w : World) (m : Int) (E : Nat) (m0 : 0 ≤ m) (hE : E < 64) (hf : m * p2 E < 18446744073709551616) : Calls Tryz.prog 218 #[.int .u64 m, .int .i64 E] w fun x w' => x = .returned (.int .u64 (m * p2 E)) ∧ w' = w := by
  have hmin : min E 64 = E := by omega
  have hp := p2_pos E
  have hw : IntKind.u64.wrap (m * 2 ^ E) = m * p2 E := by
    have e : m * (2 : Int) ^ E = m * p2 E := by rw [p2_two]; simp
    rw [e, IntKind.wrap_u64]
    have := Int.mul_nonneg m0 (Int.le_of_lt hp)
    omega
  clear hf
  go_enter Tryz.func218, Tryz.ntmps218
  go_wp2
  go_ret
  exact ⟨by first | rfl | exact ret_int (by simpa using hw), rfl⟩
theorem half_math {m P q0 r : Int} (hP : 0 < P) (hm : m = q0 * (2 * P) + r) (r0 : 0 ≤ r) (r1 : r < 2 * P) :
    (P < r → Half (q0 + 1) (2 * P) (2 * m)) ∧ (r < P → Half q0 (2 * P) (2 * m)) ∧ (r = P → q0 % 2 = 1 → Half (q0 + 1) (2 * P) (2 * m)) ∧ (r = P → q0 % 2 = 0 → Half q0 (2 * P) (2 * m)) := by
  have e1 : 2 * (q0 + 1) * (2 * P) = 2 * (q0 * (2 * P)) + 2 * (2 * P) := by grind
  have e2 : 2 * q0 * (2 * P) = 2 * (q0 * (2 * P)) := by grind
  refine ⟨fun h => ⟨by omega, by omega, fun e => by omega, fun e => by omega⟩, fun h => ⟨by omega, by omega, fun e => by omega, fun e => by omega⟩, fun h h' => ⟨by omega, by omega, fun e => by omega, fun e => by omega⟩, fun h h' => ⟨by omega, by omega, fun e => by omega, fun e => by omega⟩⟩
set_option maxHeartbeats 4000000 in
theorem half_down (w : World) (m e : Int) (D : Nat) (m0 : 0 ≤ m) (m1 : m < 9223372036854775808) (hD0 : 1 ≤ D) (hD : D ≤ 63) (he : e = -(D : Int)) : Calls Tryz.prog 218 #[.int .u64 m, .int .i64 e] w fun x w' => ∃ q, x = .returned (.int .u64 q) ∧ 0 ≤ q ∧ Half q (p2 D) (2 * m) ∧ Below w.heap.size w w' := by
  have hp := p2_pos (D - 1)
  have hpD : p2 D = 2 * p2 (D - 1) := by obtain ⟨n, rfl⟩ : ∃ n, D = n + 1 := ⟨D - 1, by omega⟩; rw [Nat.add_sub_cancel]; rfl
  have hmin : min D 64 = D := by omega
  have hmin2 : min (D - 1) 64 = D - 1 := by omega
  have hneg : -e = (D : Int) := by omega
  have en : ¬ 0 ≤ e := by omega
  have hpow : (2 : Int) ^ D = 2 * p2 (D - 1) := by rw [← hpD, p2_two]; simp
  have hpow2 : (2 : Int) ^ (D - 1) = p2 (D - 1) := by rw [p2_two]; simp
  have hbig := p2_mono (m := D - 1) (n := 62) (by omega)
  rw [show p2 62 = 4611686018427387904 from by decide] at hbig
  rw [hpD]
  have hdm := Int.mul_ediv_add_emod m (2 * p2 (D - 1))
  have r0 := Int.emod_nonneg m (b := 2 * p2 (D - 1)) (by omega)
  have r1 := Int.emod_lt_of_pos m (b := 2 * p2 (D - 1)) (by omega)
  have q0 : 0 ≤ m / (2 * p2 (D - 1)) := Int.ediv_nonneg m0 (by omega)
  have q1 : m / (2 * p2 (D - 1)) ≤ m := Int.ediv_le_self _ m0
  generalize p2 (D - 1) = P at *
  have hq : m / 2 ^ D = m / (2 * P) := by rw [hpow]
  generalize m % (2 * P) = r at *
  generalize m / (2 * P) = q at *
  have hnn : 0 ≤ 2 * P * q := Int.mul_nonneg (by omega) q0
  have hw : IntKind.u64.wrap (q * 2 ^ D) = m - r := by
    rw [hpow, Int.mul_comm q, IntKind.wrap_u64]; omega
  obtain ⟨D1, hD1⟩ : ∃ n, n = D - 1 := ⟨_, rfl⟩
  rw [← hD1] at hmin2 hpow2
  have wD : IntKind.i64.wrap (D : Int) = D := by rw [IntKind.wrap_i64]; omega
  have wD1 : IntKind.i64.wrap ((D : Int) - 1) = (D1 : Int) := by rw [IntKind.wrap_i64]; omega
  have D1n : (0 : Int) ≤ (D1 : Int) := by omega
  have Dn : (0 : Int) ≤ (D : Int) := by omega
  have hw2 : IntKind.u64.wrap (m - (m - r)) = r := by rw [IntKind.wrap_u64]; omega
  have hw3 : IntKind.u64.wrap (1 * 2 ^ D1) = P := by rw [hpow2, IntKind.wrap_u64]; omega
  have hw4 : IntKind.u64.wrap (2 ^ D1) = P := by rw [hpow2, IntKind.wrap_u64]; omega
  obtain ⟨M1, M2, M3, M4⟩ := half_math (m := m) (P := P) (q0 := q) (r := r) hp (by rw [Int.mul_comm]; omega) r0 r1
  have H1 := hide M1
  have H2 := hide M2
  have H3 := hide M3
  have H4 := hide M4
  clear M1 M2 M3 M4 hdm hpow hpow2 hpD hD1 hnn
  go_enter Tryz.func218, Tryz.ntmps218
  go_upto_region 4 with fail
  have K : Below w.heap.size w w.drew := (Below.refl _ _).drew
  go_region_held3 (fun _ => True)
    (trivial)
    (fail)
  all_goals (
    clear hw hw2 hw3 hw4 hq wD wD1 hmin hmin2
    by_cases a1 : P < r
    · have Hq := hide (H1.out a1)
      go_wp2
      go_ret
      exact ⟨_, rfl, by omega, Hq.out, K⟩
    by_cases a2 : r = P
    · have a2' : (r == P) = true := by simp [a2]
      by_cases a3 : q % 2 = 1
      · have a3' : (q % 2 == 1) = true := by simp [a3]
        have Hq := hide (H3.out a2 a3)
        clear a2 a3
        go_wp2
        go_ret
        exact ⟨_, rfl, by omega, Hq.out, K⟩
      · have a3' : (q % 2 == 1) = false := by simp [a3]
        have Hq := hide (H4.out a2 (by omega))
        clear a2 a3
        go_wp2
        go_ret
        exact ⟨_, rfl, by omega, Hq.out, K⟩
    · have a2' : (r == P) = false := by simp [a2]
      have Hq := hide (H2.out (by omega))
      clear a2
      go_wp2
      go_ret
      exact ⟨_, rfl, by omega, Hq.out, K⟩)
theorem half_any (w : World) (m e : Int) (m0 : 0 ≤ m) (m1 : m < 9223372036854775808) (h1 : 0 ≤ e → e < 64 ∧ m * p2 e.toNat < 18446744073709551616) (h2 : e < 0 → -63 ≤ e) :
    Calls Tryz.prog 218 #[.int .u64 m, .int .i64 e] w fun x w' => ∃ q, x = .returned (.int .u64 q) ∧ 0 ≤ q ∧ (0 ≤ e → q = m * p2 e.toNat) ∧ (e < 0 → Half q (p2 (-e).toNat) (2 * m)) ∧ Below w.heap.size w w' := by
  rcases Int.lt_or_le e 0 with c | c
  · refine (half_down w m e (-e).toNat m0 m1 (by omega) (by have := h2 c; omega) (by omega)).mono ?_
    rintro x w' ⟨q, rfl, q0, hq, K⟩
    exact ⟨q, rfl, q0, fun h => by omega, fun _ => hq, K⟩
  · obtain ⟨n, rfl⟩ := Int.eq_ofNat_of_zero_le c
    obtain ⟨h3, h4⟩ := h1 c
    rw [Int.toNat_natCast] at h4
    refine (half_up w m n m0 (by omega) h4).mono ?_
    rintro x w' ⟨rfl, rfl⟩
    exact ⟨_, rfl, Int.mul_nonneg m0 (Int.le_of_lt (p2_pos n)), fun _ => by rw [Int.toNat_natCast], fun h => by omega, Below.refl _ _⟩
theorem short_len {A mb st : Int} {size d : Nat} (hlen : IsLen A size) (hA : 0 ≤ A) (hmb : mb = 0 ∨ mb = 1) (hz : ¬ (size = 0 ∧ mb = 0)) (hd : d = size - 62)
    (hst : (st = 0 ∧ A % p2 d = 0 ∧ mb = 0) ∨ (st = 1 ∧ ¬ (A % p2 d = 0 ∧ mb = 0))) : IsLen (2 * (A / p2 d) + st) (size + 1 - d) := by
  rcases Nat.eq_zero_or_pos d with c | c
  · have e0 : p2 d = 1 := by rw [c]; rfl
    rw [e0, Int.emod_one] at hst
    rw [e0, Int.ediv_one, c, Nat.sub_zero]
    have hs : st = mb := by rcases hst with ⟨h1, _, h2⟩ | ⟨h1, h2⟩ <;> omega
    rw [hs]
    refine ⟨by have := hlen.1; rw [p2]; omega, fun _ => ?_⟩
    rw [Nat.add_sub_cancel]
    rcases Nat.eq_zero_or_pos size with k | k
    · subst k; simp only [p2]; omega
    · have := hlen.2 k
      obtain ⟨n, rfl⟩ : ∃ n, size = n + 1 := ⟨size - 1, by omega⟩
      rw [Nat.add_sub_cancel] at this
      simp only [p2]
      omega
  · have hp := p2_pos d
    have e1 : size + 1 - d = 63 := by omega
    rw [e1]
    have hlo : p2 61 ≤ A / p2 d := by
      rw [Int.le_ediv_iff_mul_le hp, ← p2_add]
      have := hlen.2 (by omega)
      rwa [show size - 1 = 61 + d by omega] at this
    have hhi := (cut_low hlen hA hd).2
    rw [show p2 61 = 2305843009213693952 from by decide] at hlo
    refine ⟨?_, fun _ => ?_⟩
    · rw [show p2 63 = 9223372036854775808 from by decide]; omega
    · rw [show p2 (63 - 1) = 4611686018427387904 from by decide]; omega
theorem sty_or (r mb : Int) : (sty r mb = 0 ∧ r = 0 ∧ mb = 0) ∨ (sty r mb = 1 ∧ ¬ (r = 0 ∧ mb = 0)) := by
  unfold sty
  by_cases h : r = 0 ∧ mb = 0
  · rw [if_pos h]; exact Or.inl ⟨rfl, h⟩
  · rw [if_neg h]; exact Or.inr ⟨rfl, h⟩
/-- that the shift of the cut number fits -/
theorem mid_fits {sh L e t : Int} {fr size d : Nat} (fr2 : fr ≤ 52) (hd : d = size - 62) (hs : IsLen sh (size + 1 - d)) (s0 : 0 ≤ sh) (he : L - size ≤ e) (ht : t = max (e + size - 1 - fr) L) :
    (0 ≤ e + d - 1 - t → e + d - 1 - t < 64 ∧ sh * p2 (e + d - 1 - t).toNat < 18446744073709551616) ∧ (e + d - 1 - t < 0 → -63 ≤ e + d - 1 - t) := by
  refine ⟨fun h => ⟨by omega, ?_⟩, fun h => by omega⟩
  have h1 := p2_pos (e + d - 1 - t).toNat
  have h2 : sh * p2 (e + d - 1 - t).toNat < p2 (size + 1 - d) * p2 (e + d - 1 - t).toNat := Int.mul_lt_mul_of_pos_right hs.1 h1
  rw [← p2_add] at h2
  have h3 := p2_mono (m := size + 1 - d + (e + d - 1 - t).toNat) (n := 53) (by omega)
  rw [show p2 53 = 9007199254740992 from by decide] at h3
  omega

set_option maxHeartbeats 2000000 in
theorem limit_h (w : World) : Calls Tryz.prog 214 #[.agg #[.int .i64 16, .int .i64 10, .int .i64 (-24)]] w fun x w' => x = .returned (.int .i64 16) ∧ Below w.heap.size w w' := by
  go_enter Tryz.func214, Tryz.ntmps214
  go_upto_region 1 with fail
  have C := cell3_new w (.int .i64 16) (.int .i64 10) (.int .i64 (-24)) 117
  have K1 := bel_new w (.cells #[.int .i64 16, .int .i64 10, .int .i64 (-24)] 117)
  generalize w.alloc (.cells #[.int .i64 16, .int .i64 10, .int .i64 (-24)] 117) = w1 at *
  have K : Below w1.heap.size w1 w1.drew := (Below.refl _ _).drew
  go_region_held3 (fun w' => w'.cell? ⟨w.heap.size, 0, none⟩ = some (.int .i64 16) ∧ w'.cell? ⟨w.heap.size, 1, none⟩ = some (.int .i64 10) ∧ w'.cell? ⟨w.heap.size, 2, none⟩ = some (.int .i64 (-24)))
    (first
      | with_reducible exact ⟨(C.below K).c0, (C.below K).c1, (C.below K).c2⟩
      | go_keep)
    (first
      | (go_at_call 114; (with_reducible refine (infinite_h _).mono ?_); rintro e w2 ⟨rfl, hb⟩; replace K := below_trans K hb; clear hb)
      | (go_at_call 186; (with_reducible refine (steps_h _ 31744 (by decide) (by decide)).mono ?_); rintro e w2 ⟨rfl, hb⟩; replace K := below_trans K hb; clear hb; rw [show est 1024 (-24) 31744 = 6 by decide]))
  all_goals (
    have c0 := (C.below K).c0
    have c1 := (C.below K).c1
    have c2 := (C.below K).c2
    go_wp2
    go_ret
    exact ⟨rfl, below_trans K1 K⟩)

set_option maxHeartbeats 2000000 in
theorem pattern_h (w : World) (m e : Int) (m0 : 0 ≤ m) (he : (-24) ≤ e) (hI : m + (e - (-24)) * 1024 ≤ 31744) : Calls Tryz.prog 217 #[.agg #[.int .i64 16, .int .i64 10, .int .i64 (-24)], .int .u64 m, .int .i64 e] w fun x w' => x = .returned (.int .u64 (m + (e - (-24)) * 1024)) ∧ Below w.heap.size w w' := by
  obtain ⟨p, rfl⟩ : ∃ p, e = p + (-24) := ⟨e - (-24), by omega⟩
  rw [show p + (-24) - (-24) = p by omega] at *
  have p0 : 0 ≤ p := by omega
  have p1 : p ≤ 65536 := by omega
  go_enter Tryz.func217, Tryz.ntmps217
  go_wp2
  go_ret
  exact ⟨ret_int (by first | omega | (simp only [IntKind.wrap_u64, IntKind.wrap_i64]; omega)), bel_new _ _⟩

set_option maxHeartbeats 2000000 in
theorem limit_s (w : World) : Calls Tryz.prog 214 #[.agg #[.int .i64 32, .int .i64 23, .int .i64 (-149)]] w fun x w' => x = .returned (.int .i64 128) ∧ Below w.heap.size w w' := by
  go_enter Tryz.func214, Tryz.ntmps214
  go_upto_region 1 with fail
  have C := cell3_new w (.int .i64 32) (.int .i64 23) (.int .i64 (-149)) 117
  have K1 := bel_new w (.cells #[.int .i64 32, .int .i64 23, .int .i64 (-149)] 117)
  generalize w.alloc (.cells #[.int .i64 32, .int .i64 23, .int .i64 (-149)] 117) = w1 at *
  have K : Below w1.heap.size w1 w1.drew := (Below.refl _ _).drew
  go_region_held3 (fun w' => w'.cell? ⟨w.heap.size, 0, none⟩ = some (.int .i64 32) ∧ w'.cell? ⟨w.heap.size, 1, none⟩ = some (.int .i64 23) ∧ w'.cell? ⟨w.heap.size, 2, none⟩ = some (.int .i64 (-149)))
    (first
      | with_reducible exact ⟨(C.below K).c0, (C.below K).c1, (C.below K).c2⟩
      | go_keep)
    (first
      | (go_at_call 114; (with_reducible refine (infinite_s _).mono ?_); rintro e w2 ⟨rfl, hb⟩; replace K := below_trans K hb; clear hb)
      | (go_at_call 186; (with_reducible refine (steps_s _ 2139095040 (by decide) (by decide)).mono ?_); rintro e w2 ⟨rfl, hb⟩; replace K := below_trans K hb; clear hb; rw [show est 8388608 (-149) 2139095040 = 105 by decide]))
  all_goals (
    have c0 := (C.below K).c0
    have c1 := (C.below K).c1
    have c2 := (C.below K).c2
    go_wp2
    go_ret
    exact ⟨rfl, below_trans K1 K⟩)

set_option maxHeartbeats 2000000 in
theorem pattern_s (w : World) (m e : Int) (m0 : 0 ≤ m) (he : (-149) ≤ e) (hI : m + (e - (-149)) * 8388608 ≤ 2139095040) : Calls Tryz.prog 217 #[.agg #[.int .i64 32, .int .i64 23, .int .i64 (-149)], .int .u64 m, .int .i64 e] w fun x w' => x = .returned (.int .u64 (m + (e - (-149)) * 8388608)) ∧ Below w.heap.size w w' := by
  obtain ⟨p, rfl⟩ : ∃ p, e = p + (-149) := ⟨e - (-149), by omega⟩
  rw [show p + (-149) - (-149) = p by omega] at *
  have p0 : 0 ≤ p := by omega
  have p1 : p ≤ 65536 := by omega
  go_enter Tryz.func217, Tryz.ntmps217
  go_wp2
  go_ret
  exact ⟨ret_int (by first | omega | (simp only [IntKind.wrap_u64, IntKind.wrap_i64]; omega)), bel_new _ _⟩

set_option maxHeartbeats 2000000 in
theorem limit_d (w : World) : Calls Tryz.prog 214 #[.agg #[.int .i64 64, .int .i64 52, .int .i64 (-1074)]] w fun x w' => x = .returned (.int .i64 1024) ∧ Below w.heap.size w w' := by
  go_enter Tryz.func214, Tryz.ntmps214
  go_upto_region 1 with fail
  have C := cell3_new w (.int .i64 64) (.int .i64 52) (.int .i64 (-1074)) 117
  have K1 := bel_new w (.cells #[.int .i64 64, .int .i64 52, .int .i64 (-1074)] 117)
  generalize w.alloc (.cells #[.int .i64 64, .int .i64 52, .int .i64 (-1074)] 117) = w1 at *
  have K : Below w1.heap.size w1 w1.drew := (Below.refl _ _).drew
  go_region_held3 (fun w' => w'.cell? ⟨w.heap.size, 0, none⟩ = some (.int .i64 64) ∧ w'.cell? ⟨w.heap.size, 1, none⟩ = some (.int .i64 52) ∧ w'.cell? ⟨w.heap.size, 2, none⟩ = some (.int .i64 (-1074)))
    (first
      | with_reducible exact ⟨(C.below K).c0, (C.below K).c1, (C.below K).c2⟩
      | go_keep)
    (first
      | (go_at_call 114; (with_reducible refine (infinite_d _).mono ?_); rintro e w2 ⟨rfl, hb⟩; replace K := below_trans K hb; clear hb)
      | (go_at_call 186; (with_reducible refine (steps_d _ 9218868437227405312 (by decide) (by decide)).mono ?_); rintro e w2 ⟨rfl, hb⟩; replace K := below_trans K hb; clear hb; rw [show est 4503599627370496 (-1074) 9218868437227405312 = 972 by decide]))
  all_goals (
    have c0 := (C.below K).c0
    have c1 := (C.below K).c1
    have c2 := (C.below K).c2
    go_wp2
    go_ret
    exact ⟨rfl, below_trans K1 K⟩)

set_option maxHeartbeats 2000000 in
theorem pattern_d (w : World) (m e : Int) (m0 : 0 ≤ m) (he : (-1074) ≤ e) (hI : m + (e - (-1074)) * 4503599627370496 ≤ 9218868437227405312) : Calls Tryz.prog 217 #[.agg #[.int .i64 64, .int .i64 52, .int .i64 (-1074)], .int .u64 m, .int .i64 e] w fun x w' => x = .returned (.int .u64 (m + (e - (-1074)) * 4503599627370496)) ∧ Below w.heap.size w w' := by
  obtain ⟨p, rfl⟩ : ∃ p, e = p + (-1074) := ⟨e - (-1074), by omega⟩
  rw [show p + (-1074) - (-1074) = p by omega] at *
  have p0 : 0 ≤ p := by omega
  have p1 : p ≤ 65536 := by omega
  go_enter Tryz.func217, Tryz.ntmps217
  go_wp2
  go_ret
  exact ⟨ret_int (by first | omega | (simp only [IntKind.wrap_u64, IntKind.wrap_i64]; omega)), bel_new _ _⟩

end Go.Proofs.YtjigofmcflmelaaGreatDoor

namespace Go.Proofs.YtjigofmcflmelaaGreatDoor
open Go.RowKit
set_option linter.unusedVariables false

set_option maxRecDepth 20000 in
set_option maxHeartbeats 8000000 in
theorem nearest_h {w : World} {va : Value} {A e : Int} {ka : Nat} {more : Bool} (ha : Arg w va A ka) (hka : ka ≤ 1099511627776) (e0 : -9223372036854775808 ≤ e) (e1 : e < 9223372036854775808) :
    Calls Tryz.prog 188 #[.agg #[.int .i64 16, .int .i64 10, .int .i64 (-24)], va, .int .i64 e, .bool more] w fun x w' => ∃ r, x = .returned (.int .u64 r) ∧ Near 1024 (-24) 31744 (2 * A + b2i more) (e - 1) r ∧ Below w.heap.size w w' := by
  have hA := ha.nonneg
  go_enter Tryz.func188, Tryz.ntmps188
  go_upto_region 1 with fail
  have C := cell3_new w (.int .i64 16) (.int .i64 10) (.int .i64 (-24)) 117
  have K1 := bel_new w (.cells #[.int .i64 16, .int .i64 10, .int .i64 (-24)] 117)
  have A1 := ha.below K1
  generalize w.alloc (.cells #[.int .i64 16, .int .i64 10, .int .i64 (-24)] 117) = w1 at *
  clear ha
  go_wp2_with fail
  with_reducible refine (len_any A1 hka).mono ?_
  rintro x w2 ⟨size, rfl, hlen, hsz, rfl⟩
  have Hlen := hide hlen
  clear hlen
  have sz1 : (size : Int) ≤ 35184372088832 := by omega
  have c0 := C.c0; have c1 := C.c1; have c2 := C.c2
  by_cases z : size = 0
  · have z' : ((size : Int) == 0) = true := by simp [z]
    cases more
    · have HN := hide (near_low (F := 1024) (L := (-24)) (I := 31744) (e := e) (by decide) (by decide) hA Hlen.out (b2i_or false) (Or.inl ⟨z, rfl⟩))
      clear z
      go_wp2
      go_ret
      exact ⟨0, rfl, HN.out, K1⟩
    · obtain ⟨more0, hm⟩ : ∃ b, b = true := ⟨_, rfl⟩
      have Hmore := hide hm
      have Hz := hide (show ¬ (size = 0 ∧ b2i more0 = 0) by rw [hm]; simp [b2i])
      clear z hm
      by_cases lo : e < (-24) - (size : Int)
      · have HN := hide (near_low (F := 1024) (L := (-24)) (I := 31744) (by decide) (by decide) hA Hlen.out (b2i_or true) (Or.inr lo))
        skip
        go_wp2
        go_ret
        exact ⟨0, rfl, HN.out, K1⟩
      skip
      go_wp2_with fail
      with_reducible refine (limit_h _).mono ?_
      rintro x w3 ⟨rfl, b3⟩
      clear c0 c1 c2
      replace C := C.below b3
      replace K1 := below_trans K1 b3
      replace A1 := A1.below b3
      clear b3
      have c0 := C.c0; have c1 := C.c1; have c2 := C.c2
      by_cases hi : 16 - (size : Int) < e
      · have HN := hide (near_high (F := 1024) (L := (-24)) (I := 31744) (lim := 16) (fr := 10) (by decide) (by decide) (by decide) hA Hlen.out (b2i_or more0) Hz.out hi)
        rw [Hmore.out] at HN
        go_wp2_with fail
        with_reducible refine (infinite_h _).mono ?_
        rintro x w4 ⟨rfl, b4⟩
        go_wp2
        go_ret
        exact ⟨_, rfl, HN.out, below_trans K1 b4⟩
      obtain ⟨d, hd⟩ : ∃ d, d = size - 62 := ⟨_, rfl⟩
      have Hd := hide hd
      clear hd
      go_wp2_with fail
      with_reducible refine (cut_any A1 hka Hlen.out (by omega) Hd.out (by omega) (by omega)).mono ?_
      rintro x w4 ⟨rfl, b4⟩
      clear c0 c1 c2
      replace C := C.below b4
      replace K1 := below_trans K1 b4
      clear b4 A1
      have Hst := hide (sty_or (A % p2 d) (b2i more0))
      have Hsl := hide (short_len Hlen.out hA (b2i_or more0) Hz.out Hd.out Hst.out)
      rw [Hmore.out] at Hst Hsl
      obtain ⟨sl0, sl1⟩ := cut_low Hlen.out hA Hd.out
      have st01 : 0 ≤ sty (A % p2 d) (b2i true) ∧ sty (A % p2 d) (b2i true) ≤ 1 := by rcases Hst.out with h | h <;> omega
      obtain ⟨st0, st1⟩ := st01
      generalize hSH : 2 * (A / p2 d) + sty (A % p2 d) (b2i true) = sh at *
      have sh0 : 0 ≤ sh := by omega
      have sh1 : sh < 9223372036854775808 := by omega
      have HSH := hide hSH
      clear hSH sl0 sl1 st0 st1
      obtain ⟨t, ht⟩ : ∃ t, t = max (e + size - 1 - 10) (-24) := ⟨_, rfl⟩
      have Hfit := hide (mid_fits (L := (-24)) (fr := 10) (by decide) Hd.out Hsl.out sh0 (by omega) ht)
      have Hnear : ∀ q, 0 ≤ q → (0 ≤ e + d - 1 - t → q = sh * p2 (e + d - 1 - t).toNat) → (e + d - 1 - t < 0 → Half q (p2 (-(e + d - 1 - t)).toNat) (2 * sh)) → Hid (q ≤ 2 * 1024 ∧ (t = (-24) ∨ 1024 ≤ q) ∧ q + (t - (-24)) * 1024 ≤ 31744 ∧ Near 1024 (-24) 31744 (2 * A + b2i true) (e - 1) (q + (t - (-24)) * 1024)) := by
        intro q q0 h1 h2
        have hz := Hz.out
        rw [Hmore.out] at hz
        refine hide (near_of (lim := 16) (fr := 10) (size := size) (d := d) (st := sty (A % p2 d) (b2i true)) (by decide) (by decide) (by decide) (by decide) (by decide) Hlen.out hA (b2i_or _) hz (by omega) Hd.out Hst.out (by rw [ht]; rfl) (fun h => ?_) (fun h => ?_) q0)
        · rw [HSH.out]; exact h1 (by omega)
        · rw [HSH.out, show t - (e + d - 1) = -(e + d - 1 - t) by omega]; exact h2 (by omega)
      have hdd := Hd.out
      have hln : ((size + 1 - d : Nat) : Int) = size + 1 - d := by omega
      have t0 : (-24) ≤ t := by omega
      have t1 : t ≤ 4611686018427387904 := by omega
      have d0 : (d : Int) ≤ 35184372088832 := by omega
      have hw1 : IntKind.i64.wrap (e + d - 1 + ((size + 1 - d : Nat) : Int)) = e + size := by rw [IntKind.wrap_i64]; omega
      have hw2 : IntKind.i64.wrap (e + size - 1) = e + size - 1 := by rw [IntKind.wrap_i64]; omega
      have hw3 : IntKind.i64.wrap (e + size - 1 - 10) = e + size - 1 - 10 := by rw [IntKind.wrap_i64]; omega
      have hw4 : (if e + size - 1 - 10 < (-24) then (-24) else e + size - 1 - 10) = t := by split <;> omega
      have hw5 : IntKind.i64.wrap (e + d - 1 - t) = e + d - 1 - t := by rw [IntKind.wrap_i64]; omega
      have Hnn := hide Hnear
      have HT := hide ht
      clear hdd ht Hnear hln
      go_upto_region 7 with fail
      have K : Below w4.heap.size w4 w4.drew := (Below.refl _ _).drew
      go_region_held3 (fun w' => w'.cell? ⟨w.heap.size, 0, none⟩ = some (.int .i64 16) ∧ w'.cell? ⟨w.heap.size, 1, none⟩ = some (.int .i64 10) ∧ w'.cell? ⟨w.heap.size, 2, none⟩ = some (.int .i64 (-24)))
        (first
                | with_reducible exact ⟨(C.below K).c0, (C.below K).c1, (C.below K).c2⟩
                | go_keep)
        (first
          | (go_at_call 216; (with_reducible refine (len64_any sh _ sh0 (by omega)).mono ?_); rintro x w5 ⟨ln, rfl, hll, _, rfl⟩; obtain rfl := isLen_unique hll Hsl.out; clear hll))
      all_goals (
        (try simp only [hw1, hw2, hw3, hw4])
        replace C := C.below K
        replace K1 := below_trans K1 K
        clear K hw1 hw2 hw3 hw4
        go_upto_region 8 with fail)
      all_goals (
        have K : Below w4.drew.heap.size w4.drew w4.drew.drew := (Below.refl _ _).drew
        go_region_held3 (fun w' => w'.cell? ⟨w.heap.size, 0, none⟩ = some (.int .i64 16) ∧ w'.cell? ⟨w.heap.size, 1, none⟩ = some (.int .i64 10) ∧ w'.cell? ⟨w.heap.size, 2, none⟩ = some (.int .i64 (-24)))
          (first
                | with_reducible exact ⟨(C.below K).c0, (C.below K).c1, (C.below K).c2⟩
                | go_keep)
          (first
            | (go_at_call 218; (with_reducible refine (half_any _ sh (e + d - 1 - t) sh0 sh1 Hfit.out.1 Hfit.out.2).mono ?_); rintro x w6 ⟨q, rfl, q0, hq1, hq2, hb⟩; have HN := Hnn.out q q0 hq1 hq2; clear hq1 hq2; replace K := below_trans K hb; clear hb)
            | (go_at_call 217; (with_reducible refine (pattern_h _ q t q0 t0 HN.out.2.2.1).mono ?_); rintro x w7 ⟨rfl, hb⟩; replace K := below_trans K hb; clear hb)))
      all_goals (
        have HN2 := hide HN.out.2.2.2
        rw [show t - (-24) = t + 24 by omega] at HN2
        clear HN
        go_wp2
        go_ret
        exact ⟨_, rfl, HN2.out, below_trans K1 K⟩)
  · have z' : ((size : Int) == 0) = false := by simp [z]
    obtain ⟨more0, hm⟩ : ∃ b, b = more := ⟨_, rfl⟩
    have Hmore := hide hm
    have Hz := hide (show ¬ (size = 0 ∧ b2i more0 = 0) by omega)
    clear z hm
    by_cases lo : e < (-24) - (size : Int)
    · have HN := hide (near_low (F := 1024) (L := (-24)) (I := 31744) (by decide) (by decide) hA Hlen.out (b2i_or more) (Or.inr lo))
      skip
      go_wp2
      go_ret
      exact ⟨0, rfl, HN.out, K1⟩
    skip
    go_wp2_with fail
    with_reducible refine (limit_h _).mono ?_
    rintro x w3 ⟨rfl, b3⟩
    clear c0 c1 c2
    replace C := C.below b3
    replace K1 := below_trans K1 b3
    replace A1 := A1.below b3
    clear b3
    have c0 := C.c0; have c1 := C.c1; have c2 := C.c2
    by_cases hi : 16 - (size : Int) < e
    · have HN := hide (near_high (F := 1024) (L := (-24)) (I := 31744) (lim := 16) (fr := 10) (by decide) (by decide) (by decide) hA Hlen.out (b2i_or more0) Hz.out hi)
      rw [Hmore.out] at HN
      go_wp2_with fail
      with_reducible refine (infinite_h _).mono ?_
      rintro x w4 ⟨rfl, b4⟩
      go_wp2
      go_ret
      exact ⟨_, rfl, HN.out, below_trans K1 b4⟩
    obtain ⟨d, hd⟩ : ∃ d, d = size - 62 := ⟨_, rfl⟩
    have Hd := hide hd
    clear hd
    go_wp2_with fail
    with_reducible refine (cut_any A1 hka Hlen.out (by omega) Hd.out (by omega) (by omega)).mono ?_
    rintro x w4 ⟨rfl, b4⟩
    clear c0 c1 c2
    replace C := C.below b4
    replace K1 := below_trans K1 b4
    clear b4 A1
    have Hst := hide (sty_or (A % p2 d) (b2i more0))
    have Hsl := hide (short_len Hlen.out hA (b2i_or more0) Hz.out Hd.out Hst.out)
    rw [Hmore.out] at Hst Hsl
    obtain ⟨sl0, sl1⟩ := cut_low Hlen.out hA Hd.out
    have st01 : 0 ≤ sty (A % p2 d) (b2i more) ∧ sty (A % p2 d) (b2i more) ≤ 1 := by rcases Hst.out with h | h <;> omega
    obtain ⟨st0, st1⟩ := st01
    generalize hSH : 2 * (A / p2 d) + sty (A % p2 d) (b2i more) = sh at *
    have sh0 : 0 ≤ sh := by omega
    have sh1 : sh < 9223372036854775808 := by omega
    have HSH := hide hSH
    clear hSH sl0 sl1 st0 st1
    obtain ⟨t, ht⟩ : ∃ t, t = max (e + size - 1 - 10) (-24) := ⟨_, rfl⟩
    have Hfit := hide (mid_fits (L := (-24)) (fr := 10) (by decide) Hd.out Hsl.out sh0 (by omega) ht)
    have Hnear : ∀ q, 0 ≤ q → (0 ≤ e + d - 1 - t → q = sh * p2 (e + d - 1 - t).toNat) → (e + d - 1 - t < 0 → Half q (p2 (-(e + d - 1 - t)).toNat) (2 * sh)) → Hid (q ≤ 2 * 1024 ∧ (t = (-24) ∨ 1024 ≤ q) ∧ q + (t - (-24)) * 1024 ≤ 31744 ∧ Near 1024 (-24) 31744 (2 * A + b2i more) (e - 1) (q + (t - (-24)) * 1024)) := by
      intro q q0 h1 h2
      have hz := Hz.out
      rw [Hmore.out] at hz
      refine hide (near_of (lim := 16) (fr := 10) (size := size) (d := d) (st := sty (A % p2 d) (b2i more)) (by decide) (by decide) (by decide) (by decide) (by decide) Hlen.out hA (b2i_or _) hz (by omega) Hd.out Hst.out (by rw [ht]; rfl) (fun h => ?_) (fun h => ?_) q0)
      · rw [HSH.out]; exact h1 (by omega)
      · rw [HSH.out, show t - (e + d - 1) = -(e + d - 1 - t) by omega]; exact h2 (by omega)
    have hdd := Hd.out
    have hln : ((size + 1 - d : Nat) : Int) = size + 1 - d := by omega
    have t0 : (-24) ≤ t := by omega
    have t1 : t ≤ 4611686018427387904 := by omega
    have d0 : (d : Int) ≤ 35184372088832 := by omega
    have hw1 : IntKind.i64.wrap (e + d - 1 + ((size + 1 - d : Nat) : Int)) = e + size := by rw [IntKind.wrap_i64]; omega
    have hw2 : IntKind.i64.wrap (e + size - 1) = e + size - 1 := by rw [IntKind.wrap_i64]; omega
    have hw3 : IntKind.i64.wrap (e + size - 1 - 10) = e + size - 1 - 10 := by rw [IntKind.wrap_i64]; omega
    have hw4 : (if e + size - 1 - 10 < (-24) then (-24) else e + size - 1 - 10) = t := by split <;> omega
    have hw5 : IntKind.i64.wrap (e + d - 1 - t) = e + d - 1 - t := by rw [IntKind.wrap_i64]; omega
    have Hnn := hide Hnear
    have HT := hide ht
    clear hdd ht Hnear hln
    go_upto_region 7 with fail
    have K : Below w4.heap.size w4 w4.drew := (Below.refl _ _).drew
    go_region_held3 (fun w' => w'.cell? ⟨w.heap.size, 0, none⟩ = some (.int .i64 16) ∧ w'.cell? ⟨w.heap.size, 1, none⟩ = some (.int .i64 10) ∧ w'.cell? ⟨w.heap.size, 2, none⟩ = some (.int .i64 (-24)))
      (first
              | with_reducible exact ⟨(C.below K).c0, (C.below K).c1, (C.below K).c2⟩
              | go_keep)
      (first
        | (go_at_call 216; (with_reducible refine (len64_any sh _ sh0 (by omega)).mono ?_); rintro x w5 ⟨ln, rfl, hll, _, rfl⟩; obtain rfl := isLen_unique hll Hsl.out; clear hll))
    all_goals (
      (try simp only [hw1, hw2, hw3, hw4])
      replace C := C.below K
      replace K1 := below_trans K1 K
      clear K hw1 hw2 hw3 hw4
      go_upto_region 8 with fail)
    all_goals (
      have K : Below w4.drew.heap.size w4.drew w4.drew.drew := (Below.refl _ _).drew
      go_region_held3 (fun w' => w'.cell? ⟨w.heap.size, 0, none⟩ = some (.int .i64 16) ∧ w'.cell? ⟨w.heap.size, 1, none⟩ = some (.int .i64 10) ∧ w'.cell? ⟨w.heap.size, 2, none⟩ = some (.int .i64 (-24)))
        (first
              | with_reducible exact ⟨(C.below K).c0, (C.below K).c1, (C.below K).c2⟩
              | go_keep)
        (first
          | (go_at_call 218; (with_reducible refine (half_any _ sh (e + d - 1 - t) sh0 sh1 Hfit.out.1 Hfit.out.2).mono ?_); rintro x w6 ⟨q, rfl, q0, hq1, hq2, hb⟩; have HN := Hnn.out q q0 hq1 hq2; clear hq1 hq2; replace K := below_trans K hb; clear hb)
          | (go_at_call 217; (with_reducible refine (pattern_h _ q t q0 t0 HN.out.2.2.1).mono ?_); rintro x w7 ⟨rfl, hb⟩; replace K := below_trans K hb; clear hb)))
    all_goals (
      have HN2 := hide HN.out.2.2.2
      rw [show t - (-24) = t + 24 by omega] at HN2
      clear HN
      go_wp2
      go_ret
      exact ⟨_, rfl, HN2.out, below_trans K1 K⟩)

theorem or64_h (x : Int) (h0 : 0 ≤ x) (h1 : x < 32768) : bits .or .u64 x 32768 = x + 32768 := by
  rw [u64_or x 32768 h0 (by omega) (by decide) (by decide)]
  have := nat_or (n := 15) (x := x.toNat) (by omega)
  rw [show (32768 : Int).toNat = 2 ^ 15 from rfl, this]
  omega

set_option maxRecDepth 20000 in
set_option maxHeartbeats 8000000 in
theorem nearest_s {w : World} {va : Value} {A e : Int} {ka : Nat} {more : Bool} (ha : Arg w va A ka) (hka : ka ≤ 1099511627776) (e0 : -9223372036854775808 ≤ e) (e1 : e < 9223372036854775808) :
    Calls Tryz.prog 188 #[.agg #[.int .i64 32, .int .i64 23, .int .i64 (-149)], va, .int .i64 e, .bool more] w fun x w' => ∃ r, x = .returned (.int .u64 r) ∧ Near 8388608 (-149) 2139095040 (2 * A + b2i more) (e - 1) r ∧ Below w.heap.size w w' := by
  have hA := ha.nonneg
  go_enter Tryz.func188, Tryz.ntmps188
  go_upto_region 1 with fail
  have C := cell3_new w (.int .i64 32) (.int .i64 23) (.int .i64 (-149)) 117
  have K1 := bel_new w (.cells #[.int .i64 32, .int .i64 23, .int .i64 (-149)] 117)
  have A1 := ha.below K1
  generalize w.alloc (.cells #[.int .i64 32, .int .i64 23, .int .i64 (-149)] 117) = w1 at *
  clear ha
  go_wp2_with fail
  with_reducible refine (len_any A1 hka).mono ?_
  rintro x w2 ⟨size, rfl, hlen, hsz, rfl⟩
  have Hlen := hide hlen
  clear hlen
  have sz1 : (size : Int) ≤ 35184372088832 := by omega
  have c0 := C.c0; have c1 := C.c1; have c2 := C.c2
  by_cases z : size = 0
  · have z' : ((size : Int) == 0) = true := by simp [z]
    cases more
    · have HN := hide (near_low (F := 8388608) (L := (-149)) (I := 2139095040) (e := e) (by decide) (by decide) hA Hlen.out (b2i_or false) (Or.inl ⟨z, rfl⟩))
      clear z
      go_wp2
      go_ret
      exact ⟨0, rfl, HN.out, K1⟩
    · obtain ⟨more0, hm⟩ : ∃ b, b = true := ⟨_, rfl⟩
      have Hmore := hide hm
      have Hz := hide (show ¬ (size = 0 ∧ b2i more0 = 0) by rw [hm]; simp [b2i])
      clear z hm
      by_cases lo : e < (-149) - (size : Int)
      · have HN := hide (near_low (F := 8388608) (L := (-149)) (I := 2139095040) (by decide) (by decide) hA Hlen.out (b2i_or true) (Or.inr lo))
        skip
        go_wp2
        go_ret
        exact ⟨0, rfl, HN.out, K1⟩
      skip
      go_wp2_with fail
      with_reducible refine (limit_s _).mono ?_
      rintro x w3 ⟨rfl, b3⟩
      clear c0 c1 c2
      replace C := C.below b3
      replace K1 := below_trans K1 b3
      replace A1 := A1.below b3
      clear b3
      have c0 := C.c0; have c1 := C.c1; have c2 := C.c2
      by_cases hi : 128 - (size : Int) < e
      · have HN := hide (near_high (F := 8388608) (L := (-149)) (I := 2139095040) (lim := 128) (fr := 23) (by decide) (by decide) (by decide) hA Hlen.out (b2i_or more0) Hz.out hi)
        rw [Hmore.out] at HN
        go_wp2_with fail
        with_reducible refine (infinite_s _).mono ?_
        rintro x w4 ⟨rfl, b4⟩
        go_wp2
        go_ret
        exact ⟨_, rfl, HN.out, below_trans K1 b4⟩
      obtain ⟨d, hd⟩ : ∃ d, d = size - 62 := ⟨_, rfl⟩
      have Hd := hide hd
      clear hd
      go_wp2_with fail
      with_reducible refine (cut_any A1 hka Hlen.out (by omega) Hd.out (by omega) (by omega)).mono ?_
      rintro x w4 ⟨rfl, b4⟩
      clear c0 c1 c2
      replace C := C.below b4
      replace K1 := below_trans K1 b4
      clear b4 A1
      have Hst := hide (sty_or (A % p2 d) (b2i more0))
      have Hsl := hide (short_len Hlen.out hA (b2i_or more0) Hz.out Hd.out Hst.out)
      rw [Hmore.out] at Hst Hsl
      obtain ⟨sl0, sl1⟩ := cut_low Hlen.out hA Hd.out
      have st01 : 0 ≤ sty (A % p2 d) (b2i true) ∧ sty (A % p2 d) (b2i true) ≤ 1 := by rcases Hst.out with h | h <;> omega
      obtain ⟨st0, st1⟩ := st01
      generalize hSH : 2 * (A / p2 d) + sty (A % p2 d) (b2i true) = sh at *
      have sh0 : 0 ≤ sh := by omega
      have sh1 : sh < 9223372036854775808 := by omega
      have HSH := hide hSH
      clear hSH sl0 sl1 st0 st1
      obtain ⟨t, ht⟩ : ∃ t, t = max (e + size - 1 - 23) (-149) := ⟨_, rfl⟩
      have Hfit := hide (mid_fits (L := (-149)) (fr := 23) (by decide) Hd.out Hsl.out sh0 (by omega) ht)
      have Hnear : ∀ q, 0 ≤ q → (0 ≤ e + d - 1 - t → q = sh * p2 (e + d - 1 - t).toNat) → (e + d - 1 - t < 0 → Half q (p2 (-(e + d - 1 - t)).toNat) (2 * sh)) → Hid (q ≤ 2 * 8388608 ∧ (t = (-149) ∨ 8388608 ≤ q) ∧ q + (t - (-149)) * 8388608 ≤ 2139095040 ∧ Near 8388608 (-149) 2139095040 (2 * A + b2i true) (e - 1) (q + (t - (-149)) * 8388608)) := by
        intro q q0 h1 h2
        have hz := Hz.out
        rw [Hmore.out] at hz
        refine hide (near_of (lim := 128) (fr := 23) (size := size) (d := d) (st := sty (A % p2 d) (b2i true)) (by decide) (by decide) (by decide) (by decide) (by decide) Hlen.out hA (b2i_or _) hz (by omega) Hd.out Hst.out (by rw [ht]; rfl) (fun h => ?_) (fun h => ?_) q0)
        · rw [HSH.out]; exact h1 (by omega)
        · rw [HSH.out, show t - (e + d - 1) = -(e + d - 1 - t) by omega]; exact h2 (by omega)
      have hdd := Hd.out
      have hln : ((size + 1 - d : Nat) : Int) = size + 1 - d := by omega
      have t0 : (-149) ≤ t := by omega
      have t1 : t ≤ 4611686018427387904 := by omega
      have d0 : (d : Int) ≤ 35184372088832 := by omega
      have hw1 : IntKind.i64.wrap (e + d - 1 + ((size + 1 - d : Nat) : Int)) = e + size := by rw [IntKind.wrap_i64]; omega
      have hw2 : IntKind.i64.wrap (e + size - 1) = e + size - 1 := by rw [IntKind.wrap_i64]; omega
      have hw3 : IntKind.i64.wrap (e + size - 1 - 23) = e + size - 1 - 23 := by rw [IntKind.wrap_i64]; omega
      have hw4 : (if e + size - 1 - 23 < (-149) then (-149) else e + size - 1 - 23) = t := by split <;> omega
      have hw5 : IntKind.i64.wrap (e + d - 1 - t) = e + d - 1 - t := by rw [IntKind.wrap_i64]; omega
      have Hnn := hide Hnear
      have HT := hide ht
      clear hdd ht Hnear hln
      go_upto_region 7 with fail
      have K : Below w4.heap.size w4 w4.drew := (Below.refl _ _).drew
      go_region_held3 (fun w' => w'.cell? ⟨w.heap.size, 0, none⟩ = some (.int .i64 32) ∧ w'.cell? ⟨w.heap.size, 1, none⟩ = some (.int .i64 23) ∧ w'.cell? ⟨w.heap.size, 2, none⟩ = some (.int .i64 (-149)))
        (first
                | with_reducible exact ⟨(C.below K).c0, (C.below K).c1, (C.below K).c2⟩
                | go_keep)
        (first
          | (go_at_call 216; (with_reducible refine (len64_any sh _ sh0 (by omega)).mono ?_); rintro x w5 ⟨ln, rfl, hll, _, rfl⟩; obtain rfl := isLen_unique hll Hsl.out; clear hll))
      all_goals (
        (try simp only [hw1, hw2, hw3, hw4])
        replace C := C.below K
        replace K1 := below_trans K1 K
        clear K hw1 hw2 hw3 hw4
        go_upto_region 8 with fail)
      all_goals (
        have K : Below w4.drew.heap.size w4.drew w4.drew.drew := (Below.refl _ _).drew
        go_region_held3 (fun w' => w'.cell? ⟨w.heap.size, 0, none⟩ = some (.int .i64 32) ∧ w'.cell? ⟨w.heap.size, 1, none⟩ = some (.int .i64 23) ∧ w'.cell? ⟨w.heap.size, 2, none⟩ = some (.int .i64 (-149)))
          (first
                | with_reducible exact ⟨(C.below K).c0, (C.below K).c1, (C.below K).c2⟩
                | go_keep)
          (first
            | (go_at_call 218; (with_reducible refine (half_any _ sh (e + d - 1 - t) sh0 sh1 Hfit.out.1 Hfit.out.2).mono ?_); rintro x w6 ⟨q, rfl, q0, hq1, hq2, hb⟩; have HN := Hnn.out q q0 hq1 hq2; clear hq1 hq2; replace K := below_trans K hb; clear hb)
            | (go_at_call 217; (with_reducible refine (pattern_s _ q t q0 t0 HN.out.2.2.1).mono ?_); rintro x w7 ⟨rfl, hb⟩; replace K := below_trans K hb; clear hb)))
      all_goals (
        have HN2 := hide HN.out.2.2.2
        rw [show t - (-149) = t + 149 by omega] at HN2
        clear HN
        go_wp2
        go_ret
        exact ⟨_, rfl, HN2.out, below_trans K1 K⟩)
  · have z' : ((size : Int) == 0) = false := by simp [z]
    obtain ⟨more0, hm⟩ : ∃ b, b = more := ⟨_, rfl⟩
    have Hmore := hide hm
    have Hz := hide (show ¬ (size = 0 ∧ b2i more0 = 0) by omega)
    clear z hm
    by_cases lo : e < (-149) - (size : Int)
    · have HN := hide (near_low (F := 8388608) (L := (-149)) (I := 2139095040) (by decide) (by decide) hA Hlen.out (b2i_or more) (Or.inr lo))
      skip
      go_wp2
      go_ret
      exact ⟨0, rfl, HN.out, K1⟩
    skip
    go_wp2_with fail
    with_reducible refine (limit_s _).mono ?_
    rintro x w3 ⟨rfl, b3⟩
    clear c0 c1 c2
    replace C := C.below b3
    replace K1 := below_trans K1 b3
    replace A1 := A1.below b3
    clear b3
    have c0 := C.c0; have c1 := C.c1; have c2 := C.c2
    by_cases hi : 128 - (size : Int) < e
    · have HN := hide (near_high (F := 8388608) (L := (-149)) (I := 2139095040) (lim := 128) (fr := 23) (by decide) (by decide) (by decide) hA Hlen.out (b2i_or more0) Hz.out hi)
      rw [Hmore.out] at HN
      go_wp2_with fail
      with_reducible refine (infinite_s _).mono ?_
      rintro x w4 ⟨rfl, b4⟩
      go_wp2
      go_ret
      exact ⟨_, rfl, HN.out, below_trans K1 b4⟩
    obtain ⟨d, hd⟩ : ∃ d, d = size - 62 := ⟨_, rfl⟩
    have Hd := hide hd
    clear hd
    go_wp2_with fail
    with_reducible refine (cut_any A1 hka Hlen.out (by omega) Hd.out (by omega) (by omega)).mono ?_
    rintro x w4 ⟨rfl, b4⟩
    clear c0 c1 c2
    replace C := C.below b4
    replace K1 := below_trans K1 b4
    clear b4 A1
    have Hst := hide (sty_or (A % p2 d) (b2i more0))
    have Hsl := hide (short_len Hlen.out hA (b2i_or more0) Hz.out Hd.out Hst.out)
    rw [Hmore.out] at Hst Hsl
    obtain ⟨sl0, sl1⟩ := cut_low Hlen.out hA Hd.out
    have st01 : 0 ≤ sty (A % p2 d) (b2i more) ∧ sty (A % p2 d) (b2i more) ≤ 1 := by rcases Hst.out with h | h <;> omega
    obtain ⟨st0, st1⟩ := st01
    generalize hSH : 2 * (A / p2 d) + sty (A % p2 d) (b2i more) = sh at *
    have sh0 : 0 ≤ sh := by omega
    have sh1 : sh < 9223372036854775808 := by omega
    have HSH := hide hSH
    clear hSH sl0 sl1 st0 st1
    obtain ⟨t, ht⟩ : ∃ t, t = max (e + size - 1 - 23) (-149) := ⟨_, rfl⟩
    have Hfit := hide (mid_fits (L := (-149)) (fr := 23) (by decide) Hd.out Hsl.out sh0 (by omega) ht)
    have Hnear : ∀ q, 0 ≤ q → (0 ≤ e + d - 1 - t → q = sh * p2 (e + d - 1 - t).toNat) → (e + d - 1 - t < 0 → Half q (p2 (-(e + d - 1 - t)).toNat) (2 * sh)) → Hid (q ≤ 2 * 8388608 ∧ (t = (-149) ∨ 8388608 ≤ q) ∧ q + (t - (-149)) * 8388608 ≤ 2139095040 ∧ Near 8388608 (-149) 2139095040 (2 * A + b2i more) (e - 1) (q + (t - (-149)) * 8388608)) := by
      intro q q0 h1 h2
      have hz := Hz.out
      rw [Hmore.out] at hz
      refine hide (near_of (lim := 128) (fr := 23) (size := size) (d := d) (st := sty (A % p2 d) (b2i more)) (by decide) (by decide) (by decide) (by decide) (by decide) Hlen.out hA (b2i_or _) hz (by omega) Hd.out Hst.out (by rw [ht]; rfl) (fun h => ?_) (fun h => ?_) q0)
      · rw [HSH.out]; exact h1 (by omega)
      · rw [HSH.out, show t - (e + d - 1) = -(e + d - 1 - t) by omega]; exact h2 (by omega)
    have hdd := Hd.out
    have hln : ((size + 1 - d : Nat) : Int) = size + 1 - d := by omega
    have t0 : (-149) ≤ t := by omega
    have t1 : t ≤ 4611686018427387904 := by omega
    have d0 : (d : Int) ≤ 35184372088832 := by omega
    have hw1 : IntKind.i64.wrap (e + d - 1 + ((size + 1 - d : Nat) : Int)) = e + size := by rw [IntKind.wrap_i64]; omega
    have hw2 : IntKind.i64.wrap (e + size - 1) = e + size - 1 := by rw [IntKind.wrap_i64]; omega
    have hw3 : IntKind.i64.wrap (e + size - 1 - 23) = e + size - 1 - 23 := by rw [IntKind.wrap_i64]; omega
    have hw4 : (if e + size - 1 - 23 < (-149) then (-149) else e + size - 1 - 23) = t := by split <;> omega
    have hw5 : IntKind.i64.wrap (e + d - 1 - t) = e + d - 1 - t := by rw [IntKind.wrap_i64]; omega
    have Hnn := hide Hnear
    have HT := hide ht
    clear hdd ht Hnear hln
    go_upto_region 7 with fail
    have K : Below w4.heap.size w4 w4.drew := (Below.refl _ _).drew
    go_region_held3 (fun w' => w'.cell? ⟨w.heap.size, 0, none⟩ = some (.int .i64 32) ∧ w'.cell? ⟨w.heap.size, 1, none⟩ = some (.int .i64 23) ∧ w'.cell? ⟨w.heap.size, 2, none⟩ = some (.int .i64 (-149)))
      (first
              | with_reducible exact ⟨(C.below K).c0, (C.below K).c1, (C.below K).c2⟩
              | go_keep)
      (first
        | (go_at_call 216; (with_reducible refine (len64_any sh _ sh0 (by omega)).mono ?_); rintro x w5 ⟨ln, rfl, hll, _, rfl⟩; obtain rfl := isLen_unique hll Hsl.out; clear hll))
    all_goals (
      (try simp only [hw1, hw2, hw3, hw4])
      replace C := C.below K
      replace K1 := below_trans K1 K
      clear K hw1 hw2 hw3 hw4
      go_upto_region 8 with fail)
    all_goals (
      have K : Below w4.drew.heap.size w4.drew w4.drew.drew := (Below.refl _ _).drew
      go_region_held3 (fun w' => w'.cell? ⟨w.heap.size, 0, none⟩ = some (.int .i64 32) ∧ w'.cell? ⟨w.heap.size, 1, none⟩ = some (.int .i64 23) ∧ w'.cell? ⟨w.heap.size, 2, none⟩ = some (.int .i64 (-149)))
        (first
              | with_reducible exact ⟨(C.below K).c0, (C.below K).c1, (C.below K).c2⟩
              | go_keep)
        (first
          | (go_at_call 218; (with_reducible refine (half_any _ sh (e + d - 1 - t) sh0 sh1 Hfit.out.1 Hfit.out.2).mono ?_); rintro x w6 ⟨q, rfl, q0, hq1, hq2, hb⟩; have HN := Hnn.out q q0 hq1 hq2; clear hq1 hq2; replace K := below_trans K hb; clear hb)
          | (go_at_call 217; (with_reducible refine (pattern_s _ q t q0 t0 HN.out.2.2.1).mono ?_); rintro x w7 ⟨rfl, hb⟩; replace K := below_trans K hb; clear hb)))
    all_goals (
      have HN2 := hide HN.out.2.2.2
      rw [show t - (-149) = t + 149 by omega] at HN2
      clear HN
      go_wp2
      go_ret
      exact ⟨_, rfl, HN2.out, below_trans K1 K⟩)

theorem or64_s (x : Int) (h0 : 0 ≤ x) (h1 : x < 2147483648) : bits .or .u64 x 2147483648 = x + 2147483648 := by
  rw [u64_or x 2147483648 h0 (by omega) (by decide) (by decide)]
  have := nat_or (n := 31) (x := x.toNat) (by omega)
  rw [show (2147483648 : Int).toNat = 2 ^ 31 from rfl, this]
  omega

set_option maxRecDepth 20000 in
set_option maxHeartbeats 8000000 in
theorem nearest_d {w : World} {va : Value} {A e : Int} {ka : Nat} {more : Bool} (ha : Arg w va A ka) (hka : ka ≤ 1099511627776) (e0 : -9223372036854775808 ≤ e) (e1 : e < 9223372036854775808) :
    Calls Tryz.prog 188 #[.agg #[.int .i64 64, .int .i64 52, .int .i64 (-1074)], va, .int .i64 e, .bool more] w fun x w' => ∃ r, x = .returned (.int .u64 r) ∧ Near 4503599627370496 (-1074) 9218868437227405312 (2 * A + b2i more) (e - 1) r ∧ Below w.heap.size w w' := by
  have hA := ha.nonneg
  go_enter Tryz.func188, Tryz.ntmps188
  go_upto_region 1 with fail
  have C := cell3_new w (.int .i64 64) (.int .i64 52) (.int .i64 (-1074)) 117
  have K1 := bel_new w (.cells #[.int .i64 64, .int .i64 52, .int .i64 (-1074)] 117)
  have A1 := ha.below K1
  generalize w.alloc (.cells #[.int .i64 64, .int .i64 52, .int .i64 (-1074)] 117) = w1 at *
  clear ha
  go_wp2_with fail
  with_reducible refine (len_any A1 hka).mono ?_
  rintro x w2 ⟨size, rfl, hlen, hsz, rfl⟩
  have Hlen := hide hlen
  clear hlen
  have sz1 : (size : Int) ≤ 35184372088832 := by omega
  have c0 := C.c0; have c1 := C.c1; have c2 := C.c2
  by_cases z : size = 0
  · have z' : ((size : Int) == 0) = true := by simp [z]
    cases more
    · have HN := hide (near_low (F := 4503599627370496) (L := (-1074)) (I := 9218868437227405312) (e := e) (by decide) (by decide) hA Hlen.out (b2i_or false) (Or.inl ⟨z, rfl⟩))
      clear z
      go_wp2
      go_ret
      exact ⟨0, rfl, HN.out, K1⟩
    · obtain ⟨more0, hm⟩ : ∃ b, b = true := ⟨_, rfl⟩
      have Hmore := hide hm
      have Hz := hide (show ¬ (size = 0 ∧ b2i more0 = 0) by rw [hm]; simp [b2i])
      clear z hm
      by_cases lo : e < (-1074) - (size : Int)
      · have HN := hide (near_low (F := 4503599627370496) (L := (-1074)) (I := 9218868437227405312) (by decide) (by decide) hA Hlen.out (b2i_or true) (Or.inr lo))
        skip
        go_wp2
        go_ret
        exact ⟨0, rfl, HN.out, K1⟩
      skip
      go_wp2_with fail
      with_reducible refine (limit_d _).mono ?_
      rintro x w3 ⟨rfl, b3⟩
      clear c0 c1 c2
      replace C := C.below b3
      replace K1 := below_trans K1 b3
      replace A1 := A1.below b3
      clear b3
      have c0 := C.c0; have c1 := C.c1; have c2 := C.c2
      by_cases hi : 1024 - (size : Int) < e
      · have HN := hide (near_high (F := 4503599627370496) (L := (-1074)) (I := 9218868437227405312) (lim := 1024) (fr := 52) (by decide) (by decide) (by decide) hA Hlen.out (b2i_or more0) Hz.out hi)
        rw [Hmore.out] at HN
        go_wp2_with fail
        with_reducible refine (infinite_d _).mono ?_
        rintro x w4 ⟨rfl, b4⟩
        go_wp2
        go_ret
        exact ⟨_, rfl, HN.out, below_trans K1 b4⟩
      obtain ⟨d, hd⟩ : ∃ d, d = size - 62 := ⟨_, rfl⟩
      have Hd := hide hd
      clear hd
      go_wp2_with fail
      with_reducible refine (cut_any A1 hka Hlen.out (by omega) Hd.out (by omega) (by omega)).mono ?_
      rintro x w4 ⟨rfl, b4⟩
      clear c0 c1 c2
      replace C := C.below b4
      replace K1 := below_trans K1 b4
      clear b4 A1
      have Hst := hide (sty_or (A % p2 d) (b2i more0))
      have Hsl := hide (short_len Hlen.out hA (b2i_or more0) Hz.out Hd.out Hst.out)
      rw [Hmore.out] at Hst Hsl
      obtain ⟨sl0, sl1⟩ := cut_low Hlen.out hA Hd.out
      have st01 : 0 ≤ sty (A % p2 d) (b2i true) ∧ sty (A % p2 d) (b2i true) ≤ 1 := by rcases Hst.out with h | h <;> omega
      obtain ⟨st0, st1⟩ := st01
      generalize hSH : 2 * (A / p2 d) + sty (A % p2 d) (b2i true) = sh at *
      have sh0 : 0 ≤ sh := by omega
      have sh1 : sh < 9223372036854775808 := by omega
      have HSH := hide hSH
      clear hSH sl0 sl1 st0 st1
      obtain ⟨t, ht⟩ : ∃ t, t = max (e + size - 1 - 52) (-1074) := ⟨_, rfl⟩
      have Hfit := hide (mid_fits (L := (-1074)) (fr := 52) (by decide) Hd.out Hsl.out sh0 (by omega) ht)
      have Hnear : ∀ q, 0 ≤ q → (0 ≤ e + d - 1 - t → q = sh * p2 (e + d - 1 - t).toNat) → (e + d - 1 - t < 0 → Half q (p2 (-(e + d - 1 - t)).toNat) (2 * sh)) → Hid (q ≤ 2 * 4503599627370496 ∧ (t = (-1074) ∨ 4503599627370496 ≤ q) ∧ q + (t - (-1074)) * 4503599627370496 ≤ 9218868437227405312 ∧ Near 4503599627370496 (-1074) 9218868437227405312 (2 * A + b2i true) (e - 1) (q + (t - (-1074)) * 4503599627370496)) := by
        intro q q0 h1 h2
        have hz := Hz.out
        rw [Hmore.out] at hz
        refine hide (near_of (lim := 1024) (fr := 52) (size := size) (d := d) (st := sty (A % p2 d) (b2i true)) (by decide) (by decide) (by decide) (by decide) (by decide) Hlen.out hA (b2i_or _) hz (by omega) Hd.out Hst.out (by rw [ht]; rfl) (fun h => ?_) (fun h => ?_) q0)
        · rw [HSH.out]; exact h1 (by omega)
        · rw [HSH.out, show t - (e + d - 1) = -(e + d - 1 - t) by omega]; exact h2 (by omega)
      have hdd := Hd.out
      have hln : ((size + 1 - d : Nat) : Int) = size + 1 - d := by omega
      have t0 : (-1074) ≤ t := by omega
      have t1 : t ≤ 4611686018427387904 := by omega
      have d0 : (d : Int) ≤ 35184372088832 := by omega
      have hw1 : IntKind.i64.wrap (e + d - 1 + ((size + 1 - d : Nat) : Int)) = e + size := by rw [IntKind.wrap_i64]; omega
      have hw2 : IntKind.i64.wrap (e + size - 1) = e + size - 1 := by rw [IntKind.wrap_i64]; omega
      have hw3 : IntKind.i64.wrap (e + size - 1 - 52) = e + size - 1 - 52 := by rw [IntKind.wrap_i64]; omega
      have hw4 : (if e + size - 1 - 52 < (-1074) then (-1074) else e + size - 1 - 52) = t := by split <;> omega
      have hw5 : IntKind.i64.wrap (e + d - 1 - t) = e + d - 1 - t := by rw [IntKind.wrap_i64]; omega
      have Hnn := hide Hnear
      have HT := hide ht
      clear hdd ht Hnear hln
      go_upto_region 7 with fail
      have K : Below w4.heap.size w4 w4.drew := (Below.refl _ _).drew
      go_region_held3 (fun w' => w'.cell? ⟨w.heap.size, 0, none⟩ = some (.int .i64 64) ∧ w'.cell? ⟨w.heap.size, 1, none⟩ = some (.int .i64 52) ∧ w'.cell? ⟨w.heap.size, 2, none⟩ = some (.int .i64 (-1074)))
        (first
                | with_reducible exact ⟨(C.below K).c0, (C.below K).c1, (C.below K).c2⟩
                | go_keep)
        (first
          | (go_at_call 216; (with_reducible refine (len64_any sh _ sh0 (by omega)).mono ?_); rintro x w5 ⟨ln, rfl, hll, _, rfl⟩; obtain rfl := isLen_unique hll Hsl.out; clear hll))
      all_goals (
        (try simp only [hw1, hw2, hw3, hw4])
        replace C := C.below K
        replace K1 := below_trans K1 K
        clear K hw1 hw2 hw3 hw4
        go_upto_region 8 with fail)
      all_goals (
        have K : Below w4.drew.heap.size w4.drew w4.drew.drew := (Below.refl _ _).drew
        go_region_held3 (fun w' => w'.cell? ⟨w.heap.size, 0, none⟩ = some (.int .i64 64) ∧ w'.cell? ⟨w.heap.size, 1, none⟩ = some (.int .i64 52) ∧ w'.cell? ⟨w.heap.size, 2, none⟩ = some (.int .i64 (-1074)))
          (first
                | with_reducible exact ⟨(C.below K).c0, (C.below K).c1, (C.below K).c2⟩
                | go_keep)
          (first
            | (go_at_call 218; (with_reducible refine (half_any _ sh (e + d - 1 - t) sh0 sh1 Hfit.out.1 Hfit.out.2).mono ?_); rintro x w6 ⟨q, rfl, q0, hq1, hq2, hb⟩; have HN := Hnn.out q q0 hq1 hq2; clear hq1 hq2; replace K := below_trans K hb; clear hb)
            | (go_at_call 217; (with_reducible refine (pattern_d _ q t q0 t0 HN.out.2.2.1).mono ?_); rintro x w7 ⟨rfl, hb⟩; replace K := below_trans K hb; clear hb)))
      all_goals (
        have HN2 := hide HN.out.2.2.2
        rw [show t - (-1074) = t + 1074 by omega] at HN2
        clear HN
        go_wp2
        go_ret
        exact ⟨_, rfl, HN2.out, below_trans K1 K⟩)
  · have z' : ((size : Int) == 0) = false := by simp [z]
    obtain ⟨more0, hm⟩ : ∃ b, b = more := ⟨_, rfl⟩
    have Hmore := hide hm
    have Hz := hide (show ¬ (size = 0 ∧ b2i more0 = 0) by omega)
    clear z hm
    by_cases lo : e < (-1074) - (size : Int)
    · have HN := hide (near_low (F := 4503599627370496) (L := (-1074)) (I := 9218868437227405312) (by decide) (by decide) hA Hlen.out (b2i_or more) (Or.inr lo))
      skip
      go_wp2
      go_ret
      exact ⟨0, rfl, HN.out, K1⟩
    skip
    go_wp2_with fail
    with_reducible refine (limit_d _).mono ?_
    rintro x w3 ⟨rfl, b3⟩
    clear c0 c1 c2
    replace C := C.below b3
    replace K1 := below_trans K1 b3
    replace A1 := A1.below b3
    clear b3
    have c0 := C.c0; have c1 := C.c1; have c2 := C.c2
    by_cases hi : 1024 - (size : Int) < e
    · have HN := hide (near_high (F := 4503599627370496) (L := (-1074)) (I := 9218868437227405312) (lim := 1024) (fr := 52) (by decide) (by decide) (by decide) hA Hlen.out (b2i_or more0) Hz.out hi)
      rw [Hmore.out] at HN
      go_wp2_with fail
      with_reducible refine (infinite_d _).mono ?_
      rintro x w4 ⟨rfl, b4⟩
      go_wp2
      go_ret
      exact ⟨_, rfl, HN.out, below_trans K1 b4⟩
    obtain ⟨d, hd⟩ : ∃ d, d = size - 62 := ⟨_, rfl⟩
    have Hd := hide hd
    clear hd
    go_wp2_with fail
    with_reducible refine (cut_any A1 hka Hlen.out (by omega) Hd.out (by omega) (by omega)).mono ?_
    rintro x w4 ⟨rfl, b4⟩
    clear c0 c1 c2
    replace C := C.below b4
    replace K1 := below_trans K1 b4
    clear b4 A1
    have Hst := hide (sty_or (A % p2 d) (b2i more0))
    have Hsl := hide (short_len Hlen.out hA (b2i_or more0) Hz.out Hd.out Hst.out)
    rw [Hmore.out] at Hst Hsl
    obtain ⟨sl0, sl1⟩ := cut_low Hlen.out hA Hd.out
    have st01 : 0 ≤ sty (A % p2 d) (b2i more) ∧ sty (A % p2 d) (b2i more) ≤ 1 := by rcases Hst.out with h | h <;> omega
    obtain ⟨st0, st1⟩ := st01
    generalize hSH : 2 * (A / p2 d) + sty (A % p2 d) (b2i more) = sh at *
    have sh0 : 0 ≤ sh := by omega
    have sh1 : sh < 9223372036854775808 := by omega
    have HSH := hide hSH
    clear hSH sl0 sl1 st0 st1
    obtain ⟨t, ht⟩ : ∃ t, t = max (e + size - 1 - 52) (-1074) := ⟨_, rfl⟩
    have Hfit := hide (mid_fits (L := (-1074)) (fr := 52) (by decide) Hd.out Hsl.out sh0 (by omega) ht)
    have Hnear : ∀ q, 0 ≤ q → (0 ≤ e + d - 1 - t → q = sh * p2 (e + d - 1 - t).toNat) → (e + d - 1 - t < 0 → Half q (p2 (-(e + d - 1 - t)).toNat) (2 * sh)) → Hid (q ≤ 2 * 4503599627370496 ∧ (t = (-1074) ∨ 4503599627370496 ≤ q) ∧ q + (t - (-1074)) * 4503599627370496 ≤ 9218868437227405312 ∧ Near 4503599627370496 (-1074) 9218868437227405312 (2 * A + b2i more) (e - 1) (q + (t - (-1074)) * 4503599627370496)) := by
      intro q q0 h1 h2
      have hz := Hz.out
      rw [Hmore.out] at hz
      refine hide (near_of (lim := 1024) (fr := 52) (size := size) (d := d) (st := sty (A % p2 d) (b2i more)) (by decide) (by decide) (by decide) (by decide) (by decide) Hlen.out hA (b2i_or _) hz (by omega) Hd.out Hst.out (by rw [ht]; rfl) (fun h => ?_) (fun h => ?_) q0)
      · rw [HSH.out]; exact h1 (by omega)
      · rw [HSH.out, show t - (e + d - 1) = -(e + d - 1 - t) by omega]; exact h2 (by omega)
    have hdd := Hd.out
    have hln : ((size + 1 - d : Nat) : Int) = size + 1 - d := by omega
    have t0 : (-1074) ≤ t := by omega
    have t1 : t ≤ 4611686018427387904 := by omega
    have d0 : (d : Int) ≤ 35184372088832 := by omega
    have hw1 : IntKind.i64.wrap (e + d - 1 + ((size + 1 - d : Nat) : Int)) = e + size := by rw [IntKind.wrap_i64]; omega
    have hw2 : IntKind.i64.wrap (e + size - 1) = e + size - 1 := by rw [IntKind.wrap_i64]; omega
    have hw3 : IntKind.i64.wrap (e + size - 1 - 52) = e + size - 1 - 52 := by rw [IntKind.wrap_i64]; omega
    have hw4 : (if e + size - 1 - 52 < (-1074) then (-1074) else e + size - 1 - 52) = t := by split <;> omega
    have hw5 : IntKind.i64.wrap (e + d - 1 - t) = e + d - 1 - t := by rw [IntKind.wrap_i64]; omega
    have Hnn := hide Hnear
    have HT := hide ht
    clear hdd ht Hnear hln
    go_upto_region 7 with fail
    have K : Below w4.heap.size w4 w4.drew := (Below.refl _ _).drew
    go_region_held3 (fun w' => w'.cell? ⟨w.heap.size, 0, none⟩ = some (.int .i64 64) ∧ w'.cell? ⟨w.heap.size, 1, none⟩ = some (.int .i64 52) ∧ w'.cell? ⟨w.heap.size, 2, none⟩ = some (.int .i64 (-1074)))
      (first
              | with_reducible exact ⟨(C.below K).c0, (C.below K).c1, (C.below K).c2⟩
              | go_keep)
      (first
        | (go_at_call 216; (with_reducible refine (len64_any sh _ sh0 (by omega)).mono ?_); rintro x w5 ⟨ln, rfl, hll, _, rfl⟩; obtain rfl := isLen_unique hll Hsl.out; clear hll))
    all_goals (
      (try simp only [hw1, hw2, hw3, hw4])
      replace C := C.below K
      replace K1 := below_trans K1 K
      clear K hw1 hw2 hw3 hw4
      go_upto_region 8 with fail)
    all_goals (
      have K : Below w4.drew.heap.size w4.drew w4.drew.drew := (Below.refl _ _).drew
      go_region_held3 (fun w' => w'.cell? ⟨w.heap.size, 0, none⟩ = some (.int .i64 64) ∧ w'.cell? ⟨w.heap.size, 1, none⟩ = some (.int .i64 52) ∧ w'.cell? ⟨w.heap.size, 2, none⟩ = some (.int .i64 (-1074)))
        (first
              | with_reducible exact ⟨(C.below K).c0, (C.below K).c1, (C.below K).c2⟩
              | go_keep)
        (first
          | (go_at_call 218; (with_reducible refine (half_any _ sh (e + d - 1 - t) sh0 sh1 Hfit.out.1 Hfit.out.2).mono ?_); rintro x w6 ⟨q, rfl, q0, hq1, hq2, hb⟩; have HN := Hnn.out q q0 hq1 hq2; clear hq1 hq2; replace K := below_trans K hb; clear hb)
          | (go_at_call 217; (with_reducible refine (pattern_d _ q t q0 t0 HN.out.2.2.1).mono ?_); rintro x w7 ⟨rfl, hb⟩; replace K := below_trans K hb; clear hb)))
    all_goals (
      have HN2 := hide HN.out.2.2.2
      rw [show t - (-1074) = t + 1074 by omega] at HN2
      clear HN
      go_wp2
      go_ret
      exact ⟨_, rfl, HN2.out, below_trans K1 K⟩)

theorem or64_d (x : Int) (h0 : 0 ≤ x) (h1 : x < 9223372036854775808) : bits .or .u64 x 9223372036854775808 = x + 9223372036854775808 := by
  rw [u64_or x 9223372036854775808 h0 (by omega) (by decide) (by decide)]
  have := nat_or (n := 63) (x := x.toNat) (by omega)
  rw [show (9223372036854775808 : Int).toNat = 2 ^ 63 from rfl, this]
  omega

set_option maxHeartbeats 4000000 in
theorem round_16 {w : World} (L : Lays w) {va : Value} {A e : Int} {ka : Nat} {neg more : Bool} (ha : Arg w va A ka) (hka : ka ≤ 1099511627776) (e0 : -9223372036854775808 ≤ e) (e1 : e < 9223372036854775808) :
    Calls Tryz.prog 108 #[.bool neg, va, .int .i64 e, .bool more] w fun x w' => ∃ r, x = .returned (.int .u16 (r + b2i neg * 32768)) ∧ Near 1024 (-24) 31744 (2 * A + b2i more) (e - 1) r ∧ Below w.heap.size w w' := by
  go_enter Tryz.func108, Tryz.ntmps108
  go_wp2_with fail
  with_reducible refine (layoutOf_16 L).mono ?_
  rintro e w1 ⟨rfl, K1⟩
  go_upto_region 2 with fail
  have C := cell3_new w1 (.int .i64 16) (.int .i64 10) (.int .i64 (-24)) 117
  have K2 := below_trans K1 (bel_new w1 (.cells #[.int .i64 16, .int .i64 10, .int .i64 (-24)] 117))
  generalize w1.alloc (.cells #[.int .i64 16, .int .i64 10, .int .i64 (-24)] 117) = w2 at *
  have c0 := C.c0; have c1 := C.c1; have c2 := C.c2
  go_wp2_with fail
  with_reducible refine (nearest_h (ha.below K2) hka e0 e1).mono ?_
  rintro x w3 ⟨r, rfl, hN, b3⟩
  clear c0 c1 c2
  replace C := C.below b3
  replace K2 := below_trans K2 b3
  clear b3
  have r0 := hN.1
  have r1 := hN.2.1
  have HN := hide hN
  have ho := or64_h r r0 (by omega)
  clear hN
  have c0 := C.c0; have c1 := C.c1; have c2 := C.c2
  cases neg
  · go_wp2
    go_ret
    exact ⟨r, ret_int (by rw [show b2i false = 0 from rfl]; omega), HN.out, K2⟩
  · go_wp2_with fail
    with_reducible refine (sign_h _).mono ?_
    rintro x w4 ⟨rfl, b4⟩
    go_wp2
    go_ret
    exact ⟨r, ret_int (by rw [show b2i true = 1 from rfl]; omega), HN.out, below_trans K2 b4⟩

set_option maxHeartbeats 4000000 in
theorem round_32 {w : World} (L : Lays w) {va : Value} {A e : Int} {ka : Nat} {neg more : Bool} (ha : Arg w va A ka) (hka : ka ≤ 1099511627776) (e0 : -9223372036854775808 ≤ e) (e1 : e < 9223372036854775808) :
    Calls Tryz.prog 117 #[.bool neg, va, .int .i64 e, .bool more] w fun x w' => ∃ r, x = .returned (.int .u32 (r + b2i neg * 2147483648)) ∧ Near 8388608 (-149) 2139095040 (2 * A + b2i more) (e - 1) r ∧ Below w.heap.size w w' := by
  go_enter Tryz.func117, Tryz.ntmps117
  go_wp2_with fail
  with_reducible refine (layoutOf_32 L).mono ?_
  rintro e w1 ⟨rfl, K1⟩
  go_upto_region 2 with fail
  have C := cell3_new w1 (.int .i64 32) (.int .i64 23) (.int .i64 (-149)) 117
  have K2 := below_trans K1 (bel_new w1 (.cells #[.int .i64 32, .int .i64 23, .int .i64 (-149)] 117))
  generalize w1.alloc (.cells #[.int .i64 32, .int .i64 23, .int .i64 (-149)] 117) = w2 at *
  have c0 := C.c0; have c1 := C.c1; have c2 := C.c2
  go_wp2_with fail
  with_reducible refine (nearest_s (ha.below K2) hka e0 e1).mono ?_
  rintro x w3 ⟨r, rfl, hN, b3⟩
  clear c0 c1 c2
  replace C := C.below b3
  replace K2 := below_trans K2 b3
  clear b3
  have r0 := hN.1
  have r1 := hN.2.1
  have HN := hide hN
  have ho := or64_s r r0 (by omega)
  clear hN
  have c0 := C.c0; have c1 := C.c1; have c2 := C.c2
  cases neg
  · go_wp2
    go_ret
    exact ⟨r, ret_int (by rw [show b2i false = 0 from rfl]; omega), HN.out, K2⟩
  · go_wp2_with fail
    with_reducible refine (sign_s _).mono ?_
    rintro x w4 ⟨rfl, b4⟩
    go_wp2
    go_ret
    exact ⟨r, ret_int (by rw [show b2i true = 1 from rfl]; omega), HN.out, below_trans K2 b4⟩

set_option maxHeartbeats 4000000 in
theorem round_64 {w : World} (L : Lays w) {va : Value} {A e : Int} {ka : Nat} {neg more : Bool} (ha : Arg w va A ka) (hka : ka ≤ 1099511627776) (e0 : -9223372036854775808 ≤ e) (e1 : e < 9223372036854775808) :
    Calls Tryz.prog 142 #[.bool neg, va, .int .i64 e, .bool more] w fun x w' => ∃ r, x = .returned (.int .u64 (r + b2i neg * 9223372036854775808)) ∧ Near 4503599627370496 (-1074) 9218868437227405312 (2 * A + b2i more) (e - 1) r ∧ Below w.heap.size w w' := by
  go_enter Tryz.func142, Tryz.ntmps142
  go_wp2_with fail
  with_reducible refine (layoutOf_64 L).mono ?_
  rintro e w1 ⟨rfl, K1⟩
  go_upto_region 2 with fail
  have C := cell3_new w1 (.int .i64 64) (.int .i64 52) (.int .i64 (-1074)) 117
  have K2 := below_trans K1 (bel_new w1 (.cells #[.int .i64 64, .int .i64 52, .int .i64 (-1074)] 117))
  generalize w1.alloc (.cells #[.int .i64 64, .int .i64 52, .int .i64 (-1074)] 117) = w2 at *
  have c0 := C.c0; have c1 := C.c1; have c2 := C.c2
  go_wp2_with fail
  with_reducible refine (nearest_d (ha.below K2) hka e0 e1).mono ?_
  rintro x w3 ⟨r, rfl, hN, b3⟩
  clear c0 c1 c2
  replace C := C.below b3
  replace K2 := below_trans K2 b3
  clear b3
  have r0 := hN.1
  have r1 := hN.2.1
  have HN := hide hN
  have ho := or64_d r r0 (by omega)
  clear hN
  have c0 := C.c0; have c1 := C.c1; have c2 := C.c2
  cases neg
  · go_wp2
    go_ret
    exact ⟨r, ret_int (by rw [show b2i false = 0 from rfl]; omega), HN.out, K2⟩
  · go_wp2_with fail
    with_reducible refine (sign_d _).mono ?_
    rintro x w4 ⟨rfl, b4⟩
    go_wp2
    go_ret
    exact ⟨r, ret_int (by rw [show b2i true = 1 from rfl]; omega), HN.out, below_trans K2 b4⟩

end Go.Proofs.YtjigofmcflmelaaGreatDoor

namespace Go.Proofs.YtjigofmcflmelaaGreatDoor
open Go.RowKit
set_option linter.unusedVariables false

/-- what Int tells of a pattern -/
def IntIs (F L I s : Int) (ng : Bool) (n : Int) (ok : Bool) : Prop :=
  ∃ a m E k, PartIs F L I s ng a m E k ∧ ((k = true ∧ 0 ≤ E ∧ ok = true ∧ n = wn a (m * p2 E.toNat)) ∨ (¬ (k = true ∧ 0 ≤ E) ∧ ok = false ∧ n = 0))
theorem IntIs.unique {F L I s : Int} {ng ok ok' : Bool} {n n' : Int} (s0 : 0 ≤ s) (h : IntIs F L I s ng n ok) (h' : IntIs F L I s ng n' ok') : n = n' ∧ ok = ok' := by
  obtain ⟨a, m, E, k, hP, h1⟩ := h
  obtain ⟨a', m', E', k', hP', h2⟩ := h'
  obtain ⟨rfl, rfl, rfl, rfl⟩ := hP.unique s0 hP'
  rcases h1 with ⟨c1, c2, rfl, rfl⟩ | ⟨c1, rfl, rfl⟩ <;> rcases h2 with ⟨d1, d2, rfl, rfl⟩ | ⟨d1, rfl, rfl⟩
  · exact ⟨rfl, rfl⟩
  · exact (d1 ⟨c1, c2⟩).elim
  · exact (c1 ⟨d1, d2⟩).elim
  · exact ⟨rfl, rfl⟩
theorem part_bounds {F L I S s : Int} {ng a ok : Bool} {m E : Int} (hF : 0 < F) (hS : 2 * F ≤ S) (hL : -1100 ≤ L) (s0 : 0 ≤ s) (s1 : s < S) (hq : est F L s ≤ 2100) (hS2 : S ≤ 9223372036854775808) (h : PartIs F L I s ng a m E ok) : 0 ≤ m ∧ m < 9223372036854775808 ∧ -1100 ≤ E ∧ E ≤ 2200 := by
  obtain ⟨h1, h2⟩ := h
  rcases Int.lt_or_le s I with c | c
  · obtain ⟨_, _, p, q⟩ := h2 c
    rcases Int.lt_or_eq_of_le s0 with g | g
    · obtain ⟨o, n, n64, hm, hE⟩ := q g
      obtain ⟨m0, m1⟩ := mst_range (F := F) (s := s) (S := S) hF g hS s1
      have hp := p2_pos n
      have e0 := est_ge (F := F) (L := L) (s := s) hF
      have mp : 0 < m := by
        rcases Int.lt_or_le 0 m with k | k
        · exact k
        · have : m * p2 n ≤ 0 := Int.mul_nonpos_of_nonpos_of_nonneg k (by omega)
          omega
      have : m * 1 ≤ m * p2 n := Int.mul_le_mul_of_nonneg_left (by omega) (by omega)
      exact ⟨by omega, by omega, by omega, by omega⟩
    · obtain ⟨rfl, rfl⟩ := p g.symm
      exact ⟨by decide, by decide, by decide, by decide⟩
  · obtain ⟨_, rfl, rfl, _⟩ := h1 c
    exact ⟨by decide, by decide, by decide, by decide⟩

set_option maxRecDepth 20000 in
set_option maxHeartbeats 4000000 in
theorem int_16 {w : World} (L : Lays w) (T : Brn w) (x s : Int) (ng : Bool) (h0 : 0 ≤ x) (h1 : x < 65536) (hs : x % 32768 = s) (hng : ng = decide (32768 ≤ x)) : Calls Tryz.prog 50 #[.int .u16 x] w fun e w' => ∃ va n ok, e = .returned (.tuple #[va, .bool ok]) ∧ WNum w.heap.size w' va n 100 ∧ IntIs 1024 (-24) 31744 s ng n ok ∧ Below w.heap.size w w' := by
  have s0 : 0 ≤ s := by omega
  have s1 : s < 32768 := by omega
  go_enter Tryz.func50, Tryz.ntmps50
  go_upto_region 1 with fail
  have D := cell2_new w (.bool false) (.slice none 0 0) 28
  have K1 := bel_new w (.cells #[.bool false, .slice none 0 0] 28)
  generalize w.alloc (.cells #[.bool false, .slice none 0 0] 28) = w1 at *
  go_wp2_with fail
  with_reducible refine (parts_16 (L.below K1) (T.below K1) x s ng h0 h1 hs hng).mono ?_
  rintro x' w2 ⟨a, m, E, ok, rfl, hP, K⟩
  obtain ⟨m0, m1, E0, E1⟩ := part_bounds (F := 1024) (L := (-24)) (S := 32768) (by decide) (by decide) (by decide) s0 s1 (by unfold est; split <;> omega) (by decide) hP
  have HP := hide hP
  clear hP hs hng
  by_cases no : ok = false ∨ E < 0
  · have HI := hide (show IntIs 1024 (-24) 31744 s ng 0 false from ⟨a, m, E, ok, HP.out, Or.inr ⟨by rcases no with h | h <;> simp_all <;> omega, rfl, rfl⟩⟩)
    cases ok
    · skip
      have d0 := (D.below K).c0; have d1 := (D.below K).c1; have g0 := (D.below K).f0; have g1 := (D.below K).f1
      go_wp2
      have PD := (D.below K).put (.bool false) (.slice none 0 0)
      have KB := below_put2 (b := w.heap.size) (below_trans K1 K) (Nat.le_refl _) (.bool false) (.slice none 0 0)
      (try simp only [Exit.inBlock, Exit.then])
      first
        | exact bodyPost_ret (v := .tuple #[.agg #[.bool false, .slice none 0 0], .bool false]) (by simp [results, Tryz.results50, go_sem, PD.c0, PD.c1]) rfl ⟨_, _, _, rfl, wnum_zero _ _ _, HI.out, KB⟩
        | exact bodyPost_ret (v := .tuple #[.agg #[.bool false, .slice none 0 0], .bool false]) (by simp [results, Tryz.results50, go_sem, d0, d1]) rfl ⟨_, _, _, rfl, wnum_zero _ _ _, HI.out, below_trans K1 K⟩
    · have hE : E < 0 := by rcases no with h | h; cases h; exact h
      have d0 := (D.below K).c0; have d1 := (D.below K).c1; have g0 := (D.below K).f0; have g1 := (D.below K).f1
      go_wp2
      have PD := (D.below K).put (.bool false) (.slice none 0 0)
      have KB := below_put2 (b := w.heap.size) (below_trans K1 K) (Nat.le_refl _) (.bool false) (.slice none 0 0)
      (try simp only [Exit.inBlock, Exit.then])
      first
        | exact bodyPost_ret (v := .tuple #[.agg #[.bool false, .slice none 0 0], .bool false]) (by simp [results, Tryz.results50, go_sem, PD.c0, PD.c1]) rfl ⟨_, _, _, rfl, wnum_zero _ _ _, HI.out, KB⟩
        | exact bodyPost_ret (v := .tuple #[.agg #[.bool false, .slice none 0 0], .bool false]) (by simp [results, Tryz.results50, go_sem, d0, d1]) rfl ⟨_, _, _, rfl, wnum_zero _ _ _, HI.out, below_trans K1 K⟩
  have ok1 : ok = true := by cases ok; exact (no (Or.inl rfl)).elim; rfl
  subst ok1
  have hE : 0 ≤ E := by omega
  have HI := hide (show IntIs 1024 (-24) 31744 s ng (wn a (m * p2 E.toNat)) true from ⟨a, m, E, true, HP.out, Or.inl ⟨rfl, hE, rfl, rfl⟩⟩)
  clear no HP
  go_wp2_with fail
  with_reducible refine (from_any m m0 (by omega)).mono ?_
  rintro x' w3 ⟨vm, rfl, hM, kb⟩
  replace K := below_trans K kb
  clear kb
  go_wp2_with fail
  with_reducible refine (shl_int hM.arg (by decide) hE (by omega)).mono ?_
  rintro x' w4 ⟨vs, rfl, hS, kb⟩
  replace K := below_trans K kb
  clear kb hM
  generalize m * p2 E.toNat = V at *
  have hW : WArg w4 (.agg #[.bool a, vs]) (wn a V) 100 := ⟨a, vs, V, rfl, hS.arg, rfl⟩
  obtain ⟨zs, ⟨so, rfl, -⟩, -⟩ := hS
  go_wp2_with fail
  with_reducible refine (wnorm_any hW (by decide)).mono ?_
  rintro x' w5 ⟨vr, rfl, hR, kb⟩
  have hR2 := hR.low (B' := w.heap.size) (by have h1 := K1.size; have h2 := K.size; omega)
  have ltb : w.heap.size < w4.heap.size := by have h1 := D.lt; have h2 := K.size; omega
  replace K := below_trans K kb
  clear kb
  obtain ⟨rg, ro, rl, rfl⟩ := hR.told
  have d0 := (D.below K).c0; have d1 := (D.below K).c1; have g0 := (D.below K).f0; have g1 := (D.below K).f1
  go_wp2
  have PD := (D.below K).put (.bool rg) (.slice ro rl rl)
  have KB := below_put2 (b := w.heap.size) (below_trans K1 K) (Nat.le_refl _) (.bool rg) (.slice ro rl rl)
  have WN := (((hR.put ltb 0 (.bool rg)).put ltb 1 (.slice ro rl rl)).low (B' := w.heap.size) (by omega)).mono (k' := 100) (by omega)
  clear d0 d1 g0 g1 hR hR2
  generalize (w5.setCell ⟨w.heap.size, 0, none⟩ (.bool rg)).setCell ⟨w.heap.size, 1, none⟩ (.slice ro rl rl) = w9 at *
  (try simp only [Exit.inBlock, Exit.then])
  exact bodyPost_ret (v := .tuple #[.agg #[.bool rg, .slice ro rl rl], .bool true]) (by simp [results, Tryz.results50, go_sem, PD.c0, PD.c1]) rfl ⟨_, _, _, rfl, WN, HI.out, KB⟩

set_option maxRecDepth 20000 in
set_option maxHeartbeats 4000000 in
theorem int_32 {w : World} (L : Lays w) (T : Brn w) (x s : Int) (ng : Bool) (h0 : 0 ≤ x) (h1 : x < 4294967296) (hs : x % 2147483648 = s) (hng : ng = decide (2147483648 ≤ x)) : Calls Tryz.prog 48 #[.int .u32 x] w fun e w' => ∃ va n ok, e = .returned (.tuple #[va, .bool ok]) ∧ WNum w.heap.size w' va n 100 ∧ IntIs 8388608 (-149) 2139095040 s ng n ok ∧ Below w.heap.size w w' := by
  have s0 : 0 ≤ s := by omega
  have s1 : s < 2147483648 := by omega
  go_enter Tryz.func48, Tryz.ntmps48
  go_upto_region 1 with fail
  have D := cell2_new w (.bool false) (.slice none 0 0) 28
  have K1 := bel_new w (.cells #[.bool false, .slice none 0 0] 28)
  generalize w.alloc (.cells #[.bool false, .slice none 0 0] 28) = w1 at *
  go_wp2_with fail
  with_reducible refine (parts_32 (L.below K1) (T.below K1) x s ng h0 h1 hs hng).mono ?_
  rintro x' w2 ⟨a, m, E, ok, rfl, hP, K⟩
  obtain ⟨m0, m1, E0, E1⟩ := part_bounds (F := 8388608) (L := (-149)) (S := 2147483648) (by decide) (by decide) (by decide) s0 s1 (by unfold est; split <;> omega) (by decide) hP
  have HP := hide hP
  clear hP hs hng
  by_cases no : ok = false ∨ E < 0
  · have HI := hide (show IntIs 8388608 (-149) 2139095040 s ng 0 false from ⟨a, m, E, ok, HP.out, Or.inr ⟨by rcases no with h | h <;> simp_all <;> omega, rfl, rfl⟩⟩)
    cases ok
    · skip
      have d0 := (D.below K).c0; have d1 := (D.below K).c1; have g0 := (D.below K).f0; have g1 := (D.below K).f1
      go_wp2
      have PD := (D.below K).put (.bool false) (.slice none 0 0)
      have KB := below_put2 (b := w.heap.size) (below_trans K1 K) (Nat.le_refl _) (.bool false) (.slice none 0 0)
      (try simp only [Exit.inBlock, Exit.then])
      first
        | exact bodyPost_ret (v := .tuple #[.agg #[.bool false, .slice none 0 0], .bool false]) (by simp [results, Tryz.results48, go_sem, PD.c0, PD.c1]) rfl ⟨_, _, _, rfl, wnum_zero _ _ _, HI.out, KB⟩
        | exact bodyPost_ret (v := .tuple #[.agg #[.bool false, .slice none 0 0], .bool false]) (by simp [results, Tryz.results48, go_sem, d0, d1]) rfl ⟨_, _, _, rfl, wnum_zero _ _ _, HI.out, below_trans K1 K⟩
    · have hE : E < 0 := by rcases no with h | h; cases h; exact h
      have d0 := (D.below K).c0; have d1 := (D.below K).c1; have g0 := (D.below K).f0; have g1 := (D.below K).f1
      go_wp2
      have PD := (D.below K).put (.bool false) (.slice none 0 0)
      have KB := below_put2 (b := w.heap.size) (below_trans K1 K) (Nat.le_refl _) (.bool false) (.slice none 0 0)
      (try simp only [Exit.inBlock, Exit.then])
      first
        | exact bodyPost_ret (v := .tuple #[.agg #[.bool false, .slice none 0 0], .bool false]) (by simp [results, Tryz.results48, go_sem, PD.c0, PD.c1]) rfl ⟨_, _, _, rfl, wnum_zero _ _ _, HI.out, KB⟩
        | exact bodyPost_ret (v := .tuple #[.agg #[.bool false, .slice none 0 0], .bool false]) (by simp [results, Tryz.results48, go_sem, d0, d1]) rfl ⟨_, _, _, rfl, wnum_zero _ _ _, HI.out, below_trans K1 K⟩
  have ok1 : ok = true := by cases ok; exact (no (Or.inl rfl)).elim; rfl
  subst ok1
  have hE : 0 ≤ E := by omega
  have HI := hide (show IntIs 8388608 (-149) 2139095040 s ng (wn a (m * p2 E.toNat)) true from ⟨a, m, E, true, HP.out, Or.inl ⟨rfl, hE, rfl, rfl⟩⟩)
  clear no HP
  go_wp2_with fail
  with_reducible refine (from_any m m0 (by omega)).mono ?_
  rintro x' w3 ⟨vm, rfl, hM, kb⟩
  replace K := below_trans K kb
  clear kb
  go_wp2_with fail
  with_reducible refine (shl_int hM.arg (by decide) hE (by omega)).mono ?_
  rintro x' w4 ⟨vs, rfl, hS, kb⟩
  replace K := below_trans K kb
  clear kb hM
  generalize m * p2 E.toNat = V at *
  have hW : WArg w4 (.agg #[.bool a, vs]) (wn a V) 100 := ⟨a, vs, V, rfl, hS.arg, rfl⟩
  obtain ⟨zs, ⟨so, rfl, -⟩, -⟩ := hS
  go_wp2_with fail
  with_reducible refine (wnorm_any hW (by decide)).mono ?_
  rintro x' w5 ⟨vr, rfl, hR, kb⟩
  have hR2 := hR.low (B' := w.heap.size) (by have h1 := K1.size; have h2 := K.size; omega)
  have ltb : w.heap.size < w4.heap.size := by have h1 := D.lt; have h2 := K.size; omega
  replace K := below_trans K kb
  clear kb
  obtain ⟨rg, ro, rl, rfl⟩ := hR.told
  have d0 := (D.below K).c0; have d1 := (D.below K).c1; have g0 := (D.below K).f0; have g1 := (D.below K).f1
  go_wp2
  have PD := (D.below K).put (.bool rg) (.slice ro rl rl)
  have KB := below_put2 (b := w.heap.size) (below_trans K1 K) (Nat.le_refl _) (.bool rg) (.slice ro rl rl)
  have WN := (((hR.put ltb 0 (.bool rg)).put ltb 1 (.slice ro rl rl)).low (B' := w.heap.size) (by omega)).mono (k' := 100) (by omega)
  clear d0 d1 g0 g1 hR hR2
  generalize (w5.setCell ⟨w.heap.size, 0, none⟩ (.bool rg)).setCell ⟨w.heap.size, 1, none⟩ (.slice ro rl rl) = w9 at *
  (try simp only [Exit.inBlock, Exit.then])
  exact bodyPost_ret (v := .tuple #[.agg #[.bool rg, .slice ro rl rl], .bool true]) (by simp [results, Tryz.results48, go_sem, PD.c0, PD.c1]) rfl ⟨_, _, _, rfl, WN, HI.out, KB⟩

set_option maxRecDepth 20000 in
set_option maxHeartbeats 4000000 in
theorem int_64 {w : World} (L : Lays w) (T : Brn w) (x s : Int) (ng : Bool) (h0 : 0 ≤ x) (h1 : x < 18446744073709551616) (hs : x % 9223372036854775808 = s) (hng : ng = decide (9223372036854775808 ≤ x)) : Calls Tryz.prog 46 #[.int .u64 x] w fun e w' => ∃ va n ok, e = .returned (.tuple #[va, .bool ok]) ∧ WNum w.heap.size w' va n 100 ∧ IntIs 4503599627370496 (-1074) 9218868437227405312 s ng n ok ∧ Below w.heap.size w w' := by
  have s0 : 0 ≤ s := by omega
  have s1 : s < 9223372036854775808 := by omega
  go_enter Tryz.func46, Tryz.ntmps46
  go_upto_region 1 with fail
  have D := cell2_new w (.bool false) (.slice none 0 0) 28
  have K1 := bel_new w (.cells #[.bool false, .slice none 0 0] 28)
  generalize w.alloc (.cells #[.bool false, .slice none 0 0] 28) = w1 at *
  go_wp2_with fail
  with_reducible refine (parts_64 (L.below K1) (T.below K1) x s ng h0 h1 hs hng).mono ?_
  rintro x' w2 ⟨a, m, E, ok, rfl, hP, K⟩
  obtain ⟨m0, m1, E0, E1⟩ := part_bounds (F := 4503599627370496) (L := (-1074)) (S := 9223372036854775808) (by decide) (by decide) (by decide) s0 s1 (by unfold est; split <;> omega) (by decide) hP
  have HP := hide hP
  clear hP hs hng
  by_cases no : ok = false ∨ E < 0
  · have HI := hide (show IntIs 4503599627370496 (-1074) 9218868437227405312 s ng 0 false from ⟨a, m, E, ok, HP.out, Or.inr ⟨by rcases no with h | h <;> simp_all <;> omega, rfl, rfl⟩⟩)
    cases ok
    · skip
      have d0 := (D.below K).c0; have d1 := (D.below K).c1; have g0 := (D.below K).f0; have g1 := (D.below K).f1
      go_wp2
      have PD := (D.below K).put (.bool false) (.slice none 0 0)
      have KB := below_put2 (b := w.heap.size) (below_trans K1 K) (Nat.le_refl _) (.bool false) (.slice none 0 0)
      (try simp only [Exit.inBlock, Exit.then])
      first
        | exact bodyPost_ret (v := .tuple #[.agg #[.bool false, .slice none 0 0], .bool false]) (by simp [results, Tryz.results46, go_sem, PD.c0, PD.c1]) rfl ⟨_, _, _, rfl, wnum_zero _ _ _, HI.out, KB⟩
        | exact bodyPost_ret (v := .tuple #[.agg #[.bool false, .slice none 0 0], .bool false]) (by simp [results, Tryz.results46, go_sem, d0, d1]) rfl ⟨_, _, _, rfl, wnum_zero _ _ _, HI.out, below_trans K1 K⟩
    · have hE : E < 0 := by rcases no with h | h; cases h; exact h
      have d0 := (D.below K).c0; have d1 := (D.below K).c1; have g0 := (D.below K).f0; have g1 := (D.below K).f1
      go_wp2
      have PD := (D.below K).put (.bool false) (.slice none 0 0)
      have KB := below_put2 (b := w.heap.size) (below_trans K1 K) (Nat.le_refl _) (.bool false) (.slice none 0 0)
      (try simp only [Exit.inBlock, Exit.then])
      first
        | exact bodyPost_ret (v := .tuple #[.agg #[.bool false, .slice none 0 0], .bool false]) (by simp [results, Tryz.results46, go_sem, PD.c0, PD.c1]) rfl ⟨_, _, _, rfl, wnum_zero _ _ _, HI.out, KB⟩
        | exact bodyPost_ret (v := .tuple #[.agg #[.bool false, .slice none 0 0], .bool false]) (by simp [results, Tryz.results46, go_sem, d0, d1]) rfl ⟨_, _, _, rfl, wnum_zero _ _ _, HI.out, below_trans K1 K⟩
  have ok1 : ok = true := by cases ok; exact (no (Or.inl rfl)).elim; rfl
  subst ok1
  have hE : 0 ≤ E := by omega
  have HI := hide (show IntIs 4503599627370496 (-1074) 9218868437227405312 s ng (wn a (m * p2 E.toNat)) true from ⟨a, m, E, true, HP.out, Or.inl ⟨rfl, hE, rfl, rfl⟩⟩)
  clear no HP
  go_wp2_with fail
  with_reducible refine (from_any m m0 (by omega)).mono ?_
  rintro x' w3 ⟨vm, rfl, hM, kb⟩
  replace K := below_trans K kb
  clear kb
  go_wp2_with fail
  with_reducible refine (shl_int hM.arg (by decide) hE (by omega)).mono ?_
  rintro x' w4 ⟨vs, rfl, hS, kb⟩
  replace K := below_trans K kb
  clear kb hM
  generalize m * p2 E.toNat = V at *
  have hW : WArg w4 (.agg #[.bool a, vs]) (wn a V) 100 := ⟨a, vs, V, rfl, hS.arg, rfl⟩
  obtain ⟨zs, ⟨so, rfl, -⟩, -⟩ := hS
  go_wp2_with fail
  with_reducible refine (wnorm_any hW (by decide)).mono ?_
  rintro x' w5 ⟨vr, rfl, hR, kb⟩
  have hR2 := hR.low (B' := w.heap.size) (by have h1 := K1.size; have h2 := K.size; omega)
  have ltb : w.heap.size < w4.heap.size := by have h1 := D.lt; have h2 := K.size; omega
  replace K := below_trans K kb
  clear kb
  obtain ⟨rg, ro, rl, rfl⟩ := hR.told
  have d0 := (D.below K).c0; have d1 := (D.below K).c1; have g0 := (D.below K).f0; have g1 := (D.below K).f1
  go_wp2
  have PD := (D.below K).put (.bool rg) (.slice ro rl rl)
  have KB := below_put2 (b := w.heap.size) (below_trans K1 K) (Nat.le_refl _) (.bool rg) (.slice ro rl rl)
  have WN := (((hR.put ltb 0 (.bool rg)).put ltb 1 (.slice ro rl rl)).low (B' := w.heap.size) (by omega)).mono (k' := 100) (by omega)
  clear d0 d1 g0 g1 hR hR2
  generalize (w5.setCell ⟨w.heap.size, 0, none⟩ (.bool rg)).setCell ⟨w.heap.size, 1, none⟩ (.slice ro rl rl) = w9 at *
  (try simp only [Exit.inBlock, Exit.then])
  exact bodyPost_ret (v := .tuple #[.agg #[.bool rg, .slice ro rl rl], .bool true]) (by simp [results, Tryz.results46, go_sem, PD.c0, PD.c1]) rfl ⟨_, _, _, rfl, WN, HI.out, KB⟩

end Go.Proofs.YtjigofmcflmelaaGreatDoor

namespace Go.Proofs.YtjigofmcflmelaaGreatDoor
open Go.RowKit
set_option linter.unusedVariables false

def mag (n : Int) : Int := if n < 0 then -n else n
def FromP (S F L I n y : Int) (ok : Bool) : Prop := ∃ r n2 k, Near F L I (2 * mag n + b2i false) (0 - 1) r ∧ y = r + b2i (decide (n < 0)) * S ∧ IntIs F L I r (decide (n < 0)) n2 k ∧ ok = (k && decide (n2 = n))
def FromR (S F L I n y : Int) (ok : Bool) : Prop := ∃ r n2 k, 0 ≤ r ∧ (∀ r', Near F L I (2 * mag n + b2i false) (0 - 1) r' → r' = r) ∧ y = r + b2i (decide (n < 0)) * S ∧ IntIs F L I r (decide (n < 0)) n2 k ∧ ok = (k && decide (n2 = n))
theorem sgn_split {S r : Int} (ng : Bool) (r0 : 0 ≤ r) (r1 : r < S) : (r + b2i ng * S) % S = r ∧ ng = decide (S ≤ r + b2i ng * S) ∧ 0 ≤ r + b2i ng * S ∧ r + b2i ng * S < 2 * S := by
  cases ng
  · rw [show b2i false = 0 from rfl, Int.zero_mul, Int.add_zero]
    exact ⟨Int.emod_eq_of_lt r0 r1, by rw [decide_eq_false]; omega, r0, by omega⟩
  · rw [show b2i true = 1 from rfl, Int.one_mul]
    exact ⟨by rw [Int.add_emod_right, Int.emod_eq_of_lt r0 r1], by rw [decide_eq_true]; omega, by omega, by omega⟩
theorem wnum_sign {B : Nat} {w : World} {ng : Bool} {m : Value} {n : Int} {k : Nat} (h : WNum B w (.agg #[.bool ng, m]) n k) : ng = decide (n < 0) ∧ Num B w m (mag n) k := by
  obtain ⟨g, m', a, e, h1, h2, h3⟩ := h
  simp at e
  obtain ⟨rfl, rfl⟩ := e
  have h0 := h1.arg.nonneg
  cases ng
  · rw [h2]
    simp only [wn, Bool.false_eq_true, if_false]
    refine ⟨by rw [decide_eq_false]; omega, ?_⟩
    unfold mag
    rw [if_neg (by omega)]
    exact h1
  · have := h3 rfl
    rw [h2]
    simp only [wn, if_true]
    refine ⟨by rw [decide_eq_true]; omega, ?_⟩
    unfold mag
    rw [if_pos (by omega), Int.neg_neg]
    exact h1
theorem sgn_zero {x y : Int} : (sgn x y == 0) = decide (x = y) := by
  unfold sgn
  by_cases h : x < y
  · rw [if_pos h, decide_eq_false (by omega)]; rfl
  · rw [if_neg h]
    by_cases g : y < x
    · rw [if_pos g, decide_eq_false (by omega)]; rfl
    · rw [if_neg g, decide_eq_true (by omega)]; rfl
theorem Cell2.told {w : World} {b : Nat} {x y : Value} (h : Cell2 w b x y) : w.cell? ⟨b, 0, none⟩ = some x ∧ w.cell? ⟨b, 1, none⟩ = some y ∧ w.frozen? ⟨b, 0, none⟩ = false ∧ w.frozen? ⟨b, 1, none⟩ = false := ⟨h.c0, h.c1, h.f0, h.f1⟩

set_option maxRecDepth 20000 in
set_option maxHeartbeats 8000000 in
theorem fromi_64 {w : World} (L : Lays w) (T : Brn w) {vx : Value} {n : Int} {k : Nat} (hx : WArg w vx n k) (hk : k ≤ 1048577) : Calls Tryz.prog 301 #[vx] w fun e w' => ∃ y ok, e = .returned (.tuple #[.int .u64 y, .bool ok]) ∧ 0 ≤ y ∧ y < 18446744073709551616 ∧ FromP 9223372036854775808 4503599627370496 (-1074) 9218868437227405312 n y ok ∧ Below w.heap.size w w' := by
  have hx' := hx
  obtain ⟨xg, xm, xa, rfl, ⟨zs, ⟨xo, xc, rfl, -⟩, -⟩, -⟩ := hx'
  go_enter Tryz.func301, Tryz.ntmps301
  go_upto_region 1 with fail
  have D := cell2_new w (.bool xg) (.slice xo zs.length xc) 28
  have K := bel_new w (.cells #[.bool xg, .slice xo zs.length xc] 28)
  have hx1 := hx.below K
  have lb : w.heap.size < (w.alloc (.cells #[.bool xg, .slice xo zs.length xc] 28)).heap.size := by simp
  generalize w.alloc (.cells #[.bool xg, .slice xo zs.length xc] 28) = w1 at *
  obtain ⟨c0, c1, -, -⟩ := D.told
  go_wp2_with fail
  with_reducible refine (wnorm_any hx1 (by omega)).mono ?_
  rintro x' w2 ⟨vn, rfl, hR, kb⟩
  clear c0 c1 hx hx1
  obtain ⟨rg, ro, rl, rfl⟩ := hR.told
  have d0 := (D.below kb).c0; have d1 := (D.below kb).c1; have g0 := (D.below kb).f0; have g1 := (D.below kb).f1
  go_upto_region 2 with fail
  have PD := (D.below kb).put (.bool rg) (.slice ro rl rl)
  have KB := below_put2 (b := w.heap.size) (below_trans K kb) (Nat.le_refl _) (.bool rg) (.slice ro rl rl)
  have WN := (hR.put lb 0 (.bool rg)).put lb 1 (.slice ro rl rl)
  clear d0 d1 g0 g1 hR D K kb
  generalize (w2.setCell ⟨w.heap.size, 0, none⟩ (.bool rg)).setCell ⟨w.heap.size, 1, none⟩ (.slice ro rl rl) = w3 at *
  obtain ⟨hsg, hmag⟩ := wnum_sign WN
  have Hsg := hide hsg
  clear hsg
  obtain ⟨c0, c1, -, -⟩ := PD.told
  go_wp2_with fail
  with_reducible refine (round_64 (L.below KB) (neg := rg) (more := false) (e := 0) hmag.arg (by omega) (by decide) (by decide)).mono ?_
  rintro x' w4 ⟨r, rfl, hN, kb⟩
  clear c0 c1 hmag
  replace PD := PD.below kb
  replace WN := WN.below kb
  replace KB := below_trans KB kb
  clear kb
  have r0 := hN.1
  have r1 := hN.2.1
  obtain ⟨y1, y2, y3, y4⟩ := sgn_split (S := 9223372036854775808) rg r0 (by omega)
  have HN := hide hN
  clear hN
  generalize hy : r + b2i rg * 9223372036854775808 = y at *
  have HY := hide hy
  clear hy
  go_wp2_with fail
  with_reducible refine (int_64 (L.below KB) (T.below KB) y r rg y3 (by omega) y1 y2).mono ?_
  rintro x' w5 ⟨vb, n2, ok, rfl, hQ, hI, kb⟩
  replace PD := PD.below kb
  replace WN := WN.below kb
  replace KB := below_trans KB kb
  clear kb
  have HF : ∀ b, b = (ok && decide (n2 = n)) → Hid (FromP 9223372036854775808 4503599627370496 (-1074) 9218868437227405312 n y b) := by
    intro b hb
    refine hide ⟨r, n2, ok, HN.out, ?_, ?_, hb⟩
    · rw [← Hsg.out]; exact HY.out.symm
    · rw [← Hsg.out]; exact hI
  clear hI y1 y2 HN HY Hsg
  obtain ⟨qg, qo, ql, rfl⟩ := hQ.told
  go_upto_region 4 with fail
  have D2 := cell2_new w5 (.bool qg) (.slice qo ql ql) 28
  have k2 := bel_new w5 (.cells #[.bool qg, .slice qo ql ql] 28)
  replace KB := below_trans KB k2
  replace PD := PD.below k2
  replace WN := WN.below k2
  replace hQ := hQ.below k2
  clear k2
  generalize w5.heap.size = b2 at *
  generalize w5.alloc (.cells #[.bool qg, .slice qo ql ql] 28) = w6 at *
  obtain ⟨c0, c1, -, -⟩ := PD.told
  obtain ⟨d0, d1, -, -⟩ := D2.told
  cases ok
  · have H1 := HF false (by simp)
    clear HF
    go_wp2
    go_ret2
    exact ⟨y, _, rfl, y3, by omega, H1.out, KB⟩
  go_wp2_with fail
  with_reducible refine (wcmp_any hQ.arg WN.arg (by omega) (by omega)).mono ?_
  rintro x' w7 ⟨rfl, kb⟩
  replace KB := below_trans KB kb
  have hz := sgn_zero (x := n2) (y := n)
  generalize sgn n2 n = c at *
  clear c0 c1 d0 d1 kb hQ WN PD D2
  by_cases en : n2 = n
  · have hc : (c == 0) = true := by rw [hz, decide_eq_true en]
    have H1 := HF true (by rw [decide_eq_true en]; rfl)
    clear HF hz en
    go_wp2
    go_ret2
    exact ⟨y, _, rfl, y3, by omega, H1.out, KB⟩
  · have hc : (c == 0) = false := by rw [hz, decide_eq_false en]
    have H1 := HF false (by rw [decide_eq_false en]; rfl)
    clear HF hz en
    go_wp2
    go_ret2
    exact ⟨y, _, rfl, y3, by omega, H1.out, KB⟩

end Go.Proofs.YtjigofmcflmelaaGreatDoor

namespace Go.Proofs.YtjigofmcflmelaaGreatDoor
open Go.RowKit
set_option linter.unusedVariables false

def ToP (Sb Fb Lb Ib Fa La Ia s : Int) (ng : Bool) (y : Int) (ok : Bool) : Prop :=
  (Ia < s ∧ y = Ib + Fb / 2 ∧ ok = true) ∨ (s = Ia ∧ y = Ib + b2i ng * Sb ∧ ok = true) ∨
  (s < Ia ∧ ∃ m E r a n f k, PartIs Fa La Ia s ng ng m E true ∧ Near Fb Lb Ib (2 * m + b2i false) (E - 1) r ∧ y = r + b2i ng * Sb ∧ PartIs Fb Lb Ib r ng a n f k ∧ ok = (k && (n == m) && (f == E)))
def ToR (Sb Fb Lb Ib Fa La Ia s : Int) (ng : Bool) (y : Int) (ok : Bool) : Prop :=
  (Ia < s ∧ y = Ib + Fb / 2 ∧ ok = true) ∨ (s = Ia ∧ y = Ib + b2i ng * Sb ∧ ok = true) ∨
  (s < Ia ∧ ∃ m E r a n f k, PartIs Fa La Ia s ng ng m E true ∧ (∀ r', Near Fb Lb Ib (2 * m + b2i false) (E - 1) r' → r' = r) ∧ y = r + b2i ng * Sb ∧ PartIs Fb Lb Ib r ng a n f k ∧ ok = (k && (n == m) && (f == E)))
theorem sgn_part {S r : Int} (ng : Bool) (r0 : 0 ≤ r) (r1 : r < S) : (r + b2i ng * S) % S = r ∧ ng = decide (S ≤ r + b2i ng * S) ∧ 0 ≤ r + b2i ng * S ∧ r + b2i ng * S < 2 * S := by
  cases ng
  · rw [show b2i false = 0 from rfl, Int.zero_mul, Int.add_zero]
    exact ⟨Int.emod_eq_of_lt r0 r1, by rw [decide_eq_false]; omega, r0, by omega⟩
  · rw [show b2i true = 1 from rfl, Int.one_mul]
    exact ⟨by rw [Int.add_emod_right, Int.emod_eq_of_lt r0 r1], by rw [decide_eq_true]; omega, by omega, by omega⟩

set_option maxHeartbeats 1000000 in
theorem noNumber_h (w : World) : Calls Tryz.prog 112 #[.agg #[.int .i64 16, .int .i64 10, .int .i64 (-24)]] w fun e w' => e = .returned (.int .u64 32256) ∧ Below w.heap.size w w' := by
  have ho : bits .or .u64 31744 512 = 32256 := by decide
  go_enter Tryz.func112, Tryz.ntmps112
  go_upto_region 1 with fail
  have C := cell3_new w (.int .i64 16) (.int .i64 10) (.int .i64 (-24)) 117
  have K1 := bel_new w (.cells #[.int .i64 16, .int .i64 10, .int .i64 (-24)] 117)
  generalize w.alloc (.cells #[.int .i64 16, .int .i64 10, .int .i64 (-24)] 117) = w1 at *
  have K : Below w1.heap.size w1 w1.drew := (Below.refl _ _).drew
  go_region_held3 (fun w' => w'.cell? ⟨w.heap.size, 0, none⟩ = some (.int .i64 16) ∧ w'.cell? ⟨w.heap.size, 1, none⟩ = some (.int .i64 10) ∧ w'.cell? ⟨w.heap.size, 2, none⟩ = some (.int .i64 (-24)))
    (first
      | with_reducible exact ⟨(C.below K).c0, (C.below K).c1, (C.below K).c2⟩
      | go_keep)
    (first
      | (go_at_call 114; (with_reducible refine (infinite_h _).mono ?_); rintro e w2 ⟨rfl, hb⟩; replace K := below_trans K hb; clear hb)
      | (go_at_call 190; (with_reducible refine (leastNormal_h _).mono ?_); rintro e w2 ⟨rfl, hb⟩; replace K := below_trans K hb; clear hb))
  all_goals go_wp2
  all_goals go_ret
  all_goals exact ⟨rfl, below_trans K1 K⟩

set_option maxHeartbeats 1000000 in
theorem noNumber_s (w : World) : Calls Tryz.prog 112 #[.agg #[.int .i64 32, .int .i64 23, .int .i64 (-149)]] w fun e w' => e = .returned (.int .u64 2143289344) ∧ Below w.heap.size w w' := by
  have ho : bits .or .u64 2139095040 4194304 = 2143289344 := by decide
  go_enter Tryz.func112, Tryz.ntmps112
  go_upto_region 1 with fail
  have C := cell3_new w (.int .i64 32) (.int .i64 23) (.int .i64 (-149)) 117
  have K1 := bel_new w (.cells #[.int .i64 32, .int .i64 23, .int .i64 (-149)] 117)
  generalize w.alloc (.cells #[.int .i64 32, .int .i64 23, .int .i64 (-149)] 117) = w1 at *
  have K : Below w1.heap.size w1 w1.drew := (Below.refl _ _).drew
  go_region_held3 (fun w' => w'.cell? ⟨w.heap.size, 0, none⟩ = some (.int .i64 32) ∧ w'.cell? ⟨w.heap.size, 1, none⟩ = some (.int .i64 23) ∧ w'.cell? ⟨w.heap.size, 2, none⟩ = some (.int .i64 (-149)))
    (first
      | with_reducible exact ⟨(C.below K).c0, (C.below K).c1, (C.below K).c2⟩
      | go_keep)
    (first
      | (go_at_call 114; (with_reducible refine (infinite_s _).mono ?_); rintro e w2 ⟨rfl, hb⟩; replace K := below_trans K hb; clear hb)
      | (go_at_call 190; (with_reducible refine (leastNormal_s _).mono ?_); rintro e w2 ⟨rfl, hb⟩; replace K := below_trans K hb; clear hb))
  all_goals go_wp2
  all_goals go_ret
  all_goals exact ⟨rfl, below_trans K1 K⟩

set_option maxHeartbeats 1000000 in
theorem noNumber_d (w : World) : Calls Tryz.prog 112 #[.agg #[.int .i64 64, .int .i64 52, .int .i64 (-1074)]] w fun e w' => e = .returned (.int .u64 9221120237041090560) ∧ Below w.heap.size w w' := by
  have ho : bits .or .u64 9218868437227405312 2251799813685248 = 9221120237041090560 := by decide
  go_enter Tryz.func112, Tryz.ntmps112
  go_upto_region 1 with fail
  have C := cell3_new w (.int .i64 64) (.int .i64 52) (.int .i64 (-1074)) 117
  have K1 := bel_new w (.cells #[.int .i64 64, .int .i64 52, .int .i64 (-1074)] 117)
  generalize w.alloc (.cells #[.int .i64 64, .int .i64 52, .int .i64 (-1074)] 117) = w1 at *
  have K : Below w1.heap.size w1 w1.drew := (Below.refl _ _).drew
  go_region_held3 (fun w' => w'.cell? ⟨w.heap.size, 0, none⟩ = some (.int .i64 64) ∧ w'.cell? ⟨w.heap.size, 1, none⟩ = some (.int .i64 52) ∧ w'.cell? ⟨w.heap.size, 2, none⟩ = some (.int .i64 (-1074)))
    (first
      | with_reducible exact ⟨(C.below K).c0, (C.below K).c1, (C.below K).c2⟩
      | go_keep)
    (first
      | (go_at_call 114; (with_reducible refine (infinite_d _).mono ?_); rintro e w2 ⟨rfl, hb⟩; replace K := below_trans K hb; clear hb)
      | (go_at_call 190; (with_reducible refine (leastNormal_d _).mono ?_); rintro e w2 ⟨rfl, hb⟩; replace K := below_trans K hb; clear hb))
  all_goals go_wp2
  all_goals go_ret
  all_goals exact ⟨rfl, below_trans K1 K⟩

end Go.Proofs.YtjigofmcflmelaaGreatDoor

namespace Go.Proofs.YtjigofmcflmelaaGreatDoor
set_option linter.unusedVariables false

theorem um_top {F L I lim B : Int} {fr : Nat} (hfr : F = p2 fr) (hI : I = (lim + 1 - fr - L) * F) (hlim : L ≤ lim - 1 - fr) (hBL : B ≤ L) : um F L B I = p2 (lim - B).toNat := by
  have hF0 : 0 < F := by rw [hfr]; exact p2_pos fr
  have hI0 : 2 * F ≤ I := by
    have h1 : 2 * F ≤ (lim + 1 - fr - L) * F := Int.mul_le_mul_of_nonneg_right (by omega) (by omega)
    omega
  have hIq : I = F * (lim + 1 - fr - L) := by rw [hI, Int.mul_comm]
  unfold um sc mst est
  rw [if_neg (by omega), if_neg (by omega), hIq, Int.mul_emod_right, Int.mul_ediv_cancel_left _ (by omega), Int.zero_add, hfr, show L - 1 + (lim + 1 - fr - L) - B = lim - fr - B by omega, show p2 fr = p2 ((fr : Int)).toNat by rw [Int.toNat_natCast], ← p2_toNat_add (by omega) (by omega)]
  congr 2
  omega
theorem has_len : ∀ (m : Nat) (x : Int), 0 ≤ x → x < p2 m → ∃ k, IsLen x k ∧ k ≤ m := by
  intro m
  induction m with
  | zero => intro x h0 h1; exact ⟨0, ⟨h1, fun h => by omega⟩, Nat.le_refl _⟩
  | succ m ih =>
    intro x h0 h1
    rcases Int.lt_or_le x (p2 m) with c | c
    · obtain ⟨k, h, hk⟩ := ih x h0 c
      exact ⟨k, h, by omega⟩
    · exact ⟨m + 1, ⟨h1, fun _ => by rwa [Nat.add_sub_cancel]⟩, Nat.le_refl _⟩
/-- a narrower width's number is one of the wider -/
theorem embed {P Lp Ip limp Q Lq Iq limq s : Int} {frp frq : Nat} (hp : P = p2 frp) (hq : Q = p2 frq) (hpq : frp ≤ frq) (hL : Lq ≤ Lp) (hlim : limp ≤ limq) (hIp : Ip = (limp + 1 - frp - Lp) * P) (hIq : Iq = (limq + 1 - frq - Lq) * Q) (h1 : Lp ≤ limp - 1 - frp) (h2 : Lq ≤ limq - 1 - frq) (s0 : 0 ≤ s) (s1 : s < Ip) :
    ∃ q, 0 ≤ q ∧ q < Iq ∧ ∀ B, B ≤ Lq → um Q Lq B q = um P Lp B s := by
  have hP0 : 0 < P := by rw [hp]; exact p2_pos frp
  have hQ0 : 0 < Q := by rw [hq]; exact p2_pos frq
  rcases Int.lt_or_eq_of_le s0 with sp | sp
  rotate_left
  · have hI0 : 0 < Iq := by rw [hIq]; exact Int.mul_pos (by omega) hQ0
    refine ⟨0, Int.le_refl _, hI0, fun B hB => ?_⟩
    rw [← sp]
    unfold um sc mst
    rw [if_pos hQ0, if_pos hP0, Int.zero_mul, Int.zero_mul]
  have hm1 : mst P s < 2 * P := by
    unfold mst
    split
    · omega
    · have := Int.emod_lt_of_pos s hP0; omega
  have hmp : 0 < mst P s := by
    unfold mst
    split
    · omega
    · have := Int.emod_nonneg s (b := P) (by omega); omega
  have hm0 : 0 ≤ mst P s := by
    unfold mst
    split
    · omega
    · have := Int.emod_nonneg s (b := P) (by omega); omega
  have he := est_ge (L := Lp) (s := s) hP0
  obtain ⟨ln, hln, hln2⟩ := has_len (frp + 1) (mst P s) hm0 (by rw [p2, ← hp]; exact hm1)
  obtain ⟨t, ht⟩ : ∃ t, t = max (est P Lp s + ln - 1 - frq) Lq := ⟨_, rfl⟩
  have ht1 : t ≤ est P Lp s := by omega
  have ht2 : Lq ≤ t := by omega
  have hpt := p2_pos (est P Lp s - t).toNat
  have hq0 : 0 ≤ mst P s * p2 (est P Lp s - t).toNat := Int.mul_nonneg hm0 (by omega)
  have hq1 : mst P s * p2 (est P Lp s - t).toNat < 2 * Q := by
    have a1 : mst P s * p2 (est P Lp s - t).toNat < p2 ln * p2 (est P Lp s - t).toNat := Int.mul_lt_mul_of_pos_right hln.1 hpt
    rw [← p2_add] at a1
    have a2 := p2_mono (m := ln + (est P Lp s - t).toNat) (n := frq + 1) (by omega)
    rw [p2, ← hq] at a2
    omega
  have hq2 : t = Lq ∨ Q ≤ mst P s * p2 (est P Lp s - t).toNat := by
    rcases Int.lt_or_eq_of_le ht2 with c | c
    · right
      rcases Nat.eq_zero_or_pos ln with z | z
      · exfalso
        have h9 := hln.1
        rw [z] at h9
        simp only [p2] at h9
        omega
      · have a1 : p2 (ln - 1) * p2 (est P Lp s - t).toNat ≤ mst P s * p2 (est P Lp s - t).toNat := Int.mul_le_mul_of_nonneg_right (hln.2 z) (by omega)
        rw [← p2_add, show ln - 1 + (est P Lp s - t).toNat = frq by omega, ← hq] at a1
        exact a1
    · left; exact c.symm
  have hum : ∀ B, B ≤ Lq → um Q Lq B (mst P s * p2 (est P Lp s - t).toNat + (t - Lq) * Q) = um P Lp B s := by
    intro B hB
    rw [um_pattern hQ0 hB ht2 hq0 (by omega) hq2]
    unfold um sc
    rw [Int.mul_assoc, ← p2_toNat_add (by omega) (by omega), show est P Lp s - t + (t - B) = est P Lp s - B by omega]
  have hn0 : 0 ≤ (t - Lq) * Q := Int.mul_nonneg (by omega) (by omega)
  refine ⟨_, by omega, ?_, hum⟩
  rcases Int.lt_or_le (mst P s * p2 (est P Lp s - t).toNat + (t - Lq) * Q) Iq with c | c
  · exact c
  · exfalso
    have a1 := um_le (F := Q) (L := Lq) (B := Lq) (s := Iq) (t := mst P s * p2 (est P Lp s - t).toNat + (t - Lq) * Q) hQ0 (by
      rw [hIq]; exact Int.mul_nonneg (by omega) (by omega)) (Int.le_refl _) c
    rw [hum Lq (Int.le_refl _), um_top hq hIq h2 (Int.le_refl _)] at a1
    have a2 := um_lt' (F := P) (L := Lp) (B := Lq) (s := s) (t := Ip) hP0 s0 hL s1
    rw [um_top hp hIp h1 hL] at a2
    have a3 := p2_mono (m := (limp - Lq).toNat) (n := (limq - Lq).toNat) (by omega)
    omega
/-- the number that parts tell -/
theorem part_um {F L I s m E : Int} {ng a ok : Bool} (hF : 0 < F) (hL : L ≤ 0) (s0 : 0 ≤ s) (s1 : s < I) (h : PartIs F L I s ng a m E ok) : L ≤ E ∧ ∀ B, B ≤ L → sc m E B = um F L B s := by
  obtain ⟨_, _, p, q⟩ := h.2 s1
  rcases Int.lt_or_eq_of_le s0 with c | c
  · obtain ⟨o, n, n64, hm, hE⟩ := q c
    have e0 := est_ge (L := L) (s := s) hF
    refine ⟨by omega, fun B hB => ?_⟩
    unfold um
    rw [hE, sc_up (by omega), ← hm]
  · obtain ⟨rfl, rfl⟩ := p c.symm
    refine ⟨hL, fun B hB => ?_⟩
    rw [← c]
    unfold um sc mst
    rw [if_pos hF, Int.zero_mul, Int.zero_mul]
/-- unlike parts, unlike numbers -/
theorem part_eq {F L I s F' L' I' s' m E m' E' B : Int} {ng a ok ng' a' ok' : Bool} (hF : 0 < F) (hF' : 0 < F') (hL : L ≤ 0) (hL' : L' ≤ 0) (s0 : 0 ≤ s) (s1 : s < I) (s0' : 0 ≤ s') (s1' : s' < I') (h : PartIs F L I s ng a m E ok) (h' : PartIs F' L' I' s' ng' a' m' E' ok') (hB : B ≤ L) (hB' : B ≤ L') (he : um F L B s = um F' L' B s') : m = m' ∧ E = E' := by
  obtain ⟨e1, u1⟩ := part_um hF hL s0 s1 h
  obtain ⟨e2, u2⟩ := part_um hF' hL' s0' s1' h'
  have he2 : m * p2 (E - B).toNat = m' * p2 (E' - B).toNat := by
    have := (u1 B hB).trans (he.trans (u2 B hB').symm)
    exact this
  obtain ⟨_, _, p, q⟩ := h.2 s1
  obtain ⟨_, _, p', q'⟩ := h'.2 s1'
  have k1 := p2_pos (E - B).toNat
  have k2 := p2_pos (E' - B).toNat
  rcases Int.lt_or_eq_of_le s0 with c | c
  · obtain ⟨o, -⟩ := q c
    rcases Int.lt_or_eq_of_le s0' with c' | c'
    · obtain ⟨o', -⟩ := q' c'
      obtain ⟨r1, r2⟩ := odd_unique o o' he2
      exact ⟨r1, by omega⟩
    · obtain ⟨rfl, rfl⟩ := p' c'.symm
      rw [Int.zero_mul] at he2
      rcases Int.mul_eq_zero.1 he2 with z | z
      · omega
      · omega
  · obtain ⟨rfl, rfl⟩ := p c.symm
    rcases Int.lt_or_eq_of_le s0' with c' | c'
    · obtain ⟨o', -⟩ := q' c'
      rw [Int.zero_mul] at he2
      rcases Int.mul_eq_zero.1 he2.symm with z | z
      · omega
      · omega
    · obtain ⟨rfl, rfl⟩ := p' c'.symm
      exact ⟨rfl, rfl⟩
/-- the nearest pattern to a number that another width's pattern is, where this width has it -/
theorem near_there {F L I F' L' I' s q m E r : Int} {ng a ok : Bool} (hF : 0 < F) (hF' : 0 < F') (hL : L ≤ 0) (hL' : L' ≤ 0) (s0 : 0 ≤ s) (s1 : s < I) (h : PartIs F L I s ng a m E ok) (q0 : 0 ≤ q) (q1 : q ≤ I') (hu : ∀ B, B ≤ L → B ≤ L' → um F' L' B q = um F L B s) (hN : Near F' L' I' (2 * m + 0) (E - 1) r) : r = q := by
  obtain ⟨e1, u1⟩ := part_um hF hL s0 s1 h
  have hB1 : min (E - 1) (min L L') ≤ E - 1 := by omega
  have hB2 : min (E - 1) (min L L') ≤ L := by omega
  have hB3 : min (E - 1) (min L L') ≤ L' := by omega
  generalize min (E - 1) (min L L') = B at hB1 hB2 hB3
  have hv : sc (2 * m + 0) (E - 1) B = um F' L' B q := by
    rw [hu B hB2 hB3, Int.add_zero, ← u1 B hB2]
    have e2 := sc_up (N := m) (E := E - 1) (B := B) (k := 1) hB1
    rw [show E - 1 + ((1 : Nat) : Int) = E by omega, show m * p2 1 = 2 * m by rw [show p2 1 = 2 from rfl]; omega] at e2
    exact e2.symm
  obtain ⟨r0, r1, hn⟩ := hN
  obtain ⟨hi, lo⟩ := hn B hB1 hB3
  rw [hv] at hi lo
  rcases Int.lt_trichotomy r q with c | c | c
  · exfalso
    obtain ⟨g, _⟩ := hi (by omega)
    have a1 := um_le (F := F') (L := L') (B := B) (s := r + 1) (t := q) hF' (by omega) hB3 (by omega)
    have a2 := um_lt (F := F') (L := L') (B := B) (s := r) hF' r0 hB3
    omega
  · exact c
  · exfalso
    obtain ⟨g, _⟩ := lo (by omega)
    have a1 := um_le (F := F') (L := L') (B := B) (s := q) (t := r - 1) hF' q0 hB3 (by omega)
    have a2 := um_lt (F := F') (L := L') (B := B) (s := r - 1) hF' (by omega) hB3
    rw [Int.sub_add_cancel] at a2
    omega

theorem from_back {S F L I s n z : Int} {ng fine : Bool} (hF : 0 < F) (hS : 2 * F ≤ S) (hL : -1100 ≤ L) (L0 : L ≤ 0) (s0 : 0 ≤ s) (s1 : s < S) (hq : est F L s ≤ 2100) (hS2 : S ≤ 9223372036854775808) (hI0 : 0 < I) (h : IntIs F L I s ng n true) (h' : FromP S F L I n z fine) : fine = true ∧ (z = s + b2i ng * S ∨ (s = 0 ∧ ng = true ∧ z = 0)) := by
  have h9 := h
  obtain ⟨a, m, E, k, hP, h1⟩ := h
  obtain ⟨m0, -⟩ := part_bounds hF hS hL s0 s1 hq hS2 hP
  rcases h1 with ⟨rfl, c2, -, rfl⟩ | ⟨-, c, -⟩
  · have fin : s < I := by
      rcases Int.lt_or_le s I with c | c
      · exact c
      · have := (hP.1 c).2.2.2; cases this
    obtain ⟨-, rfl, pz, po⟩ := hP.2 fin
    have hV0 : 0 ≤ m * p2 E.toNat := Int.mul_nonneg m0 (Int.le_of_lt (p2_pos _))
    have hmag : mag (wn a (m * p2 E.toNat)) = m * p2 E.toNat := by unfold mag wn; cases a <;> simp <;> omega
    obtain ⟨r, n2, k2, hN, rfl, hI, rfl⟩ := h'
    rw [hmag] at hN
    obtain ⟨e1, u1⟩ := part_um hF L0 s0 fin hP
    have hrs : r = s := by
      refine near_unique hF hN ?_
      refine ⟨s0, by omega, fun B hE hB => ?_⟩
      have hv : sc (2 * (m * p2 E.toNat) + b2i false) (0 - 1) B = um F L B s := by
        rw [show (2 * (m * p2 E.toNat) + b2i false : Int) = (m * p2 E.toNat) * p2 1 by rw [show b2i false = 0 from rfl, show p2 1 = 2 from rfl]; omega, ← u1 B hB]
        have e2 := sc_up (N := m * p2 E.toNat) (E := 0 - 1) (B := B) (k := 1) hE
        rw [← e2, show ((0 : Int) - 1 + ((1 : Nat) : Int)) = 0 by omega]
        have e3 := sc_up (N := m) (E := 0) (B := B) (k := E.toNat) (by omega)
        rw [← e3, show (0 : Int) + (E.toNat : Int) = E by omega]
      rw [hv]
      refine ⟨fun _ => ?_, fun hr => ?_⟩
      · have := um_lt (F := F) (L := L) (B := B) (s := s) hF s0 hB
        exact ⟨by omega, fun e => by omega⟩
      · have := um_lt (F := F) (L := L) (B := B) (s := s - 1) hF (by omega) hB
        rw [Int.sub_add_cancel] at this
        exact ⟨by omega, fun e => by omega⟩
    subst hrs
    rcases Int.lt_or_eq_of_le s0 with c | c
    · have hm : 0 < m := by have := (po c).1; omega
      have hV : 0 < m * p2 E.toNat := Int.mul_pos hm (p2_pos _)
      have hsg : decide (wn a (m * p2 E.toNat) < 0) = a := by
        unfold wn
        cases a
        · simp; omega
        · simp; omega
      rw [hsg] at hI ⊢
      obtain ⟨rfl, rfl⟩ := hI.unique s0 h9
      exact ⟨by simp, Or.inl rfl⟩
    · obtain ⟨rfl, rfl⟩ := pz c.symm
      have hw : wn a (0 * p2 (0 : Int).toNat) = 0 := by rw [Int.zero_mul]; unfold wn; cases a <;> simp
      rw [hw] at hI ⊢
      rw [decide_eq_false (by omega : ¬ (0 : Int) < 0)] at hI ⊢
      have h0 : IntIs F L I r false 0 true := ⟨false, 0, 0, true, ⟨fun h => by omega, fun _ => ⟨rfl, rfl, fun _ => ⟨rfl, rfl⟩, fun h => by omega⟩⟩, Or.inl ⟨rfl, Int.le_refl _, rfl, by rw [Int.zero_mul]; rfl⟩⟩
      obtain ⟨rfl, rfl⟩ := hI.unique s0 h0
      refine ⟨by simp, ?_⟩
      rw [show b2i false = 0 from rfl, Int.zero_mul, Int.add_zero, ← c]
      cases a
      · left; rw [show b2i false = 0 from rfl]; omega
      · right; exact ⟨rfl, rfl, rfl⟩
  · cases c

end Go.Proofs.YtjigofmcflmelaaGreatDoor

namespace Go.Proofs.YtjigofmcflmelaaGreatDoor
set_option linter.unusedVariables false

/-- a width, its numbers tied together -/
structure Wth (S F L I lim : Int) (fr : Nat) : Prop where
  f : F = p2 fr
  f0 : 0 < F
  l0 : L ≤ 0
  l1 : -1100 ≤ L
  i : I = (lim + 1 - fr - L) * F
  lm : L ≤ lim - 1 - fr
  s : S = I + F
  i0 : 0 < I
  s2 : 2 * F ≤ S
  e : ∀ s, s < S → est F L s ≤ 2100
  sm : S ≤ 9223372036854775808
  fe : F / 2 < F ∧ 0 < F / 2
theorem wth16 : Wth 32768 1024 (-24) 31744 16 10 := ⟨by decide, by decide, by decide, by decide, by decide, by decide, by decide, by decide, by decide, fun s h => by unfold est; split <;> omega, by decide, by decide⟩
theorem wth32 : Wth 2147483648 8388608 (-149) 2139095040 128 23 := ⟨by decide, by decide, by decide, by decide, by decide, by decide, by decide, by decide, by decide, fun s h => by unfold est; split <;> omega, by decide, by decide⟩
theorem wth64 : Wth 9223372036854775808 4503599627370496 (-1074) 9218868437227405312 1024 52 := ⟨by decide, by decide, by decide, by decide, by decide, by decide, by decide, by decide, by decide, fun s h => by unfold est; split <;> omega, by decide, by decide⟩
/-- a number as a value: a whole one, or the pattern of a float -/
inductive NZ where
  | w (n : Int)
  | f (b : Int)
deriving DecidableEq
/-- what Of makes of a pattern: S, F, L, I of 64 bits, then the width's own -/
def OfIs (S F L I Fa La Ia s : Int) (ng : Bool) (z : NZ) : Prop :=
  (∃ n, IntIs Fa La Ia s ng n true ∧ z = .w n) ∨ (∃ n b ok, IntIs Fa La Ia s ng n false ∧ ToP S F L I Fa La Ia s ng b ok ∧ z = .f b)
theorem ToP.unique {Sb Fb Lb Ib Fa La Ia s y y' : Int} {ng ok ok' : Bool} (s0 : 0 ≤ s) (hF : 0 < Fb) (h : ToP Sb Fb Lb Ib Fa La Ia s ng y ok) (h' : ToP Sb Fb Lb Ib Fa La Ia s ng y' ok') : y = y' ∧ ok = ok' := by
  rcases h with ⟨a, rfl, rfl⟩ | ⟨a, rfl, rfl⟩ | ⟨a, m, E, r, a1, n, f, k, hP, hN, rfl, hQ, rfl⟩
  · rcases h' with ⟨b, rfl, rfl⟩ | ⟨b, rfl, rfl⟩ | ⟨b, _⟩
    · exact ⟨rfl, rfl⟩
    · omega
    · omega
  · rcases h' with ⟨b, rfl, rfl⟩ | ⟨b, rfl, rfl⟩ | ⟨b, _⟩
    · omega
    · exact ⟨rfl, rfl⟩
    · omega
  · rcases h' with ⟨b, rfl, rfl⟩ | ⟨b, rfl, rfl⟩ | ⟨b, m', E', r', a1', n', f', k', hP', hN', rfl, hQ', rfl⟩
    · omega
    · omega
    · obtain ⟨-, rfl, rfl, -⟩ := hP.unique s0 hP'
      obtain rfl := near_unique hF hN hN'
      obtain ⟨rfl, rfl, rfl, rfl⟩ := hQ.unique hN.1 hQ'
      exact ⟨rfl, rfl⟩
theorem OfIs.unique {S F L I Fa La Ia s : Int} {ng : Bool} {z z' : NZ} (s0 : 0 ≤ s) (hF : 0 < F) (h : OfIs S F L I Fa La Ia s ng z) (h' : OfIs S F L I Fa La Ia s ng z') : z = z' := by
  rcases h with ⟨n, h1, rfl⟩ | ⟨n, b, ok, h1, h2, rfl⟩ <;> rcases h' with ⟨n', g1, rfl⟩ | ⟨n', b', ok', g1, g2, rfl⟩
  · rw [(h1.unique s0 g1).1]
  · exact absurd (h1.unique s0 g1).2 (by simp)
  · exact absurd (h1.unique s0 g1).2 (by simp)
  · rw [(h2.unique s0 hF g2).1]
/-- what a width's pattern is in a wider one: as many steps of the smallest -/
theorem to_wide {S F L I lim Sa Fa La Ia lima s y : Int} {fr fra : Nat} {ng ok : Bool} (W : Wth S F L I lim fr) (V : Wth Sa Fa La Ia lima fra) (h1 : fra ≤ fr) (h2 : L ≤ La) (h3 : lima ≤ lim) (s0 : 0 ≤ s) (h : ToP S F L I Fa La Ia s ng y ok) :
    ok = true ∧ ((Ia < s ∧ y = I + F / 2) ∨ (s = Ia ∧ y = I + b2i ng * S) ∨ (s < Ia ∧ ∃ q, 0 ≤ q ∧ q < I ∧ y = q + b2i ng * S ∧ ∀ B, B ≤ L → um F L B q = um Fa La B s)) := by
  rcases h with ⟨a, rfl, rfl⟩ | ⟨a, rfl, rfl⟩ | ⟨a, m, E, r, a1, n, f, k, hP, hN, rfl, hQ, rfl⟩
  · exact ⟨rfl, .inl ⟨a, rfl⟩⟩
  · exact ⟨rfl, .inr (.inl ⟨a, rfl⟩)⟩
  · obtain ⟨q, q0, q1, hu⟩ := embed V.f W.f h1 h2 h3 V.i W.i V.lm W.lm s0 a
    obtain rfl := near_there V.f0 W.f0 V.l0 W.l0 s0 a hP q0 (by omega) (fun B _ hB => hu B hB) hN
    obtain ⟨k1, -, -, -⟩ := hQ.2 q1
    obtain ⟨rfl, rfl⟩ := part_eq (B := L) V.f0 W.f0 V.l0 W.l0 s0 a q0 q1 hP hQ h2 (Int.le_refl _) (hu L (Int.le_refl _)).symm
    exact ⟨by simp [k1], .inr (.inr ⟨a, r, q0, q1, rfl, hu⟩)⟩
/-- whole or not is told by the steps alone -/
theorem int_move {S F L I lim Sa Fa La Ia lima s q n : Int} {fr fra : Nat} {ng ok : Bool} (W : Wth S F L I lim fr) (V : Wth Sa Fa La Ia lima fra) (h2 : L ≤ La) (s0 : 0 ≤ s) (s1 : s < Ia) (q0 : 0 ≤ q) (q1 : q < I) (hu : um F L L q = um Fa La L s) (h : IntIs Fa La Ia s ng n ok) (ex : ∃ a m E k, PartIs F L I q ng a m E k) : IntIs F L I q ng n ok := by
  obtain ⟨a, m, E, k, hP, h⟩ := h
  obtain ⟨a', m', E', k', hQ⟩ := ex
  obtain ⟨rfl, rfl⟩ := part_eq (B := L) V.f0 W.f0 V.l0 W.l0 s0 s1 q0 q1 hP hQ h2 (Int.le_refl _) hu.symm
  obtain ⟨rfl, rfl, -, -⟩ := hP.2 s1
  obtain ⟨rfl, rfl, -, -⟩ := hQ.2 q1
  exact ⟨_, _, _, _, hQ, h⟩
theorem top_mod {S s : Int} {ng : Bool} (s0 : 0 ≤ s) (s1 : s < S) : (s + b2i ng * S) % S = s ∧ decide (S ≤ s + b2i ng * S) = ng ∧ 0 ≤ s + b2i ng * S ∧ s + b2i ng * S < 2 * S := by
  obtain ⟨a, b, c, d⟩ := sgn_split ng s0 s1
  exact ⟨a, b.symm, c, d⟩
end Go.Proofs.YtjigofmcflmelaaGreatDoor

namespace Go.Proofs.YtjigofmcflmelaaGreatDoor
set_option linter.unusedVariables false

/-- a pattern's number, in the smallest steps -/
def uP (S F L b : Int) : Int := wn (decide (S ≤ b)) (um F L L (b % S))
theorem um_zero {F L B : Int} (hF : 0 < F) : um F L B 0 = 0 := by unfold um sc mst; rw [if_pos (by omega), Int.zero_mul]
theorem um_pos {F L B s : Int} (hF : 0 < F) (hB : B ≤ L) (h : 0 < s) : 0 < um F L B s := by
  have := um_lt' (s := 0) (t := s) hF (Int.le_refl _) hB h
  rwa [um_zero hF] at this
theorem cmp_nan {S F x y : Int} (h : ¬ (x % S ≤ S - F ∧ y % S ≤ S - F)) : cmpC S F x y = 0 ∧ cmpOk S F x y = false := by
  unfold cmpC cmpOk
  rw [if_neg h, decide_eq_false h]
  exact ⟨rfl, rfl⟩
theorem frac_u {F L I s n : Int} {ng : Bool} (hF : 0 < F) (hL : L ≤ 0) (s0 : 0 ≤ s) (s1 : s < I) (h : IntIs F L I s ng n false) : 0 < s ∧ ∃ m E, PartIs F L I s ng ng m E true ∧ E < 0 ∧ L ≤ E ∧ m % 2 = 1 ∧ 0 < m ∧ um F L L s = m * p2 (E - L).toNat := by
  obtain ⟨a, m, E, k, hP, ⟨-, -, h, -⟩ | ⟨hn, -, -⟩⟩ := h
  · cases h
  · obtain ⟨rfl, rfl, h0, hp⟩ := hP.2 s1
    have e0 : E < 0 := by rcases Int.lt_or_le E 0 with c | c; exact c; exact absurd ⟨rfl, c⟩ hn
    have sp : 0 < s := by
      rcases Int.lt_or_eq_of_le s0 with c | c
      · exact c
      · have := (h0 c.symm).2; omega
    obtain ⟨o, -⟩ := hp sp
    obtain ⟨h1, h2⟩ := part_um hF hL s0 s1 hP
    have e := h2 L (Int.le_refl _)
    unfold sc at e
    have up := um_pos (L := L) hF (Int.le_refl _) sp
    refine ⟨sp, m, E, hP, e0, h1, o, ?_, e.symm⟩
    rcases Int.lt_or_le 0 m with c | c
    · exact c
    · have := Int.mul_nonpos_of_nonpos_of_nonneg c (Int.le_of_lt (p2_pos (E - L).toNat))
      omega
def besd (S F L I n b : Int) : Int × Bool := if b % S < I then (sgn (n * p2 (-L).toNat) (uP S F L b), true) else (cmpC S F 0 b, cmpOk S F 0 b)
/-- two numbers as values held against each other -/
def ncmp (S F L I : Int) : NZ → NZ → Int × Bool
  | .w n, .w m => (sgn n m, true)
  | .w n, .f b => besd S F L I n b
  | .f b, .w n => (-(besd S F L I n b).1, (besd S F L I n b).2)
  | .f b, .f d => (cmpC S F b d, cmpOk S F b d)
/-- a whole number beside a float that is none: what it is cut to tells -/
theorem beside_math {L n m E : Int} {ng : Bool} (hL : L ≤ E) (hE : E < 0) (mo : m % 2 = 1) (m0 : 0 < m) :
    sgn (n * p2 (-L).toNat) (wn ng (m * p2 (E - L).toNat)) = if sgn n (wn ng (m / p2 (-E).toNat)) ≠ 0 then sgn n (wn ng (m / p2 (-E).toNat)) else if ng = true then 1 else -1 := by
  have e1 : p2 (-L).toNat = p2 (-E).toNat * p2 (E - L).toNat := by rw [show -L = -E + (E - L) by omega]; exact p2_toNat_add (by omega) (by omega)
  have h1 := p2_pos (-E).toNat
  have h2 := p2_pos (E - L).toNat
  have e2 : wn ng (m * p2 (E - L).toNat) = wn ng m * p2 (E - L).toNat := by cases ng <;> simp [wn, Int.neg_mul]
  rw [e1, e2, ← Int.mul_assoc, sgn_scale h2]
  obtain ⟨j, hj⟩ : ∃ j, (-E).toNat = j + 1 := ⟨(-E).toNat - 1, by omega⟩
  have ev : p2 (-E).toNat = 2 * p2 j := by rw [hj, Nat.add_comm, p2_add]; rfl
  have hr := Int.emod_nonneg m (show p2 (-E).toNat ≠ 0 by omega)
  have hr2 := Int.emod_lt_of_pos m h1
  have hd := Int.mul_ediv_add_emod m (p2 (-E).toNat)
  have hne : m % p2 (-E).toNat ≠ 0 := by
    intro h
    rw [h, ev] at hd
    have : (2 * p2 j * (m / (2 * p2 j)) + 0) % 2 = 0 := by rw [Int.add_zero, Int.mul_assoc, Int.mul_emod_right]
    omega
  generalize m / p2 (-E).toNat = q at *
  generalize m % p2 (-E).toNat = r at *
  clear ev e1 e2 hj
  generalize p2 (-E).toNat = d at *
  have hcm : d * q = q * d := Int.mul_comm _ _
  have lo : ∀ k : Int, k ≤ q → k * d ≤ q * d := fun k hk => Int.mul_le_mul_of_nonneg_right hk (by omega)
  have hi : ∀ k : Int, q + 1 ≤ k → (q + 1) * d ≤ k * d := fun k hk => Int.mul_le_mul_of_nonneg_right hk (by omega)
  have hq1 : (q + 1) * d = q * d + d := by rw [Int.add_mul, Int.one_mul]
  cases ng
  · simp only [wn, Bool.false_eq_true, if_false]
    rcases Int.lt_trichotomy n q with c | c | c
    · rw [sgn_lt c, if_pos (by decide), sgn_lt]
      have := lo n (by omega)
      omega
    · rw [sgn_eq c, if_neg (by decide), sgn_lt]
      have := lo n (by omega)
      omega
    · rw [sgn_gt c, if_pos (by decide), sgn_gt]
      have := hi n (by omega)
      omega
  · simp only [wn, if_true]
    have hneg : n * d = -(-n * d) := by rw [Int.neg_mul, Int.neg_neg]
    rcases Int.lt_trichotomy n (-q) with c | c | c
    · rw [sgn_lt c, if_pos (by decide), sgn_lt]
      have := hi (-n) (by omega)
      omega
    · rw [sgn_eq c, if_neg (by decide), sgn_gt]
      have := lo (-n) (by omega)
      omega
    · rw [sgn_gt c, if_pos (by decide), sgn_gt]
      have := lo (-n) (by omega)
      omega

end Go.Proofs.YtjigofmcflmelaaGreatDoor

namespace Go.Proofs.YtjigofmcflmelaaGreatDoor
open Go.RowKit
set_option linter.unusedVariables false

set_option maxRecDepth 20000 in
set_option maxHeartbeats 8000000 in
theorem to_16_64 {w : World} (L : Lays w) (T : Brn w) (x s : Int) (ng : Bool) (h0 : 0 ≤ x) (h1 : x < 18446744073709551616) (hs : x % 9223372036854775808 = s) (hng : ng = decide (9223372036854775808 ≤ x)) : Calls Tryz.prog 33 #[.int .u64 x] w fun e w' => ∃ y ok, e = .returned (.tuple #[.int .u16 y, .bool ok]) ∧ 0 ≤ y ∧ y < 65536 ∧ ToP 32768 1024 (-24) 31744 4503599627370496 (-1074) 9218868437227405312 s ng y ok ∧ Below w.heap.size w w' := by
  have s0 : 0 ≤ s := by omega
  have s1 : s < 9223372036854775808 := by omega
  have hxs : x = s + b2i ng * 9223372036854775808 := by
    subst hng
    by_cases c : 9223372036854775808 ≤ x
    · rw [decide_eq_true c, show b2i true = 1 from rfl]; omega
    · rw [decide_eq_false c, show b2i false = 0 from rfl]; omega
  have Hxs := hide hxs
  have Hs := hide hs
  clear hxs hs
  go_enter Tryz.func33, Tryz.ntmps33
  go_wp2_with fail
  with_reducible refine (layoutOf_16 L).mono ?_
  rintro e w1 ⟨rfl, K1⟩
  go_upto_region 2 with fail
  have C := cell3_new w1 (.int .i64 16) (.int .i64 10) (.int .i64 (-24)) 117
  have K := below_trans K1 (bel_new w1 (.cells #[.int .i64 16, .int .i64 10, .int .i64 (-24)] 117))
  generalize w1.alloc (.cells #[.int .i64 16, .int .i64 10, .int .i64 (-24)] 117) = w2 at *
  go_wp2_with fail
  with_reducible refine (parts_64 (L.below K) (T.below K) x s ng h0 h1 Hs.out hng).mono ?_
  rintro x' w3 ⟨a, m, E, ok, rfl, hP, kb⟩
  replace C := C.below kb
  replace K := below_trans K kb
  clear kb
  obtain ⟨m0, m1, E0, E1⟩ := part_bounds (F := 4503599627370496) (L := (-1074)) (S := 9223372036854775808) (by decide) (by decide) (by decide) s0 s1 (by unfold est; split <;> omega) (by decide) hP
  have Hng := hide hng
  clear hng
  by_cases fin : s < 9218868437227405312
  · obtain ⟨rfl, rfl, -, -⟩ := hP.2 fin
    have HP := hide hP
    clear hP
    go_wp2_with fail
    with_reducible refine (from_any m m0 (by omega)).mono ?_
    rintro x' w4 ⟨vm, rfl, hM, kb⟩
    replace K := below_trans K kb
    clear kb
    go_wp2_with fail
    with_reducible refine (round_16 (L.below K) (neg := a) (more := false) hM.arg (by decide) (by omega) (by omega)).mono ?_
    rintro x' w5 ⟨r, rfl, hN, kb⟩
    replace K := below_trans K kb
    clear kb hM
    have r0 := hN.1
    have r1 := hN.2.1
    obtain ⟨y1, y2, y3, y4⟩ := sgn_part (S := 32768) a r0 (by omega)
    have HN := hide hN
    clear hN
    generalize hy : r + b2i a * 32768 = y at *
    have HY := hide hy
    clear hy
    go_wp2_with fail
    with_reducible refine (parts_16 (L.below K) (T.below K) y r a y3 (by omega) y1 y2).mono ?_
    rintro x' w6 ⟨p, n, g, k, rfl, hP2, kb⟩
    replace K := below_trans K kb
    clear kb
    have HT := hide (show ToP 32768 1024 (-24) 31744 4503599627370496 (-1074) 9218868437227405312 s a y (k && (n == m) && (g == E)) from Or.inr (Or.inr ⟨fin, m, E, r, p, n, g, k, HP.out, HN.out, HY.out.symm, hP2, rfl⟩))
    clear hP2 y1 y2 HN HY HP
    cases k
    · go_wp2
      go_ret2
      exact ⟨y, _, rfl, y3, by omega, HT.out, K⟩
    by_cases en : n = m
    · have en' : (n == m) = true := by simp [en]
      by_cases ef : g = E
      · have ef' : (g == E) = true := by simp [ef]
        have HT2 := hide (show ToP 32768 1024 (-24) 31744 4503599627370496 (-1074) 9218868437227405312 s a y true by have h := HT.out; rw [en', ef'] at h; exact h)
        clear en ef HT
        go_wp2
        go_ret2
        exact ⟨y, _, rfl, y3, by omega, HT2.out, K⟩
      · have ef' : (g == E) = false := by simp [ef]
        have HT2 := hide (show ToP 32768 1024 (-24) 31744 4503599627370496 (-1074) 9218868437227405312 s a y false by have h := HT.out; rw [en', ef'] at h; exact h)
        clear en ef HT
        go_wp2
        go_ret2
        exact ⟨y, _, rfl, y3, by omega, HT2.out, K⟩
    · have en' : (n == m) = false := by simp [en]
      have HT2 := hide (show ToP 32768 1024 (-24) 31744 4503599627370496 (-1074) 9218868437227405312 s a y false by have h := HT.out; rw [en'] at h; simpa using h)
      clear en HT
      go_wp2
      go_ret2
      exact ⟨y, _, rfl, y3, by omega, HT2.out, K⟩
  obtain ⟨rfl, rfl, rfl, rfl⟩ := hP.1 (by omega)
  clear hP
  go_wp2_with fail
  with_reducible refine (class_64 (L.below K) x s h0 h1 Hs.out).mono ?_
  rintro x' w4 ⟨rfl, kb⟩
  replace C := C.below kb
  replace K := below_trans K kb
  clear kb
  have HCN := hide (cls_nan 9223372036854775808 4503599627370496 s)
  generalize cls 9223372036854775808 4503599627370496 s = cl at *
  have c0 := C.c0; have c1 := C.c1; have c2 := C.c2
  by_cases nan : 9218868437227405312 < s
  · have ec : cl = 5 := HCN.out.2 (by omega)
    have ec' : (cl == 5) = true := by simp [ec]
    have HT := hide (show ToP 32768 1024 (-24) 31744 4503599627370496 (-1074) 9218868437227405312 s ng 32256 true from Or.inl ⟨nan, by decide, rfl⟩)
    clear ec HCN
    go_wp2_with fail
    with_reducible refine (noNumber_h _).mono ?_
    rintro x' w5 ⟨rfl, kb⟩
    go_wp2
    go_ret2
    exact ⟨_, _, rfl, by decide, by decide, HT.out, below_trans K kb⟩
  have ec : ¬ cl = 5 := fun h => nan (by have := HCN.out.1 h; omega)
  have ec' : (cl == 5) = false := by simp [ec]
  have es : s = 9218868437227405312 := by omega
  clear ec HCN c0 c1 c2
  go_wp2_with fail
  with_reducible refine (layoutOf_64 (L.below K)).mono ?_
  rintro x' w5 ⟨rfl, kb⟩
  replace C := C.below kb
  replace K := below_trans K kb
  clear kb
  go_wp2_with fail
  with_reducible refine (infinite_d _).mono ?_
  rintro x' w6 ⟨rfl, kb⟩
  replace C := C.below kb
  replace K := below_trans K kb
  clear kb
  have c0 := C.c0; have c1 := C.c1; have c2 := C.c2
  cases ng
  · have ex : x = 9218868437227405312 := by have h := Hxs.out; rw [show b2i false = 0 from rfl] at h; omega
    have ex' : (x == 9218868437227405312) = true := by simp [ex]
    have HT := hide (show ToP 32768 1024 (-24) 31744 4503599627370496 (-1074) 9218868437227405312 s false 31744 true from Or.inr (Or.inl ⟨es, by decide, rfl⟩))
    clear ex es Hxs Hs
    go_wp2_with fail
    with_reducible refine (infinite_h _).mono ?_
    rintro x' w7 ⟨rfl, kb⟩
    go_wp2
    go_ret2
    exact ⟨_, _, rfl, by decide, by decide, HT.out, below_trans K kb⟩
  · have ex : ¬ x = 9218868437227405312 := by have h := Hxs.out; rw [show b2i true = 1 from rfl] at h; omega
    have ex' : (x == 9218868437227405312) = false := by simp [ex]
    have HT := hide (show ToP 32768 1024 (-24) 31744 4503599627370496 (-1074) 9218868437227405312 s true 64512 true from Or.inr (Or.inl ⟨es, by decide, rfl⟩))
    have ho : bits .or .u64 31744 32768 = 64512 := by decide
    clear ex es Hxs Hs
    go_upto_region 11 with fail
    have KK : Below w6.heap.size w6 w6.drew := (Below.refl _ _).drew
    go_region_held3 (fun w' => w'.cell? ⟨w1.heap.size, 0, none⟩ = some (.int .i64 16) ∧ w'.cell? ⟨w1.heap.size, 1, none⟩ = some (.int .i64 10) ∧ w'.cell? ⟨w1.heap.size, 2, none⟩ = some (.int .i64 (-24)))
      (first
        | with_reducible exact ⟨(C.below KK).c0, (C.below KK).c1, (C.below KK).c2⟩
        | go_keep)
      (first
        | (go_at_call 114; (with_reducible refine (infinite_h _).mono ?_); rintro e w7 ⟨rfl, hb⟩; replace KK := below_trans KK hb; clear hb)
        | (go_at_call 115; (with_reducible refine (sign_h _).mono ?_); rintro e w7 ⟨rfl, hb⟩; replace KK := below_trans KK hb; clear hb))
    all_goals go_wp2
    all_goals go_ret2
    all_goals exact ⟨_, _, rfl, by decide, by decide, HT.out, below_trans K KK⟩

end Go.Proofs.YtjigofmcflmelaaGreatDoor

namespace Go.Proofs.YtjigofmcflmelaaGreatDoor
open Go.RowKit
set_option linter.unusedVariables false

set_option maxRecDepth 20000 in
set_option maxHeartbeats 8000000 in
theorem to_32_64 {w : World} (L : Lays w) (T : Brn w) (x s : Int) (ng : Bool) (h0 : 0 ≤ x) (h1 : x < 18446744073709551616) (hs : x % 9223372036854775808 = s) (hng : ng = decide (9223372036854775808 ≤ x)) : Calls Tryz.prog 34 #[.int .u64 x] w fun e w' => ∃ y ok, e = .returned (.tuple #[.int .u32 y, .bool ok]) ∧ 0 ≤ y ∧ y < 4294967296 ∧ ToP 2147483648 8388608 (-149) 2139095040 4503599627370496 (-1074) 9218868437227405312 s ng y ok ∧ Below w.heap.size w w' := by
  have s0 : 0 ≤ s := by omega
  have s1 : s < 9223372036854775808 := by omega
  have hxs : x = s + b2i ng * 9223372036854775808 := by
    subst hng
    by_cases c : 9223372036854775808 ≤ x
    · rw [decide_eq_true c, show b2i true = 1 from rfl]; omega
    · rw [decide_eq_false c, show b2i false = 0 from rfl]; omega
  have Hxs := hide hxs
  have Hs := hide hs
  clear hxs hs
  go_enter Tryz.func34, Tryz.ntmps34
  go_wp2_with fail
  with_reducible refine (layoutOf_32 L).mono ?_
  rintro e w1 ⟨rfl, K1⟩
  go_upto_region 2 with fail
  have C := cell3_new w1 (.int .i64 32) (.int .i64 23) (.int .i64 (-149)) 117
  have K := below_trans K1 (bel_new w1 (.cells #[.int .i64 32, .int .i64 23, .int .i64 (-149)] 117))
  generalize w1.alloc (.cells #[.int .i64 32, .int .i64 23, .int .i64 (-149)] 117) = w2 at *
  go_wp2_with fail
  with_reducible refine (parts_64 (L.below K) (T.below K) x s ng h0 h1 Hs.out hng).mono ?_
  rintro x' w3 ⟨a, m, E, ok, rfl, hP, kb⟩
  replace C := C.below kb
  replace K := below_trans K kb
  clear kb
  obtain ⟨m0, m1, E0, E1⟩ := part_bounds (F := 4503599627370496) (L := (-1074)) (S := 9223372036854775808) (by decide) (by decide) (by decide) s0 s1 (by unfold est; split <;> omega) (by decide) hP
  have Hng := hide hng
  clear hng
  by_cases fin : s < 9218868437227405312
  · obtain ⟨rfl, rfl, -, -⟩ := hP.2 fin
    have HP := hide hP
    clear hP
    go_wp2_with fail
    with_reducible refine (from_any m m0 (by omega)).mono ?_
    rintro x' w4 ⟨vm, rfl, hM, kb⟩
    replace K := below_trans K kb
    clear kb
    go_wp2_with fail
    with_reducible refine (round_32 (L.below K) (neg := a) (more := false) hM.arg (by decide) (by omega) (by omega)).mono ?_
    rintro x' w5 ⟨r, rfl, hN, kb⟩
    replace K := below_trans K kb
    clear kb hM
    have r0 := hN.1
    have r1 := hN.2.1
    obtain ⟨y1, y2, y3, y4⟩ := sgn_part (S := 2147483648) a r0 (by omega)
    have HN := hide hN
    clear hN
    generalize hy : r + b2i a * 2147483648 = y at *
    have HY := hide hy
    clear hy
    go_wp2_with fail
    with_reducible refine (parts_32 (L.below K) (T.below K) y r a y3 (by omega) y1 y2).mono ?_
    rintro x' w6 ⟨p, n, g, k, rfl, hP2, kb⟩
    replace K := below_trans K kb
    clear kb
    have HT := hide (show ToP 2147483648 8388608 (-149) 2139095040 4503599627370496 (-1074) 9218868437227405312 s a y (k && (n == m) && (g == E)) from Or.inr (Or.inr ⟨fin, m, E, r, p, n, g, k, HP.out, HN.out, HY.out.symm, hP2, rfl⟩))
    clear hP2 y1 y2 HN HY HP
    cases k
    · go_wp2
      go_ret2
      exact ⟨y, _, rfl, y3, by omega, HT.out, K⟩
    by_cases en : n = m
    · have en' : (n == m) = true := by simp [en]
      by_cases ef : g = E
      · have ef' : (g == E) = true := by simp [ef]
        have HT2 := hide (show ToP 2147483648 8388608 (-149) 2139095040 4503599627370496 (-1074) 9218868437227405312 s a y true by have h := HT.out; rw [en', ef'] at h; exact h)
        clear en ef HT
        go_wp2
        go_ret2
        exact ⟨y, _, rfl, y3, by omega, HT2.out, K⟩
      · have ef' : (g == E) = false := by simp [ef]
        have HT2 := hide (show ToP 2147483648 8388608 (-149) 2139095040 4503599627370496 (-1074) 9218868437227405312 s a y false by have h := HT.out; rw [en', ef'] at h; exact h)
        clear en ef HT
        go_wp2
        go_ret2
        exact ⟨y, _, rfl, y3, by omega, HT2.out, K⟩
    · have en' : (n == m) = false := by simp [en]
      have HT2 := hide (show ToP 2147483648 8388608 (-149) 2139095040 4503599627370496 (-1074) 9218868437227405312 s a y false by have h := HT.out; rw [en'] at h; simpa using h)
      clear en HT
      go_wp2
      go_ret2
      exact ⟨y, _, rfl, y3, by omega, HT2.out, K⟩
  obtain ⟨rfl, rfl, rfl, rfl⟩ := hP.1 (by omega)
  clear hP
  go_wp2_with fail
  with_reducible refine (class_64 (L.below K) x s h0 h1 Hs.out).mono ?_
  rintro x' w4 ⟨rfl, kb⟩
  replace C := C.below kb
  replace K := below_trans K kb
  clear kb
  have HCN := hide (cls_nan 9223372036854775808 4503599627370496 s)
  generalize cls 9223372036854775808 4503599627370496 s = cl at *
  have c0 := C.c0; have c1 := C.c1; have c2 := C.c2
  by_cases nan : 9218868437227405312 < s
  · have ec : cl = 5 := HCN.out.2 (by omega)
    have ec' : (cl == 5) = true := by simp [ec]
    have HT := hide (show ToP 2147483648 8388608 (-149) 2139095040 4503599627370496 (-1074) 9218868437227405312 s ng 2143289344 true from Or.inl ⟨nan, by decide, rfl⟩)
    clear ec HCN
    go_wp2_with fail
    with_reducible refine (noNumber_s _).mono ?_
    rintro x' w5 ⟨rfl, kb⟩
    go_wp2
    go_ret2
    exact ⟨_, _, rfl, by decide, by decide, HT.out, below_trans K kb⟩
  have ec : ¬ cl = 5 := fun h => nan (by have := HCN.out.1 h; omega)
  have ec' : (cl == 5) = false := by simp [ec]
  have es : s = 9218868437227405312 := by omega
  clear ec HCN c0 c1 c2
  go_wp2_with fail
  with_reducible refine (layoutOf_64 (L.below K)).mono ?_
  rintro x' w5 ⟨rfl, kb⟩
  replace C := C.below kb
  replace K := below_trans K kb
  clear kb
  go_wp2_with fail
  with_reducible refine (infinite_d _).mono ?_
  rintro x' w6 ⟨rfl, kb⟩
  replace C := C.below kb
  replace K := below_trans K kb
  clear kb
  have c0 := C.c0; have c1 := C.c1; have c2 := C.c2
  cases ng
  · have ex : x = 9218868437227405312 := by have h := Hxs.out; rw [show b2i false = 0 from rfl] at h; omega
    have ex' : (x == 9218868437227405312) = true := by simp [ex]
    have HT := hide (show ToP 2147483648 8388608 (-149) 2139095040 4503599627370496 (-1074) 9218868437227405312 s false 2139095040 true from Or.inr (Or.inl ⟨es, by decide, rfl⟩))
    clear ex es Hxs Hs
    go_wp2_with fail
    with_reducible refine (infinite_s _).mono ?_
    rintro x' w7 ⟨rfl, kb⟩
    go_wp2
    go_ret2
    exact ⟨_, _, rfl, by decide, by decide, HT.out, below_trans K kb⟩
  · have ex : ¬ x = 9218868437227405312 := by have h := Hxs.out; rw [show b2i true = 1 from rfl] at h; omega
    have ex' : (x == 9218868437227405312) = false := by simp [ex]
    have HT := hide (show ToP 2147483648 8388608 (-149) 2139095040 4503599627370496 (-1074) 9218868437227405312 s true 4286578688 true from Or.inr (Or.inl ⟨es, by decide, rfl⟩))
    have ho : bits .or .u64 2139095040 2147483648 = 4286578688 := by decide
    clear ex es Hxs Hs
    go_upto_region 11 with fail
    have KK : Below w6.heap.size w6 w6.drew := (Below.refl _ _).drew
    go_region_held3 (fun w' => w'.cell? ⟨w1.heap.size, 0, none⟩ = some (.int .i64 32) ∧ w'.cell? ⟨w1.heap.size, 1, none⟩ = some (.int .i64 23) ∧ w'.cell? ⟨w1.heap.size, 2, none⟩ = some (.int .i64 (-149)))
      (first
        | with_reducible exact ⟨(C.below KK).c0, (C.below KK).c1, (C.below KK).c2⟩
        | go_keep)
      (first
        | (go_at_call 114; (with_reducible refine (infinite_s _).mono ?_); rintro e w7 ⟨rfl, hb⟩; replace KK := below_trans KK hb; clear hb)
        | (go_at_call 115; (with_reducible refine (sign_s _).mono ?_); rintro e w7 ⟨rfl, hb⟩; replace KK := below_trans KK hb; clear hb))
    all_goals go_wp2
    all_goals go_ret2
    all_goals exact ⟨_, _, rfl, by decide, by decide, HT.out, below_trans K KK⟩

end Go.Proofs.YtjigofmcflmelaaGreatDoor

namespace Go.Proofs.YtjigofmcflmelaaGreatDoor
open Go.RowKit
set_option linter.unusedVariables false

set_option maxRecDepth 20000 in
set_option maxHeartbeats 8000000 in
theorem to_64_16 {w : World} (L : Lays w) (T : Brn w) (x s : Int) (ng : Bool) (h0 : 0 ≤ x) (h1 : x < 65536) (hs : x % 32768 = s) (hng : ng = decide (32768 ≤ x)) : Calls Tryz.prog 51 #[.int .u16 x] w fun e w' => ∃ y ok, e = .returned (.tuple #[.int .u64 y, .bool ok]) ∧ 0 ≤ y ∧ y < 18446744073709551616 ∧ ToP 9223372036854775808 4503599627370496 (-1074) 9218868437227405312 1024 (-24) 31744 s ng y ok ∧ Below w.heap.size w w' := by
  have s0 : 0 ≤ s := by omega
  have s1 : s < 32768 := by omega
  have hxs : x = s + b2i ng * 32768 := by
    subst hng
    by_cases c : 32768 ≤ x
    · rw [decide_eq_true c, show b2i true = 1 from rfl]; omega
    · rw [decide_eq_false c, show b2i false = 0 from rfl]; omega
  have Hxs := hide hxs
  have Hs := hide hs
  clear hxs hs
  go_enter Tryz.func51, Tryz.ntmps51
  go_wp2_with fail
  with_reducible refine (layoutOf_64 L).mono ?_
  rintro e w1 ⟨rfl, K1⟩
  go_upto_region 2 with fail
  have C := cell3_new w1 (.int .i64 64) (.int .i64 52) (.int .i64 (-1074)) 117
  have K := below_trans K1 (bel_new w1 (.cells #[.int .i64 64, .int .i64 52, .int .i64 (-1074)] 117))
  generalize w1.alloc (.cells #[.int .i64 64, .int .i64 52, .int .i64 (-1074)] 117) = w2 at *
  go_wp2_with fail
  with_reducible refine (parts_16 (L.below K) (T.below K) x s ng h0 h1 Hs.out hng).mono ?_
  rintro x' w3 ⟨a, m, E, ok, rfl, hP, kb⟩
  replace C := C.below kb
  replace K := below_trans K kb
  clear kb
  obtain ⟨m0, m1, E0, E1⟩ := part_bounds (F := 1024) (L := (-24)) (S := 32768) (by decide) (by decide) (by decide) s0 s1 (by unfold est; split <;> omega) (by decide) hP
  have Hng := hide hng
  clear hng
  by_cases fin : s < 31744
  · obtain ⟨rfl, rfl, -, -⟩ := hP.2 fin
    have HP := hide hP
    clear hP
    go_wp2_with fail
    with_reducible refine (from_any m m0 (by omega)).mono ?_
    rintro x' w4 ⟨vm, rfl, hM, kb⟩
    replace K := below_trans K kb
    clear kb
    go_wp2_with fail
    with_reducible refine (round_64 (L.below K) (neg := a) (more := false) hM.arg (by decide) (by omega) (by omega)).mono ?_
    rintro x' w5 ⟨r, rfl, hN, kb⟩
    replace K := below_trans K kb
    clear kb hM
    have r0 := hN.1
    have r1 := hN.2.1
    obtain ⟨y1, y2, y3, y4⟩ := sgn_part (S := 9223372036854775808) a r0 (by omega)
    have HN := hide hN
    clear hN
    generalize hy : r + b2i a * 9223372036854775808 = y at *
    have HY := hide hy
    clear hy
    go_wp2_with fail
    with_reducible refine (parts_64 (L.below K) (T.below K) y r a y3 (by omega) y1 y2).mono ?_
    rintro x' w6 ⟨p, n, g, k, rfl, hP2, kb⟩
    replace K := below_trans K kb
    clear kb
    have HT := hide (show ToP 9223372036854775808 4503599627370496 (-1074) 9218868437227405312 1024 (-24) 31744 s a y (k && (n == m) && (g == E)) from Or.inr (Or.inr ⟨fin, m, E, r, p, n, g, k, HP.out, HN.out, HY.out.symm, hP2, rfl⟩))
    clear hP2 y1 y2 HN HY HP
    cases k
    · go_wp2
      go_ret2
      exact ⟨y, _, rfl, y3, by omega, HT.out, K⟩
    by_cases en : n = m
    · have en' : (n == m) = true := by simp [en]
      by_cases ef : g = E
      · have ef' : (g == E) = true := by simp [ef]
        have HT2 := hide (show ToP 9223372036854775808 4503599627370496 (-1074) 9218868437227405312 1024 (-24) 31744 s a y true by have h := HT.out; rw [en', ef'] at h; exact h)
        clear en ef HT
        go_wp2
        go_ret2
        exact ⟨y, _, rfl, y3, by omega, HT2.out, K⟩
      · have ef' : (g == E) = false := by simp [ef]
        have HT2 := hide (show ToP 9223372036854775808 4503599627370496 (-1074) 9218868437227405312 1024 (-24) 31744 s a y false by have h := HT.out; rw [en', ef'] at h; exact h)
        clear en ef HT
        go_wp2
        go_ret2
        exact ⟨y, _, rfl, y3, by omega, HT2.out, K⟩
    · have en' : (n == m) = false := by simp [en]
      have HT2 := hide (show ToP 9223372036854775808 4503599627370496 (-1074) 9218868437227405312 1024 (-24) 31744 s a y false by have h := HT.out; rw [en'] at h; simpa using h)
      clear en HT
      go_wp2
      go_ret2
      exact ⟨y, _, rfl, y3, by omega, HT2.out, K⟩
  obtain ⟨rfl, rfl, rfl, rfl⟩ := hP.1 (by omega)
  clear hP
  go_wp2_with fail
  with_reducible refine (class_16 (L.below K) x s h0 h1 Hs.out).mono ?_
  rintro x' w4 ⟨rfl, kb⟩
  replace C := C.below kb
  replace K := below_trans K kb
  clear kb
  have HCN := hide (cls_nan 32768 1024 s)
  generalize cls 32768 1024 s = cl at *
  have c0 := C.c0; have c1 := C.c1; have c2 := C.c2
  by_cases nan : 31744 < s
  · have ec : cl = 5 := HCN.out.2 (by omega)
    have ec' : (cl == 5) = true := by simp [ec]
    have HT := hide (show ToP 9223372036854775808 4503599627370496 (-1074) 9218868437227405312 1024 (-24) 31744 s ng 9221120237041090560 true from Or.inl ⟨nan, by decide, rfl⟩)
    clear ec HCN
    go_wp2_with fail
    with_reducible refine (noNumber_d _).mono ?_
    rintro x' w5 ⟨rfl, kb⟩
    go_wp2
    go_ret2
    exact ⟨_, _, rfl, by decide, by decide, HT.out, below_trans K kb⟩
  have ec : ¬ cl = 5 := fun h => nan (by have := HCN.out.1 h; omega)
  have ec' : (cl == 5) = false := by simp [ec]
  have es : s = 31744 := by omega
  clear ec HCN c0 c1 c2
  go_wp2_with fail
  with_reducible refine (layoutOf_16 (L.below K)).mono ?_
  rintro x' w5 ⟨rfl, kb⟩
  replace C := C.below kb
  replace K := below_trans K kb
  clear kb
  go_wp2_with fail
  with_reducible refine (infinite_h _).mono ?_
  rintro x' w6 ⟨rfl, kb⟩
  replace C := C.below kb
  replace K := below_trans K kb
  clear kb
  have c0 := C.c0; have c1 := C.c1; have c2 := C.c2
  cases ng
  · have ex : x = 31744 := by have h := Hxs.out; rw [show b2i false = 0 from rfl] at h; omega
    have ex' : (x == 31744) = true := by simp [ex]
    have HT := hide (show ToP 9223372036854775808 4503599627370496 (-1074) 9218868437227405312 1024 (-24) 31744 s false 9218868437227405312 true from Or.inr (Or.inl ⟨es, by decide, rfl⟩))
    clear ex es Hxs Hs
    go_wp2_with fail
    with_reducible refine (infinite_d _).mono ?_
    rintro x' w7 ⟨rfl, kb⟩
    go_wp2
    go_ret2
    exact ⟨_, _, rfl, by decide, by decide, HT.out, below_trans K kb⟩
  · have ex : ¬ x = 31744 := by have h := Hxs.out; rw [show b2i true = 1 from rfl] at h; omega
    have ex' : (x == 31744) = false := by simp [ex]
    have HT := hide (show ToP 9223372036854775808 4503599627370496 (-1074) 9218868437227405312 1024 (-24) 31744 s true 18442240474082181120 true from Or.inr (Or.inl ⟨es, by decide, rfl⟩))
    have ho : bits .or .u64 9218868437227405312 9223372036854775808 = 18442240474082181120 := by decide
    clear ex es Hxs Hs
    go_upto_region 11 with fail
    have KK : Below w6.heap.size w6 w6.drew := (Below.refl _ _).drew
    go_region_held3 (fun w' => w'.cell? ⟨w1.heap.size, 0, none⟩ = some (.int .i64 64) ∧ w'.cell? ⟨w1.heap.size, 1, none⟩ = some (.int .i64 52) ∧ w'.cell? ⟨w1.heap.size, 2, none⟩ = some (.int .i64 (-1074)))
      (first
        | with_reducible exact ⟨(C.below KK).c0, (C.below KK).c1, (C.below KK).c2⟩
        | go_keep)
      (first
        | (go_at_call 114; (with_reducible refine (infinite_d _).mono ?_); rintro e w7 ⟨rfl, hb⟩; replace KK := below_trans KK hb; clear hb)
        | (go_at_call 115; (with_reducible refine (sign_d _).mono ?_); rintro e w7 ⟨rfl, hb⟩; replace KK := below_trans KK hb; clear hb))
    all_goals go_wp2
    all_goals go_ret2
    all_goals exact ⟨_, _, rfl, by decide, by decide, HT.out, below_trans K KK⟩

set_option maxRecDepth 20000 in
set_option maxHeartbeats 8000000 in
theorem to_64_32 {w : World} (L : Lays w) (T : Brn w) (x s : Int) (ng : Bool) (h0 : 0 ≤ x) (h1 : x < 4294967296) (hs : x % 2147483648 = s) (hng : ng = decide (2147483648 ≤ x)) : Calls Tryz.prog 49 #[.int .u32 x] w fun e w' => ∃ y ok, e = .returned (.tuple #[.int .u64 y, .bool ok]) ∧ 0 ≤ y ∧ y < 18446744073709551616 ∧ ToP 9223372036854775808 4503599627370496 (-1074) 9218868437227405312 8388608 (-149) 2139095040 s ng y ok ∧ Below w.heap.size w w' := by
  have s0 : 0 ≤ s := by omega
  have s1 : s < 2147483648 := by omega
  have hxs : x = s + b2i ng * 2147483648 := by
    subst hng
    by_cases c : 2147483648 ≤ x
    · rw [decide_eq_true c, show b2i true = 1 from rfl]; omega
    · rw [decide_eq_false c, show b2i false = 0 from rfl]; omega
  have Hxs := hide hxs
  have Hs := hide hs
  clear hxs hs
  go_enter Tryz.func49, Tryz.ntmps49
  go_wp2_with fail
  with_reducible refine (layoutOf_64 L).mono ?_
  rintro e w1 ⟨rfl, K1⟩
  go_upto_region 2 with fail
  have C := cell3_new w1 (.int .i64 64) (.int .i64 52) (.int .i64 (-1074)) 117
  have K := below_trans K1 (bel_new w1 (.cells #[.int .i64 64, .int .i64 52, .int .i64 (-1074)] 117))
  generalize w1.alloc (.cells #[.int .i64 64, .int .i64 52, .int .i64 (-1074)] 117) = w2 at *
  go_wp2_with fail
  with_reducible refine (parts_32 (L.below K) (T.below K) x s ng h0 h1 Hs.out hng).mono ?_
  rintro x' w3 ⟨a, m, E, ok, rfl, hP, kb⟩
  replace C := C.below kb
  replace K := below_trans K kb
  clear kb
  obtain ⟨m0, m1, E0, E1⟩ := part_bounds (F := 8388608) (L := (-149)) (S := 2147483648) (by decide) (by decide) (by decide) s0 s1 (by unfold est; split <;> omega) (by decide) hP
  have Hng := hide hng
  clear hng
  by_cases fin : s < 2139095040
  · obtain ⟨rfl, rfl, -, -⟩ := hP.2 fin
    have HP := hide hP
    clear hP
    go_wp2_with fail
    with_reducible refine (from_any m m0 (by omega)).mono ?_
    rintro x' w4 ⟨vm, rfl, hM, kb⟩
    replace K := below_trans K kb
    clear kb
    go_wp2_with fail
    with_reducible refine (round_64 (L.below K) (neg := a) (more := false) hM.arg (by decide) (by omega) (by omega)).mono ?_
    rintro x' w5 ⟨r, rfl, hN, kb⟩
    replace K := below_trans K kb
    clear kb hM
    have r0 := hN.1
    have r1 := hN.2.1
    obtain ⟨y1, y2, y3, y4⟩ := sgn_part (S := 9223372036854775808) a r0 (by omega)
    have HN := hide hN
    clear hN
    generalize hy : r + b2i a * 9223372036854775808 = y at *
    have HY := hide hy
    clear hy
    go_wp2_with fail
    with_reducible refine (parts_64 (L.below K) (T.below K) y r a y3 (by omega) y1 y2).mono ?_
    rintro x' w6 ⟨p, n, g, k, rfl, hP2, kb⟩
    replace K := below_trans K kb
    clear kb
    have HT := hide (show ToP 9223372036854775808 4503599627370496 (-1074) 9218868437227405312 8388608 (-149) 2139095040 s a y (k && (n == m) && (g == E)) from Or.inr (Or.inr ⟨fin, m, E, r, p, n, g, k, HP.out, HN.out, HY.out.symm, hP2, rfl⟩))
    clear hP2 y1 y2 HN HY HP
    cases k
    · go_wp2
      go_ret2
      exact ⟨y, _, rfl, y3, by omega, HT.out, K⟩
    by_cases en : n = m
    · have en' : (n == m) = true := by simp [en]
      by_cases ef : g = E
      · have ef' : (g == E) = true := by simp [ef]
        have HT2 := hide (show ToP 9223372036854775808 4503599627370496 (-1074) 9218868437227405312 8388608 (-149) 2139095040 s a y true by have h := HT.out; rw [en', ef'] at h; exact h)
        clear en ef HT
        go_wp2
        go_ret2
        exact ⟨y, _, rfl, y3, by omega, HT2.out, K⟩
      · have ef' : (g == E) = false := by simp [ef]
        have HT2 := hide (show ToP 9223372036854775808 4503599627370496 (-1074) 9218868437227405312 8388608 (-149) 2139095040 s a y false by have h := HT.out; rw [en', ef'] at h; exact h)
        clear en ef HT
        go_wp2
        go_ret2
        exact ⟨y, _, rfl, y3, by omega, HT2.out, K⟩
    · have en' : (n == m) = false := by simp [en]
      have HT2 := hide (show ToP 9223372036854775808 4503599627370496 (-1074) 9218868437227405312 8388608 (-149) 2139095040 s a y false by have h := HT.out; rw [en'] at h; simpa using h)
      clear en HT
      go_wp2
      go_ret2
      exact ⟨y, _, rfl, y3, by omega, HT2.out, K⟩
  obtain ⟨rfl, rfl, rfl, rfl⟩ := hP.1 (by omega)
  clear hP
  go_wp2_with fail
  with_reducible refine (class_32 (L.below K) x s h0 h1 Hs.out).mono ?_
  rintro x' w4 ⟨rfl, kb⟩
  replace C := C.below kb
  replace K := below_trans K kb
  clear kb
  have HCN := hide (cls_nan 2147483648 8388608 s)
  generalize cls 2147483648 8388608 s = cl at *
  have c0 := C.c0; have c1 := C.c1; have c2 := C.c2
  by_cases nan : 2139095040 < s
  · have ec : cl = 5 := HCN.out.2 (by omega)
    have ec' : (cl == 5) = true := by simp [ec]
    have HT := hide (show ToP 9223372036854775808 4503599627370496 (-1074) 9218868437227405312 8388608 (-149) 2139095040 s ng 9221120237041090560 true from Or.inl ⟨nan, by decide, rfl⟩)
    clear ec HCN
    go_wp2_with fail
    with_reducible refine (noNumber_d _).mono ?_
    rintro x' w5 ⟨rfl, kb⟩
    go_wp2
    go_ret2
    exact ⟨_, _, rfl, by decide, by decide, HT.out, below_trans K kb⟩
  have ec : ¬ cl = 5 := fun h => nan (by have := HCN.out.1 h; omega)
  have ec' : (cl == 5) = false := by simp [ec]
  have es : s = 2139095040 := by omega
  clear ec HCN c0 c1 c2
  go_wp2_with fail
  with_reducible refine (layoutOf_32 (L.below K)).mono ?_
  rintro x' w5 ⟨rfl, kb⟩
  replace C := C.below kb
  replace K := below_trans K kb
  clear kb
  go_wp2_with fail
  with_reducible refine (infinite_s _).mono ?_
  rintro x' w6 ⟨rfl, kb⟩
  replace C := C.below kb
  replace K := below_trans K kb
  clear kb
  have c0 := C.c0; have c1 := C.c1; have c2 := C.c2
  cases ng
  · have ex : x = 2139095040 := by have h := Hxs.out; rw [show b2i false = 0 from rfl] at h; omega
    have ex' : (x == 2139095040) = true := by simp [ex]
    have HT := hide (show ToP 9223372036854775808 4503599627370496 (-1074) 9218868437227405312 8388608 (-149) 2139095040 s false 9218868437227405312 true from Or.inr (Or.inl ⟨es, by decide, rfl⟩))
    clear ex es Hxs Hs
    go_wp2_with fail
    with_reducible refine (infinite_d _).mono ?_
    rintro x' w7 ⟨rfl, kb⟩
    go_wp2
    go_ret2
    exact ⟨_, _, rfl, by decide, by decide, HT.out, below_trans K kb⟩
  · have ex : ¬ x = 2139095040 := by have h := Hxs.out; rw [show b2i true = 1 from rfl] at h; omega
    have ex' : (x == 2139095040) = false := by simp [ex]
    have HT := hide (show ToP 9223372036854775808 4503599627370496 (-1074) 9218868437227405312 8388608 (-149) 2139095040 s true 18442240474082181120 true from Or.inr (Or.inl ⟨es, by decide, rfl⟩))
    have ho : bits .or .u64 9218868437227405312 9223372036854775808 = 18442240474082181120 := by decide
    clear ex es Hxs Hs
    go_upto_region 11 with fail
    have KK : Below w6.heap.size w6 w6.drew := (Below.refl _ _).drew
    go_region_held3 (fun w' => w'.cell? ⟨w1.heap.size, 0, none⟩ = some (.int .i64 64) ∧ w'.cell? ⟨w1.heap.size, 1, none⟩ = some (.int .i64 52) ∧ w'.cell? ⟨w1.heap.size, 2, none⟩ = some (.int .i64 (-1074)))
      (first
        | with_reducible exact ⟨(C.below KK).c0, (C.below KK).c1, (C.below KK).c2⟩
        | go_keep)
      (first
        | (go_at_call 114; (with_reducible refine (infinite_d _).mono ?_); rintro e w7 ⟨rfl, hb⟩; replace KK := below_trans KK hb; clear hb)
        | (go_at_call 115; (with_reducible refine (sign_d _).mono ?_); rintro e w7 ⟨rfl, hb⟩; replace KK := below_trans KK hb; clear hb))
    all_goals go_wp2
    all_goals go_ret2
    all_goals exact ⟨_, _, rfl, by decide, by decide, HT.out, below_trans K KK⟩

end Go.Proofs.YtjigofmcflmelaaGreatDoor
