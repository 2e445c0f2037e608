import Derived.Test.YticmlelalbaalaaGreatDoorB03
import Derived.Laws.BitsAllLaws
import Derived.Laws.BitsLemmas
import Derived.Deep.RegionHeld3
import Derived.Deep.Cut
import Derived.Handy
namespace Go.Proofs.YticmlelalbaalaaGreatDoor
open Go.RowKit
theorem nat_andNot {n x : Nat} (hn : n < 64) (hx : x < 2 ^ (n + 1)) : x &&& (18446744073709551615 - 2 ^ n) = x % 2 ^ n := by
  apply Nat.eq_of_testBit_eq
  intro i
  have hp : 2 ^ n < 2 ^ 64 := Nat.pow_lt_pow_right (by decide) hn
  have e : 18446744073709551615 - 2 ^ n = 2 ^ 64 - (2 ^ n + 1) := by omega
  rw [e, Nat.testBit_and, Nat.testBit_two_pow_sub_succ hp, Nat.testBit_two_pow, Nat.testBit_mod_two_pow]
  by_cases h1 : i < n
  · have : i < 64 := by omega
    simp [h1, this]; omega
  · by_cases h2 : i = n
    · subst h2; simp
    · have h3 : x.testBit i = false := Nat.testBit_lt_two_pow (Nat.lt_of_lt_of_le hx (Nat.pow_le_pow_right (by decide) (by omega)))
      simp [h3]
theorem nat_and {n x : Nat} (hx : x < 2 ^ (n + 1)) : x &&& 2 ^ n = x - x % 2 ^ n := by
  have h := Nat.div_add_mod x (2 ^ n)
  have hp : 0 < 2 ^ n := Nat.two_pow_pos n
  have h2 : x / 2 ^ n < 2 := by rw [Nat.div_lt_iff_lt_mul hp]; rw [Nat.pow_succ] at hx; omega
  apply Nat.eq_of_testBit_eq
  intro i
  have hx' : x - x % 2 ^ n = (x / 2 ^ n) * 2 ^ n := by rw [Nat.mul_comm]; omega
  rw [hx', Nat.testBit_and, Nat.testBit_two_pow, Nat.testBit_mul_two_pow]
  by_cases h3 : i = n
  · subst h3; simp
    rw [Nat.testBit_eq_decide_div_mod_eq]
  · by_cases h4 : i < n
    · have : ¬ n ≤ i := by omega
      simp [this]; omega
    · have h5 : (x / 2 ^ n).testBit (i - n) = false := Nat.testBit_lt_two_pow (Nat.lt_of_lt_of_le h2 (by have := Nat.pow_le_pow_right (n := 2) (by decide) (show 1 ≤ i - n by omega); simpa using this))
      simp [h5]; omega
theorem nat_or {n x : Nat} (hx : x < 2 ^ n) : x ||| 2 ^ n = x + 2 ^ n := by
  rw [Nat.or_comm, Nat.add_comm]
  have := Nat.two_pow_add_eq_or_of_lt hx 1
  simpa using this.symm
theorem nat_not {n x : Nat} (hx : x < 2 ^ n) : (2 ^ n - 1) ^^^ x = 2 ^ n - 1 - x := by
  apply Nat.eq_of_testBit_eq
  intro i
  rw [show 2 ^ n - 1 - x = 2 ^ n - (x + 1) by omega, Nat.testBit_xor, Nat.testBit_two_pow_sub_one, Nat.testBit_two_pow_sub_succ hx]
  by_cases h : i < n
  · simp [h]
  · have h3 : x.testBit i = false := Nat.testBit_lt_two_pow (Nat.lt_of_lt_of_le hx (Nat.pow_le_pow_right (by decide) (by omega)))
    simp [h, h3]
theorem not_d (x : Int) (h0 : 0 ≤ x) (h1 : x < 18446744073709551616) : bits .xor .u64 18446744073709551615 x = 18446744073709551615 - x := by
  rw [u64_xor 18446744073709551615 x (by decide) (by decide) h0 (by omega)]
  have := nat_not (n := 64) (x := x.toNat) (by omega)
  rw [show (18446744073709551615 : Int).toNat = 2 ^ 64 - 1 from rfl, this]
  omega
theorem andNot_d (x : Int) (h0 : 0 ≤ x) (h1 : x < 18446744073709551616) : bits .andNot .u64 x 9223372036854775808 = x % 9223372036854775808 := by
  rw [u64_andNot x 9223372036854775808 h0 (by omega) (by decide) (by decide)]
  have := nat_andNot (n := 63) (x := x.toNat) (by decide) (by omega)
  rw [show (9223372036854775808 : Int).toNat = 2 ^ 63 from rfl, this]
  omega
theorem and_d (x : Int) (h0 : 0 ≤ x) (h1 : x < 18446744073709551616) : bits .and .u64 x 9223372036854775808 = x - x % 9223372036854775808 := by
  rw [u64_and x 9223372036854775808 h0 (by omega) (by decide) (by decide)]
  have := nat_and (n := 63) (x := x.toNat) (by omega)
  rw [show (9223372036854775808 : Int).toNat = 2 ^ 63 from rfl, this]
  omega
theorem or_d (x : Int) (h0 : 0 ≤ x) (h1 : x < 9223372036854775808) : bits .or .u64 x 9223372036854775808 = x + 9223372036854775808 := by
  rw [u64_or x 9223372036854775808 h0 (by omega) (by decide) (by decide)]
  have := nat_or (n := 63) (x := x.toNat) (by omega)
  rw [show (9223372036854775808 : Int).toNat = 2 ^ 63 from rfl, this]
  omega
theorem bel_new (w : World) (o : Obj) : Below w.heap.size w (w.alloc o) := (Below.refl _ _).alloc (Nat.le_refl _) _
structure Cell3 (w : World) (b : Nat) (i : Nat) (x y z : Value) : Prop where
  c0 : w.cell? ⟨b, i, none⟩ = some x
  c1 : w.cell? ⟨b, i + 1, none⟩ = some y
  c2 : w.cell? ⟨b, i + 2, none⟩ = some z
  lt : b < w.heap.size
theorem Cell3.below {w w' : World} {b i : Nat} {x y z : Value} (h : Cell3 w b i x y z) (hb : Below w.heap.size w w') : Cell3 w' b i x y z :=
  ⟨(hb.cell (p := ⟨b, i, none⟩) h.lt).trans h.c0, (hb.cell (p := ⟨b, i + 1, none⟩) h.lt).trans h.c1, (hb.cell (p := ⟨b, i + 2, none⟩) h.lt).trans h.c2, Nat.lt_of_lt_of_le h.lt hb.size⟩
theorem cell3_new (w : World) (x y z : Value) (t : TypeId) : Cell3 (w.alloc (.cells #[x, y, z] t)) w.heap.size 0 x y z := by
  refine ⟨?_, ?_, ?_, by simp⟩
  · rw [World.cell?_alloc_at _ _ _ _ rfl]; rfl
  · rw [World.cell?_alloc_at _ _ _ _ rfl]; rfl
  · rw [World.cell?_alloc_at _ _ _ _ rfl]; rfl
def tri (x y : Int) : Int := if x < y then -1 else if y < x then 1 else 0
def cls (S F s : Int) : Int := if S - F < s then 5 else if s = S - F then 4 else if s = 0 then 1 else if s < F then 2 else 3
def rk (S x : Int) : Int := if x < S then x + S else 2 * S - 1 - x
theorem cls_nan (S F s : Int) : cls S F s = 5 ↔ S - F < s := by
  unfold cls
  constructor
  · intro h
    by_cases a : S - F < s
    · exact a
    · rw [if_neg a] at h
      repeat' split at h
      all_goals omega
  · intro h; rw [if_pos h]
structure Lays (w : World) : Prop where
  h : Cell3 w 14 0 (.int .i64 16) (.int .i64 10) (.int .i64 (-24))
  s : Cell3 w 14 3 (.int .i64 32) (.int .i64 23) (.int .i64 (-149))
  d : Cell3 w 14 6 (.int .i64 64) (.int .i64 52) (.int .i64 (-1074))
theorem Lays.below {w w' : World} (h : Lays w) (hb : Below w.heap.size w w') : Lays w' := ⟨h.h.below hb, h.s.below hb, h.d.below hb⟩
theorem sign_d (w : World) : Calls Tryz.prog 133 #[.agg #[.int .i64 64, .int .i64 52, .int .i64 (-1074)]] w fun e w' => e = .returned (.int .u64 9223372036854775808) ∧ Below w.heap.size w w' := by
  go_enter Tryz.func133, Tryz.ntmps133
  go_wp2
  go_ret
  exact ⟨rfl, bel_new _ _⟩
theorem leastNormal_d (w : World) : Calls Tryz.prog 161 #[.agg #[.int .i64 64, .int .i64 52, .int .i64 (-1074)]] w fun e w' => e = .returned (.int .u64 4503599627370496) ∧ Below w.heap.size w w' := by
  go_enter Tryz.func161, Tryz.ntmps161
  go_wp2
  go_ret
  exact ⟨rfl, bel_new _ _⟩
set_option maxHeartbeats 1000000 in
theorem infinite_d (w : World) : Calls Tryz.prog 160 #[.agg #[.int .i64 64, .int .i64 52, .int .i64 (-1074)]] w fun e w' => e = .returned (.int .u64 9218868437227405312) ∧ Below w.heap.size w w' := by
  go_enter Tryz.func160, Tryz.ntmps160
  go_upto_region 1 with fail
  have C1 := cell3_new w (.int .i64 64) (.int .i64 52) (.int .i64 (-1074)) 180
  have K1 := bel_new w (.cells #[.int .i64 64, .int .i64 52, .int .i64 (-1074)] 180)
  generalize w.alloc (.cells #[.int .i64 64, .int .i64 52, .int .i64 (-1074)] 180) = w1 at *
  have K : Below w1.heap.size w1 w1.drew := (Below.refl _ _).drew
  go_region_held3 (fun w' => w'.cell? ⟨w.heap.size, 0, none⟩ = some (.int .i64 64) ∧ w'.cell? ⟨w.heap.size, 1, none⟩ = some (.int .i64 52) ∧ w'.cell? ⟨w.heap.size, 2, none⟩ = some (.int .i64 (-1074)))
    (first
      | with_reducible exact ⟨(C1.below K).c0, (C1.below K).c1, (C1.below K).c2⟩
      | go_keep)
    (first
      | (go_at_call 133; (with_reducible refine (sign_d _).mono ?_); rintro e w2 ⟨rfl, hb⟩; replace K := below_trans K hb; clear hb)
      | (go_at_call 161; (with_reducible refine (leastNormal_d _).mono ?_); rintro e w2 ⟨rfl, hb⟩; replace K := below_trans K hb; clear hb))
  all_goals go_wp2
  all_goals go_ret
  all_goals exact ⟨rfl, below_trans K1 K⟩
set_option maxHeartbeats 1000000 in
theorem size_d (w : World) (x s : Int) (h0 : 0 ≤ x) (h1 : x < 18446744073709551616) (hs : x % 9223372036854775808 = s) : Calls Tryz.prog 159 #[.agg #[.int .i64 64, .int .i64 52, .int .i64 (-1074)], .int .u64 x] w fun e w' => e = .returned (.int .u64 s) ∧ Below w.heap.size w w' := by
  have hb := andNot_d x h0 h1
  rw [hs] at hb
  clear hs
  go_enter Tryz.func159, Tryz.ntmps159
  go_wp2_with fail
  with_reducible refine (sign_d _).mono ?_
  rintro e w2 ⟨rfl, hb2⟩
  go_wp2
  go_ret
  exact ⟨rfl, below_trans (bel_new _ _) hb2⟩
set_option maxHeartbeats 1000000 in
theorem layoutOf_64 {w : World} (L : Lays w) : Calls Tryz.prog 132 #[] w fun e w' => e = .returned (.agg #[.int .i64 64, .int .i64 52, .int .i64 (-1074)]) ∧ Below w.heap.size w w' := by
  have C := (L.below (bel_new w (.cells #[.int .i64 0, .int .i64 0, .int .i64 0] 180))).d
  have c0 := C.c0
  have c1 := C.c1
  have c2 := C.c2
  have lt := L.d.lt
  clear C L
  go_enter Tryz.func132, Tryz.ntmps132
  go_wp2
  go_returns
  exact ⟨rfl, bel_new _ _⟩
set_option maxHeartbeats 2000000 in
theorem class_64 {w : World} (L : Lays w) (x s : Int) (h0 : 0 ≤ x) (h1 : x < 18446744073709551616) (hs : x % 9223372036854775808 = s) : Calls Tryz.prog 137 #[.int .u64 x] w fun e w' => e = .returned (.int .i8 (cls 9223372036854775808 4503599627370496 s)) ∧ Below w.heap.size w w' := by
  have s0 : 0 ≤ s := by omega
  have s1 : s < 9223372036854775808 := by omega
  go_enter Tryz.func137, Tryz.ntmps137
  go_wp2_with fail
  with_reducible refine (layoutOf_64 L).mono ?_
  rintro e w1 ⟨rfl, K1⟩
  go_upto_region 2 with fail
  have C := cell3_new w1 (.int .i64 64) (.int .i64 52) (.int .i64 (-1074)) 180
  have K2 := below_trans K1 (bel_new w1 (.cells #[.int .i64 64, .int .i64 52, .int .i64 (-1074)] 180))
  generalize w1.alloc (.cells #[.int .i64 64, .int .i64 52, .int .i64 (-1074)] 180) = w2 at *
  have c0 := C.c0; have c1 := C.c1; have c2 := C.c2
  go_wp2_with fail
  with_reducible refine (size_d _ x s h0 h1 hs).mono ?_
  rintro e w3 ⟨rfl, b3⟩
  clear c0 c1 c2
  replace C := C.below b3
  replace K2 := below_trans K2 b3
  clear b3
  have c0 := C.c0; have c1 := C.c1; have c2 := C.c2
  go_wp2_with fail
  with_reducible refine (infinite_d _).mono ?_
  rintro e w4 ⟨rfl, b4⟩
  clear c0 c1 c2
  replace C := C.below b4
  replace K2 := below_trans K2 b4
  clear b4
  clear h0 h1 hs
  by_cases a1 : 9218868437227405312 < s
  · have hc : cls 9223372036854775808 4503599627370496 s = 5 := by unfold cls; rw [if_pos (by omega)]
    have Hc := hide hc
    clear hc
    go_wp2
    go_ret
    exact ⟨by rw [Hc.out]; rfl, K2⟩
  have c0 := C.c0; have c1 := C.c1; have c2 := C.c2
  go_wp2_with fail
  with_reducible refine (infinite_d _).mono ?_
  rintro e w5 ⟨rfl, b5⟩
  clear c0 c1 c2
  replace C := C.below b5
  replace K2 := below_trans K2 b5
  clear b5
  by_cases a2 : s = 9218868437227405312
  · have hc : cls 9223372036854775808 4503599627370496 s = 4 := by unfold cls; rw [if_neg (by omega), if_pos (by omega)]
    have a2' : (s == 9218868437227405312) = true := by simp [a2]
    have Hc := hide hc
    clear hc a2 a1
    go_wp2
    go_ret
    exact ⟨by rw [Hc.out]; rfl, K2⟩
  have a2' : (s == 9218868437227405312) = false := by simp [a2]
  by_cases a3 : s = 0
  · have hc : cls 9223372036854775808 4503599627370496 s = 1 := by unfold cls; rw [if_neg (by omega), if_neg (by omega), if_pos (by omega)]
    have a3' : (s == 0) = true := by simp [a3]
    have Hc := hide hc
    clear hc a2 a1 a3
    go_wp2
    go_ret
    exact ⟨by rw [Hc.out]; rfl, K2⟩
  have a3' : (s == 0) = false := by simp [a3]
  have c0 := C.c0; have c1 := C.c1; have c2 := C.c2
  go_wp2_with fail
  with_reducible refine (leastNormal_d _).mono ?_
  rintro e w5 ⟨rfl, b5⟩
  clear c0 c1 c2
  replace C := C.below b5
  replace K2 := below_trans K2 b5
  clear b5
  by_cases a4 : s < 4503599627370496
  · have hc : cls 9223372036854775808 4503599627370496 s = 2 := by unfold cls; rw [if_neg (by omega), if_neg (by omega), if_neg (by omega), if_pos (by omega)]
    have Hc := hide hc
    clear hc
    go_wp2
    go_ret
    exact ⟨by rw [Hc.out]; rfl, K2⟩
  · have hc : cls 9223372036854775808 4503599627370496 s = 3 := by unfold cls; rw [if_neg (by omega), if_neg (by omega), if_neg (by omega), if_neg (by omega)]
    have Hc := hide hc
    clear hc
    go_wp2
    go_ret
    exact ⟨by rw [Hc.out]; rfl, K2⟩
set_option maxHeartbeats 1000000 in
theorem rank_64 {w : World} (L : Lays w) (x : Int) (h0 : 0 ≤ x) (h1 : x < 18446744073709551616) : Calls Tryz.prog 97 #[.int .u64 x] w fun e w' => e = .returned (.int .u64 (rk 9223372036854775808 x)) ∧ Below w.heap.size w w' := by
  have hb := and_d x h0 h1
  go_enter Tryz.func97, Tryz.ntmps97
  go_wp2_with fail
  with_reducible refine (layoutOf_64 L).mono ?_
  rintro e w1 ⟨rfl, K1⟩
  go_wp2_with fail
  with_reducible refine (sign_d _).mono ?_
  rintro e w2 ⟨rfl, K2⟩
  by_cases a : x < 9223372036854775808
  · rw [show x - x % 9223372036854775808 = 0 by omega] at hb
    have ho := or_d x h0 a
    have hc : rk 9223372036854775808 x = x + 9223372036854775808 := by unfold rk; rw [if_pos a]
    have Hc := hide hc
    clear hc
    go_wp2
    go_ret
    exact ⟨by rw [Hc.out]; rfl, below_trans K1 K2⟩
  · rw [show x - x % 9223372036854775808 = 9223372036854775808 by omega] at hb
    have hc : rk 9223372036854775808 x = 18446744073709551615 - x := by unfold rk; rw [if_neg a]; omega
    have Hc := hide hc
    have hn := not_d x h0 h1
    clear hc
    go_wp2
    go_ret
    exact ⟨by rw [Hc.out]; first | rfl | exact ret_int hn, below_trans K1 K2⟩
theorem isNaN_64 (w : World) (x : Int) : Calls Tryz.prog 92 #[.int .u64 x] w fun e w' => e = .returned (.bool false) ∧ w' = w := by
  go_enter Tryz.func92, Tryz.ntmps92
  go_wp2
  go_ret
  exact ⟨rfl, rfl⟩
set_option maxHeartbeats 1000000 in
theorem compare_64 (w : World) (x y : Int) : Calls Tryz.prog 51 #[.int .u64 x, .int .u64 y] w fun e w' => e = .returned (.int .i64 (tri x y)) ∧ w' = w := by
  go_enter Tryz.func51, Tryz.ntmps51
  go_wp2_with fail
  with_reducible refine (isNaN_64 _ _).mono ?_
  rintro e w1 ⟨rfl, rfl⟩
  go_wp2_with fail
  with_reducible refine (isNaN_64 _ _).mono ?_
  rintro e w1 ⟨rfl, rfl⟩
  by_cases a : x < y
  · have Hc := hide (show tri x y = -1 by unfold tri; rw [if_pos a])
    go_wp2
    go_ret
    exact ⟨by rw [Hc.out]; rfl, rfl⟩
  · by_cases b : y < x
    · have Hc := hide (show tri x y = 1 by unfold tri; rw [if_neg a, if_pos b])
      go_wp2
      go_ret
      exact ⟨by rw [Hc.out]; rfl, rfl⟩
    · have Hc := hide (show tri x y = 0 by unfold tri; rw [if_neg a, if_neg b])
      go_wp2
      go_ret
      exact ⟨by rw [Hc.out]; rfl, rfl⟩
set_option maxHeartbeats 1000000 in
theorem total_64 {w : World} (L : Lays w) (x y : Int) (h0 : 0 ≤ x) (h1 : x < 18446744073709551616) (g0 : 0 ≤ y) (g1 : y < 18446744073709551616) : Calls Tryz.prog 54 #[.int .u64 x, .int .u64 y] w fun e w' => e = .returned (.int .i64 (tri (rk 9223372036854775808 x) (rk 9223372036854775808 y))) ∧ Below w.heap.size w w' := by
  go_enter Tryz.func54, Tryz.ntmps54
  go_wp2_with fail
  with_reducible refine (rank_64 L x h0 h1).mono ?_
  rintro e w1 ⟨rfl, K1⟩
  go_wp2_with fail
  with_reducible refine (rank_64 (L.below K1) y g0 g1).mono ?_
  rintro e w2 ⟨rfl, K2⟩
  generalize hA : rk 9223372036854775808 x = a
  generalize hB : rk 9223372036854775808 y = b
  have HA := hide hA
  have HB := hide hB
  clear hA hB
  go_wp2_with fail
  with_reducible refine (compare_64 _ a b).mono ?_
  rintro e w3 ⟨rfl, rfl⟩
  generalize hC : tri a b = c
  have HC := hide hC
  clear hC
  go_wp2
  go_ret
  exact ⟨by rw [HA.out, HB.out, HC.out]; rfl, below_trans K1 K2⟩
theorem p2_range {n : Nat} (h : n ≤ 62) : 0 < p2 n ∧ p2 n ≤ 4611686018427387904 := ⟨p2_pos n, by
  have := p2_mono h
  rw [show p2 62 = 4611686018427387904 from by decide] at this
  exact this⟩
set_option maxHeartbeats 1000000 in
theorem rSign_any (w : World) (N : Nat) (h1 : 1 ≤ N) (h2 : N ≤ 64) : Calls Tryz.prog 126 #[.int .i64 N] w fun e w' => e = .returned (.int .u64 (p2 (N - 1))) ∧ w' = w := by
  go_enter Tryz.func126, Tryz.ntmps126
  go_wp2
  go_loopw [3, 4] (fun x i wr => ∃ j : Nat, 1 ≤ j ∧ j ≤ N ∧ i = .int .i64 j ∧ x = .int .u64 (p2 (j - 1)) ∧ wr = w) (fun _ i _ => N - (intOf i).toNat)
  case atStart => exact ⟨1, by omega, by omega, rfl, rfl, rfl⟩
  case round =>
    obtain ⟨j, hj1, hjN, rfl, rfl, rfl⟩ := hrel
    by_cases a : j < N
    · obtain ⟨q0, q1⟩ := p2_range (n := j - 1) (by omega)
      have hq : p2 j = 2 * p2 (j - 1) := by
        obtain ⟨m, rfl⟩ : ∃ m, j = m + 1 := ⟨j - 1, by omega⟩
        rw [Nat.add_sub_cancel]; rfl
      have Hq := hide hq
      clear hq
      generalize p2 (j - 1) = P at *
      go_wp2
      go_roundw
      case rel => exact ⟨j + 1, by omega, by omega, rfl, by rw [Nat.add_sub_cancel, Hq.out], by first | rfl | trivial⟩
      case measure => simp [intOf]; omega
    · obtain rfl : j = N := by omega
      go_wp2
      go_ret
      exact ⟨rfl, rfl⟩
set_option maxHeartbeats 1000000 in
theorem rtwo_any (w : World) (N : Nat) (h2 : N ≤ 63) : Calls Tryz.prog 179 #[.int .i64 N] w fun e w' => e = .returned (.int .u64 (p2 N)) ∧ w' = w := by
  go_enter Tryz.func179, Tryz.ntmps179
  go_wp2
  go_loopw [3, 4] (fun x i wr => ∃ j : Nat, j ≤ N ∧ i = .int .i64 j ∧ x = .int .u64 (p2 j) ∧ wr = w) (fun _ i _ => N - (intOf i).toNat)
  case atStart => exact ⟨0, by omega, rfl, rfl, rfl⟩
  case round =>
    obtain ⟨j, hjN, rfl, rfl, rfl⟩ := hrel
    by_cases a : j < N
    · obtain ⟨q0, q1⟩ := p2_range (n := j) (by omega)
      have Hq := hide (show p2 (j + 1) = 2 * p2 j from rfl)
      generalize p2 j = P at *
      go_wp2
      go_roundw
      case rel => exact ⟨j + 1, by omega, rfl, by rw [Hq.out], by first | rfl | trivial⟩
      case measure => simp [intOf]; omega
    · obtain rfl : j = N := by omega
      go_wp2
      go_ret
      exact ⟨rfl, rfl⟩
theorem rSign_d (w : World) : Calls Tryz.prog 126 #[.int .i64 64] w fun e w' => e = .returned (.int .u64 9223372036854775808) ∧ w' = w := by
  have := rSign_any w 64 (by decide) (by decide)
  rwa [show p2 (64 - 1) = 9223372036854775808 from by decide] at this
theorem rtwo_d (w : World) : Calls Tryz.prog 179 #[.int .i64 52] w fun e w' => e = .returned (.int .u64 4503599627370496) ∧ w' = w := by
  have := rtwo_any w 52 (by decide)
  rwa [show p2 52 = 4503599627370496 from by decide] at this
theorem shape_field0_d (w : World) : (Instr.field 231 (.agg #[.int .i64 52, .int .i64 (-1074), .int .i64 2047]) 0).run Tryz.prog w = .ok (.int .i64 52) w := by kernel_rfl
theorem shape_field2_d (w : World) : (Instr.field 231 (.agg #[.int .i64 52, .int .i64 (-1074), .int .i64 2047]) 2).run Tryz.prog w = .ok (.int .i64 2047) w := by kernel_rfl
theorem rOf_d (w : World) : Calls Tryz.prog 180 #[.int .i64 64] w fun e w' => e = .returned (.agg #[.int .i64 52, .int .i64 (-1074), .int .i64 2047]) ∧ Below w.heap.size w w' := by
  go_enter Tryz.func180, Tryz.ntmps180
  go_wp2
  go_returns
  exact ⟨rfl, bel_new _ _⟩
theorem rNeg_d (w : World) (x : Int) : Calls Tryz.prog 90 #[.int .i64 64, .int .u64 x] w fun e w' => e = .returned (.bool (decide (9223372036854775808 ≤ x))) ∧ w' = w := by
  go_enter Tryz.func90, Tryz.ntmps90
  go_wp2_with fail
  with_reducible refine (rSign_d _).mono ?_
  rintro e v81 ⟨rfl, rfl⟩
  go_wp2
  go_ret
  exact ⟨rfl, rfl⟩
theorem rSize_d (w : World) (x s : Int) (h0 : 0 ≤ x) (h1 : x < 18446744073709551616) (hs : x % 9223372036854775808 = s) : Calls Tryz.prog 177 #[.int .i64 64, .int .u64 x] w fun e w' => e = .returned (.int .u64 s) ∧ w' = w := by
  by_cases a : 9223372036854775808 ≤ x
  · have hx : x = s + 9223372036854775808 := by omega
    have s0 : 0 ≤ s := by omega
    have s1 : s < 9223372036854775808 := by omega
    clear hs h0 h1
    subst hx
    go_enter Tryz.func177, Tryz.ntmps177
    go_wp2_with fail
    with_reducible refine (rNeg_d _ _).mono ?_
    rintro e v82 ⟨rfl, rfl⟩
    go_wp2_with fail
    with_reducible refine (rSign_d _).mono ?_
    rintro e v83 ⟨rfl, rfl⟩
    go_wp2
    go_ret
    exact ⟨ret_int (by omega), rfl⟩
  · obtain rfl : x = s := by omega
    clear hs
    go_enter Tryz.func177, Tryz.ntmps177
    go_wp2_with fail
    with_reducible refine (rNeg_d _ _).mono ?_
    rintro e v84 ⟨rfl, rfl⟩
    go_wp2
    go_ret
    exact ⟨rfl, rfl⟩
theorem rInf_d (w : World) : Calls Tryz.prog 178 #[.int .i64 64] w fun e w' => e = .returned (.int .u64 9218868437227405312) ∧ Below w.heap.size w w' := by
  have K := Below.refl w.heap.size w
  have hf := shape_field0_d
  have hg := shape_field2_d
  go_enter Tryz.func178, Tryz.ntmps178
  go_wp2_with fail
  with_reducible refine (rOf_d _).mono ?_
  rintro e v85 ⟨rfl, kb⟩
  replace K := below_trans K kb; clear kb
  go_wp2_with fail
  with_reducible refine (rOf_d _).mono ?_
  rintro e v86 ⟨rfl, kb⟩
  replace K := below_trans K kb; clear kb
  go_wp2_with fail
  with_reducible refine (rtwo_d _).mono ?_
  rintro e v87 ⟨rfl, rfl⟩
  go_wp2
  go_ret
  exact ⟨rfl, K⟩
set_option maxHeartbeats 2000000 in
theorem rClass_d (w : World) (x s : Int) (h0 : 0 ≤ x) (h1 : x < 18446744073709551616) (hs : x % 9223372036854775808 = s) : Calls Tryz.prog 148 #[.int .i64 64, .int .u64 x] w fun e w' => e = .returned (.int .i8 (cls 9223372036854775808 4503599627370496 s)) ∧ Below w.heap.size w w' := by
  have s0 : 0 ≤ s := by omega
  have s1 : s < 9223372036854775808 := by omega
  have K := Below.refl w.heap.size w
  have hf := shape_field0_d
  go_enter Tryz.func148, Tryz.ntmps148
  go_wp2_with fail
  with_reducible refine (rSize_d _ x s h0 h1 hs).mono ?_
  rintro e v88 ⟨rfl, rfl⟩
  go_wp2_with fail
  with_reducible refine (rInf_d _).mono ?_
  rintro e v89 ⟨rfl, kb⟩
  replace K := below_trans K kb; clear kb
  clear h0 h1 hs
  by_cases a1 : 9218868437227405312 < s
  · have Hc := hide (show cls 9223372036854775808 4503599627370496 s = 5 by unfold cls; rw [if_pos (by omega)])
    go_wp2
    go_ret
    exact ⟨by rw [Hc.out]; rfl, K⟩
  go_wp2_with fail
  with_reducible refine (rInf_d _).mono ?_
  rintro e v90 ⟨rfl, kb⟩
  replace K := below_trans K kb; clear kb
  by_cases a2 : s = 9218868437227405312
  · have Hc := hide (show cls 9223372036854775808 4503599627370496 s = 4 by unfold cls; rw [if_neg (by omega), if_pos (by omega)])
    have a2' : (s == 9218868437227405312) = true := by simp [a2]
    clear a2 a1
    go_wp2
    go_ret
    exact ⟨by rw [Hc.out]; rfl, K⟩
  have a2' : (s == 9218868437227405312) = false := by simp [a2]
  by_cases a3 : s = 0
  · have Hc := hide (show cls 9223372036854775808 4503599627370496 s = 1 by unfold cls; rw [if_neg (by omega), if_neg (by omega), if_pos (by omega)])
    have a3' : (s == 0) = true := by simp [a3]
    clear a2 a1 a3
    go_wp2
    go_ret
    exact ⟨by rw [Hc.out]; rfl, K⟩
  have a3' : (s == 0) = false := by simp [a3]
  go_wp2_with fail
  with_reducible refine (rOf_d _).mono ?_
  rintro e v91 ⟨rfl, kb⟩
  replace K := below_trans K kb; clear kb
  go_wp2_with fail
  with_reducible refine (rtwo_d _).mono ?_
  rintro e v92 ⟨rfl, rfl⟩
  by_cases a4 : s < 4503599627370496
  · have Hc := hide (show cls 9223372036854775808 4503599627370496 s = 2 by unfold cls; rw [if_neg (by omega), if_neg (by omega), if_neg (by omega), if_pos (by omega)])
    go_wp2
    go_ret
    exact ⟨by rw [Hc.out]; rfl, K⟩
  · have Hc := hide (show cls 9223372036854775808 4503599627370496 s = 3 by unfold cls; rw [if_neg (by omega), if_neg (by omega), if_neg (by omega), if_neg (by omega)])
    go_wp2
    go_ret
    exact ⟨by rw [Hc.out]; rfl, K⟩
set_option maxHeartbeats 4000000 in
theorem rTotal_d (w : World) (x y : Int) (h0 : 0 ≤ x) (h1 : x < 18446744073709551616) (g0 : 0 ≤ y) (g1 : y < 18446744073709551616) : Calls Tryz.prog 48 #[.int .i64 64, .int .u64 x, .int .u64 y] w fun e w' => e = .returned (.int .i64 (tri (rk 9223372036854775808 x) (rk 9223372036854775808 y))) ∧ w' = w := by
  go_enter Tryz.func48, Tryz.ntmps48
  go_wp2_with fail
  with_reducible refine (rNeg_d _ x).mono ?_
  rintro e v93 ⟨rfl, rfl⟩
  go_wp2_with fail
  with_reducible refine (rNeg_d _ y).mono ?_
  rintro e v94 ⟨rfl, rfl⟩
  by_cases a : 9223372036854775808 ≤ x
  · have a' : decide (9223372036854775808 ≤ x) = true := decide_eq_true a
    by_cases b : 9223372036854775808 ≤ y
    · have b' : decide (9223372036854775808 ≤ y) = true := decide_eq_true b
      by_cases c : x < y
      · have c1 : ¬ y < x := by omega
        go_wp2_with fail
        with_reducible refine (rNeg_d _ x).mono ?_
        rintro e v95 ⟨rfl, rfl⟩
        have Hc := hide (show tri (rk 9223372036854775808 x) (rk 9223372036854775808 y) = 1 by unfold tri rk; rw [if_neg (by omega : ¬ x < 9223372036854775808), if_neg (by omega : ¬ y < 9223372036854775808)]; rw [if_neg (by omega), if_pos (by omega)])
        go_wp2
        go_ret
        exact ⟨by rw [Hc.out]; rfl, rfl⟩
      by_cases c1 : y < x
      · skip
        go_wp2_with fail
        with_reducible refine (rNeg_d _ x).mono ?_
        rintro e v96 ⟨rfl, rfl⟩
        have Hc := hide (show tri (rk 9223372036854775808 x) (rk 9223372036854775808 y) = -1 by unfold tri rk; rw [if_neg (by omega : ¬ x < 9223372036854775808), if_neg (by omega : ¬ y < 9223372036854775808)]; rw [if_pos (by omega)])
        go_wp2
        go_ret
        exact ⟨by rw [Hc.out]; rfl, rfl⟩
      go_wp2_with fail
      with_reducible refine (rNeg_d _ x).mono ?_
      rintro e v97 ⟨rfl, rfl⟩
      have Hc := hide (show tri (rk 9223372036854775808 x) (rk 9223372036854775808 y) = 0 by unfold tri rk; rw [if_neg (by omega : ¬ x < 9223372036854775808), if_neg (by omega : ¬ y < 9223372036854775808)]; rw [if_neg (by omega), if_neg (by omega)])
      go_wp2
      go_ret
      exact ⟨by rw [Hc.out]; rfl, rfl⟩
    · have b' : decide (9223372036854775808 ≤ y) = false := decide_eq_false b
      go_wp2_with fail
      with_reducible refine (rNeg_d _ x).mono ?_
      rintro e v98 ⟨rfl, rfl⟩
      have Hc := hide (show tri (rk 9223372036854775808 x) (rk 9223372036854775808 y) = -1 by unfold tri rk; rw [if_neg (by omega : ¬ x < 9223372036854775808), if_pos (by omega : y < 9223372036854775808)]; rw [if_pos (by omega)])
      go_wp2
      go_ret
      exact ⟨by rw [Hc.out]; rfl, rfl⟩
  · have a' : decide (9223372036854775808 ≤ x) = false := decide_eq_false a
    by_cases b : 9223372036854775808 ≤ y
    · have b' : decide (9223372036854775808 ≤ y) = true := decide_eq_true b
      go_wp2_with fail
      with_reducible refine (rNeg_d _ x).mono ?_
      rintro e v99 ⟨rfl, rfl⟩
      have Hc := hide (show tri (rk 9223372036854775808 x) (rk 9223372036854775808 y) = 1 by unfold tri rk; rw [if_pos (by omega : x < 9223372036854775808), if_neg (by omega : ¬ y < 9223372036854775808)]; rw [if_neg (by omega), if_pos (by omega)])
      go_wp2
      go_ret
      exact ⟨by rw [Hc.out]; rfl, rfl⟩
    · have b' : decide (9223372036854775808 ≤ y) = false := decide_eq_false b
      by_cases c : x < y
      · have c1 : ¬ y < x := by omega
        go_wp2_with fail
        with_reducible refine (rNeg_d _ x).mono ?_
        rintro e v100 ⟨rfl, rfl⟩
        have Hc := hide (show tri (rk 9223372036854775808 x) (rk 9223372036854775808 y) = -1 by unfold tri rk; rw [if_pos (by omega : x < 9223372036854775808), if_pos (by omega : y < 9223372036854775808)]; rw [if_pos (by omega)])
        go_wp2
        go_ret
        exact ⟨by rw [Hc.out]; rfl, rfl⟩
      by_cases c1 : y < x
      · skip
        go_wp2_with fail
        with_reducible refine (rNeg_d _ x).mono ?_
        rintro e v101 ⟨rfl, rfl⟩
        have Hc := hide (show tri (rk 9223372036854775808 x) (rk 9223372036854775808 y) = 1 by unfold tri rk; rw [if_pos (by omega : x < 9223372036854775808), if_pos (by omega : y < 9223372036854775808)]; rw [if_neg (by omega), if_pos (by omega)])
        go_wp2
        go_ret
        exact ⟨by rw [Hc.out]; rfl, rfl⟩
      go_wp2_with fail
      with_reducible refine (rNeg_d _ x).mono ?_
      rintro e v102 ⟨rfl, rfl⟩
      have Hc := hide (show tri (rk 9223372036854775808 x) (rk 9223372036854775808 y) = 0 by unfold tri rk; rw [if_pos (by omega : x < 9223372036854775808), if_pos (by omega : y < 9223372036854775808)]; rw [if_neg (by omega), if_neg (by omega)])
      go_wp2
      go_ret
      exact ⟨by rw [Hc.out]; rfl, rfl⟩
end Go.Proofs.YticmlelalbaalaaGreatDoor
