/- ieee: the generic functions, an instance each (mk_ieee.py) -/
import Derived.Test.YtfnfnkakaggmbabGreatDoorIeeeM
namespace Go.Proofs.YtfnfnkakaggmbabGreatDoor
open Go.RowKit

theorem isNaN_32 (w : World) (x : Int) : Calls Tryz.prog 127 #[.int .u32 x] w fun e w' => e = .returned (.bool false) ∧ w' = w := by
  go_enter Tryz.func127, Tryz.ntmps127
  go_wp2
  go_ret
  exact ⟨rfl, rfl⟩
set_option maxHeartbeats 1000000 in
theorem compare_32 (w : World) (x y : Int) : Calls Tryz.prog 95 #[.int .u32 x, .int .u32 y] w fun e w' => e = .returned (.int .i64 (tri x y)) ∧ w' = w := by
  go_enter Tryz.func95, Tryz.ntmps95
  go_wp2_with fail
  with_reducible refine (isNaN_32 _ _).mono ?_
  rintro e w1 ⟨rfl, rfl⟩
  go_wp2_with fail
  with_reducible refine (isNaN_32 _ _).mono ?_
  rintro e w1 ⟨rfl, rfl⟩
  by_cases a : x < y
  · have Hc := hide (show tri x y = -1 by unfold tri; rw [if_pos a])
    go_wp2
    go_ret
    exact ⟨by rw [Hc.out]; rfl, rfl⟩
  · by_cases b : y < x
    · have Hc := hide (show tri x y = 1 by unfold tri; rw [if_neg a, if_pos b])
      go_wp2
      go_ret
      exact ⟨by rw [Hc.out]; rfl, rfl⟩
    · have Hc := hide (show tri x y = 0 by unfold tri; rw [if_neg a, if_neg b])
      go_wp2
      go_ret
      exact ⟨by rw [Hc.out]; rfl, rfl⟩

set_option maxHeartbeats 1000000 in
theorem layoutOf_64 {w : World} (L : Lays w) : Calls Tryz.prog 27 #[] w fun e w' => e = .returned (.agg #[.int .i64 64, .int .i64 52, .int .i64 (-1074)]) ∧ Below w.heap.size w w' := by
  have C := (L.below (bel_new w (.cells #[.int .i64 0, .int .i64 0, .int .i64 0] 65))).d
  have c0 := C.c0
  have c1 := C.c1
  have c2 := C.c2
  have lt := L.d.lt
  clear C L
  go_enter Tryz.func27, Tryz.ntmps27
  go_wp2
  go_returns
  exact ⟨rfl, bel_new _ _⟩

set_option maxHeartbeats 2000000 in
theorem class_64 {w : World} (L : Lays w) (x s : Int) (h0 : 0 ≤ x) (h1 : x < 18446744073709551616) (hs : x % 9223372036854775808 = s) : Calls Tryz.prog 13 #[.int .u64 x] w fun e w' => e = .returned (.int .i8 (cls 9223372036854775808 4503599627370496 s)) ∧ Below w.heap.size w w' := by
  have s0 : 0 ≤ s := by omega
  have s1 : s < 9223372036854775808 := by omega
  go_enter Tryz.func13, Tryz.ntmps13
  go_wp2_with fail
  with_reducible refine (layoutOf_64 L).mono ?_
  rintro e w1 ⟨rfl, K1⟩
  go_upto_region 2 with fail
  have C := cell3_new w1 (.int .i64 64) (.int .i64 52) (.int .i64 (-1074)) 65
  have K2 := below_trans K1 (bel_new w1 (.cells #[.int .i64 64, .int .i64 52, .int .i64 (-1074)] 65))
  generalize w1.alloc (.cells #[.int .i64 64, .int .i64 52, .int .i64 (-1074)] 65) = w2 at *
  have c0 := C.c0; have c1 := C.c1; have c2 := C.c2
  go_wp2_with fail
  with_reducible refine (size_d _ x s h0 h1 hs).mono ?_
  rintro e w3 ⟨rfl, b3⟩
  clear c0 c1 c2
  replace C := C.below b3
  replace K2 := below_trans K2 b3
  clear b3
  have c0 := C.c0; have c1 := C.c1; have c2 := C.c2
  go_wp2_with fail
  with_reducible refine (infinite_d _).mono ?_
  rintro e w4 ⟨rfl, b4⟩
  clear c0 c1 c2
  replace C := C.below b4
  replace K2 := below_trans K2 b4
  clear b4
  clear h0 h1 hs
  by_cases a1 : 9218868437227405312 < s
  · have hc : cls 9223372036854775808 4503599627370496 s = 5 := by unfold cls; rw [if_pos (by omega)]
    have Hc := hide hc
    clear hc
    go_wp2
    go_ret
    exact ⟨by rw [Hc.out]; rfl, K2⟩
  have c0 := C.c0; have c1 := C.c1; have c2 := C.c2
  go_wp2_with fail
  with_reducible refine (infinite_d _).mono ?_
  rintro e w5 ⟨rfl, b5⟩
  clear c0 c1 c2
  replace C := C.below b5
  replace K2 := below_trans K2 b5
  clear b5
  by_cases a2 : s = 9218868437227405312
  · have hc : cls 9223372036854775808 4503599627370496 s = 4 := by unfold cls; rw [if_neg (by omega), if_pos (by omega)]
    have a2' : (s == 9218868437227405312) = true := by simp [a2]
    have Hc := hide hc
    clear hc a2 a1
    go_wp2
    go_ret
    exact ⟨by rw [Hc.out]; rfl, K2⟩
  have a2' : (s == 9218868437227405312) = false := by simp [a2]
  by_cases a3 : s = 0
  · have hc : cls 9223372036854775808 4503599627370496 s = 1 := by unfold cls; rw [if_neg (by omega), if_neg (by omega), if_pos (by omega)]
    have a3' : (s == 0) = true := by simp [a3]
    have Hc := hide hc
    clear hc a2 a1 a3
    go_wp2
    go_ret
    exact ⟨by rw [Hc.out]; rfl, K2⟩
  have a3' : (s == 0) = false := by simp [a3]
  have c0 := C.c0; have c1 := C.c1; have c2 := C.c2
  go_wp2_with fail
  with_reducible refine (leastNormal_d _).mono ?_
  rintro e w5 ⟨rfl, b5⟩
  clear c0 c1 c2
  replace C := C.below b5
  replace K2 := below_trans K2 b5
  clear b5
  by_cases a4 : s < 4503599627370496
  · have hc : cls 9223372036854775808 4503599627370496 s = 2 := by unfold cls; rw [if_neg (by omega), if_neg (by omega), if_neg (by omega), if_pos (by omega)]
    have Hc := hide hc
    clear hc
    go_wp2
    go_ret
    exact ⟨by rw [Hc.out]; rfl, K2⟩
  · have hc : cls 9223372036854775808 4503599627370496 s = 3 := by unfold cls; rw [if_neg (by omega), if_neg (by omega), if_neg (by omega), if_neg (by omega)]
    have Hc := hide hc
    clear hc
    go_wp2
    go_ret
    exact ⟨by rw [Hc.out]; rfl, K2⟩

set_option maxHeartbeats 1000000 in
theorem rank_64 {w : World} (L : Lays w) (x : Int) (h0 : 0 ≤ x) (h1 : x < 18446744073709551616) : Calls Tryz.prog 76 #[.int .u64 x] w fun e w' => e = .returned (.int .u64 (rk 9223372036854775808 x)) ∧ Below w.heap.size w w' := by
  have hb := and_d x h0 h1
  go_enter Tryz.func76, Tryz.ntmps76
  go_wp2_with fail
  with_reducible refine (layoutOf_64 L).mono ?_
  rintro e w1 ⟨rfl, K1⟩
  go_wp2_with fail
  with_reducible refine (sign_d _).mono ?_
  rintro e w2 ⟨rfl, K2⟩
  by_cases a : x < 9223372036854775808
  · rw [show x - x % 9223372036854775808 = 0 by omega] at hb
    have ho := or_d x h0 a
    have hc : rk 9223372036854775808 x = x + 9223372036854775808 := by unfold rk; rw [if_pos a]
    have Hc := hide hc
    clear hc
    go_wp2
    go_ret
    exact ⟨by rw [Hc.out]; rfl, below_trans K1 K2⟩
  · rw [show x - x % 9223372036854775808 = 9223372036854775808 by omega] at hb
    have hc : rk 9223372036854775808 x = 18446744073709551615 - x := by unfold rk; rw [if_neg a]; omega
    have Hc := hide hc
    have hn := not_d x h0 h1
    clear hc
    go_wp2
    go_ret
    exact ⟨by rw [Hc.out]; first | rfl | exact ret_int hn, below_trans K1 K2⟩

theorem isNaN_64 (w : World) (x : Int) : Calls Tryz.prog 111 #[.int .u64 x] w fun e w' => e = .returned (.bool false) ∧ w' = w := by
  go_enter Tryz.func111, Tryz.ntmps111
  go_wp2
  go_ret
  exact ⟨rfl, rfl⟩
set_option maxHeartbeats 1000000 in
theorem compare_64 (w : World) (x y : Int) : Calls Tryz.prog 75 #[.int .u64 x, .int .u64 y] w fun e w' => e = .returned (.int .i64 (tri x y)) ∧ w' = w := by
  go_enter Tryz.func75, Tryz.ntmps75
  go_wp2_with fail
  with_reducible refine (isNaN_64 _ _).mono ?_
  rintro e w1 ⟨rfl, rfl⟩
  go_wp2_with fail
  with_reducible refine (isNaN_64 _ _).mono ?_
  rintro e w1 ⟨rfl, rfl⟩
  by_cases a : x < y
  · have Hc := hide (show tri x y = -1 by unfold tri; rw [if_pos a])
    go_wp2
    go_ret
    exact ⟨by rw [Hc.out]; rfl, rfl⟩
  · by_cases b : y < x
    · have Hc := hide (show tri x y = 1 by unfold tri; rw [if_neg a, if_pos b])
      go_wp2
      go_ret
      exact ⟨by rw [Hc.out]; rfl, rfl⟩
    · have Hc := hide (show tri x y = 0 by unfold tri; rw [if_neg a, if_neg b])
      go_wp2
      go_ret
      exact ⟨by rw [Hc.out]; rfl, rfl⟩

set_option maxHeartbeats 1000000 in
theorem total_64 {w : World} (L : Lays w) (x y : Int) (h0 : 0 ≤ x) (h1 : x < 18446744073709551616) (g0 : 0 ≤ y) (g1 : y < 18446744073709551616) : Calls Tryz.prog 36 #[.int .u64 x, .int .u64 y] w fun e w' => e = .returned (.int .i64 (tri (rk 9223372036854775808 x) (rk 9223372036854775808 y))) ∧ Below w.heap.size w w' := by
  go_enter Tryz.func36, Tryz.ntmps36
  go_wp2_with fail
  with_reducible refine (rank_64 L x h0 h1).mono ?_
  rintro e w1 ⟨rfl, K1⟩
  go_wp2_with fail
  with_reducible refine (rank_64 (L.below K1) y g0 g1).mono ?_
  rintro e w2 ⟨rfl, K2⟩
  generalize hA : rk 9223372036854775808 x = a
  generalize hB : rk 9223372036854775808 y = b
  have HA := hide hA
  have HB := hide hB
  clear hA hB
  go_wp2_with fail
  with_reducible refine (compare_64 _ a b).mono ?_
  rintro e w3 ⟨rfl, rfl⟩
  generalize hC : tri a b = c
  have HC := hide hC
  clear hC
  go_wp2
  go_ret
  exact ⟨by rw [HA.out, HB.out, HC.out]; rfl, below_trans K1 K2⟩

set_option maxHeartbeats 2000000 in
theorem cmp_64 {w : World} (L : Lays w) (x y : Int) (h0 : 0 ≤ x) (h1 : x < 18446744073709551616) (g0 : 0 ≤ y) (g1 : y < 18446744073709551616) : Calls Tryz.prog 18 #[.int .u64 x, .int .u64 y] w fun e w' => e = .returned (.tuple #[.int .i64 (cmpC 9223372036854775808 4503599627370496 x y), .bool (cmpOk 9223372036854775808 4503599627370496 x y)]) ∧ Below w.heap.size w w' := by
  obtain ⟨s, hs⟩ : ∃ s, x % 9223372036854775808 = s := ⟨_, rfl⟩
  obtain ⟨r, hr⟩ : ∃ r, y % 9223372036854775808 = r := ⟨_, rfl⟩
  have HC := hide (cmp_cases 9223372036854775808 4503599627370496 x y s r (by decide) hs hr)
  go_enter Tryz.func18, Tryz.ntmps18
  go_wp2_with fail
  with_reducible refine (class_64 L x s h0 h1 hs).mono ?_
  rintro e w1 ⟨rfl, K1⟩
  go_wp2_with fail
  with_reducible refine (class_64 (L.below K1) y r g0 g1 hr).mono ?_
  rintro e w2 ⟨rfl, K2⟩
  replace K1 := below_trans K1 K2
  clear K2 hs hr
  have H := HC.out
  clear HC
  generalize cls 9223372036854775808 4503599627370496 s = a at *
  generalize cls 9223372036854775808 4503599627370496 r = b at *
  by_cases p : a = 5
  · have p' : (a == 5) = true := by simp [p]
    have Hc := hide (H.1 (Or.inl p))
    clear H p
    go_wp2
    go_ret2
    exact ⟨by rw [Hc.out.1, Hc.out.2]; rfl, K1⟩
  have p' : (a == 5) = false := by simp [p]
  by_cases q : b = 5
  · have q' : (b == 5) = true := by simp [q]
    have Hc := hide (H.1 (Or.inr q))
    clear H p q
    go_wp2
    go_ret2
    exact ⟨by rw [Hc.out.1, Hc.out.2]; rfl, K1⟩
  have q' : (b == 5) = false := by simp [q]
  by_cases u : a = 1
  · have u' : (a == 1) = true := by simp [u]
    by_cases z : b = 1
    · have z' : (b == 1) = true := by simp [z]
      have Hc := hide (H.2.1 p q ⟨u, z⟩)
      clear H p q u z
      go_wp2
      go_ret2
      exact ⟨by rw [Hc.out.1, Hc.out.2]; rfl, K1⟩
    · have z' : (b == 1) = false := by simp [z]
      have Hc := hide (H.2.2 p q (fun e => z e.2))
      clear H p q u z
      go_wp2_with fail
      with_reducible refine (total_64 (L.below K1) x y h0 h1 g0 g1).mono ?_
      rintro e w3 ⟨rfl, K3⟩
      go_wp2
      go_ret2
      exact ⟨by rw [Hc.out.1, Hc.out.2]; rfl, below_trans K1 K3⟩
  · have u' : (a == 1) = false := by simp [u]
    have Hc := hide (H.2.2 p q (fun e => u e.1))
    clear H p q u
    go_wp2_with fail
    with_reducible refine (total_64 (L.below K1) x y h0 h1 g0 g1).mono ?_
    rintro e w3 ⟨rfl, K3⟩
    go_wp2
    go_ret2
    exact ⟨by rw [Hc.out.1, Hc.out.2]; rfl, below_trans K1 K3⟩

end Go.Proofs.YtfnfnkakaggmbabGreatDoor
