/- ieee: the generic functions, an instance each (mk_ieee.py) -/
import Derived.Test.YtigehipclkoecaaGreatDoorIeeeM
namespace Go.Proofs.YtigehipclkoecaaGreatDoor
open Go.RowKit

set_option maxHeartbeats 1000000 in
theorem layoutOf_16 {w : World} (L : Lays w) : Calls Tryz.prog 70 #[] w fun e w' => e = .returned (.agg #[.int .i64 16, .int .i64 10, .int .i64 (-24)]) ∧ Below w.heap.size w w' := by
  have C := (L.below (bel_new w (.cells #[.int .i64 0, .int .i64 0, .int .i64 0] 68))).h
  have c0 := C.c0
  have c1 := C.c1
  have c2 := C.c2
  have lt := L.h.lt
  clear C L
  go_enter Tryz.func70, Tryz.ntmps70
  go_wp2
  go_returns
  exact ⟨rfl, bel_new _ _⟩

set_option maxHeartbeats 2000000 in
theorem class_16 {w : World} (L : Lays w) (x s : Int) (h0 : 0 ≤ x) (h1 : x < 65536) (hs : x % 32768 = s) : Calls Tryz.prog 69 #[.int .u16 x] w fun e w' => e = .returned (.int .i8 (cls 32768 1024 s)) ∧ Below w.heap.size w w' := by
  have s0 : 0 ≤ s := by omega
  have s1 : s < 32768 := by omega
  go_enter Tryz.func69, Tryz.ntmps69
  go_wp2_with fail
  with_reducible refine (layoutOf_16 L).mono ?_
  rintro e w1 ⟨rfl, K1⟩
  go_upto_region 2 with fail
  have C := cell3_new w1 (.int .i64 16) (.int .i64 10) (.int .i64 (-24)) 68
  have K2 := below_trans K1 (bel_new w1 (.cells #[.int .i64 16, .int .i64 10, .int .i64 (-24)] 68))
  generalize w1.alloc (.cells #[.int .i64 16, .int .i64 10, .int .i64 (-24)] 68) = w2 at *
  have c0 := C.c0; have c1 := C.c1; have c2 := C.c2
  go_wp2_with fail
  with_reducible refine (size_h _ x s h0 h1 hs).mono ?_
  rintro e w3 ⟨rfl, b3⟩
  clear c0 c1 c2
  replace C := C.below b3
  replace K2 := below_trans K2 b3
  clear b3
  have c0 := C.c0; have c1 := C.c1; have c2 := C.c2
  go_wp2_with fail
  with_reducible refine (infinite_h _).mono ?_
  rintro e w4 ⟨rfl, b4⟩
  clear c0 c1 c2
  replace C := C.below b4
  replace K2 := below_trans K2 b4
  clear b4
  clear h0 h1 hs
  by_cases a1 : 31744 < s
  · have hc : cls 32768 1024 s = 5 := by unfold cls; rw [if_pos (by omega)]
    have Hc := hide hc
    clear hc
    go_wp2
    go_ret
    exact ⟨by rw [Hc.out]; rfl, K2⟩
  have c0 := C.c0; have c1 := C.c1; have c2 := C.c2
  go_wp2_with fail
  with_reducible refine (infinite_h _).mono ?_
  rintro e w5 ⟨rfl, b5⟩
  clear c0 c1 c2
  replace C := C.below b5
  replace K2 := below_trans K2 b5
  clear b5
  by_cases a2 : s = 31744
  · have hc : cls 32768 1024 s = 4 := by unfold cls; rw [if_neg (by omega), if_pos (by omega)]
    have a2' : (s == 31744) = true := by simp [a2]
    have Hc := hide hc
    clear hc a2 a1
    go_wp2
    go_ret
    exact ⟨by rw [Hc.out]; rfl, K2⟩
  have a2' : (s == 31744) = false := by simp [a2]
  by_cases a3 : s = 0
  · have hc : cls 32768 1024 s = 1 := by unfold cls; rw [if_neg (by omega), if_neg (by omega), if_pos (by omega)]
    have a3' : (s == 0) = true := by simp [a3]
    have Hc := hide hc
    clear hc a2 a1 a3
    go_wp2
    go_ret
    exact ⟨by rw [Hc.out]; rfl, K2⟩
  have a3' : (s == 0) = false := by simp [a3]
  have c0 := C.c0; have c1 := C.c1; have c2 := C.c2
  go_wp2_with fail
  with_reducible refine (leastNormal_h _).mono ?_
  rintro e w5 ⟨rfl, b5⟩
  clear c0 c1 c2
  replace C := C.below b5
  replace K2 := below_trans K2 b5
  clear b5
  by_cases a4 : s < 1024
  · have hc : cls 32768 1024 s = 2 := by unfold cls; rw [if_neg (by omega), if_neg (by omega), if_neg (by omega), if_pos (by omega)]
    have Hc := hide hc
    clear hc
    go_wp2
    go_ret
    exact ⟨by rw [Hc.out]; rfl, K2⟩
  · have hc : cls 32768 1024 s = 3 := by unfold cls; rw [if_neg (by omega), if_neg (by omega), if_neg (by omega), if_neg (by omega)]
    have Hc := hide hc
    clear hc
    go_wp2
    go_ret
    exact ⟨by rw [Hc.out]; rfl, K2⟩

set_option maxHeartbeats 1000000 in
theorem rank_16 {w : World} (L : Lays w) (x : Int) (h0 : 0 ≤ x) (h1 : x < 65536) : Calls Tryz.prog 124 #[.int .u16 x] w fun e w' => e = .returned (.int .u16 (rk 32768 x)) ∧ Below w.heap.size w w' := by
  have hb := and_h x h0 h1
  go_enter Tryz.func124, Tryz.ntmps124
  go_wp2_with fail
  with_reducible refine (layoutOf_16 L).mono ?_
  rintro e w1 ⟨rfl, K1⟩
  go_wp2_with fail
  with_reducible refine (sign_h _).mono ?_
  rintro e w2 ⟨rfl, K2⟩
  by_cases a : x < 32768
  · rw [show x - x % 32768 = 0 by omega] at hb
    have ho := or_h x h0 a
    have hc : rk 32768 x = x + 32768 := by unfold rk; rw [if_pos a]
    have Hc := hide hc
    clear hc
    go_wp2
    go_ret
    exact ⟨by rw [Hc.out]; rfl, below_trans K1 K2⟩
  · rw [show x - x % 32768 = 32768 by omega] at hb
    have hc : rk 32768 x = 65535 - x := by unfold rk; rw [if_neg a]; omega
    have Hc := hide hc
    have hn := not_h x h0 h1
    clear hc
    go_wp2
    go_ret
    exact ⟨by rw [Hc.out]; first | rfl | exact ret_int hn, below_trans K1 K2⟩

theorem isNaN_16 (w : World) (x : Int) : Calls Tryz.prog 147 #[.int .u16 x] w fun e w' => e = .returned (.bool false) ∧ w' = w := by
  go_enter Tryz.func147, Tryz.ntmps147
  go_wp2
  go_ret
  exact ⟨rfl, rfl⟩
set_option maxHeartbeats 1000000 in
theorem compare_16 (w : World) (x y : Int) : Calls Tryz.prog 123 #[.int .u16 x, .int .u16 y] w fun e w' => e = .returned (.int .i64 (tri x y)) ∧ w' = w := by
  go_enter Tryz.func123, Tryz.ntmps123
  go_wp2_with fail
  with_reducible refine (isNaN_16 _ _).mono ?_
  rintro e w1 ⟨rfl, rfl⟩
  go_wp2_with fail
  with_reducible refine (isNaN_16 _ _).mono ?_
  rintro e w1 ⟨rfl, rfl⟩
  by_cases a : x < y
  · have Hc := hide (show tri x y = -1 by unfold tri; rw [if_pos a])
    go_wp2
    go_ret
    exact ⟨by rw [Hc.out]; rfl, rfl⟩
  · by_cases b : y < x
    · have Hc := hide (show tri x y = 1 by unfold tri; rw [if_neg a, if_pos b])
      go_wp2
      go_ret
      exact ⟨by rw [Hc.out]; rfl, rfl⟩
    · have Hc := hide (show tri x y = 0 by unfold tri; rw [if_neg a, if_neg b])
      go_wp2
      go_ret
      exact ⟨by rw [Hc.out]; rfl, rfl⟩

set_option maxHeartbeats 1000000 in
theorem total_16 {w : World} (L : Lays w) (x y : Int) (h0 : 0 ≤ x) (h1 : x < 65536) (g0 : 0 ≤ y) (g1 : y < 65536) : Calls Tryz.prog 83 #[.int .u16 x, .int .u16 y] w fun e w' => e = .returned (.int .i64 (tri (rk 32768 x) (rk 32768 y))) ∧ Below w.heap.size w w' := by
  go_enter Tryz.func83, Tryz.ntmps83
  go_wp2_with fail
  with_reducible refine (rank_16 L x h0 h1).mono ?_
  rintro e w1 ⟨rfl, K1⟩
  go_wp2_with fail
  with_reducible refine (rank_16 (L.below K1) y g0 g1).mono ?_
  rintro e w2 ⟨rfl, K2⟩
  generalize hA : rk 32768 x = a
  generalize hB : rk 32768 y = b
  have HA := hide hA
  have HB := hide hB
  clear hA hB
  go_wp2_with fail
  with_reducible refine (compare_16 _ a b).mono ?_
  rintro e w3 ⟨rfl, rfl⟩
  generalize hC : tri a b = c
  have HC := hide hC
  clear hC
  go_wp2
  go_ret
  exact ⟨by rw [HA.out, HB.out, HC.out]; rfl, below_trans K1 K2⟩

set_option maxHeartbeats 2000000 in
theorem cmp_16 {w : World} (L : Lays w) (x y : Int) (h0 : 0 ≤ x) (h1 : x < 65536) (g0 : 0 ≤ y) (g1 : y < 65536) : Calls Tryz.prog 46 #[.int .u16 x, .int .u16 y] w fun e w' => e = .returned (.tuple #[.int .i64 (cmpC 32768 1024 x y), .bool (cmpOk 32768 1024 x y)]) ∧ Below w.heap.size w w' := by
  obtain ⟨s, hs⟩ : ∃ s, x % 32768 = s := ⟨_, rfl⟩
  obtain ⟨r, hr⟩ : ∃ r, y % 32768 = r := ⟨_, rfl⟩
  have HC := hide (cmp_cases 32768 1024 x y s r (by decide) hs hr)
  go_enter Tryz.func46, Tryz.ntmps46
  go_wp2_with fail
  with_reducible refine (class_16 L x s h0 h1 hs).mono ?_
  rintro e w1 ⟨rfl, K1⟩
  go_wp2_with fail
  with_reducible refine (class_16 (L.below K1) y r g0 g1 hr).mono ?_
  rintro e w2 ⟨rfl, K2⟩
  replace K1 := below_trans K1 K2
  clear K2 hs hr
  have H := HC.out
  clear HC
  generalize cls 32768 1024 s = a at *
  generalize cls 32768 1024 r = b at *
  by_cases p : a = 5
  · have p' : (a == 5) = true := by simp [p]
    have Hc := hide (H.1 (Or.inl p))
    clear H p
    go_wp2
    go_ret2
    exact ⟨by rw [Hc.out.1, Hc.out.2]; rfl, K1⟩
  have p' : (a == 5) = false := by simp [p]
  by_cases q : b = 5
  · have q' : (b == 5) = true := by simp [q]
    have Hc := hide (H.1 (Or.inr q))
    clear H p q
    go_wp2
    go_ret2
    exact ⟨by rw [Hc.out.1, Hc.out.2]; rfl, K1⟩
  have q' : (b == 5) = false := by simp [q]
  by_cases u : a = 1
  · have u' : (a == 1) = true := by simp [u]
    by_cases z : b = 1
    · have z' : (b == 1) = true := by simp [z]
      have Hc := hide (H.2.1 p q ⟨u, z⟩)
      clear H p q u z
      go_wp2
      go_ret2
      exact ⟨by rw [Hc.out.1, Hc.out.2]; rfl, K1⟩
    · have z' : (b == 1) = false := by simp [z]
      have Hc := hide (H.2.2 p q (fun e => z e.2))
      clear H p q u z
      go_wp2_with fail
      with_reducible refine (total_16 (L.below K1) x y h0 h1 g0 g1).mono ?_
      rintro e w3 ⟨rfl, K3⟩
      go_wp2
      go_ret2
      exact ⟨by rw [Hc.out.1, Hc.out.2]; rfl, below_trans K1 K3⟩
  · have u' : (a == 1) = false := by simp [u]
    have Hc := hide (H.2.2 p q (fun e => u e.1))
    clear H p q u
    go_wp2_with fail
    with_reducible refine (total_16 (L.below K1) x y h0 h1 g0 g1).mono ?_
    rintro e w3 ⟨rfl, K3⟩
    go_wp2
    go_ret2
    exact ⟨by rw [Hc.out.1, Hc.out.2]; rfl, below_trans K1 K3⟩

set_option maxHeartbeats 1000000 in
theorem layoutOf_32 {w : World} (L : Lays w) : Calls Tryz.prog 68 #[] w fun e w' => e = .returned (.agg #[.int .i64 32, .int .i64 23, .int .i64 (-149)]) ∧ Below w.heap.size w w' := by
  have C := (L.below (bel_new w (.cells #[.int .i64 0, .int .i64 0, .int .i64 0] 68))).s
  have c0 := C.c0
  have c1 := C.c1
  have c2 := C.c2
  have lt := L.s.lt
  clear C L
  go_enter Tryz.func68, Tryz.ntmps68
  go_wp2
  go_returns
  exact ⟨rfl, bel_new _ _⟩

set_option maxHeartbeats 2000000 in
theorem class_32 {w : World} (L : Lays w) (x s : Int) (h0 : 0 ≤ x) (h1 : x < 4294967296) (hs : x % 2147483648 = s) : Calls Tryz.prog 66 #[.int .u32 x] w fun e w' => e = .returned (.int .i8 (cls 2147483648 8388608 s)) ∧ Below w.heap.size w w' := by
  have s0 : 0 ≤ s := by omega
  have s1 : s < 2147483648 := by omega
  go_enter Tryz.func66, Tryz.ntmps66
  go_wp2_with fail
  with_reducible refine (layoutOf_32 L).mono ?_
  rintro e w1 ⟨rfl, K1⟩
  go_upto_region 2 with fail
  have C := cell3_new w1 (.int .i64 32) (.int .i64 23) (.int .i64 (-149)) 68
  have K2 := below_trans K1 (bel_new w1 (.cells #[.int .i64 32, .int .i64 23, .int .i64 (-149)] 68))
  generalize w1.alloc (.cells #[.int .i64 32, .int .i64 23, .int .i64 (-149)] 68) = w2 at *
  have c0 := C.c0; have c1 := C.c1; have c2 := C.c2
  go_wp2_with fail
  with_reducible refine (size_s _ x s h0 h1 hs).mono ?_
  rintro e w3 ⟨rfl, b3⟩
  clear c0 c1 c2
  replace C := C.below b3
  replace K2 := below_trans K2 b3
  clear b3
  have c0 := C.c0; have c1 := C.c1; have c2 := C.c2
  go_wp2_with fail
  with_reducible refine (infinite_s _).mono ?_
  rintro e w4 ⟨rfl, b4⟩
  clear c0 c1 c2
  replace C := C.below b4
  replace K2 := below_trans K2 b4
  clear b4
  clear h0 h1 hs
  by_cases a1 : 2139095040 < s
  · have hc : cls 2147483648 8388608 s = 5 := by unfold cls; rw [if_pos (by omega)]
    have Hc := hide hc
    clear hc
    go_wp2
    go_ret
    exact ⟨by rw [Hc.out]; rfl, K2⟩
  have c0 := C.c0; have c1 := C.c1; have c2 := C.c2
  go_wp2_with fail
  with_reducible refine (infinite_s _).mono ?_
  rintro e w5 ⟨rfl, b5⟩
  clear c0 c1 c2
  replace C := C.below b5
  replace K2 := below_trans K2 b5
  clear b5
  by_cases a2 : s = 2139095040
  · have hc : cls 2147483648 8388608 s = 4 := by unfold cls; rw [if_neg (by omega), if_pos (by omega)]
    have a2' : (s == 2139095040) = true := by simp [a2]
    have Hc := hide hc
    clear hc a2 a1
    go_wp2
    go_ret
    exact ⟨by rw [Hc.out]; rfl, K2⟩
  have a2' : (s == 2139095040) = false := by simp [a2]
  by_cases a3 : s = 0
  · have hc : cls 2147483648 8388608 s = 1 := by unfold cls; rw [if_neg (by omega), if_neg (by omega), if_pos (by omega)]
    have a3' : (s == 0) = true := by simp [a3]
    have Hc := hide hc
    clear hc a2 a1 a3
    go_wp2
    go_ret
    exact ⟨by rw [Hc.out]; rfl, K2⟩
  have a3' : (s == 0) = false := by simp [a3]
  have c0 := C.c0; have c1 := C.c1; have c2 := C.c2
  go_wp2_with fail
  with_reducible refine (leastNormal_s _).mono ?_
  rintro e w5 ⟨rfl, b5⟩
  clear c0 c1 c2
  replace C := C.below b5
  replace K2 := below_trans K2 b5
  clear b5
  by_cases a4 : s < 8388608
  · have hc : cls 2147483648 8388608 s = 2 := by unfold cls; rw [if_neg (by omega), if_neg (by omega), if_neg (by omega), if_pos (by omega)]
    have Hc := hide hc
    clear hc
    go_wp2
    go_ret
    exact ⟨by rw [Hc.out]; rfl, K2⟩
  · have hc : cls 2147483648 8388608 s = 3 := by unfold cls; rw [if_neg (by omega), if_neg (by omega), if_neg (by omega), if_neg (by omega)]
    have Hc := hide hc
    clear hc
    go_wp2
    go_ret
    exact ⟨by rw [Hc.out]; rfl, K2⟩

set_option maxHeartbeats 1000000 in
theorem rank_32 {w : World} (L : Lays w) (x : Int) (h0 : 0 ≤ x) (h1 : x < 4294967296) : Calls Tryz.prog 120 #[.int .u32 x] w fun e w' => e = .returned (.int .u32 (rk 2147483648 x)) ∧ Below w.heap.size w w' := by
  have hb := and_s x h0 h1
  go_enter Tryz.func120, Tryz.ntmps120
  go_wp2_with fail
  with_reducible refine (layoutOf_32 L).mono ?_
  rintro e w1 ⟨rfl, K1⟩
  go_wp2_with fail
  with_reducible refine (sign_s _).mono ?_
  rintro e w2 ⟨rfl, K2⟩
  by_cases a : x < 2147483648
  · rw [show x - x % 2147483648 = 0 by omega] at hb
    have ho := or_s x h0 a
    have hc : rk 2147483648 x = x + 2147483648 := by unfold rk; rw [if_pos a]
    have Hc := hide hc
    clear hc
    go_wp2
    go_ret
    exact ⟨by rw [Hc.out]; rfl, below_trans K1 K2⟩
  · rw [show x - x % 2147483648 = 2147483648 by omega] at hb
    have hc : rk 2147483648 x = 4294967295 - x := by unfold rk; rw [if_neg a]; omega
    have Hc := hide hc
    have hn := not_s x h0 h1
    clear hc
    go_wp2
    go_ret
    exact ⟨by rw [Hc.out]; first | rfl | exact ret_int hn, below_trans K1 K2⟩

theorem isNaN_32 (w : World) (x : Int) : Calls Tryz.prog 145 #[.int .u32 x] w fun e w' => e = .returned (.bool false) ∧ w' = w := by
  go_enter Tryz.func145, Tryz.ntmps145
  go_wp2
  go_ret
  exact ⟨rfl, rfl⟩
set_option maxHeartbeats 1000000 in
theorem compare_32 (w : World) (x y : Int) : Calls Tryz.prog 119 #[.int .u32 x, .int .u32 y] w fun e w' => e = .returned (.int .i64 (tri x y)) ∧ w' = w := by
  go_enter Tryz.func119, Tryz.ntmps119
  go_wp2_with fail
  with_reducible refine (isNaN_32 _ _).mono ?_
  rintro e w1 ⟨rfl, rfl⟩
  go_wp2_with fail
  with_reducible refine (isNaN_32 _ _).mono ?_
  rintro e w1 ⟨rfl, rfl⟩
  by_cases a : x < y
  · have Hc := hide (show tri x y = -1 by unfold tri; rw [if_pos a])
    go_wp2
    go_ret
    exact ⟨by rw [Hc.out]; rfl, rfl⟩
  · by_cases b : y < x
    · have Hc := hide (show tri x y = 1 by unfold tri; rw [if_neg a, if_pos b])
      go_wp2
      go_ret
      exact ⟨by rw [Hc.out]; rfl, rfl⟩
    · have Hc := hide (show tri x y = 0 by unfold tri; rw [if_neg a, if_neg b])
      go_wp2
      go_ret
      exact ⟨by rw [Hc.out]; rfl, rfl⟩

set_option maxHeartbeats 1000000 in
theorem total_32 {w : World} (L : Lays w) (x y : Int) (h0 : 0 ≤ x) (h1 : x < 4294967296) (g0 : 0 ≤ y) (g1 : y < 4294967296) : Calls Tryz.prog 80 #[.int .u32 x, .int .u32 y] w fun e w' => e = .returned (.int .i64 (tri (rk 2147483648 x) (rk 2147483648 y))) ∧ Below w.heap.size w w' := by
  go_enter Tryz.func80, Tryz.ntmps80
  go_wp2_with fail
  with_reducible refine (rank_32 L x h0 h1).mono ?_
  rintro e w1 ⟨rfl, K1⟩
  go_wp2_with fail
  with_reducible refine (rank_32 (L.below K1) y g0 g1).mono ?_
  rintro e w2 ⟨rfl, K2⟩
  generalize hA : rk 2147483648 x = a
  generalize hB : rk 2147483648 y = b
  have HA := hide hA
  have HB := hide hB
  clear hA hB
  go_wp2_with fail
  with_reducible refine (compare_32 _ a b).mono ?_
  rintro e w3 ⟨rfl, rfl⟩
  generalize hC : tri a b = c
  have HC := hide hC
  clear hC
  go_wp2
  go_ret
  exact ⟨by rw [HA.out, HB.out, HC.out]; rfl, below_trans K1 K2⟩

set_option maxHeartbeats 2000000 in
theorem cmp_32 {w : World} (L : Lays w) (x y : Int) (h0 : 0 ≤ x) (h1 : x < 4294967296) (g0 : 0 ≤ y) (g1 : y < 4294967296) : Calls Tryz.prog 44 #[.int .u32 x, .int .u32 y] w fun e w' => e = .returned (.tuple #[.int .i64 (cmpC 2147483648 8388608 x y), .bool (cmpOk 2147483648 8388608 x y)]) ∧ Below w.heap.size w w' := by
  obtain ⟨s, hs⟩ : ∃ s, x % 2147483648 = s := ⟨_, rfl⟩
  obtain ⟨r, hr⟩ : ∃ r, y % 2147483648 = r := ⟨_, rfl⟩
  have HC := hide (cmp_cases 2147483648 8388608 x y s r (by decide) hs hr)
  go_enter Tryz.func44, Tryz.ntmps44
  go_wp2_with fail
  with_reducible refine (class_32 L x s h0 h1 hs).mono ?_
  rintro e w1 ⟨rfl, K1⟩
  go_wp2_with fail
  with_reducible refine (class_32 (L.below K1) y r g0 g1 hr).mono ?_
  rintro e w2 ⟨rfl, K2⟩
  replace K1 := below_trans K1 K2
  clear K2 hs hr
  have H := HC.out
  clear HC
  generalize cls 2147483648 8388608 s = a at *
  generalize cls 2147483648 8388608 r = b at *
  by_cases p : a = 5
  · have p' : (a == 5) = true := by simp [p]
    have Hc := hide (H.1 (Or.inl p))
    clear H p
    go_wp2
    go_ret2
    exact ⟨by rw [Hc.out.1, Hc.out.2]; rfl, K1⟩
  have p' : (a == 5) = false := by simp [p]
  by_cases q : b = 5
  · have q' : (b == 5) = true := by simp [q]
    have Hc := hide (H.1 (Or.inr q))
    clear H p q
    go_wp2
    go_ret2
    exact ⟨by rw [Hc.out.1, Hc.out.2]; rfl, K1⟩
  have q' : (b == 5) = false := by simp [q]
  by_cases u : a = 1
  · have u' : (a == 1) = true := by simp [u]
    by_cases z : b = 1
    · have z' : (b == 1) = true := by simp [z]
      have Hc := hide (H.2.1 p q ⟨u, z⟩)
      clear H p q u z
      go_wp2
      go_ret2
      exact ⟨by rw [Hc.out.1, Hc.out.2]; rfl, K1⟩
    · have z' : (b == 1) = false := by simp [z]
      have Hc := hide (H.2.2 p q (fun e => z e.2))
      clear H p q u z
      go_wp2_with fail
      with_reducible refine (total_32 (L.below K1) x y h0 h1 g0 g1).mono ?_
      rintro e w3 ⟨rfl, K3⟩
      go_wp2
      go_ret2
      exact ⟨by rw [Hc.out.1, Hc.out.2]; rfl, below_trans K1 K3⟩
  · have u' : (a == 1) = false := by simp [u]
    have Hc := hide (H.2.2 p q (fun e => u e.1))
    clear H p q u
    go_wp2_with fail
    with_reducible refine (total_32 (L.below K1) x y h0 h1 g0 g1).mono ?_
    rintro e w3 ⟨rfl, K3⟩
    go_wp2
    go_ret2
    exact ⟨by rw [Hc.out.1, Hc.out.2]; rfl, below_trans K1 K3⟩

set_option maxHeartbeats 1000000 in
theorem layoutOf_64 {w : World} (L : Lays w) : Calls Tryz.prog 34 #[] w fun e w' => e = .returned (.agg #[.int .i64 64, .int .i64 52, .int .i64 (-1074)]) ∧ Below w.heap.size w w' := by
  have C := (L.below (bel_new w (.cells #[.int .i64 0, .int .i64 0, .int .i64 0] 68))).d
  have c0 := C.c0
  have c1 := C.c1
  have c2 := C.c2
  have lt := L.d.lt
  clear C L
  go_enter Tryz.func34, Tryz.ntmps34
  go_wp2
  go_returns
  exact ⟨rfl, bel_new _ _⟩

set_option maxHeartbeats 2000000 in
theorem class_64 {w : World} (L : Lays w) (x s : Int) (h0 : 0 ≤ x) (h1 : x < 18446744073709551616) (hs : x % 9223372036854775808 = s) : Calls Tryz.prog 81 #[.int .u64 x] w fun e w' => e = .returned (.int .i8 (cls 9223372036854775808 4503599627370496 s)) ∧ Below w.heap.size w w' := by
  have s0 : 0 ≤ s := by omega
  have s1 : s < 9223372036854775808 := by omega
  go_enter Tryz.func81, Tryz.ntmps81
  go_wp2_with fail
  with_reducible refine (layoutOf_64 L).mono ?_
  rintro e w1 ⟨rfl, K1⟩
  go_upto_region 2 with fail
  have C := cell3_new w1 (.int .i64 64) (.int .i64 52) (.int .i64 (-1074)) 68
  have K2 := below_trans K1 (bel_new w1 (.cells #[.int .i64 64, .int .i64 52, .int .i64 (-1074)] 68))
  generalize w1.alloc (.cells #[.int .i64 64, .int .i64 52, .int .i64 (-1074)] 68) = w2 at *
  have c0 := C.c0; have c1 := C.c1; have c2 := C.c2
  go_wp2_with fail
  with_reducible refine (size_d _ x s h0 h1 hs).mono ?_
  rintro e w3 ⟨rfl, b3⟩
  clear c0 c1 c2
  replace C := C.below b3
  replace K2 := below_trans K2 b3
  clear b3
  have c0 := C.c0; have c1 := C.c1; have c2 := C.c2
  go_wp2_with fail
  with_reducible refine (infinite_d _).mono ?_
  rintro e w4 ⟨rfl, b4⟩
  clear c0 c1 c2
  replace C := C.below b4
  replace K2 := below_trans K2 b4
  clear b4
  clear h0 h1 hs
  by_cases a1 : 9218868437227405312 < s
  · have hc : cls 9223372036854775808 4503599627370496 s = 5 := by unfold cls; rw [if_pos (by omega)]
    have Hc := hide hc
    clear hc
    go_wp2
    go_ret
    exact ⟨by rw [Hc.out]; rfl, K2⟩
  have c0 := C.c0; have c1 := C.c1; have c2 := C.c2
  go_wp2_with fail
  with_reducible refine (infinite_d _).mono ?_
  rintro e w5 ⟨rfl, b5⟩
  clear c0 c1 c2
  replace C := C.below b5
  replace K2 := below_trans K2 b5
  clear b5
  by_cases a2 : s = 9218868437227405312
  · have hc : cls 9223372036854775808 4503599627370496 s = 4 := by unfold cls; rw [if_neg (by omega), if_pos (by omega)]
    have a2' : (s == 9218868437227405312) = true := by simp [a2]
    have Hc := hide hc
    clear hc a2 a1
    go_wp2
    go_ret
    exact ⟨by rw [Hc.out]; rfl, K2⟩
  have a2' : (s == 9218868437227405312) = false := by simp [a2]
  by_cases a3 : s = 0
  · have hc : cls 9223372036854775808 4503599627370496 s = 1 := by unfold cls; rw [if_neg (by omega), if_neg (by omega), if_pos (by omega)]
    have a3' : (s == 0) = true := by simp [a3]
    have Hc := hide hc
    clear hc a2 a1 a3
    go_wp2
    go_ret
    exact ⟨by rw [Hc.out]; rfl, K2⟩
  have a3' : (s == 0) = false := by simp [a3]
  have c0 := C.c0; have c1 := C.c1; have c2 := C.c2
  go_wp2_with fail
  with_reducible refine (leastNormal_d _).mono ?_
  rintro e w5 ⟨rfl, b5⟩
  clear c0 c1 c2
  replace C := C.below b5
  replace K2 := below_trans K2 b5
  clear b5
  by_cases a4 : s < 4503599627370496
  · have hc : cls 9223372036854775808 4503599627370496 s = 2 := by unfold cls; rw [if_neg (by omega), if_neg (by omega), if_neg (by omega), if_pos (by omega)]
    have Hc := hide hc
    clear hc
    go_wp2
    go_ret
    exact ⟨by rw [Hc.out]; rfl, K2⟩
  · have hc : cls 9223372036854775808 4503599627370496 s = 3 := by unfold cls; rw [if_neg (by omega), if_neg (by omega), if_neg (by omega), if_neg (by omega)]
    have Hc := hide hc
    clear hc
    go_wp2
    go_ret
    exact ⟨by rw [Hc.out]; rfl, K2⟩

set_option maxHeartbeats 1000000 in
theorem rank_64 {w : World} (L : Lays w) (x : Int) (h0 : 0 ≤ x) (h1 : x < 18446744073709551616) : Calls Tryz.prog 122 #[.int .u64 x] w fun e w' => e = .returned (.int .u64 (rk 9223372036854775808 x)) ∧ Below w.heap.size w w' := by
  have hb := and_d x h0 h1
  go_enter Tryz.func122, Tryz.ntmps122
  go_wp2_with fail
  with_reducible refine (layoutOf_64 L).mono ?_
  rintro e w1 ⟨rfl, K1⟩
  go_wp2_with fail
  with_reducible refine (sign_d _).mono ?_
  rintro e w2 ⟨rfl, K2⟩
  by_cases a : x < 9223372036854775808
  · rw [show x - x % 9223372036854775808 = 0 by omega] at hb
    have ho := or_d x h0 a
    have hc : rk 9223372036854775808 x = x + 9223372036854775808 := by unfold rk; rw [if_pos a]
    have Hc := hide hc
    clear hc
    go_wp2
    go_ret
    exact ⟨by rw [Hc.out]; rfl, below_trans K1 K2⟩
  · rw [show x - x % 9223372036854775808 = 9223372036854775808 by omega] at hb
    have hc : rk 9223372036854775808 x = 18446744073709551615 - x := by unfold rk; rw [if_neg a]; omega
    have Hc := hide hc
    have hn := not_d x h0 h1
    clear hc
    go_wp2
    go_ret
    exact ⟨by rw [Hc.out]; first | rfl | exact ret_int hn, below_trans K1 K2⟩

theorem isNaN_64 (w : World) (x : Int) : Calls Tryz.prog 146 #[.int .u64 x] w fun e w' => e = .returned (.bool false) ∧ w' = w := by
  go_enter Tryz.func146, Tryz.ntmps146
  go_wp2
  go_ret
  exact ⟨rfl, rfl⟩
set_option maxHeartbeats 1000000 in
theorem compare_64 (w : World) (x y : Int) : Calls Tryz.prog 121 #[.int .u64 x, .int .u64 y] w fun e w' => e = .returned (.int .i64 (tri x y)) ∧ w' = w := by
  go_enter Tryz.func121, Tryz.ntmps121
  go_wp2_with fail
  with_reducible refine (isNaN_64 _ _).mono ?_
  rintro e w1 ⟨rfl, rfl⟩
  go_wp2_with fail
  with_reducible refine (isNaN_64 _ _).mono ?_
  rintro e w1 ⟨rfl, rfl⟩
  by_cases a : x < y
  · have Hc := hide (show tri x y = -1 by unfold tri; rw [if_pos a])
    go_wp2
    go_ret
    exact ⟨by rw [Hc.out]; rfl, rfl⟩
  · by_cases b : y < x
    · have Hc := hide (show tri x y = 1 by unfold tri; rw [if_neg a, if_pos b])
      go_wp2
      go_ret
      exact ⟨by rw [Hc.out]; rfl, rfl⟩
    · have Hc := hide (show tri x y = 0 by unfold tri; rw [if_neg a, if_neg b])
      go_wp2
      go_ret
      exact ⟨by rw [Hc.out]; rfl, rfl⟩

set_option maxHeartbeats 1000000 in
theorem total_64 {w : World} (L : Lays w) (x y : Int) (h0 : 0 ≤ x) (h1 : x < 18446744073709551616) (g0 : 0 ≤ y) (g1 : y < 18446744073709551616) : Calls Tryz.prog 82 #[.int .u64 x, .int .u64 y] w fun e w' => e = .returned (.int .i64 (tri (rk 9223372036854775808 x) (rk 9223372036854775808 y))) ∧ Below w.heap.size w w' := by
  go_enter Tryz.func82, Tryz.ntmps82
  go_wp2_with fail
  with_reducible refine (rank_64 L x h0 h1).mono ?_
  rintro e w1 ⟨rfl, K1⟩
  go_wp2_with fail
  with_reducible refine (rank_64 (L.below K1) y g0 g1).mono ?_
  rintro e w2 ⟨rfl, K2⟩
  generalize hA : rk 9223372036854775808 x = a
  generalize hB : rk 9223372036854775808 y = b
  have HA := hide hA
  have HB := hide hB
  clear hA hB
  go_wp2_with fail
  with_reducible refine (compare_64 _ a b).mono ?_
  rintro e w3 ⟨rfl, rfl⟩
  generalize hC : tri a b = c
  have HC := hide hC
  clear hC
  go_wp2
  go_ret
  exact ⟨by rw [HA.out, HB.out, HC.out]; rfl, below_trans K1 K2⟩

set_option maxHeartbeats 2000000 in
theorem cmp_64 {w : World} (L : Lays w) (x y : Int) (h0 : 0 ≤ x) (h1 : x < 18446744073709551616) (g0 : 0 ≤ y) (g1 : y < 18446744073709551616) : Calls Tryz.prog 45 #[.int .u64 x, .int .u64 y] w fun e w' => e = .returned (.tuple #[.int .i64 (cmpC 9223372036854775808 4503599627370496 x y), .bool (cmpOk 9223372036854775808 4503599627370496 x y)]) ∧ Below w.heap.size w w' := by
  obtain ⟨s, hs⟩ : ∃ s, x % 9223372036854775808 = s := ⟨_, rfl⟩
  obtain ⟨r, hr⟩ : ∃ r, y % 9223372036854775808 = r := ⟨_, rfl⟩
  have HC := hide (cmp_cases 9223372036854775808 4503599627370496 x y s r (by decide) hs hr)
  go_enter Tryz.func45, Tryz.ntmps45
  go_wp2_with fail
  with_reducible refine (class_64 L x s h0 h1 hs).mono ?_
  rintro e w1 ⟨rfl, K1⟩
  go_wp2_with fail
  with_reducible refine (class_64 (L.below K1) y r g0 g1 hr).mono ?_
  rintro e w2 ⟨rfl, K2⟩
  replace K1 := below_trans K1 K2
  clear K2 hs hr
  have H := HC.out
  clear HC
  generalize cls 9223372036854775808 4503599627370496 s = a at *
  generalize cls 9223372036854775808 4503599627370496 r = b at *
  by_cases p : a = 5
  · have p' : (a == 5) = true := by simp [p]
    have Hc := hide (H.1 (Or.inl p))
    clear H p
    go_wp2
    go_ret2
    exact ⟨by rw [Hc.out.1, Hc.out.2]; rfl, K1⟩
  have p' : (a == 5) = false := by simp [p]
  by_cases q : b = 5
  · have q' : (b == 5) = true := by simp [q]
    have Hc := hide (H.1 (Or.inr q))
    clear H p q
    go_wp2
    go_ret2
    exact ⟨by rw [Hc.out.1, Hc.out.2]; rfl, K1⟩
  have q' : (b == 5) = false := by simp [q]
  by_cases u : a = 1
  · have u' : (a == 1) = true := by simp [u]
    by_cases z : b = 1
    · have z' : (b == 1) = true := by simp [z]
      have Hc := hide (H.2.1 p q ⟨u, z⟩)
      clear H p q u z
      go_wp2
      go_ret2
      exact ⟨by rw [Hc.out.1, Hc.out.2]; rfl, K1⟩
    · have z' : (b == 1) = false := by simp [z]
      have Hc := hide (H.2.2 p q (fun e => z e.2))
      clear H p q u z
      go_wp2_with fail
      with_reducible refine (total_64 (L.below K1) x y h0 h1 g0 g1).mono ?_
      rintro e w3 ⟨rfl, K3⟩
      go_wp2
      go_ret2
      exact ⟨by rw [Hc.out.1, Hc.out.2]; rfl, below_trans K1 K3⟩
  · have u' : (a == 1) = false := by simp [u]
    have Hc := hide (H.2.2 p q (fun e => u e.1))
    clear H p q u
    go_wp2_with fail
    with_reducible refine (total_64 (L.below K1) x y h0 h1 g0 g1).mono ?_
    rintro e w3 ⟨rfl, K3⟩
    go_wp2
    go_ret2
    exact ⟨by rw [Hc.out.1, Hc.out.2]; rfl, below_trans K1 K3⟩

end Go.Proofs.YtigehipclkoecaaGreatDoor
