/- ieee: the generic functions, an instance each (mk_ieee.py) -/
import Derived.Test.YtlhjbmdkfdabmaaGreatDoorIeeeM
namespace Go.Proofs.YtlhjbmdkfdabmaaGreatDoor
open Go.RowKit

set_option maxHeartbeats 1000000 in
theorem layoutOf_16 {w : World} (L : Lays w) : Calls Tryz.prog 79 #[] w fun e w' => e = .returned (.agg #[.int .i64 16, .int .i64 10, .int .i64 (-24)]) ∧ Below w.heap.size w w' := by
  have C := (L.below (bel_new w (.cells #[.int .i64 0, .int .i64 0, .int .i64 0] 89))).h
  have c0 := C.c0
  have c1 := C.c1
  have c2 := C.c2
  have lt := L.h.lt
  clear C L
  go_enter Tryz.func79, Tryz.ntmps79
  go_wp2
  go_returns
  exact ⟨rfl, bel_new _ _⟩

set_option maxHeartbeats 2000000 in
theorem class_16 {w : World} (L : Lays w) (x s : Int) (h0 : 0 ≤ x) (h1 : x < 65536) (hs : x % 32768 = s) : Calls Tryz.prog 35 #[.int .u16 x] w fun e w' => e = .returned (.int .i8 (cls 32768 1024 s)) ∧ Below w.heap.size w w' := by
  have s0 : 0 ≤ s := by omega
  have s1 : s < 32768 := by omega
  go_enter Tryz.func35, Tryz.ntmps35
  go_wp2_with fail
  with_reducible refine (layoutOf_16 L).mono ?_
  rintro e w1 ⟨rfl, K1⟩
  go_upto_region 2 with fail
  have C := cell3_new w1 (.int .i64 16) (.int .i64 10) (.int .i64 (-24)) 89
  have K2 := below_trans K1 (bel_new w1 (.cells #[.int .i64 16, .int .i64 10, .int .i64 (-24)] 89))
  generalize w1.alloc (.cells #[.int .i64 16, .int .i64 10, .int .i64 (-24)] 89) = w2 at *
  have c0 := C.c0; have c1 := C.c1; have c2 := C.c2
  go_wp2_with fail
  with_reducible refine (size_h _ x s h0 h1 hs).mono ?_
  rintro e w3 ⟨rfl, b3⟩
  clear c0 c1 c2
  replace C := C.below b3
  replace K2 := below_trans K2 b3
  clear b3
  have c0 := C.c0; have c1 := C.c1; have c2 := C.c2
  go_wp2_with fail
  with_reducible refine (infinite_h _).mono ?_
  rintro e w4 ⟨rfl, b4⟩
  clear c0 c1 c2
  replace C := C.below b4
  replace K2 := below_trans K2 b4
  clear b4
  clear h0 h1 hs
  by_cases a1 : 31744 < s
  · have hc : cls 32768 1024 s = 5 := by unfold cls; rw [if_pos (by omega)]
    have Hc := hide hc
    clear hc
    go_wp2
    go_ret
    exact ⟨by rw [Hc.out]; rfl, K2⟩
  have c0 := C.c0; have c1 := C.c1; have c2 := C.c2
  go_wp2_with fail
  with_reducible refine (infinite_h _).mono ?_
  rintro e w5 ⟨rfl, b5⟩
  clear c0 c1 c2
  replace C := C.below b5
  replace K2 := below_trans K2 b5
  clear b5
  by_cases a2 : s = 31744
  · have hc : cls 32768 1024 s = 4 := by unfold cls; rw [if_neg (by omega), if_pos (by omega)]
    have a2' : (s == 31744) = true := by simp [a2]
    have Hc := hide hc
    clear hc a2 a1
    go_wp2
    go_ret
    exact ⟨by rw [Hc.out]; rfl, K2⟩
  have a2' : (s == 31744) = false := by simp [a2]
  by_cases a3 : s = 0
  · have hc : cls 32768 1024 s = 1 := by unfold cls; rw [if_neg (by omega), if_neg (by omega), if_pos (by omega)]
    have a3' : (s == 0) = true := by simp [a3]
    have Hc := hide hc
    clear hc a2 a1 a3
    go_wp2
    go_ret
    exact ⟨by rw [Hc.out]; rfl, K2⟩
  have a3' : (s == 0) = false := by simp [a3]
  have c0 := C.c0; have c1 := C.c1; have c2 := C.c2
  go_wp2_with fail
  with_reducible refine (leastNormal_h _).mono ?_
  rintro e w5 ⟨rfl, b5⟩
  clear c0 c1 c2
  replace C := C.below b5
  replace K2 := below_trans K2 b5
  clear b5
  by_cases a4 : s < 1024
  · have hc : cls 32768 1024 s = 2 := by unfold cls; rw [if_neg (by omega), if_neg (by omega), if_neg (by omega), if_pos (by omega)]
    have Hc := hide hc
    clear hc
    go_wp2
    go_ret
    exact ⟨by rw [Hc.out]; rfl, K2⟩
  · have hc : cls 32768 1024 s = 3 := by unfold cls; rw [if_neg (by omega), if_neg (by omega), if_neg (by omega), if_neg (by omega)]
    have Hc := hide hc
    clear hc
    go_wp2
    go_ret
    exact ⟨by rw [Hc.out]; rfl, K2⟩

set_option maxHeartbeats 1000000 in
theorem layoutOf_32 {w : World} (L : Lays w) : Calls Tryz.prog 51 #[] w fun e w' => e = .returned (.agg #[.int .i64 32, .int .i64 23, .int .i64 (-149)]) ∧ Below w.heap.size w w' := by
  have C := (L.below (bel_new w (.cells #[.int .i64 0, .int .i64 0, .int .i64 0] 89))).s
  have c0 := C.c0
  have c1 := C.c1
  have c2 := C.c2
  have lt := L.s.lt
  clear C L
  go_enter Tryz.func51, Tryz.ntmps51
  go_wp2
  go_returns
  exact ⟨rfl, bel_new _ _⟩

set_option maxHeartbeats 2000000 in
theorem class_32 {w : World} (L : Lays w) (x s : Int) (h0 : 0 ≤ x) (h1 : x < 4294967296) (hs : x % 2147483648 = s) : Calls Tryz.prog 24 #[.int .u32 x] w fun e w' => e = .returned (.int .i8 (cls 2147483648 8388608 s)) ∧ Below w.heap.size w w' := by
  have s0 : 0 ≤ s := by omega
  have s1 : s < 2147483648 := by omega
  go_enter Tryz.func24, Tryz.ntmps24
  go_wp2_with fail
  with_reducible refine (layoutOf_32 L).mono ?_
  rintro e w1 ⟨rfl, K1⟩
  go_upto_region 2 with fail
  have C := cell3_new w1 (.int .i64 32) (.int .i64 23) (.int .i64 (-149)) 89
  have K2 := below_trans K1 (bel_new w1 (.cells #[.int .i64 32, .int .i64 23, .int .i64 (-149)] 89))
  generalize w1.alloc (.cells #[.int .i64 32, .int .i64 23, .int .i64 (-149)] 89) = w2 at *
  have c0 := C.c0; have c1 := C.c1; have c2 := C.c2
  go_wp2_with fail
  with_reducible refine (size_s _ x s h0 h1 hs).mono ?_
  rintro e w3 ⟨rfl, b3⟩
  clear c0 c1 c2
  replace C := C.below b3
  replace K2 := below_trans K2 b3
  clear b3
  have c0 := C.c0; have c1 := C.c1; have c2 := C.c2
  go_wp2_with fail
  with_reducible refine (infinite_s _).mono ?_
  rintro e w4 ⟨rfl, b4⟩
  clear c0 c1 c2
  replace C := C.below b4
  replace K2 := below_trans K2 b4
  clear b4
  clear h0 h1 hs
  by_cases a1 : 2139095040 < s
  · have hc : cls 2147483648 8388608 s = 5 := by unfold cls; rw [if_pos (by omega)]
    have Hc := hide hc
    clear hc
    go_wp2
    go_ret
    exact ⟨by rw [Hc.out]; rfl, K2⟩
  have c0 := C.c0; have c1 := C.c1; have c2 := C.c2
  go_wp2_with fail
  with_reducible refine (infinite_s _).mono ?_
  rintro e w5 ⟨rfl, b5⟩
  clear c0 c1 c2
  replace C := C.below b5
  replace K2 := below_trans K2 b5
  clear b5
  by_cases a2 : s = 2139095040
  · have hc : cls 2147483648 8388608 s = 4 := by unfold cls; rw [if_neg (by omega), if_pos (by omega)]
    have a2' : (s == 2139095040) = true := by simp [a2]
    have Hc := hide hc
    clear hc a2 a1
    go_wp2
    go_ret
    exact ⟨by rw [Hc.out]; rfl, K2⟩
  have a2' : (s == 2139095040) = false := by simp [a2]
  by_cases a3 : s = 0
  · have hc : cls 2147483648 8388608 s = 1 := by unfold cls; rw [if_neg (by omega), if_neg (by omega), if_pos (by omega)]
    have a3' : (s == 0) = true := by simp [a3]
    have Hc := hide hc
    clear hc a2 a1 a3
    go_wp2
    go_ret
    exact ⟨by rw [Hc.out]; rfl, K2⟩
  have a3' : (s == 0) = false := by simp [a3]
  have c0 := C.c0; have c1 := C.c1; have c2 := C.c2
  go_wp2_with fail
  with_reducible refine (leastNormal_s _).mono ?_
  rintro e w5 ⟨rfl, b5⟩
  clear c0 c1 c2
  replace C := C.below b5
  replace K2 := below_trans K2 b5
  clear b5
  by_cases a4 : s < 8388608
  · have hc : cls 2147483648 8388608 s = 2 := by unfold cls; rw [if_neg (by omega), if_neg (by omega), if_neg (by omega), if_pos (by omega)]
    have Hc := hide hc
    clear hc
    go_wp2
    go_ret
    exact ⟨by rw [Hc.out]; rfl, K2⟩
  · have hc : cls 2147483648 8388608 s = 3 := by unfold cls; rw [if_neg (by omega), if_neg (by omega), if_neg (by omega), if_neg (by omega)]
    have Hc := hide hc
    clear hc
    go_wp2
    go_ret
    exact ⟨by rw [Hc.out]; rfl, K2⟩

theorem isNaN_32 (w : World) (x : Int) : Calls Tryz.prog 113 #[.int .u32 x] w fun e w' => e = .returned (.bool false) ∧ w' = w := by
  go_enter Tryz.func113, Tryz.ntmps113
  go_wp2
  go_ret
  exact ⟨rfl, rfl⟩
set_option maxHeartbeats 1000000 in
theorem compare_32 (w : World) (x y : Int) : Calls Tryz.prog 97 #[.int .u32 x, .int .u32 y] w fun e w' => e = .returned (.int .i64 (tri x y)) ∧ w' = w := by
  go_enter Tryz.func97, Tryz.ntmps97
  go_wp2_with fail
  with_reducible refine (isNaN_32 _ _).mono ?_
  rintro e w1 ⟨rfl, rfl⟩
  go_wp2_with fail
  with_reducible refine (isNaN_32 _ _).mono ?_
  rintro e w1 ⟨rfl, rfl⟩
  by_cases a : x < y
  · have Hc := hide (show tri x y = -1 by unfold tri; rw [if_pos a])
    go_wp2
    go_ret
    exact ⟨by rw [Hc.out]; rfl, rfl⟩
  · by_cases b : y < x
    · have Hc := hide (show tri x y = 1 by unfold tri; rw [if_neg a, if_pos b])
      go_wp2
      go_ret
      exact ⟨by rw [Hc.out]; rfl, rfl⟩
    · have Hc := hide (show tri x y = 0 by unfold tri; rw [if_neg a, if_neg b])
      go_wp2
      go_ret
      exact ⟨by rw [Hc.out]; rfl, rfl⟩

set_option maxHeartbeats 1000000 in
theorem layoutOf_64 {w : World} (L : Lays w) : Calls Tryz.prog 107 #[] w fun e w' => e = .returned (.agg #[.int .i64 64, .int .i64 52, .int .i64 (-1074)]) ∧ Below w.heap.size w w' := by
  have C := (L.below (bel_new w (.cells #[.int .i64 0, .int .i64 0, .int .i64 0] 89))).d
  have c0 := C.c0
  have c1 := C.c1
  have c2 := C.c2
  have lt := L.d.lt
  clear C L
  go_enter Tryz.func107, Tryz.ntmps107
  go_wp2
  go_returns
  exact ⟨rfl, bel_new _ _⟩

set_option maxHeartbeats 2000000 in
theorem class_64 {w : World} (L : Lays w) (x s : Int) (h0 : 0 ≤ x) (h1 : x < 18446744073709551616) (hs : x % 9223372036854775808 = s) : Calls Tryz.prog 77 #[.int .u64 x] w fun e w' => e = .returned (.int .i8 (cls 9223372036854775808 4503599627370496 s)) ∧ Below w.heap.size w w' := by
  have s0 : 0 ≤ s := by omega
  have s1 : s < 9223372036854775808 := by omega
  go_enter Tryz.func77, Tryz.ntmps77
  go_wp2_with fail
  with_reducible refine (layoutOf_64 L).mono ?_
  rintro e w1 ⟨rfl, K1⟩
  go_upto_region 2 with fail
  have C := cell3_new w1 (.int .i64 64) (.int .i64 52) (.int .i64 (-1074)) 89
  have K2 := below_trans K1 (bel_new w1 (.cells #[.int .i64 64, .int .i64 52, .int .i64 (-1074)] 89))
  generalize w1.alloc (.cells #[.int .i64 64, .int .i64 52, .int .i64 (-1074)] 89) = w2 at *
  have c0 := C.c0; have c1 := C.c1; have c2 := C.c2
  go_wp2_with fail
  with_reducible refine (size_d _ x s h0 h1 hs).mono ?_
  rintro e w3 ⟨rfl, b3⟩
  clear c0 c1 c2
  replace C := C.below b3
  replace K2 := below_trans K2 b3
  clear b3
  have c0 := C.c0; have c1 := C.c1; have c2 := C.c2
  go_wp2_with fail
  with_reducible refine (infinite_d _).mono ?_
  rintro e w4 ⟨rfl, b4⟩
  clear c0 c1 c2
  replace C := C.below b4
  replace K2 := below_trans K2 b4
  clear b4
  clear h0 h1 hs
  by_cases a1 : 9218868437227405312 < s
  · have hc : cls 9223372036854775808 4503599627370496 s = 5 := by unfold cls; rw [if_pos (by omega)]
    have Hc := hide hc
    clear hc
    go_wp2
    go_ret
    exact ⟨by rw [Hc.out]; rfl, K2⟩
  have c0 := C.c0; have c1 := C.c1; have c2 := C.c2
  go_wp2_with fail
  with_reducible refine (infinite_d _).mono ?_
  rintro e w5 ⟨rfl, b5⟩
  clear c0 c1 c2
  replace C := C.below b5
  replace K2 := below_trans K2 b5
  clear b5
  by_cases a2 : s = 9218868437227405312
  · have hc : cls 9223372036854775808 4503599627370496 s = 4 := by unfold cls; rw [if_neg (by omega), if_pos (by omega)]
    have a2' : (s == 9218868437227405312) = true := by simp [a2]
    have Hc := hide hc
    clear hc a2 a1
    go_wp2
    go_ret
    exact ⟨by rw [Hc.out]; rfl, K2⟩
  have a2' : (s == 9218868437227405312) = false := by simp [a2]
  by_cases a3 : s = 0
  · have hc : cls 9223372036854775808 4503599627370496 s = 1 := by unfold cls; rw [if_neg (by omega), if_neg (by omega), if_pos (by omega)]
    have a3' : (s == 0) = true := by simp [a3]
    have Hc := hide hc
    clear hc a2 a1 a3
    go_wp2
    go_ret
    exact ⟨by rw [Hc.out]; rfl, K2⟩
  have a3' : (s == 0) = false := by simp [a3]
  have c0 := C.c0; have c1 := C.c1; have c2 := C.c2
  go_wp2_with fail
  with_reducible refine (leastNormal_d _).mono ?_
  rintro e w5 ⟨rfl, b5⟩
  clear c0 c1 c2
  replace C := C.below b5
  replace K2 := below_trans K2 b5
  clear b5
  by_cases a4 : s < 4503599627370496
  · have hc : cls 9223372036854775808 4503599627370496 s = 2 := by unfold cls; rw [if_neg (by omega), if_neg (by omega), if_neg (by omega), if_pos (by omega)]
    have Hc := hide hc
    clear hc
    go_wp2
    go_ret
    exact ⟨by rw [Hc.out]; rfl, K2⟩
  · have hc : cls 9223372036854775808 4503599627370496 s = 3 := by unfold cls; rw [if_neg (by omega), if_neg (by omega), if_neg (by omega), if_neg (by omega)]
    have Hc := hide hc
    clear hc
    go_wp2
    go_ret
    exact ⟨by rw [Hc.out]; rfl, K2⟩

set_option maxHeartbeats 1000000 in
theorem layoutOf_o {w : World} (L : Lays w) : Calls Tryz.prog 81 #[] w fun e w' => e = .returned (.agg #[.int .i64 16, .int .i64 10, .int .i64 (-24)]) ∧ Below w.heap.size w w' := by
  have C := (L.below (bel_new w (.cells #[.int .i64 0, .int .i64 0, .int .i64 0] 89))).h
  have c0 := C.c0
  have c1 := C.c1
  have c2 := C.c2
  have lt := L.h.lt
  clear C L
  go_enter Tryz.func81, Tryz.ntmps81
  go_wp2
  go_returns
  exact ⟨rfl, bel_new _ _⟩

set_option maxHeartbeats 2000000 in
theorem class_o {w : World} (L : Lays w) (x s : Int) (h0 : 0 ≤ x) (h1 : x < 65536) (hs : x % 32768 = s) : Calls Tryz.prog 37 #[.int .u16 x] w fun e w' => e = .returned (.int .i8 (cls 32768 1024 s)) ∧ Below w.heap.size w w' := by
  have s0 : 0 ≤ s := by omega
  have s1 : s < 32768 := by omega
  go_enter Tryz.func37, Tryz.ntmps37
  go_wp2_with fail
  with_reducible refine (layoutOf_o L).mono ?_
  rintro e w1 ⟨rfl, K1⟩
  go_upto_region 2 with fail
  have C := cell3_new w1 (.int .i64 16) (.int .i64 10) (.int .i64 (-24)) 89
  have K2 := below_trans K1 (bel_new w1 (.cells #[.int .i64 16, .int .i64 10, .int .i64 (-24)] 89))
  generalize w1.alloc (.cells #[.int .i64 16, .int .i64 10, .int .i64 (-24)] 89) = w2 at *
  have c0 := C.c0; have c1 := C.c1; have c2 := C.c2
  go_wp2_with fail
  with_reducible refine (size_h _ x s h0 h1 hs).mono ?_
  rintro e w3 ⟨rfl, b3⟩
  clear c0 c1 c2
  replace C := C.below b3
  replace K2 := below_trans K2 b3
  clear b3
  have c0 := C.c0; have c1 := C.c1; have c2 := C.c2
  go_wp2_with fail
  with_reducible refine (infinite_h _).mono ?_
  rintro e w4 ⟨rfl, b4⟩
  clear c0 c1 c2
  replace C := C.below b4
  replace K2 := below_trans K2 b4
  clear b4
  clear h0 h1 hs
  by_cases a1 : 31744 < s
  · have hc : cls 32768 1024 s = 5 := by unfold cls; rw [if_pos (by omega)]
    have Hc := hide hc
    clear hc
    go_wp2
    go_ret
    exact ⟨by rw [Hc.out]; rfl, K2⟩
  have c0 := C.c0; have c1 := C.c1; have c2 := C.c2
  go_wp2_with fail
  with_reducible refine (infinite_h _).mono ?_
  rintro e w5 ⟨rfl, b5⟩
  clear c0 c1 c2
  replace C := C.below b5
  replace K2 := below_trans K2 b5
  clear b5
  by_cases a2 : s = 31744
  · have hc : cls 32768 1024 s = 4 := by unfold cls; rw [if_neg (by omega), if_pos (by omega)]
    have a2' : (s == 31744) = true := by simp [a2]
    have Hc := hide hc
    clear hc a2 a1
    go_wp2
    go_ret
    exact ⟨by rw [Hc.out]; rfl, K2⟩
  have a2' : (s == 31744) = false := by simp [a2]
  by_cases a3 : s = 0
  · have hc : cls 32768 1024 s = 1 := by unfold cls; rw [if_neg (by omega), if_neg (by omega), if_pos (by omega)]
    have a3' : (s == 0) = true := by simp [a3]
    have Hc := hide hc
    clear hc a2 a1 a3
    go_wp2
    go_ret
    exact ⟨by rw [Hc.out]; rfl, K2⟩
  have a3' : (s == 0) = false := by simp [a3]
  have c0 := C.c0; have c1 := C.c1; have c2 := C.c2
  go_wp2_with fail
  with_reducible refine (leastNormal_h _).mono ?_
  rintro e w5 ⟨rfl, b5⟩
  clear c0 c1 c2
  replace C := C.below b5
  replace K2 := below_trans K2 b5
  clear b5
  by_cases a4 : s < 1024
  · have hc : cls 32768 1024 s = 2 := by unfold cls; rw [if_neg (by omega), if_neg (by omega), if_neg (by omega), if_pos (by omega)]
    have Hc := hide hc
    clear hc
    go_wp2
    go_ret
    exact ⟨by rw [Hc.out]; rfl, K2⟩
  · have hc : cls 32768 1024 s = 3 := by unfold cls; rw [if_neg (by omega), if_neg (by omega), if_neg (by omega), if_neg (by omega)]
    have Hc := hide hc
    clear hc
    go_wp2
    go_ret
    exact ⟨by rw [Hc.out]; rfl, K2⟩

end Go.Proofs.YtlhjbmdkfdabmaaGreatDoor
