/- ieee: the generic functions, an instance each (mk_ieee.py) -/
import Derived.Test.YtmmkdihhcmcjjabGreatDoorIeeeM
namespace Go.Proofs.YtmmkdihhcmcjjabGreatDoor
open Go.RowKit

set_option maxHeartbeats 1000000 in
theorem layoutOf_16 {w : World} (L : Lays w) : Calls Tryz.prog 60 #[] w fun e w' => e = .returned (.agg #[.int .i64 16, .int .i64 10, .int .i64 (-24)]) ∧ Below w.heap.size w w' := by
  have C := (L.below (bel_new w (.cells #[.int .i64 0, .int .i64 0, .int .i64 0] 65))).h
  have c0 := C.c0
  have c1 := C.c1
  have c2 := C.c2
  have lt := L.h.lt
  clear C L
  go_enter Tryz.func60, Tryz.ntmps60
  go_wp2
  go_returns
  exact ⟨rfl, bel_new _ _⟩

set_option maxHeartbeats 2000000 in
theorem next_16 {w : World} (L : Lays w) (x : Int) (h0 : 0 ≤ x) (h1 : x < 65536) : Calls Tryz.prog 11 #[.int .u16 x] w fun e w' => e = .returned (.int .u16 (nxt 32768 1024 x)) ∧ Below w.heap.size w w' := by
  obtain ⟨s, hs⟩ : ∃ s, x % 32768 = s := ⟨_, rfl⟩
  have s0 : 0 ≤ s := by omega
  have s1 : s < 32768 := by omega
  have H1 := hide (next_1 32768 1024 x s hs)
  have H2 := hide (next_2 32768 1024 x s hs)
  have H3 := hide (next_3 32768 1024 x s hs)
  have H4 := hide (next_4 32768 1024 x s hs)
  go_enter Tryz.func11, Tryz.ntmps11
  go_wp2_with fail
  with_reducible refine (layoutOf_16 L).mono ?_
  rintro e w1 ⟨rfl, K1⟩
  go_upto_region 2 with fail
  have C := cell3_new w1 (.int .i64 16) (.int .i64 10) (.int .i64 (-24)) 65
  have K2 := below_trans K1 (bel_new w1 (.cells #[.int .i64 16, .int .i64 10, .int .i64 (-24)] 65))
  generalize w1.alloc (.cells #[.int .i64 16, .int .i64 10, .int .i64 (-24)] 65) = w2 at *
  have c0 := C.c0; have c1 := C.c1; have c2 := C.c2
  go_wp2_with fail
  with_reducible refine (size_h _ x s h0 h1 hs).mono ?_
  rintro e w3 ⟨rfl, b3⟩
  clear c0 c1 c2
  replace C := C.below b3
  replace K2 := below_trans K2 b3
  clear b3
  have c0 := C.c0; have c1 := C.c1; have c2 := C.c2
  go_wp2_with fail
  with_reducible refine (infinite_h _).mono ?_
  rintro e w4 ⟨rfl, b4⟩
  clear c0 c1 c2
  replace C := C.below b4
  replace K2 := below_trans K2 b4
  clear b4
  by_cases a1 : 31744 < s
  · have Hc := hide (H1.out (Or.inl (by omega)))
    clear hs
    go_wp2
    go_ret
    exact ⟨by rw [Hc.out]; rfl, K2⟩
  have c0 := C.c0; have c1 := C.c1; have c2 := C.c2
  go_wp2_with fail
  with_reducible refine (infinite_h _).mono ?_
  rintro e w5 ⟨rfl, b5⟩
  clear c0 c1 c2
  replace C := C.below b5
  replace K2 := below_trans K2 b5
  clear b5
  by_cases a2 : x = 31744
  · have Hc := hide (H1.out (Or.inr (by omega)))
    have a2' : (x == 31744) = true := by simp [a2]
    clear hs a2
    go_wp2
    go_ret
    exact ⟨by rw [Hc.out]; rfl, K2⟩
  have a2' : (x == 31744) = false := by simp [a2]
  by_cases a3 : s = 0
  · have Hc := hide (H2.out (by omega) (by omega) (by omega))
    have a3' : (s == 0) = true := by simp [a3]
    clear hs a2 a3
    go_wp2
    go_ret
    exact ⟨by rw [Hc.out]; rfl, K2⟩
  have a3' : (s == 0) = false := by simp [a3]
  by_cases a4 : 32768 ≤ x
  · have Hc := hide (H3.out (by omega) (by omega) (by omega) (by omega))
    have a4' : (s == x) = false := by simp; omega
    have a5 : s ≠ x := by omega
    clear hs a2 a3
    go_wp2
    go_ret
    exact ⟨by rw [Hc.out]; rfl, K2⟩
  · have Hc := hide (H4.out (by omega) (by omega) (by omega) (by omega))
    have a4' : (s == x) = true := by simp; omega
    clear a2 a3
    go_wp2
    go_ret
    exact ⟨by rw [Hc.out]; rfl, K2⟩

set_option maxHeartbeats 1000000 in
theorem layoutOf_32 {w : World} (L : Lays w) : Calls Tryz.prog 115 #[] w fun e w' => e = .returned (.agg #[.int .i64 32, .int .i64 23, .int .i64 (-149)]) ∧ Below w.heap.size w w' := by
  have C := (L.below (bel_new w (.cells #[.int .i64 0, .int .i64 0, .int .i64 0] 65))).s
  have c0 := C.c0
  have c1 := C.c1
  have c2 := C.c2
  have lt := L.s.lt
  clear C L
  go_enter Tryz.func115, Tryz.ntmps115
  go_wp2
  go_returns
  exact ⟨rfl, bel_new _ _⟩

set_option maxHeartbeats 1000000 in
theorem layoutOf_64 {w : World} (L : Lays w) : Calls Tryz.prog 113 #[] w fun e w' => e = .returned (.agg #[.int .i64 64, .int .i64 52, .int .i64 (-1074)]) ∧ Below w.heap.size w w' := by
  have C := (L.below (bel_new w (.cells #[.int .i64 0, .int .i64 0, .int .i64 0] 65))).d
  have c0 := C.c0
  have c1 := C.c1
  have c2 := C.c2
  have lt := L.d.lt
  clear C L
  go_enter Tryz.func113, Tryz.ntmps113
  go_wp2
  go_returns
  exact ⟨rfl, bel_new _ _⟩

set_option maxHeartbeats 1000000 in
theorem layoutOf_m {w : World} (L : Lays w) : Calls Tryz.prog 114 #[] w fun e w' => e = .returned (.agg #[.int .i64 32, .int .i64 23, .int .i64 (-149)]) ∧ Below w.heap.size w w' := by
  have C := (L.below (bel_new w (.cells #[.int .i64 0, .int .i64 0, .int .i64 0] 65))).s
  have c0 := C.c0
  have c1 := C.c1
  have c2 := C.c2
  have lt := L.s.lt
  clear C L
  go_enter Tryz.func114, Tryz.ntmps114
  go_wp2
  go_returns
  exact ⟨rfl, bel_new _ _⟩

end Go.Proofs.YtmmkdihhcmcjjabGreatDoor
