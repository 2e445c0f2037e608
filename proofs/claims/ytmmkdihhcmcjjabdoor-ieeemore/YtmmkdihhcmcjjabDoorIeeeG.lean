/- ieee: the generic functions, an instance each (mk_ieee.py) -/
import Derived.Test.YtmmkdihhcmcjjabDoorIeeeM
namespace Go.Proofs.YtmmkdihhcmcjjabDoor
open Go.RowKit

set_option maxHeartbeats 1000000 in
theorem layoutOf_16 {w : World} (L : Lays w) : Calls Tryd.prog 21 #[] w fun e w' => e = .returned (.agg #[.int .i64 16, .int .i64 10, .int .i64 (-24)]) ∧ Below w.heap.size w w' := by
  have C := (L.below (bel_new w (.cells #[.int .i64 0, .int .i64 0, .int .i64 0] 53))).h
  have c0 := C.c0
  have c1 := C.c1
  have c2 := C.c2
  have lt := L.h.lt
  clear C L
  go_enter Tryd.func21, Tryd.ntmps21
  go_wp2
  go_returns
  exact ⟨rfl, bel_new _ _⟩

set_option maxHeartbeats 2000000 in
theorem next_16 {w : World} (L : Lays w) (x : Int) (h0 : 0 ≤ x) (h1 : x < 65536) : Calls Tryd.prog 12 #[.int .u16 x] w fun e w' => e = .returned (.int .u16 (nxt 32768 1024 x)) ∧ Below w.heap.size w w' := by
  obtain ⟨s, hs⟩ : ∃ s, x % 32768 = s := ⟨_, rfl⟩
  have s0 : 0 ≤ s := by omega
  have s1 : s < 32768 := by omega
  have H1 := hide (next_1 32768 1024 x s hs)
  have H2 := hide (next_2 32768 1024 x s hs)
  have H3 := hide (next_3 32768 1024 x s hs)
  have H4 := hide (next_4 32768 1024 x s hs)
  go_enter Tryd.func12, Tryd.ntmps12
  go_wp2_with fail
  with_reducible refine (layoutOf_16 L).mono ?_
  rintro e w1 ⟨rfl, K1⟩
  go_upto_region 2 with fail
  have C := cell3_new w1 (.int .i64 16) (.int .i64 10) (.int .i64 (-24)) 53
  have K2 := below_trans K1 (bel_new w1 (.cells #[.int .i64 16, .int .i64 10, .int .i64 (-24)] 53))
  generalize w1.alloc (.cells #[.int .i64 16, .int .i64 10, .int .i64 (-24)] 53) = w2 at *
  have c0 := C.c0; have c1 := C.c1; have c2 := C.c2
  go_wp2_with fail
  with_reducible refine (size_h _ x s h0 h1 hs).mono ?_
  rintro e w3 ⟨rfl, b3⟩
  clear c0 c1 c2
  replace C := C.below b3
  replace K2 := below_trans K2 b3
  clear b3
  have c0 := C.c0; have c1 := C.c1; have c2 := C.c2
  go_wp2_with fail
  with_reducible refine (infinite_h _).mono ?_
  rintro e w4 ⟨rfl, b4⟩
  clear c0 c1 c2
  replace C := C.below b4
  replace K2 := below_trans K2 b4
  clear b4
  by_cases a1 : 31744 < s
  · have Hc := hide (H1.out (Or.inl (by omega)))
    clear hs
    go_wp2
    go_ret
    exact ⟨by rw [Hc.out]; rfl, K2⟩
  have c0 := C.c0; have c1 := C.c1; have c2 := C.c2
  go_wp2_with fail
  with_reducible refine (infinite_h _).mono ?_
  rintro e w5 ⟨rfl, b5⟩
  clear c0 c1 c2
  replace C := C.below b5
  replace K2 := below_trans K2 b5
  clear b5
  by_cases a2 : x = 31744
  · have Hc := hide (H1.out (Or.inr (by omega)))
    have a2' : (x == 31744) = true := by simp [a2]
    clear hs a2
    go_wp2
    go_ret
    exact ⟨by rw [Hc.out]; rfl, K2⟩
  have a2' : (x == 31744) = false := by simp [a2]
  by_cases a3 : s = 0
  · have Hc := hide (H2.out (by omega) (by omega) (by omega))
    have a3' : (s == 0) = true := by simp [a3]
    clear hs a2 a3
    go_wp2
    go_ret
    exact ⟨by rw [Hc.out]; rfl, K2⟩
  have a3' : (s == 0) = false := by simp [a3]
  by_cases a4 : 32768 ≤ x
  · have Hc := hide (H3.out (by omega) (by omega) (by omega) (by omega))
    have a4' : (s == x) = false := by simp; omega
    have a5 : s ≠ x := by omega
    clear hs a2 a3
    go_wp2
    go_ret
    exact ⟨by rw [Hc.out]; rfl, K2⟩
  · have Hc := hide (H4.out (by omega) (by omega) (by omega) (by omega))
    have a4' : (s == x) = true := by simp; omega
    clear a2 a3
    go_wp2
    go_ret
    exact ⟨by rw [Hc.out]; rfl, K2⟩

set_option maxHeartbeats 1000000 in
theorem layoutOf_32 {w : World} (L : Lays w) : Calls Tryd.prog 30 #[] w fun e w' => e = .returned (.agg #[.int .i64 32, .int .i64 23, .int .i64 (-149)]) ∧ Below w.heap.size w w' := by
  have C := (L.below (bel_new w (.cells #[.int .i64 0, .int .i64 0, .int .i64 0] 53))).s
  have c0 := C.c0
  have c1 := C.c1
  have c2 := C.c2
  have lt := L.s.lt
  clear C L
  go_enter Tryd.func30, Tryd.ntmps30
  go_wp2
  go_returns
  exact ⟨rfl, bel_new _ _⟩

set_option maxHeartbeats 1000000 in
theorem layoutOf_64 {w : World} (L : Lays w) : Calls Tryd.prog 28 #[] w fun e w' => e = .returned (.agg #[.int .i64 64, .int .i64 52, .int .i64 (-1074)]) ∧ Below w.heap.size w w' := by
  have C := (L.below (bel_new w (.cells #[.int .i64 0, .int .i64 0, .int .i64 0] 53))).d
  have c0 := C.c0
  have c1 := C.c1
  have c2 := C.c2
  have lt := L.d.lt
  clear C L
  go_enter Tryd.func28, Tryd.ntmps28
  go_wp2
  go_returns
  exact ⟨rfl, bel_new _ _⟩

set_option maxHeartbeats 1000000 in
theorem layoutOf_m {w : World} (L : Lays w) : Calls Tryd.prog 29 #[] w fun e w' => e = .returned (.agg #[.int .i64 32, .int .i64 23, .int .i64 (-149)]) ∧ Below w.heap.size w w' := by
  have C := (L.below (bel_new w (.cells #[.int .i64 0, .int .i64 0, .int .i64 0] 53))).s
  have c0 := C.c0
  have c1 := C.c1
  have c2 := C.c2
  have lt := L.s.lt
  clear C L
  go_enter Tryd.func29, Tryd.ntmps29
  go_wp2
  go_returns
  exact ⟨rfl, bel_new _ _⟩

end Go.Proofs.YtmmkdihhcmcjjabDoor
