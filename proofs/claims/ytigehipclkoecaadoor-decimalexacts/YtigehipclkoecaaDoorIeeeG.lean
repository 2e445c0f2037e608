/- ieee: the generic functions, an instance each (mk_ieee.py) -/
import Derived.Test.YtigehipclkoecaaDoorIeeeM
namespace Go.Proofs.YtigehipclkoecaaDoor
open Go.RowKit

set_option maxHeartbeats 1000000 in
theorem layoutOf_16 {w : World} (L : Lays w) : Calls Tryd.prog 38 #[] w fun e w' => e = .returned (.agg #[.int .i64 16, .int .i64 10, .int .i64 (-24)]) ∧ Below w.heap.size w w' := by
  have C := (L.below (bel_new w (.cells #[.int .i64 0, .int .i64 0, .int .i64 0] 56))).h
  have c0 := C.c0
  have c1 := C.c1
  have c2 := C.c2
  have lt := L.h.lt
  clear C L
  go_enter Tryd.func38, Tryd.ntmps38
  go_wp2
  go_returns
  exact ⟨rfl, bel_new _ _⟩

set_option maxHeartbeats 1000000 in
theorem layoutOf_32 {w : World} (L : Lays w) : Calls Tryd.prog 25 #[] w fun e w' => e = .returned (.agg #[.int .i64 32, .int .i64 23, .int .i64 (-149)]) ∧ Below w.heap.size w w' := by
  have C := (L.below (bel_new w (.cells #[.int .i64 0, .int .i64 0, .int .i64 0] 56))).s
  have c0 := C.c0
  have c1 := C.c1
  have c2 := C.c2
  have lt := L.s.lt
  clear C L
  go_enter Tryd.func25, Tryd.ntmps25
  go_wp2
  go_returns
  exact ⟨rfl, bel_new _ _⟩

theorem isNaN_32 (w : World) (x : Int) : Calls Tryd.prog 95 #[.int .u32 x] w fun e w' => e = .returned (.bool false) ∧ w' = w := by
  go_enter Tryd.func95, Tryd.ntmps95
  go_wp2
  go_ret
  exact ⟨rfl, rfl⟩
set_option maxHeartbeats 1000000 in
theorem compare_32 (w : World) (x y : Int) : Calls Tryd.prog 86 #[.int .u32 x, .int .u32 y] w fun e w' => e = .returned (.int .i64 (tri x y)) ∧ w' = w := by
  go_enter Tryd.func86, Tryd.ntmps86
  go_wp2_with fail
  with_reducible refine (isNaN_32 _ _).mono ?_
  rintro e w1 ⟨rfl, rfl⟩
  go_wp2_with fail
  with_reducible refine (isNaN_32 _ _).mono ?_
  rintro e w1 ⟨rfl, rfl⟩
  by_cases a : x < y
  · have Hc := hide (show tri x y = -1 by unfold tri; rw [if_pos a])
    go_wp2
    go_ret
    exact ⟨by rw [Hc.out]; rfl, rfl⟩
  · by_cases b : y < x
    · have Hc := hide (show tri x y = 1 by unfold tri; rw [if_neg a, if_pos b])
      go_wp2
      go_ret
      exact ⟨by rw [Hc.out]; rfl, rfl⟩
    · have Hc := hide (show tri x y = 0 by unfold tri; rw [if_neg a, if_neg b])
      go_wp2
      go_ret
      exact ⟨by rw [Hc.out]; rfl, rfl⟩

set_option maxHeartbeats 1000000 in
theorem layoutOf_64 {w : World} (L : Lays w) : Calls Tryd.prog 36 #[] w fun e w' => e = .returned (.agg #[.int .i64 64, .int .i64 52, .int .i64 (-1074)]) ∧ Below w.heap.size w w' := by
  have C := (L.below (bel_new w (.cells #[.int .i64 0, .int .i64 0, .int .i64 0] 56))).d
  have c0 := C.c0
  have c1 := C.c1
  have c2 := C.c2
  have lt := L.d.lt
  clear C L
  go_enter Tryd.func36, Tryd.ntmps36
  go_wp2
  go_returns
  exact ⟨rfl, bel_new _ _⟩

end Go.Proofs.YtigehipclkoecaaDoor
