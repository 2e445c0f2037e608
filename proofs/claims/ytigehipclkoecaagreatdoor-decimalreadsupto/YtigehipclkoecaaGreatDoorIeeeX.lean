/- layoutOf and Round of a type of one's own (cruciblelaw07.mine) -/
import Derived.Test.YtigehipclkoecaaGreatDoorIeeeO
namespace Go.Proofs.YtigehipclkoecaaGreatDoor
open Go.RowKit

set_option maxHeartbeats 1000000 in
theorem layoutOf_o {w : World} (L : Lays w) : Calls Tryz.prog 99 #[] w fun e w' => e = .returned (.agg #[.int .i64 16, .int .i64 10, .int .i64 (-24)]) ∧ Below w.heap.size w w' := by
  have C := (L.below (bel_new w (.cells #[.int .i64 0, .int .i64 0, .int .i64 0] 68))).h
  have c0 := C.c0
  have c1 := C.c1
  have c2 := C.c2
  have lt := L.h.lt
  clear C L
  go_enter Tryz.func99, Tryz.ntmps99
  go_wp2
  go_returns
  exact ⟨rfl, bel_new _ _⟩

set_option maxHeartbeats 4000000 in
theorem round_o {w : World} (L : Lays w) {va : Value} {A e : Int} {ka : Nat} {neg more : Bool} (ha : Arg w va A ka) (hka : ka ≤ 1099511627776) (e0 : -9223372036854775808 ≤ e) (e1 : e < 9223372036854775808) :
    Calls Tryz.prog 90 #[.bool neg, va, .int .i64 e, .bool more] w fun x w' => ∃ r, x = .returned (.int .u16 (r + b2i neg * 32768)) ∧ Near 1024 (-24) 31744 (2 * A + b2i more) (e - 1) r ∧ Below w.heap.size w w' := by
  go_enter Tryz.func90, Tryz.ntmps90
  go_wp2_with fail
  with_reducible refine (layoutOf_o L).mono ?_
  rintro e w1 ⟨rfl, K1⟩
  go_upto_region 2 with fail
  have C := cell3_new w1 (.int .i64 16) (.int .i64 10) (.int .i64 (-24)) 68
  have K2 := below_trans K1 (bel_new w1 (.cells #[.int .i64 16, .int .i64 10, .int .i64 (-24)] 68))
  generalize w1.alloc (.cells #[.int .i64 16, .int .i64 10, .int .i64 (-24)] 68) = w2 at *
  have c0 := C.c0; have c1 := C.c1; have c2 := C.c2
  go_wp2_with fail
  with_reducible refine (nearest_h (ha.below K2) hka e0 e1).mono ?_
  rintro x w3 ⟨r, rfl, hN, b3⟩
  clear c0 c1 c2
  replace C := C.below b3
  replace K2 := below_trans K2 b3
  clear b3
  have r0 := hN.1
  have r1 := hN.2.1
  have HN := hide hN
  have ho := or64_h r r0 (by omega)
  clear hN
  have c0 := C.c0; have c1 := C.c1; have c2 := C.c2
  cases neg
  · go_wp2
    go_ret
    exact ⟨r, ret_int (by rw [show b2i false = 0 from rfl]; omega), HN.out, K2⟩
  · go_wp2_with fail
    with_reducible refine (sign_h _).mono ?_
    rintro x w4 ⟨rfl, b4⟩
    go_wp2
    go_ret
    exact ⟨r, ret_int (by rw [show b2i true = 1 from rfl]; omega), HN.out, below_trans K2 b4⟩

end Go.Proofs.YtigehipclkoecaaGreatDoor
