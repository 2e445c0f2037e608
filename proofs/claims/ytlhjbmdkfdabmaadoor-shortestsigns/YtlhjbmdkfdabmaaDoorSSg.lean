/- SSigns -/
import Derived.Test.YtlhjbmdkfdabmaaDoorSD
namespace Go.Proofs.YtlhjbmdkfdabmaaDoor
open Go.RowKit
set_option linter.unusedVariables false

set_option maxRecDepth 100000 in
set_option maxHeartbeats 8000000 in
theorem signs_h {w : World} (T : Lays w) (U : Brn w) (x n : Int) (x0 : 0 ≤ x) (x1 : x < 18446744073709551616) (n0 : 0 ≤ n) (n1 : n < 256) (hr : n % 3 = 0) :
    Calls Tryd.prog 4 #[.int .u64 x, .int .u8 n] w fun e w' => e = .returned (.bool true) ∧ Below w.heap.size w w' := by
  go_enter Tryd.func4, Tryd.ntmps4
  go_wp2_with fail
  refine (lwidth_h w n n0 n1 hr).mono ?_
  rintro r w' ⟨rfl, rfl⟩
  go_wp2_with fail
  refine (lcut_h w' x x0 x1).mono ?_
  rintro r w ⟨rfl, rfl⟩
  obtain ⟨xx, hxx⟩ : ∃ a, x % 65536 = a := ⟨_, rfl⟩
  have y0 : 0 ≤ xx := by omega
  have y1 : xx < 65536 := by omega
  rw [hxx]
  clear hxx hr
  obtain ⟨s, hs⟩ : ∃ a, xx % 32768 = a := ⟨_, rfl⟩
  have s0 : 0 ≤ s := by omega
  obtain ⟨ng, hng'⟩ : ∃ b, decide (32768 ≤ xx) = b := ⟨_, rfl⟩
  have hng := hide hng'
  clear hng'
  go_wp2_with fail
  refine (rSign_h w).mono ?_
  rintro r w' ⟨rfl, rfl⟩
  by_cases c : 32768 ≤ xx
  · have wy : ∃ z, IntKind.u64.wrap (xx + 32768) = z := ⟨_, rfl⟩
    obtain ⟨z, hz⟩ := wy
    have wz : IntKind.u64.wrap (xx - 32768) = xx - 32768 := by rw [IntKind.wrap_u64]; omega
    go_wp2_with fail
    refine (rNeg_h w' xx).mono ?_
    rintro r w ⟨rfl, rfl⟩
    rw [decide_eq_true (by omega)]
    go_wp2_with fail
    refine (rSign_h w).mono ?_
    rintro r w' ⟨rfl, rfl⟩
    have K0 := Below.refl w'.heap.size w'
    go_wp2_with fail
    refine (ldigits_h T U xx s ng (by omega) (by omega) (by omega) hng.out.symm).mono ?_
    rintro r w1 ⟨a, tx, q, ok, rfl, dg, K1⟩
    have C := cell3_new w1 (.bool a) (.string tx) (.int .i64 q) 24
    have clt := C.lt
    have KB := below_trans (below_trans K0 K1) (bel_new w1 (.cells #[.bool a, .string tx, .int .i64 q] 24))
    have HD := hide dg
    clear dg
    go_wp2_with fail
    generalize w1.alloc (.cells #[.bool a, .string tx, .int .i64 q] 24) = w2 at *
    refine (ldigits_h (T.below KB) (U.below KB) (xx - 32768) s (!ng) (by omega) (by omega) (by omega) (by rw [← hng.out, decide_eq_true (by omega), decide_eq_false (by omega)]; rfl)).mono ?_
    rintro r w3 ⟨b, ty, p, is, rfl, dg2, K2⟩
    obtain ⟨hok, hcase⟩ := Dg.unique (by decide) s0 HD.out dg2
    subst hok
    replace C := (C.below K2).below (bel_new w3 (.cells #[.bool b, .string ty, .int .i64 p] 24))
    have D : Dc (w3.alloc (.cells #[.bool b, .string ty, .int .i64 p] 24)) w3.heap.size (.bool b) (.string ty) (.int .i64 p) := heap_alloc_new _ _
    have KC := below_trans (below_trans KB K2) (bel_new w3 (.cells #[.bool b, .string ty, .int .i64 p] 24))
    have KS := K1.size
    have KS2 := K2.size
    have WGE := Nat.le_trans KB.size KS2
    have Hw : w1.heap.size ≠ w3.heap.size := by omega
    clear K0 K1 K2 KB HD dg2
    go_upto_region 8 with fail
    generalize w3.alloc (.cells #[.bool b, .string ty, .int .i64 p] 24) = w4 at *
    have c0 := C.c0
    have c1 := C.c1
    have c2 := C.c2
    have d0 := D.c0
    have d1 := D.c1
    have d2 := D.c2
    have df := D.frozen
    rcases hcase with ⟨rfl, hi, e1, e2⟩ | ⟨rfl, hi, t0, q0, e1, e2⟩
    · injection e1 with e1
      injection e2 with e2
      simp at e1 e2
      obtain ⟨rfl, rfl, rfl⟩ := e1
      obtain ⟨rfl, rfl, rfl⟩ := e2
      go_wp2_with fail
      refine (lives6 (T.below KC) (U.below KC)).mono ?_
      rintro r w5 ⟨rfl, K5⟩
      go_wp2
      go_ret
      exact ⟨rfl, below_trans KC K5⟩
    · injection e1 with e1
      injection e2 with e2
      simp at e1 e2
      obtain ⟨rfl, rfl, rfl⟩ := e1
      obtain ⟨rfl, rfl, rfl⟩ := e2
      cases a with
      | false =>
        go_wp2_with fail
        have KF := KC.setCell (p := ⟨w3.heap.size, 0, none⟩) WGE (.bool false)
        refine (lives6 (T.below KF) (U.below KF)).mono ?_
        rintro r w5 ⟨rfl, K5⟩
        go_wp2
        go_ret
        exact ⟨rfl, below_trans KF K5⟩
      | true =>
        go_wp2_with fail
        have KF := KC.setCell (p := ⟨w3.heap.size, 0, none⟩) WGE (.bool true)
        refine (lives6 (T.below KF) (U.below KF)).mono ?_
        rintro r w5 ⟨rfl, K5⟩
        go_wp2
        go_ret
        exact ⟨rfl, below_trans KF K5⟩
  · have wz : IntKind.u64.wrap (xx + 32768) = xx + 32768 := by rw [IntKind.wrap_u64]; omega
    go_wp2_with fail
    refine (rNeg_h w' xx).mono ?_
    rintro r w ⟨rfl, rfl⟩
    rw [decide_eq_false (by omega)]
    have K0 := Below.refl w.heap.size w
    go_wp2_with fail
    refine (ldigits_h T U xx s ng (by omega) (by omega) (by omega) hng.out.symm).mono ?_
    rintro r w1 ⟨a, tx, q, ok, rfl, dg, K1⟩
    have C := cell3_new w1 (.bool a) (.string tx) (.int .i64 q) 24
    have clt := C.lt
    have KB := below_trans (below_trans K0 K1) (bel_new w1 (.cells #[.bool a, .string tx, .int .i64 q] 24))
    have HD := hide dg
    clear dg
    go_wp2_with fail
    generalize w1.alloc (.cells #[.bool a, .string tx, .int .i64 q] 24) = w2 at *
    refine (ldigits_h (T.below KB) (U.below KB) (xx + 32768) s (!ng) (by omega) (by omega) (by omega) (by rw [← hng.out, decide_eq_false (by omega), decide_eq_true (by omega)]; rfl)).mono ?_
    rintro r w3 ⟨b, ty, p, is, rfl, dg2, K2⟩
    obtain ⟨hok, hcase⟩ := Dg.unique (by decide) s0 HD.out dg2
    subst hok
    replace C := (C.below K2).below (bel_new w3 (.cells #[.bool b, .string ty, .int .i64 p] 24))
    have D : Dc (w3.alloc (.cells #[.bool b, .string ty, .int .i64 p] 24)) w3.heap.size (.bool b) (.string ty) (.int .i64 p) := heap_alloc_new _ _
    have KC := below_trans (below_trans KB K2) (bel_new w3 (.cells #[.bool b, .string ty, .int .i64 p] 24))
    have KS := K1.size
    have KS2 := K2.size
    have WGE := Nat.le_trans KB.size KS2
    have Hw : w1.heap.size ≠ w3.heap.size := by omega
    clear K0 K1 K2 KB HD dg2
    go_upto_region 8 with fail
    generalize w3.alloc (.cells #[.bool b, .string ty, .int .i64 p] 24) = w4 at *
    have c0 := C.c0
    have c1 := C.c1
    have c2 := C.c2
    have d0 := D.c0
    have d1 := D.c1
    have d2 := D.c2
    have df := D.frozen
    rcases hcase with ⟨rfl, hi, e1, e2⟩ | ⟨rfl, hi, t0, q0, e1, e2⟩
    · injection e1 with e1
      injection e2 with e2
      simp at e1 e2
      obtain ⟨rfl, rfl, rfl⟩ := e1
      obtain ⟨rfl, rfl, rfl⟩ := e2
      go_wp2_with fail
      refine (lives6 (T.below KC) (U.below KC)).mono ?_
      rintro r w5 ⟨rfl, K5⟩
      go_wp2
      go_ret
      exact ⟨rfl, below_trans KC K5⟩
    · injection e1 with e1
      injection e2 with e2
      simp at e1 e2
      obtain ⟨rfl, rfl, rfl⟩ := e1
      obtain ⟨rfl, rfl, rfl⟩ := e2
      cases a with
      | false =>
        go_wp2_with fail
        have KF := KC.setCell (p := ⟨w3.heap.size, 0, none⟩) WGE (.bool false)
        refine (lives6 (T.below KF) (U.below KF)).mono ?_
        rintro r w5 ⟨rfl, K5⟩
        go_wp2
        go_ret
        exact ⟨rfl, below_trans KF K5⟩
      | true =>
        go_wp2_with fail
        have KF := KC.setCell (p := ⟨w3.heap.size, 0, none⟩) WGE (.bool true)
        refine (lives6 (T.below KF) (U.below KF)).mono ?_
        rintro r w5 ⟨rfl, K5⟩
        go_wp2
        go_ret
        exact ⟨rfl, below_trans KF K5⟩

set_option maxRecDepth 100000 in
set_option maxHeartbeats 8000000 in
theorem signs_s {w : World} (T : Lays w) (U : Brn w) (x n : Int) (x0 : 0 ≤ x) (x1 : x < 18446744073709551616) (n0 : 0 ≤ n) (n1 : n < 256) (hr : n % 3 = 1) :
    Calls Tryd.prog 4 #[.int .u64 x, .int .u8 n] w fun e w' => e = .returned (.bool true) ∧ Below w.heap.size w w' := by
  go_enter Tryd.func4, Tryd.ntmps4
  go_wp2_with fail
  refine (lwidth_s w n n0 n1 hr).mono ?_
  rintro r w' ⟨rfl, rfl⟩
  go_wp2_with fail
  refine (lcut_s w' x x0 x1).mono ?_
  rintro r w ⟨rfl, rfl⟩
  obtain ⟨xx, hxx⟩ : ∃ a, x % 4294967296 = a := ⟨_, rfl⟩
  have y0 : 0 ≤ xx := by omega
  have y1 : xx < 4294967296 := by omega
  rw [hxx]
  clear hxx hr
  obtain ⟨s, hs⟩ : ∃ a, xx % 2147483648 = a := ⟨_, rfl⟩
  have s0 : 0 ≤ s := by omega
  obtain ⟨ng, hng'⟩ : ∃ b, decide (2147483648 ≤ xx) = b := ⟨_, rfl⟩
  have hng := hide hng'
  clear hng'
  go_wp2_with fail
  refine (rSign_s w).mono ?_
  rintro r w' ⟨rfl, rfl⟩
  by_cases c : 2147483648 ≤ xx
  · have wy : ∃ z, IntKind.u64.wrap (xx + 2147483648) = z := ⟨_, rfl⟩
    obtain ⟨z, hz⟩ := wy
    have wz : IntKind.u64.wrap (xx - 2147483648) = xx - 2147483648 := by rw [IntKind.wrap_u64]; omega
    go_wp2_with fail
    refine (rNeg_s w' xx).mono ?_
    rintro r w ⟨rfl, rfl⟩
    rw [decide_eq_true (by omega)]
    go_wp2_with fail
    refine (rSign_s w).mono ?_
    rintro r w' ⟨rfl, rfl⟩
    have K0 := Below.refl w'.heap.size w'
    go_wp2_with fail
    refine (ldigits_s T U xx s ng (by omega) (by omega) (by omega) hng.out.symm).mono ?_
    rintro r w1 ⟨a, tx, q, ok, rfl, dg, K1⟩
    have C := cell3_new w1 (.bool a) (.string tx) (.int .i64 q) 24
    have clt := C.lt
    have KB := below_trans (below_trans K0 K1) (bel_new w1 (.cells #[.bool a, .string tx, .int .i64 q] 24))
    have HD := hide dg
    clear dg
    go_wp2_with fail
    generalize w1.alloc (.cells #[.bool a, .string tx, .int .i64 q] 24) = w2 at *
    refine (ldigits_s (T.below KB) (U.below KB) (xx - 2147483648) s (!ng) (by omega) (by omega) (by omega) (by rw [← hng.out, decide_eq_true (by omega), decide_eq_false (by omega)]; rfl)).mono ?_
    rintro r w3 ⟨b, ty, p, is, rfl, dg2, K2⟩
    obtain ⟨hok, hcase⟩ := Dg.unique (by decide) s0 HD.out dg2
    subst hok
    replace C := (C.below K2).below (bel_new w3 (.cells #[.bool b, .string ty, .int .i64 p] 24))
    have D : Dc (w3.alloc (.cells #[.bool b, .string ty, .int .i64 p] 24)) w3.heap.size (.bool b) (.string ty) (.int .i64 p) := heap_alloc_new _ _
    have KC := below_trans (below_trans KB K2) (bel_new w3 (.cells #[.bool b, .string ty, .int .i64 p] 24))
    have KS := K1.size
    have KS2 := K2.size
    have WGE := Nat.le_trans KB.size KS2
    have Hw : w1.heap.size ≠ w3.heap.size := by omega
    clear K0 K1 K2 KB HD dg2
    go_upto_region 8 with fail
    generalize w3.alloc (.cells #[.bool b, .string ty, .int .i64 p] 24) = w4 at *
    have c0 := C.c0
    have c1 := C.c1
    have c2 := C.c2
    have d0 := D.c0
    have d1 := D.c1
    have d2 := D.c2
    have df := D.frozen
    rcases hcase with ⟨rfl, hi, e1, e2⟩ | ⟨rfl, hi, t0, q0, e1, e2⟩
    · injection e1 with e1
      injection e2 with e2
      simp at e1 e2
      obtain ⟨rfl, rfl, rfl⟩ := e1
      obtain ⟨rfl, rfl, rfl⟩ := e2
      go_wp2_with fail
      refine (lives6 (T.below KC) (U.below KC)).mono ?_
      rintro r w5 ⟨rfl, K5⟩
      go_wp2
      go_ret
      exact ⟨rfl, below_trans KC K5⟩
    · injection e1 with e1
      injection e2 with e2
      simp at e1 e2
      obtain ⟨rfl, rfl, rfl⟩ := e1
      obtain ⟨rfl, rfl, rfl⟩ := e2
      cases a with
      | false =>
        go_wp2_with fail
        have KF := KC.setCell (p := ⟨w3.heap.size, 0, none⟩) WGE (.bool false)
        refine (lives6 (T.below KF) (U.below KF)).mono ?_
        rintro r w5 ⟨rfl, K5⟩
        go_wp2
        go_ret
        exact ⟨rfl, below_trans KF K5⟩
      | true =>
        go_wp2_with fail
        have KF := KC.setCell (p := ⟨w3.heap.size, 0, none⟩) WGE (.bool true)
        refine (lives6 (T.below KF) (U.below KF)).mono ?_
        rintro r w5 ⟨rfl, K5⟩
        go_wp2
        go_ret
        exact ⟨rfl, below_trans KF K5⟩
  · have wz : IntKind.u64.wrap (xx + 2147483648) = xx + 2147483648 := by rw [IntKind.wrap_u64]; omega
    go_wp2_with fail
    refine (rNeg_s w' xx).mono ?_
    rintro r w ⟨rfl, rfl⟩
    rw [decide_eq_false (by omega)]
    have K0 := Below.refl w.heap.size w
    go_wp2_with fail
    refine (ldigits_s T U xx s ng (by omega) (by omega) (by omega) hng.out.symm).mono ?_
    rintro r w1 ⟨a, tx, q, ok, rfl, dg, K1⟩
    have C := cell3_new w1 (.bool a) (.string tx) (.int .i64 q) 24
    have clt := C.lt
    have KB := below_trans (below_trans K0 K1) (bel_new w1 (.cells #[.bool a, .string tx, .int .i64 q] 24))
    have HD := hide dg
    clear dg
    go_wp2_with fail
    generalize w1.alloc (.cells #[.bool a, .string tx, .int .i64 q] 24) = w2 at *
    refine (ldigits_s (T.below KB) (U.below KB) (xx + 2147483648) s (!ng) (by omega) (by omega) (by omega) (by rw [← hng.out, decide_eq_false (by omega), decide_eq_true (by omega)]; rfl)).mono ?_
    rintro r w3 ⟨b, ty, p, is, rfl, dg2, K2⟩
    obtain ⟨hok, hcase⟩ := Dg.unique (by decide) s0 HD.out dg2
    subst hok
    replace C := (C.below K2).below (bel_new w3 (.cells #[.bool b, .string ty, .int .i64 p] 24))
    have D : Dc (w3.alloc (.cells #[.bool b, .string ty, .int .i64 p] 24)) w3.heap.size (.bool b) (.string ty) (.int .i64 p) := heap_alloc_new _ _
    have KC := below_trans (below_trans KB K2) (bel_new w3 (.cells #[.bool b, .string ty, .int .i64 p] 24))
    have KS := K1.size
    have KS2 := K2.size
    have WGE := Nat.le_trans KB.size KS2
    have Hw : w1.heap.size ≠ w3.heap.size := by omega
    clear K0 K1 K2 KB HD dg2
    go_upto_region 8 with fail
    generalize w3.alloc (.cells #[.bool b, .string ty, .int .i64 p] 24) = w4 at *
    have c0 := C.c0
    have c1 := C.c1
    have c2 := C.c2
    have d0 := D.c0
    have d1 := D.c1
    have d2 := D.c2
    have df := D.frozen
    rcases hcase with ⟨rfl, hi, e1, e2⟩ | ⟨rfl, hi, t0, q0, e1, e2⟩
    · injection e1 with e1
      injection e2 with e2
      simp at e1 e2
      obtain ⟨rfl, rfl, rfl⟩ := e1
      obtain ⟨rfl, rfl, rfl⟩ := e2
      go_wp2_with fail
      refine (lives6 (T.below KC) (U.below KC)).mono ?_
      rintro r w5 ⟨rfl, K5⟩
      go_wp2
      go_ret
      exact ⟨rfl, below_trans KC K5⟩
    · injection e1 with e1
      injection e2 with e2
      simp at e1 e2
      obtain ⟨rfl, rfl, rfl⟩ := e1
      obtain ⟨rfl, rfl, rfl⟩ := e2
      cases a with
      | false =>
        go_wp2_with fail
        have KF := KC.setCell (p := ⟨w3.heap.size, 0, none⟩) WGE (.bool false)
        refine (lives6 (T.below KF) (U.below KF)).mono ?_
        rintro r w5 ⟨rfl, K5⟩
        go_wp2
        go_ret
        exact ⟨rfl, below_trans KF K5⟩
      | true =>
        go_wp2_with fail
        have KF := KC.setCell (p := ⟨w3.heap.size, 0, none⟩) WGE (.bool true)
        refine (lives6 (T.below KF) (U.below KF)).mono ?_
        rintro r w5 ⟨rfl, K5⟩
        go_wp2
        go_ret
        exact ⟨rfl, below_trans KF K5⟩

set_option maxRecDepth 100000 in
set_option maxHeartbeats 8000000 in
theorem signs_d {w : World} (T : Lays w) (U : Brn w) (x n : Int) (x0 : 0 ≤ x) (x1 : x < 18446744073709551616) (n0 : 0 ≤ n) (n1 : n < 256) (hr : n % 3 = 2) :
    Calls Tryd.prog 4 #[.int .u64 x, .int .u8 n] w fun e w' => e = .returned (.bool true) ∧ Below w.heap.size w w' := by
  go_enter Tryd.func4, Tryd.ntmps4
  go_wp2_with fail
  refine (lwidth_d w n n0 n1 hr).mono ?_
  rintro r w' ⟨rfl, rfl⟩
  go_wp2_with fail
  refine (lcut_d w' x x0 x1).mono ?_
  rintro r w ⟨rfl, rfl⟩
  obtain ⟨xx, hxx⟩ : ∃ a, x % 18446744073709551616 = a := ⟨_, rfl⟩
  have y0 : 0 ≤ xx := by omega
  have y1 : xx < 18446744073709551616 := by omega
  rw [hxx]
  clear hxx hr
  obtain ⟨s, hs⟩ : ∃ a, xx % 9223372036854775808 = a := ⟨_, rfl⟩
  have s0 : 0 ≤ s := by omega
  obtain ⟨ng, hng'⟩ : ∃ b, decide (9223372036854775808 ≤ xx) = b := ⟨_, rfl⟩
  have hng := hide hng'
  clear hng'
  go_wp2_with fail
  refine (rSign_d w).mono ?_
  rintro r w' ⟨rfl, rfl⟩
  by_cases c : 9223372036854775808 ≤ xx
  · have wy : ∃ z, IntKind.u64.wrap (xx + 9223372036854775808) = z := ⟨_, rfl⟩
    obtain ⟨z, hz⟩ := wy
    have wz : IntKind.u64.wrap (xx - 9223372036854775808) = xx - 9223372036854775808 := by rw [IntKind.wrap_u64]; omega
    go_wp2_with fail
    refine (rNeg_d w' xx).mono ?_
    rintro r w ⟨rfl, rfl⟩
    rw [decide_eq_true (by omega)]
    go_wp2_with fail
    refine (rSign_d w).mono ?_
    rintro r w' ⟨rfl, rfl⟩
    have K0 := Below.refl w'.heap.size w'
    go_wp2_with fail
    refine (ldigits_d T U xx s ng (by omega) (by omega) (by omega) hng.out.symm).mono ?_
    rintro r w1 ⟨a, tx, q, ok, rfl, dg, K1⟩
    have C := cell3_new w1 (.bool a) (.string tx) (.int .i64 q) 24
    have clt := C.lt
    have KB := below_trans (below_trans K0 K1) (bel_new w1 (.cells #[.bool a, .string tx, .int .i64 q] 24))
    have HD := hide dg
    clear dg
    go_wp2_with fail
    generalize w1.alloc (.cells #[.bool a, .string tx, .int .i64 q] 24) = w2 at *
    refine (ldigits_d (T.below KB) (U.below KB) (xx - 9223372036854775808) s (!ng) (by omega) (by omega) (by omega) (by rw [← hng.out, decide_eq_true (by omega), decide_eq_false (by omega)]; rfl)).mono ?_
    rintro r w3 ⟨b, ty, p, is, rfl, dg2, K2⟩
    obtain ⟨hok, hcase⟩ := Dg.unique (by decide) s0 HD.out dg2
    subst hok
    replace C := (C.below K2).below (bel_new w3 (.cells #[.bool b, .string ty, .int .i64 p] 24))
    have D : Dc (w3.alloc (.cells #[.bool b, .string ty, .int .i64 p] 24)) w3.heap.size (.bool b) (.string ty) (.int .i64 p) := heap_alloc_new _ _
    have KC := below_trans (below_trans KB K2) (bel_new w3 (.cells #[.bool b, .string ty, .int .i64 p] 24))
    have KS := K1.size
    have KS2 := K2.size
    have WGE := Nat.le_trans KB.size KS2
    have Hw : w1.heap.size ≠ w3.heap.size := by omega
    clear K0 K1 K2 KB HD dg2
    go_upto_region 8 with fail
    generalize w3.alloc (.cells #[.bool b, .string ty, .int .i64 p] 24) = w4 at *
    have c0 := C.c0
    have c1 := C.c1
    have c2 := C.c2
    have d0 := D.c0
    have d1 := D.c1
    have d2 := D.c2
    have df := D.frozen
    rcases hcase with ⟨rfl, hi, e1, e2⟩ | ⟨rfl, hi, t0, q0, e1, e2⟩
    · injection e1 with e1
      injection e2 with e2
      simp at e1 e2
      obtain ⟨rfl, rfl, rfl⟩ := e1
      obtain ⟨rfl, rfl, rfl⟩ := e2
      go_wp2_with fail
      refine (lives6 (T.below KC) (U.below KC)).mono ?_
      rintro r w5 ⟨rfl, K5⟩
      go_wp2
      go_ret
      exact ⟨rfl, below_trans KC K5⟩
    · injection e1 with e1
      injection e2 with e2
      simp at e1 e2
      obtain ⟨rfl, rfl, rfl⟩ := e1
      obtain ⟨rfl, rfl, rfl⟩ := e2
      cases a with
      | false =>
        go_wp2_with fail
        have KF := KC.setCell (p := ⟨w3.heap.size, 0, none⟩) WGE (.bool false)
        refine (lives6 (T.below KF) (U.below KF)).mono ?_
        rintro r w5 ⟨rfl, K5⟩
        go_wp2
        go_ret
        exact ⟨rfl, below_trans KF K5⟩
      | true =>
        go_wp2_with fail
        have KF := KC.setCell (p := ⟨w3.heap.size, 0, none⟩) WGE (.bool true)
        refine (lives6 (T.below KF) (U.below KF)).mono ?_
        rintro r w5 ⟨rfl, K5⟩
        go_wp2
        go_ret
        exact ⟨rfl, below_trans KF K5⟩
  · have wz : IntKind.u64.wrap (xx + 9223372036854775808) = xx + 9223372036854775808 := by rw [IntKind.wrap_u64]; omega
    go_wp2_with fail
    refine (rNeg_d w' xx).mono ?_
    rintro r w ⟨rfl, rfl⟩
    rw [decide_eq_false (by omega)]
    have K0 := Below.refl w.heap.size w
    go_wp2_with fail
    refine (ldigits_d T U xx s ng (by omega) (by omega) (by omega) hng.out.symm).mono ?_
    rintro r w1 ⟨a, tx, q, ok, rfl, dg, K1⟩
    have C := cell3_new w1 (.bool a) (.string tx) (.int .i64 q) 24
    have clt := C.lt
    have KB := below_trans (below_trans K0 K1) (bel_new w1 (.cells #[.bool a, .string tx, .int .i64 q] 24))
    have HD := hide dg
    clear dg
    go_wp2_with fail
    generalize w1.alloc (.cells #[.bool a, .string tx, .int .i64 q] 24) = w2 at *
    refine (ldigits_d (T.below KB) (U.below KB) (xx + 9223372036854775808) s (!ng) (by omega) (by omega) (by omega) (by rw [← hng.out, decide_eq_false (by omega), decide_eq_true (by omega)]; rfl)).mono ?_
    rintro r w3 ⟨b, ty, p, is, rfl, dg2, K2⟩
    obtain ⟨hok, hcase⟩ := Dg.unique (by decide) s0 HD.out dg2
    subst hok
    replace C := (C.below K2).below (bel_new w3 (.cells #[.bool b, .string ty, .int .i64 p] 24))
    have D : Dc (w3.alloc (.cells #[.bool b, .string ty, .int .i64 p] 24)) w3.heap.size (.bool b) (.string ty) (.int .i64 p) := heap_alloc_new _ _
    have KC := below_trans (below_trans KB K2) (bel_new w3 (.cells #[.bool b, .string ty, .int .i64 p] 24))
    have KS := K1.size
    have KS2 := K2.size
    have WGE := Nat.le_trans KB.size KS2
    have Hw : w1.heap.size ≠ w3.heap.size := by omega
    clear K0 K1 K2 KB HD dg2
    go_upto_region 8 with fail
    generalize w3.alloc (.cells #[.bool b, .string ty, .int .i64 p] 24) = w4 at *
    have c0 := C.c0
    have c1 := C.c1
    have c2 := C.c2
    have d0 := D.c0
    have d1 := D.c1
    have d2 := D.c2
    have df := D.frozen
    rcases hcase with ⟨rfl, hi, e1, e2⟩ | ⟨rfl, hi, t0, q0, e1, e2⟩
    · injection e1 with e1
      injection e2 with e2
      simp at e1 e2
      obtain ⟨rfl, rfl, rfl⟩ := e1
      obtain ⟨rfl, rfl, rfl⟩ := e2
      go_wp2_with fail
      refine (lives6 (T.below KC) (U.below KC)).mono ?_
      rintro r w5 ⟨rfl, K5⟩
      go_wp2
      go_ret
      exact ⟨rfl, below_trans KC K5⟩
    · injection e1 with e1
      injection e2 with e2
      simp at e1 e2
      obtain ⟨rfl, rfl, rfl⟩ := e1
      obtain ⟨rfl, rfl, rfl⟩ := e2
      cases a with
      | false =>
        go_wp2_with fail
        have KF := KC.setCell (p := ⟨w3.heap.size, 0, none⟩) WGE (.bool false)
        refine (lives6 (T.below KF) (U.below KF)).mono ?_
        rintro r w5 ⟨rfl, K5⟩
        go_wp2
        go_ret
        exact ⟨rfl, below_trans KF K5⟩
      | true =>
        go_wp2_with fail
        have KF := KC.setCell (p := ⟨w3.heap.size, 0, none⟩) WGE (.bool true)
        refine (lives6 (T.below KF) (U.below KF)).mono ?_
        rintro r w5 ⟨rfl, K5⟩
        go_wp2
        go_ret
        exact ⟨rfl, below_trans KF K5⟩

theorem signs_walk {w : World} (h : Lays w ∧ Brn w) (x : Int) (x0 : 0 ≤ x) (x1 : x < 18446744073709551616) (n : Int) (n0 : 0 ≤ n) (n1 : n < 256) :
    Calls Tryd.prog 4 #[.int .u64 x, .int .u8 n] w fun e w' => e = .returned (.bool true) ∧ Below w.heap.size w w' := by
  have : n % 3 = 0 ∨ n % 3 = 1 ∨ n % 3 = 2 := by omega
  rcases this with r | r | r
  · exact signs_h h.1 h.2 x n x0 x1 n0 n1 r
  · exact signs_s h.1 h.2 x n x0 x1 n0 n1 r
  · exact signs_d h.1 h.2 x n x0 x1 n0 n1 r

end Go.Proofs.YtlhjbmdkfdabmaaDoor
