/- cruciblelaw04: the helpers, a width each (mk_ieeer.py) -/
import Derived.Test.YtomjckginmjhmaaDoorIeeeG
import Derived.Test.YtomjckginmjhmaaDoorIeeeR
namespace Go.Proofs.YtomjckginmjhmaaDoor
open Go.RowKit
set_option linter.unusedVariables false

theorem lfit_0 (w : World) (v : Int) (v0 : 0 ≤ v) (v1 : v < 256) (hv : v % 4 = 0) (x : Int) (x0 : 0 ≤ x) (x1 : x < 18446744073709551616) : Calls Tryd.prog 7 #[.int .u8 v, .int .u64 x] w fun e w' => e = .returned (.int .u64 (x % 65536)) ∧ w' = w := by
  go_enter Tryd.func7, Tryd.ntmps7
  go_wp2
  go_ret
  exact ⟨ret_int (by first | omega | (simp [IntKind.wrap, IntKind.bits, IntKind.signed]; omega)), rfl⟩

theorem lwidth_0 (w : World) (v : Int) (v0 : 0 ≤ v) (v1 : v < 256) (hv : v % 4 = 0) : Calls Tryd.prog 10 #[.int .u8 v] w fun e w' => e = .returned (.int .i64 16) ∧ w' = w := by
  go_enter Tryd.func10, Tryd.ntmps10
  go_wp2
  go_ret
  exact ⟨rfl, rfl⟩

theorem lsign_0 (w : World) (v : Int) (v0 : 0 ≤ v) (v1 : v < 256) (hv : v % 4 = 0) : Calls Tryd.prog 23 #[.int .u8 v] w fun e w' => e = .returned (.int .u64 32768) ∧ w' = w := by
  go_enter Tryd.func23, Tryd.ntmps23
  go_wp2
  go_ret
  exact ⟨rfl, rfl⟩

theorem ltop_0 (w : World) (v : Int) (v0 : 0 ≤ v) (v1 : v < 256) (hv : v % 4 = 0) : Calls Tryd.prog 24 #[.int .u8 v] w fun e w' => e = .returned (.int .u64 31744) ∧ w' = w := by
  go_enter Tryd.func24, Tryd.ntmps24
  go_wp2
  go_ret
  exact ⟨rfl, rfl⟩

theorem lcmp_0 {w : World} (L : Lays w) (v : Int) (v0 : 0 ≤ v) (v1 : v < 256) (hv : v % 4 = 0) (x y : Int) (h0 : 0 ≤ x) (h1 : x < 65536) (g0 : 0 ≤ y) (g1 : y < 65536) : Calls Tryd.prog 16 #[.int .u8 v, .int .u64 x, .int .u64 y] w fun e w' => e = .returned (.tuple #[.int .i64 (cmpC 32768 1024 x y), .bool (cmpOk 32768 1024 x y)]) ∧ Below w.heap.size w w' := by
  go_enter Tryd.func16, Tryd.ntmps16
  go_wp2_with fail
  with_reducible refine (cmp_16 L x y h0 h1 g0 g1).mono ?_
  rintro e v121 ⟨rfl, K⟩
  generalize hA : cmpC 32768 1024 x y = a at *
  generalize hB : cmpOk 32768 1024 x y = b at *
  go_wp2
  go_ret2
  exact ⟨by first | rfl | (rw [hA, hB]; rfl), K⟩

theorem ltotal_0 {w : World} (L : Lays w) (v : Int) (v0 : 0 ≤ v) (v1 : v < 256) (hv : v % 4 = 0) (x y : Int) (h0 : 0 ≤ x) (h1 : x < 65536) (g0 : 0 ≤ y) (g1 : y < 65536) : Calls Tryd.prog 18 #[.int .u8 v, .int .u64 x, .int .u64 y] w fun e w' => e = .returned (.int .i64 (tri (rk 32768 x) (rk 32768 y))) ∧ Below w.heap.size w w' := by
  go_enter Tryd.func18, Tryd.ntmps18
  go_wp2_with fail
  with_reducible refine (total_16 L x y h0 h1 g0 g1).mono ?_
  rintro e v122 ⟨rfl, K⟩
  generalize hA : tri (rk 32768 x) (rk 32768 y) = a at *
  go_wp2
  go_ret
  exact ⟨by first | rfl | (rw [hA]; rfl), K⟩

theorem nxt_0 (x : Int) (h0 : 0 ≤ x) (h1 : x < 65536) : 0 ≤ nxt 32768 1024 x ∧ nxt 32768 1024 x < 65536 := by
  unfold nxt
  repeat' split
  all_goals omega

theorem lnext_0 {w : World} (L : Lays w) (v : Int) (v0 : 0 ≤ v) (v1 : v < 256) (hv : v % 4 = 0) (x : Int) (h0 : 0 ≤ x) (h1 : x < 65536) : Calls Tryd.prog 20 #[.int .u8 v, .int .u64 x] w fun e w' => e = .returned (.int .u64 (nxt 32768 1024 x)) ∧ Below w.heap.size w w' := by
  obtain ⟨n0, n1⟩ := nxt_0 x h0 h1
  go_enter Tryd.func20, Tryd.ntmps20
  go_wp2_with fail
  with_reducible refine (next_16 L x h0 h1).mono ?_
  rintro e v123 ⟨rfl, K⟩
  generalize hA : nxt 32768 1024 x = a at *
  go_wp2
  go_ret
  exact ⟨by first | rfl | (rw [hA]; rfl), K⟩

theorem lfit_1 (w : World) (v : Int) (v0 : 0 ≤ v) (v1 : v < 256) (hv : v % 4 = 1) (x : Int) (x0 : 0 ≤ x) (x1 : x < 18446744073709551616) : Calls Tryd.prog 7 #[.int .u8 v, .int .u64 x] w fun e w' => e = .returned (.int .u64 (x % 4294967296)) ∧ w' = w := by
  go_enter Tryd.func7, Tryd.ntmps7
  go_wp2
  go_ret
  exact ⟨ret_int (by first | omega | (simp [IntKind.wrap, IntKind.bits, IntKind.signed]; omega)), rfl⟩

theorem lwidth_1 (w : World) (v : Int) (v0 : 0 ≤ v) (v1 : v < 256) (hv : v % 4 = 1) : Calls Tryd.prog 10 #[.int .u8 v] w fun e w' => e = .returned (.int .i64 32) ∧ w' = w := by
  go_enter Tryd.func10, Tryd.ntmps10
  go_wp2
  go_ret
  exact ⟨rfl, rfl⟩

theorem lsign_1 (w : World) (v : Int) (v0 : 0 ≤ v) (v1 : v < 256) (hv : v % 4 = 1) : Calls Tryd.prog 23 #[.int .u8 v] w fun e w' => e = .returned (.int .u64 2147483648) ∧ w' = w := by
  go_enter Tryd.func23, Tryd.ntmps23
  go_wp2
  go_ret
  exact ⟨rfl, rfl⟩

theorem ltop_1 (w : World) (v : Int) (v0 : 0 ≤ v) (v1 : v < 256) (hv : v % 4 = 1) : Calls Tryd.prog 24 #[.int .u8 v] w fun e w' => e = .returned (.int .u64 2139095040) ∧ w' = w := by
  go_enter Tryd.func24, Tryd.ntmps24
  go_wp2
  go_ret
  exact ⟨rfl, rfl⟩

theorem lcmp_1 {w : World} (L : Lays w) (v : Int) (v0 : 0 ≤ v) (v1 : v < 256) (hv : v % 4 = 1) (x y : Int) (h0 : 0 ≤ x) (h1 : x < 4294967296) (g0 : 0 ≤ y) (g1 : y < 4294967296) : Calls Tryd.prog 16 #[.int .u8 v, .int .u64 x, .int .u64 y] w fun e w' => e = .returned (.tuple #[.int .i64 (cmpC 2147483648 8388608 x y), .bool (cmpOk 2147483648 8388608 x y)]) ∧ Below w.heap.size w w' := by
  go_enter Tryd.func16, Tryd.ntmps16
  go_wp2_with fail
  with_reducible refine (cmp_32 L x y h0 h1 g0 g1).mono ?_
  rintro e v124 ⟨rfl, K⟩
  generalize hA : cmpC 2147483648 8388608 x y = a at *
  generalize hB : cmpOk 2147483648 8388608 x y = b at *
  go_wp2
  go_ret2
  exact ⟨by first | rfl | (rw [hA, hB]; rfl), K⟩

theorem ltotal_1 {w : World} (L : Lays w) (v : Int) (v0 : 0 ≤ v) (v1 : v < 256) (hv : v % 4 = 1) (x y : Int) (h0 : 0 ≤ x) (h1 : x < 4294967296) (g0 : 0 ≤ y) (g1 : y < 4294967296) : Calls Tryd.prog 18 #[.int .u8 v, .int .u64 x, .int .u64 y] w fun e w' => e = .returned (.int .i64 (tri (rk 2147483648 x) (rk 2147483648 y))) ∧ Below w.heap.size w w' := by
  go_enter Tryd.func18, Tryd.ntmps18
  go_wp2_with fail
  with_reducible refine (total_32 L x y h0 h1 g0 g1).mono ?_
  rintro e v125 ⟨rfl, K⟩
  generalize hA : tri (rk 2147483648 x) (rk 2147483648 y) = a at *
  go_wp2
  go_ret
  exact ⟨by first | rfl | (rw [hA]; rfl), K⟩

theorem nxt_1 (x : Int) (h0 : 0 ≤ x) (h1 : x < 4294967296) : 0 ≤ nxt 2147483648 8388608 x ∧ nxt 2147483648 8388608 x < 4294967296 := by
  unfold nxt
  repeat' split
  all_goals omega

theorem lnext_1 {w : World} (L : Lays w) (v : Int) (v0 : 0 ≤ v) (v1 : v < 256) (hv : v % 4 = 1) (x : Int) (h0 : 0 ≤ x) (h1 : x < 4294967296) : Calls Tryd.prog 20 #[.int .u8 v, .int .u64 x] w fun e w' => e = .returned (.int .u64 (nxt 2147483648 8388608 x)) ∧ Below w.heap.size w w' := by
  obtain ⟨n0, n1⟩ := nxt_1 x h0 h1
  go_enter Tryd.func20, Tryd.ntmps20
  go_wp2_with fail
  with_reducible refine (next_32 L x h0 h1).mono ?_
  rintro e v126 ⟨rfl, K⟩
  generalize hA : nxt 2147483648 8388608 x = a at *
  go_wp2
  go_ret
  exact ⟨by first | rfl | (rw [hA]; rfl), K⟩

theorem lfit_2 (w : World) (v : Int) (v0 : 0 ≤ v) (v1 : v < 256) (hv : v % 4 = 2) (x : Int) (x0 : 0 ≤ x) (x1 : x < 18446744073709551616) : Calls Tryd.prog 7 #[.int .u8 v, .int .u64 x] w fun e w' => e = .returned (.int .u64 (x % 18446744073709551616)) ∧ w' = w := by
  go_enter Tryd.func7, Tryd.ntmps7
  go_wp2
  go_ret
  exact ⟨ret_int (by first | omega | (simp [IntKind.wrap, IntKind.bits, IntKind.signed]; omega)), rfl⟩

theorem lwidth_2 (w : World) (v : Int) (v0 : 0 ≤ v) (v1 : v < 256) (hv : v % 4 = 2) : Calls Tryd.prog 10 #[.int .u8 v] w fun e w' => e = .returned (.int .i64 64) ∧ w' = w := by
  go_enter Tryd.func10, Tryd.ntmps10
  go_wp2
  go_ret
  exact ⟨rfl, rfl⟩

theorem lsign_2 (w : World) (v : Int) (v0 : 0 ≤ v) (v1 : v < 256) (hv : v % 4 = 2) : Calls Tryd.prog 23 #[.int .u8 v] w fun e w' => e = .returned (.int .u64 9223372036854775808) ∧ w' = w := by
  go_enter Tryd.func23, Tryd.ntmps23
  go_wp2
  go_ret
  exact ⟨rfl, rfl⟩

theorem ltop_2 (w : World) (v : Int) (v0 : 0 ≤ v) (v1 : v < 256) (hv : v % 4 = 2) : Calls Tryd.prog 24 #[.int .u8 v] w fun e w' => e = .returned (.int .u64 9218868437227405312) ∧ w' = w := by
  go_enter Tryd.func24, Tryd.ntmps24
  go_wp2
  go_ret
  exact ⟨rfl, rfl⟩

theorem lcmp_2 {w : World} (L : Lays w) (v : Int) (v0 : 0 ≤ v) (v1 : v < 256) (hv : v % 4 = 2) (x y : Int) (h0 : 0 ≤ x) (h1 : x < 18446744073709551616) (g0 : 0 ≤ y) (g1 : y < 18446744073709551616) : Calls Tryd.prog 16 #[.int .u8 v, .int .u64 x, .int .u64 y] w fun e w' => e = .returned (.tuple #[.int .i64 (cmpC 9223372036854775808 4503599627370496 x y), .bool (cmpOk 9223372036854775808 4503599627370496 x y)]) ∧ Below w.heap.size w w' := by
  go_enter Tryd.func16, Tryd.ntmps16
  go_wp2_with fail
  with_reducible refine (cmp_64 L x y h0 h1 g0 g1).mono ?_
  rintro e v127 ⟨rfl, K⟩
  generalize hA : cmpC 9223372036854775808 4503599627370496 x y = a at *
  generalize hB : cmpOk 9223372036854775808 4503599627370496 x y = b at *
  go_wp2
  go_ret2
  exact ⟨by first | rfl | (rw [hA, hB]; rfl), K⟩

theorem ltotal_2 {w : World} (L : Lays w) (v : Int) (v0 : 0 ≤ v) (v1 : v < 256) (hv : v % 4 = 2) (x y : Int) (h0 : 0 ≤ x) (h1 : x < 18446744073709551616) (g0 : 0 ≤ y) (g1 : y < 18446744073709551616) : Calls Tryd.prog 18 #[.int .u8 v, .int .u64 x, .int .u64 y] w fun e w' => e = .returned (.int .i64 (tri (rk 9223372036854775808 x) (rk 9223372036854775808 y))) ∧ Below w.heap.size w w' := by
  go_enter Tryd.func18, Tryd.ntmps18
  go_wp2_with fail
  with_reducible refine (total_64 L x y h0 h1 g0 g1).mono ?_
  rintro e v128 ⟨rfl, K⟩
  generalize hA : tri (rk 9223372036854775808 x) (rk 9223372036854775808 y) = a at *
  go_wp2
  go_ret
  exact ⟨by first | rfl | (rw [hA]; rfl), K⟩

theorem nxt_2 (x : Int) (h0 : 0 ≤ x) (h1 : x < 18446744073709551616) : 0 ≤ nxt 9223372036854775808 4503599627370496 x ∧ nxt 9223372036854775808 4503599627370496 x < 18446744073709551616 := by
  unfold nxt
  repeat' split
  all_goals omega

theorem lnext_2 {w : World} (L : Lays w) (v : Int) (v0 : 0 ≤ v) (v1 : v < 256) (hv : v % 4 = 2) (x : Int) (h0 : 0 ≤ x) (h1 : x < 18446744073709551616) : Calls Tryd.prog 20 #[.int .u8 v, .int .u64 x] w fun e w' => e = .returned (.int .u64 (nxt 9223372036854775808 4503599627370496 x)) ∧ Below w.heap.size w w' := by
  obtain ⟨n0, n1⟩ := nxt_2 x h0 h1
  go_enter Tryd.func20, Tryd.ntmps20
  go_wp2_with fail
  with_reducible refine (next_64 L x h0 h1).mono ?_
  rintro e v129 ⟨rfl, K⟩
  generalize hA : nxt 9223372036854775808 4503599627370496 x = a at *
  go_wp2
  go_ret
  exact ⟨by first | rfl | (rw [hA]; rfl), K⟩

theorem lfit_3 (w : World) (v : Int) (v0 : 0 ≤ v) (v1 : v < 256) (hv : v % 4 = 3) (x : Int) (x0 : 0 ≤ x) (x1 : x < 18446744073709551616) : Calls Tryd.prog 7 #[.int .u8 v, .int .u64 x] w fun e w' => e = .returned (.int .u64 (x % 4294967296)) ∧ w' = w := by
  go_enter Tryd.func7, Tryd.ntmps7
  go_wp2
  go_ret
  exact ⟨ret_int (by first | omega | (simp [IntKind.wrap, IntKind.bits, IntKind.signed]; omega)), rfl⟩

theorem lwidth_3 (w : World) (v : Int) (v0 : 0 ≤ v) (v1 : v < 256) (hv : v % 4 = 3) : Calls Tryd.prog 10 #[.int .u8 v] w fun e w' => e = .returned (.int .i64 32) ∧ w' = w := by
  go_enter Tryd.func10, Tryd.ntmps10
  go_wp2
  go_ret
  exact ⟨rfl, rfl⟩

theorem lsign_3 (w : World) (v : Int) (v0 : 0 ≤ v) (v1 : v < 256) (hv : v % 4 = 3) : Calls Tryd.prog 23 #[.int .u8 v] w fun e w' => e = .returned (.int .u64 2147483648) ∧ w' = w := by
  go_enter Tryd.func23, Tryd.ntmps23
  go_wp2
  go_ret
  exact ⟨rfl, rfl⟩

theorem ltop_3 (w : World) (v : Int) (v0 : 0 ≤ v) (v1 : v < 256) (hv : v % 4 = 3) : Calls Tryd.prog 24 #[.int .u8 v] w fun e w' => e = .returned (.int .u64 2139095040) ∧ w' = w := by
  go_enter Tryd.func24, Tryd.ntmps24
  go_wp2
  go_ret
  exact ⟨rfl, rfl⟩

theorem lcmp_3 {w : World} (L : Lays w) (v : Int) (v0 : 0 ≤ v) (v1 : v < 256) (hv : v % 4 = 3) (x y : Int) (h0 : 0 ≤ x) (h1 : x < 4294967296) (g0 : 0 ≤ y) (g1 : y < 4294967296) : Calls Tryd.prog 16 #[.int .u8 v, .int .u64 x, .int .u64 y] w fun e w' => e = .returned (.tuple #[.int .i64 (cmpC 2147483648 8388608 x y), .bool (cmpOk 2147483648 8388608 x y)]) ∧ Below w.heap.size w w' := by
  go_enter Tryd.func16, Tryd.ntmps16
  go_wp2_with fail
  with_reducible refine (cmp_m L x y h0 h1 g0 g1).mono ?_
  rintro e v130 ⟨rfl, K⟩
  generalize hA : cmpC 2147483648 8388608 x y = a at *
  generalize hB : cmpOk 2147483648 8388608 x y = b at *
  go_wp2
  go_ret2
  exact ⟨by first | rfl | (rw [hA, hB]; rfl), K⟩

theorem ltotal_3 {w : World} (L : Lays w) (v : Int) (v0 : 0 ≤ v) (v1 : v < 256) (hv : v % 4 = 3) (x y : Int) (h0 : 0 ≤ x) (h1 : x < 4294967296) (g0 : 0 ≤ y) (g1 : y < 4294967296) : Calls Tryd.prog 18 #[.int .u8 v, .int .u64 x, .int .u64 y] w fun e w' => e = .returned (.int .i64 (tri (rk 2147483648 x) (rk 2147483648 y))) ∧ Below w.heap.size w w' := by
  go_enter Tryd.func18, Tryd.ntmps18
  go_wp2_with fail
  with_reducible refine (total_m L x y h0 h1 g0 g1).mono ?_
  rintro e v131 ⟨rfl, K⟩
  generalize hA : tri (rk 2147483648 x) (rk 2147483648 y) = a at *
  go_wp2
  go_ret
  exact ⟨by first | rfl | (rw [hA]; rfl), K⟩

theorem nxt_3 (x : Int) (h0 : 0 ≤ x) (h1 : x < 4294967296) : 0 ≤ nxt 2147483648 8388608 x ∧ nxt 2147483648 8388608 x < 4294967296 := by
  unfold nxt
  repeat' split
  all_goals omega

theorem lnext_3 {w : World} (L : Lays w) (v : Int) (v0 : 0 ≤ v) (v1 : v < 256) (hv : v % 4 = 3) (x : Int) (h0 : 0 ≤ x) (h1 : x < 4294967296) : Calls Tryd.prog 20 #[.int .u8 v, .int .u64 x] w fun e w' => e = .returned (.int .u64 (nxt 2147483648 8388608 x)) ∧ Below w.heap.size w w' := by
  obtain ⟨n0, n1⟩ := nxt_3 x h0 h1
  go_enter Tryd.func20, Tryd.ntmps20
  go_wp2_with fail
  with_reducible refine (next_m L x h0 h1).mono ?_
  rintro e v132 ⟨rfl, K⟩
  generalize hA : nxt 2147483648 8388608 x = a at *
  go_wp2
  go_ret
  exact ⟨by first | rfl | (rw [hA]; rfl), K⟩

end Go.Proofs.YtomjckginmjhmaaDoor
