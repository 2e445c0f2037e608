/- cruciblelaw04: the helpers, a width each (mk_ieeer.py) -/
import Derived.Test.YtmmkdihhcmcjjaaDoorIeeeG
import Derived.Test.YtmmkdihhcmcjjaaDoorIeeeR
namespace Go.Proofs.YtmmkdihhcmcjjaaDoor
open Go.RowKit
set_option linter.unusedVariables false

theorem lfit_0 (w : World) (v : Int) (v0 : 0 ≤ v) (v1 : v < 256) (hv : v % 4 = 0) (x : Int) (x0 : 0 ≤ x) (x1 : x < 18446744073709551616) : Calls Tryd.prog 15 #[.int .u8 v, .int .u64 x] w fun e w' => e = .returned (.int .u64 (x % 65536)) ∧ w' = w := by
  go_enter Tryd.func15, Tryd.ntmps15
  go_wp2
  go_ret
  exact ⟨ret_int (by first | omega | (simp [IntKind.wrap, IntKind.bits, IntKind.signed]; omega)), rfl⟩

theorem lwidth_0 (w : World) (v : Int) (v0 : 0 ≤ v) (v1 : v < 256) (hv : v % 4 = 0) : Calls Tryd.prog 13 #[.int .u8 v] w fun e w' => e = .returned (.int .i64 16) ∧ w' = w := by
  go_enter Tryd.func13, Tryd.ntmps13
  go_wp2
  go_ret
  exact ⟨rfl, rfl⟩

theorem lsign_0 (w : World) (v : Int) (v0 : 0 ≤ v) (v1 : v < 256) (hv : v % 4 = 0) : Calls Tryd.prog 23 #[.int .u8 v] w fun e w' => e = .returned (.int .u64 32768) ∧ w' = w := by
  go_enter Tryd.func23, Tryd.ntmps23
  go_wp2
  go_ret
  exact ⟨rfl, rfl⟩

theorem ltop_0 (w : World) (v : Int) (v0 : 0 ≤ v) (v1 : v < 256) (hv : v % 4 = 0) : Calls Tryd.prog 25 #[.int .u8 v] w fun e w' => e = .returned (.int .u64 31744) ∧ w' = w := by
  go_enter Tryd.func25, Tryd.ntmps25
  go_wp2
  go_ret
  exact ⟨rfl, rfl⟩

theorem nxt_0 (x : Int) (h0 : 0 ≤ x) (h1 : x < 65536) : 0 ≤ nxt 32768 1024 x ∧ nxt 32768 1024 x < 65536 := by
  unfold nxt
  repeat' split
  all_goals omega

theorem lfit_1 (w : World) (v : Int) (v0 : 0 ≤ v) (v1 : v < 256) (hv : v % 4 = 1) (x : Int) (x0 : 0 ≤ x) (x1 : x < 18446744073709551616) : Calls Tryd.prog 15 #[.int .u8 v, .int .u64 x] w fun e w' => e = .returned (.int .u64 (x % 4294967296)) ∧ w' = w := by
  go_enter Tryd.func15, Tryd.ntmps15
  go_wp2
  go_ret
  exact ⟨ret_int (by first | omega | (simp [IntKind.wrap, IntKind.bits, IntKind.signed]; omega)), rfl⟩

theorem lwidth_1 (w : World) (v : Int) (v0 : 0 ≤ v) (v1 : v < 256) (hv : v % 4 = 1) : Calls Tryd.prog 13 #[.int .u8 v] w fun e w' => e = .returned (.int .i64 32) ∧ w' = w := by
  go_enter Tryd.func13, Tryd.ntmps13
  go_wp2
  go_ret
  exact ⟨rfl, rfl⟩

theorem lsign_1 (w : World) (v : Int) (v0 : 0 ≤ v) (v1 : v < 256) (hv : v % 4 = 1) : Calls Tryd.prog 23 #[.int .u8 v] w fun e w' => e = .returned (.int .u64 2147483648) ∧ w' = w := by
  go_enter Tryd.func23, Tryd.ntmps23
  go_wp2
  go_ret
  exact ⟨rfl, rfl⟩

theorem ltop_1 (w : World) (v : Int) (v0 : 0 ≤ v) (v1 : v < 256) (hv : v % 4 = 1) : Calls Tryd.prog 25 #[.int .u8 v] w fun e w' => e = .returned (.int .u64 2139095040) ∧ w' = w := by
  go_enter Tryd.func25, Tryd.ntmps25
  go_wp2
  go_ret
  exact ⟨rfl, rfl⟩

theorem nxt_1 (x : Int) (h0 : 0 ≤ x) (h1 : x < 4294967296) : 0 ≤ nxt 2147483648 8388608 x ∧ nxt 2147483648 8388608 x < 4294967296 := by
  unfold nxt
  repeat' split
  all_goals omega

theorem lfit_2 (w : World) (v : Int) (v0 : 0 ≤ v) (v1 : v < 256) (hv : v % 4 = 2) (x : Int) (x0 : 0 ≤ x) (x1 : x < 18446744073709551616) : Calls Tryd.prog 15 #[.int .u8 v, .int .u64 x] w fun e w' => e = .returned (.int .u64 (x % 18446744073709551616)) ∧ w' = w := by
  go_enter Tryd.func15, Tryd.ntmps15
  go_wp2
  go_ret
  exact ⟨ret_int (by first | omega | (simp [IntKind.wrap, IntKind.bits, IntKind.signed]; omega)), rfl⟩

theorem lwidth_2 (w : World) (v : Int) (v0 : 0 ≤ v) (v1 : v < 256) (hv : v % 4 = 2) : Calls Tryd.prog 13 #[.int .u8 v] w fun e w' => e = .returned (.int .i64 64) ∧ w' = w := by
  go_enter Tryd.func13, Tryd.ntmps13
  go_wp2
  go_ret
  exact ⟨rfl, rfl⟩

theorem lsign_2 (w : World) (v : Int) (v0 : 0 ≤ v) (v1 : v < 256) (hv : v % 4 = 2) : Calls Tryd.prog 23 #[.int .u8 v] w fun e w' => e = .returned (.int .u64 9223372036854775808) ∧ w' = w := by
  go_enter Tryd.func23, Tryd.ntmps23
  go_wp2
  go_ret
  exact ⟨rfl, rfl⟩

theorem ltop_2 (w : World) (v : Int) (v0 : 0 ≤ v) (v1 : v < 256) (hv : v % 4 = 2) : Calls Tryd.prog 25 #[.int .u8 v] w fun e w' => e = .returned (.int .u64 9218868437227405312) ∧ w' = w := by
  go_enter Tryd.func25, Tryd.ntmps25
  go_wp2
  go_ret
  exact ⟨rfl, rfl⟩

theorem nxt_2 (x : Int) (h0 : 0 ≤ x) (h1 : x < 18446744073709551616) : 0 ≤ nxt 9223372036854775808 4503599627370496 x ∧ nxt 9223372036854775808 4503599627370496 x < 18446744073709551616 := by
  unfold nxt
  repeat' split
  all_goals omega

theorem lfit_3 (w : World) (v : Int) (v0 : 0 ≤ v) (v1 : v < 256) (hv : v % 4 = 3) (x : Int) (x0 : 0 ≤ x) (x1 : x < 18446744073709551616) : Calls Tryd.prog 15 #[.int .u8 v, .int .u64 x] w fun e w' => e = .returned (.int .u64 (x % 4294967296)) ∧ w' = w := by
  go_enter Tryd.func15, Tryd.ntmps15
  go_wp2
  go_ret
  exact ⟨ret_int (by first | omega | (simp [IntKind.wrap, IntKind.bits, IntKind.signed]; omega)), rfl⟩

theorem lwidth_3 (w : World) (v : Int) (v0 : 0 ≤ v) (v1 : v < 256) (hv : v % 4 = 3) : Calls Tryd.prog 13 #[.int .u8 v] w fun e w' => e = .returned (.int .i64 32) ∧ w' = w := by
  go_enter Tryd.func13, Tryd.ntmps13
  go_wp2
  go_ret
  exact ⟨rfl, rfl⟩

theorem lsign_3 (w : World) (v : Int) (v0 : 0 ≤ v) (v1 : v < 256) (hv : v % 4 = 3) : Calls Tryd.prog 23 #[.int .u8 v] w fun e w' => e = .returned (.int .u64 2147483648) ∧ w' = w := by
  go_enter Tryd.func23, Tryd.ntmps23
  go_wp2
  go_ret
  exact ⟨rfl, rfl⟩

theorem ltop_3 (w : World) (v : Int) (v0 : 0 ≤ v) (v1 : v < 256) (hv : v % 4 = 3) : Calls Tryd.prog 25 #[.int .u8 v] w fun e w' => e = .returned (.int .u64 2139095040) ∧ w' = w := by
  go_enter Tryd.func25, Tryd.ntmps25
  go_wp2
  go_ret
  exact ⟨rfl, rfl⟩

theorem nxt_3 (x : Int) (h0 : 0 ≤ x) (h1 : x < 4294967296) : 0 ≤ nxt 2147483648 8388608 x ∧ nxt 2147483648 8388608 x < 4294967296 := by
  unfold nxt
  repeat' split
  all_goals omega

end Go.Proofs.YtmmkdihhcmcjjaaDoor
