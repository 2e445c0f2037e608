/- crucibleref05: parts, Turned, Sum -/
import Derived.Test.YtkaakhmncmpliaaRNearB
import Derived.Test.YtkaakhmncmpliaaRSumM
namespace Go.Proofs.Ytkaakhmncmpliaa
open Go.RowKit
set_option linter.unusedVariables false

theorem and_2047 (x : Int) (h0 : 0 ≤ x) (h1 : x < 18446744073709551616) : bits .and .u64 x 2047 = x % 2048 := by
  rw [u64_and x 2047 h0 (by omega) (by decide) (by decide)]
  have := nat_mask0 x.toNat 11
  rw [show (2047 : Int).toNat = 2 ^ 11 - 1 from rfl, this]
  omega
theorem and_top (b : Int) (h0 : 0 ≤ b) (h1 : b < 18446744073709551616) : bits .and .u64 b 9223372036854775808 = if ngD b.toNat = true then 9223372036854775808 else 0 := by
  rw [u64_and b 9223372036854775808 h0 (by omega) (by decide) (by decide)]
  have := nat_mask b.toNat 63 1
  rw [show (9223372036854775808 : Int).toNat = (2 ^ 1 - 1) * 2 ^ 63 from rfl, this]
  unfold ngD
  by_cases c : b < 9223372036854775808
  · rw [show b.toNat / 9223372036854775808 = 0 by omega]
    simp
  · rw [show b.toNat / 9223372036854775808 = 1 by omega]
    simp

set_option maxHeartbeats 2000000 in
theorem parts_any (w : World) (b : Int) (h0 : 0 ≤ b) (h1 : b < 18446744073709551616) : Calls Try.prog 47 #[.int .u64 b] w fun e w' => e = .returned (.tuple #[.int .u64 (mst 4503599627370496 (szD b.toNat)), .int .i64 (est 4503599627370496 (-1074) (szD b.toNat))]) ∧ w' = w := by
  have e1 := and_frac b h0 h1
  have e2 := and_2047 (b / 4503599627370496) (by omega) (by omega)
  have hs : (szD b.toNat : Int) = b / 4503599627370496 % 2048 * 4503599627370496 + b % 4503599627370496 := by unfold szD; omega
  have x0 : 0 ≤ b / 4503599627370496 % 2048 := by omega
  have x1 : b / 4503599627370496 % 2048 < 2048 := by omega
  have m0 : 0 ≤ b % 4503599627370496 := by omega
  have m1 : b % 4503599627370496 < 4503599627370496 := by omega
  generalize b / 4503599627370496 % 2048 = x at *
  generalize b % 4503599627370496 = m at *
  by_cases c : x = 0
  · have c' : (x == 0) = true := by simp [c]
    have Hm := hide (show mst 4503599627370496 (szD b.toNat) = m by unfold mst; rw [if_pos (by omega)]; omega)
    have He := hide (show est 4503599627370496 (-1074) (szD b.toNat) = -1074 by unfold est; rw [if_pos (by omega)])
    clear hs c
    go_enter Try.func47, Try.ntmps47
    go_wp2
    go_ret2
    exact ⟨by rw [Hm.out, He.out]; rfl, rfl⟩
  · have c' : (x == 0) = false := by simp [c]
    have Hm := hide (show mst 4503599627370496 (szD b.toNat) = m + 4503599627370496 by unfold mst; rw [if_neg (by omega)]; omega)
    have He := hide (show est 4503599627370496 (-1074) (szD b.toNat) = x - 1075 by unfold est; rw [if_neg (by omega)]; omega)
    clear hs c
    go_enter Try.func47, Try.ntmps47
    go_wp2
    go_ret2
    exact ⟨by rw [Hm.out, He.out]; rfl, rfl⟩

theorem turned_any (w : World) (b : Int) (h0 : 0 ≤ b) (h1 : b < 18446744073709551616) : Calls Try.prog 33 #[.int .u64 b] w fun e w' => e = .returned (.int .u64 (oneD (flipD b.toNat))) ∧ w' = w := by
  have e1 : bits .xor .u64 b 9223372036854775808 = (flipD b.toNat : Int) := by
    rw [u64_xor b 9223372036854775808 h0 (by omega) (by decide) (by decide)]
    rfl
  have hl := flip_lt (b := b.toNat) (by omega)
  generalize flipD b.toNat = x at *
  go_enter Try.func33, Try.ntmps33
  go_wp2_with fail
  with_reducible refine (one_any _ (x : Int) (by omega) (by omega)).mono ?_
  rintro e w1 ⟨rfl, rfl⟩
  rw [Int.toNat_natCast]
  go_wp2
  go_ret
  exact ⟨rfl, rfl⟩


end Go.Proofs.Ytkaakhmncmpliaa
