/- crucibleref04: patterns (mk_ieeer.py) -/
import Derived.Test.YticmlelalbaalaaGreatDoorR04
namespace Go.Proofs.YticmlelalbaalaaGreatDoor
open Go.RowKit

theorem p2_range {n : Nat} (h : n ≤ 62) : 0 < p2 n ∧ p2 n ≤ 4611686018427387904 := ⟨p2_pos n, by
  have := p2_mono h
  rw [show p2 62 = 4611686018427387904 from by decide] at this
  exact this⟩
set_option maxHeartbeats 1000000 in
theorem rSign_any (w : World) (N : Nat) (h1 : 1 ≤ N) (h2 : N ≤ 64) : Calls Tryz.prog 126 #[.int .i64 N] w fun e w' => e = .returned (.int .u64 (p2 (N - 1))) ∧ w' = w := by
  go_enter Tryz.func126, Tryz.ntmps126
  go_wp2
  go_loopw [3, 4] (fun x i wr => ∃ j : Nat, 1 ≤ j ∧ j ≤ N ∧ i = .int .i64 j ∧ x = .int .u64 (p2 (j - 1)) ∧ wr = w) (fun _ i _ => N - (intOf i).toNat)
  case atStart => exact ⟨1, by omega, by omega, rfl, rfl, rfl⟩
  case round =>
    obtain ⟨j, hj1, hjN, rfl, rfl, rfl⟩ := hrel
    by_cases a : j < N
    · obtain ⟨q0, q1⟩ := p2_range (n := j - 1) (by omega)
      have hq : p2 j = 2 * p2 (j - 1) := by
        obtain ⟨m, rfl⟩ : ∃ m, j = m + 1 := ⟨j - 1, by omega⟩
        rw [Nat.add_sub_cancel]; rfl
      have Hq := hide hq
      clear hq
      generalize p2 (j - 1) = P at *
      go_wp2
      go_roundw
      case rel => exact ⟨j + 1, by omega, by omega, rfl, by rw [Nat.add_sub_cancel, Hq.out], by first | rfl | trivial⟩
      case measure => simp [intOf]; omega
    · obtain rfl : j = N := by omega
      go_wp2
      go_ret
      exact ⟨rfl, rfl⟩
theorem rSign_d (w : World) : Calls Tryz.prog 126 #[.int .i64 64] w fun e w' => e = .returned (.int .u64 9223372036854775808) ∧ w' = w := by
  have := rSign_any w 64 (by decide) (by decide)
  rwa [show p2 (64 - 1) = 9223372036854775808 from by decide] at this
theorem rNeg_d (w : World) (x : Int) : Calls Tryz.prog 90 #[.int .i64 64, .int .u64 x] w fun e w' => e = .returned (.bool (decide (9223372036854775808 ≤ x))) ∧ w' = w := by
  go_enter Tryz.func90, Tryz.ntmps90
  go_wp2_with fail
  with_reducible refine (rSign_d _).mono ?_
  rintro e v81 ⟨rfl, rfl⟩
  go_wp2
  go_ret
  exact ⟨rfl, rfl⟩

set_option maxHeartbeats 4000000 in
theorem rTotal_d (w : World) (x y : Int) (h0 : 0 ≤ x) (h1 : x < 18446744073709551616) (g0 : 0 ≤ y) (g1 : y < 18446744073709551616) : Calls Tryz.prog 48 #[.int .i64 64, .int .u64 x, .int .u64 y] w fun e w' => e = .returned (.int .i64 (tri (rk 9223372036854775808 x) (rk 9223372036854775808 y))) ∧ w' = w := by
  go_enter Tryz.func48, Tryz.ntmps48
  go_wp2_with fail
  with_reducible refine (rNeg_d _ x).mono ?_
  rintro e v93 ⟨rfl, rfl⟩
  go_wp2_with fail
  with_reducible refine (rNeg_d _ y).mono ?_
  rintro e v94 ⟨rfl, rfl⟩
  by_cases a : 9223372036854775808 ≤ x
  · have a' : decide (9223372036854775808 ≤ x) = true := decide_eq_true a
    by_cases b : 9223372036854775808 ≤ y
    · have b' : decide (9223372036854775808 ≤ y) = true := decide_eq_true b
      by_cases c : x < y
      · have c1 : ¬ y < x := by omega
        go_wp2_with fail
        with_reducible refine (rNeg_d _ x).mono ?_
        rintro e v95 ⟨rfl, rfl⟩
        have Hc := hide (show tri (rk 9223372036854775808 x) (rk 9223372036854775808 y) = 1 by unfold tri rk; rw [if_neg (by omega : ¬ x < 9223372036854775808), if_neg (by omega : ¬ y < 9223372036854775808)]; rw [if_neg (by omega), if_pos (by omega)])
        go_wp2
        go_ret
        exact ⟨by rw [Hc.out]; rfl, rfl⟩
      by_cases c1 : y < x
      · skip
        go_wp2_with fail
        with_reducible refine (rNeg_d _ x).mono ?_
        rintro e v96 ⟨rfl, rfl⟩
        have Hc := hide (show tri (rk 9223372036854775808 x) (rk 9223372036854775808 y) = -1 by unfold tri rk; rw [if_neg (by omega : ¬ x < 9223372036854775808), if_neg (by omega : ¬ y < 9223372036854775808)]; rw [if_pos (by omega)])
        go_wp2
        go_ret
        exact ⟨by rw [Hc.out]; rfl, rfl⟩
      go_wp2_with fail
      with_reducible refine (rNeg_d _ x).mono ?_
      rintro e v97 ⟨rfl, rfl⟩
      have Hc := hide (show tri (rk 9223372036854775808 x) (rk 9223372036854775808 y) = 0 by unfold tri rk; rw [if_neg (by omega : ¬ x < 9223372036854775808), if_neg (by omega : ¬ y < 9223372036854775808)]; rw [if_neg (by omega), if_neg (by omega)])
      go_wp2
      go_ret
      exact ⟨by rw [Hc.out]; rfl, rfl⟩
    · have b' : decide (9223372036854775808 ≤ y) = false := decide_eq_false b
      go_wp2_with fail
      with_reducible refine (rNeg_d _ x).mono ?_
      rintro e v98 ⟨rfl, rfl⟩
      have Hc := hide (show tri (rk 9223372036854775808 x) (rk 9223372036854775808 y) = -1 by unfold tri rk; rw [if_neg (by omega : ¬ x < 9223372036854775808), if_pos (by omega : y < 9223372036854775808)]; rw [if_pos (by omega)])
      go_wp2
      go_ret
      exact ⟨by rw [Hc.out]; rfl, rfl⟩
  · have a' : decide (9223372036854775808 ≤ x) = false := decide_eq_false a
    by_cases b : 9223372036854775808 ≤ y
    · have b' : decide (9223372036854775808 ≤ y) = true := decide_eq_true b
      go_wp2_with fail
      with_reducible refine (rNeg_d _ x).mono ?_
      rintro e v99 ⟨rfl, rfl⟩
      have Hc := hide (show tri (rk 9223372036854775808 x) (rk 9223372036854775808 y) = 1 by unfold tri rk; rw [if_pos (by omega : x < 9223372036854775808), if_neg (by omega : ¬ y < 9223372036854775808)]; rw [if_neg (by omega), if_pos (by omega)])
      go_wp2
      go_ret
      exact ⟨by rw [Hc.out]; rfl, rfl⟩
    · have b' : decide (9223372036854775808 ≤ y) = false := decide_eq_false b
      by_cases c : x < y
      · have c1 : ¬ y < x := by omega
        go_wp2_with fail
        with_reducible refine (rNeg_d _ x).mono ?_
        rintro e v100 ⟨rfl, rfl⟩
        have Hc := hide (show tri (rk 9223372036854775808 x) (rk 9223372036854775808 y) = -1 by unfold tri rk; rw [if_pos (by omega : x < 9223372036854775808), if_pos (by omega : y < 9223372036854775808)]; rw [if_pos (by omega)])
        go_wp2
        go_ret
        exact ⟨by rw [Hc.out]; rfl, rfl⟩
      by_cases c1 : y < x
      · skip
        go_wp2_with fail
        with_reducible refine (rNeg_d _ x).mono ?_
        rintro e v101 ⟨rfl, rfl⟩
        have Hc := hide (show tri (rk 9223372036854775808 x) (rk 9223372036854775808 y) = 1 by unfold tri rk; rw [if_pos (by omega : x < 9223372036854775808), if_pos (by omega : y < 9223372036854775808)]; rw [if_neg (by omega), if_pos (by omega)])
        go_wp2
        go_ret
        exact ⟨by rw [Hc.out]; rfl, rfl⟩
      go_wp2_with fail
      with_reducible refine (rNeg_d _ x).mono ?_
      rintro e v102 ⟨rfl, rfl⟩
      have Hc := hide (show tri (rk 9223372036854775808 x) (rk 9223372036854775808 y) = 0 by unfold tri rk; rw [if_pos (by omega : x < 9223372036854775808), if_pos (by omega : y < 9223372036854775808)]; rw [if_neg (by omega), if_neg (by omega)])
      go_wp2
      go_ret
      exact ⟨by rw [Hc.out]; rfl, rfl⟩

end Go.Proofs.YticmlelalbaalaaGreatDoor
