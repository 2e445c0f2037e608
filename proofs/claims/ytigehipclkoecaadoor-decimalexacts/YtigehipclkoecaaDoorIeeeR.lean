/- crucibleref04: patterns (mk_ieeer.py) -/
import Derived.Test.YtigehipclkoecaaDoorIeee
namespace Go.Proofs.YtigehipclkoecaaDoor
open Go.RowKit

theorem p2_range {n : Nat} (h : n ≤ 62) : 0 < p2 n ∧ p2 n ≤ 4611686018427387904 := ⟨p2_pos n, by
  have := p2_mono h
  rw [show p2 62 = 4611686018427387904 from by decide] at this
  exact this⟩
set_option maxHeartbeats 1000000 in
theorem rSign_any (w : World) (N : Nat) (h1 : 1 ≤ N) (h2 : N ≤ 64) : Calls Tryd.prog 39 #[.int .i64 N] w fun e w' => e = .returned (.int .u64 (p2 (N - 1))) ∧ w' = w := by
  go_enter Tryd.func39, Tryd.ntmps39
  go_wp2
  go_loopw [3, 4] (fun x i wr => ∃ j : Nat, 1 ≤ j ∧ j ≤ N ∧ i = .int .i64 j ∧ x = .int .u64 (p2 (j - 1)) ∧ wr = w) (fun _ i _ => N - (intOf i).toNat)
  case atStart => exact ⟨1, by omega, by omega, rfl, rfl, rfl⟩
  case round =>
    obtain ⟨j, hj1, hjN, rfl, rfl, rfl⟩ := hrel
    by_cases a : j < N
    · obtain ⟨q0, q1⟩ := p2_range (n := j - 1) (by omega)
      have hq : p2 j = 2 * p2 (j - 1) := by
        obtain ⟨m, rfl⟩ : ∃ m, j = m + 1 := ⟨j - 1, by omega⟩
        rw [Nat.add_sub_cancel]; rfl
      have Hq := hide hq
      clear hq
      generalize p2 (j - 1) = P at *
      go_wp2
      go_roundw
      case rel => exact ⟨j + 1, by omega, by omega, rfl, by rw [Nat.add_sub_cancel, Hq.out], by first | rfl | trivial⟩
      case measure => simp [intOf]; omega
    · obtain rfl : j = N := by omega
      go_wp2
      go_ret
      exact ⟨rfl, rfl⟩
set_option maxHeartbeats 1000000 in
theorem rtwo_any (w : World) (N : Nat) (h2 : N ≤ 63) : Calls Tryd.prog 41 #[.int .i64 N] w fun e w' => e = .returned (.int .u64 (p2 N)) ∧ w' = w := by
  go_enter Tryd.func41, Tryd.ntmps41
  go_wp2
  go_loopw [3, 4] (fun x i wr => ∃ j : Nat, j ≤ N ∧ i = .int .i64 j ∧ x = .int .u64 (p2 j) ∧ wr = w) (fun _ i _ => N - (intOf i).toNat)
  case atStart => exact ⟨0, by omega, rfl, rfl, rfl⟩
  case round =>
    obtain ⟨j, hjN, rfl, rfl, rfl⟩ := hrel
    by_cases a : j < N
    · obtain ⟨q0, q1⟩ := p2_range (n := j) (by omega)
      have Hq := hide (show p2 (j + 1) = 2 * p2 j from rfl)
      generalize p2 j = P at *
      go_wp2
      go_roundw
      case rel => exact ⟨j + 1, by omega, rfl, by rw [Hq.out], by first | rfl | trivial⟩
      case measure => simp [intOf]; omega
    · obtain rfl : j = N := by omega
      go_wp2
      go_ret
      exact ⟨rfl, rfl⟩

theorem rSign_h (w : World) : Calls Tryd.prog 39 #[.int .i64 16] w fun e w' => e = .returned (.int .u64 32768) ∧ w' = w := by
  have := rSign_any w 16 (by decide) (by decide)
  rwa [show p2 (16 - 1) = 32768 from by decide] at this
theorem rtwo_h (w : World) : Calls Tryd.prog 41 #[.int .i64 10] w fun e w' => e = .returned (.int .u64 1024) ∧ w' = w := by
  have := rtwo_any w 10 (by decide)
  rwa [show p2 10 = 1024 from by decide] at this

theorem shape_field0_h (w : World) : (Instr.field 72 (.agg #[.int .i64 10, .int .i64 (-24), .int .i64 31]) 0).run Tryd.prog w = .ok (.int .i64 10) w := by kernel_rfl
theorem shape_field1_h (w : World) : (Instr.field 72 (.agg #[.int .i64 10, .int .i64 (-24), .int .i64 31]) 1).run Tryd.prog w = .ok (.int .i64 (-24)) w := by kernel_rfl
theorem shape_field2_h (w : World) : (Instr.field 72 (.agg #[.int .i64 10, .int .i64 (-24), .int .i64 31]) 2).run Tryd.prog w = .ok (.int .i64 31) w := by kernel_rfl
theorem rOf_h (w : World) : Calls Tryd.prog 40 #[.int .i64 16] w fun e w' => e = .returned (.agg #[.int .i64 10, .int .i64 (-24), .int .i64 31]) ∧ Below w.heap.size w w' := by
  go_enter Tryd.func40, Tryd.ntmps40
  go_wp2
  go_returns
  exact ⟨rfl, bel_new _ _⟩

theorem rNeg_h (w : World) (x : Int) : Calls Tryd.prog 24 #[.int .i64 16, .int .u64 x] w fun e w' => e = .returned (.bool (decide (32768 ≤ x))) ∧ w' = w := by
  go_enter Tryd.func24, Tryd.ntmps24
  go_wp2_with fail
  with_reducible refine (rSign_h _).mono ?_
  rintro e v1 ⟨rfl, rfl⟩
  go_wp2
  go_ret
  exact ⟨rfl, rfl⟩

theorem rSize_h (w : World) (x s : Int) (h0 : 0 ≤ x) (h1 : x < 65536) (hs : x % 32768 = s) : Calls Tryd.prog 21 #[.int .i64 16, .int .u64 x] w fun e w' => e = .returned (.int .u64 s) ∧ w' = w := by
  by_cases a : 32768 ≤ x
  · have hx : x = s + 32768 := by omega
    have s0 : 0 ≤ s := by omega
    have s1 : s < 32768 := by omega
    clear hs h0 h1
    subst hx
    go_enter Tryd.func21, Tryd.ntmps21
    go_wp2_with fail
    with_reducible refine (rNeg_h _ _).mono ?_
    rintro e v2 ⟨rfl, rfl⟩
    go_wp2_with fail
    with_reducible refine (rSign_h _).mono ?_
    rintro e v3 ⟨rfl, rfl⟩
    go_wp2
    go_ret
    exact ⟨ret_int (by omega), rfl⟩
  · obtain rfl : x = s := by omega
    clear hs
    go_enter Tryd.func21, Tryd.ntmps21
    go_wp2_with fail
    with_reducible refine (rNeg_h _ _).mono ?_
    rintro e v4 ⟨rfl, rfl⟩
    go_wp2
    go_ret
    exact ⟨rfl, rfl⟩

theorem rInf_h (w : World) : Calls Tryd.prog 22 #[.int .i64 16] w fun e w' => e = .returned (.int .u64 31744) ∧ Below w.heap.size w w' := by
  have K := Below.refl w.heap.size w
  have hf := shape_field0_h
  have hg := shape_field2_h
  go_enter Tryd.func22, Tryd.ntmps22
  go_wp2_with fail
  with_reducible refine (rOf_h _).mono ?_
  rintro e v5 ⟨rfl, kb⟩
  replace K := below_trans K kb; clear kb
  go_wp2_with fail
  with_reducible refine (rOf_h _).mono ?_
  rintro e v6 ⟨rfl, kb⟩
  replace K := below_trans K kb; clear kb
  go_wp2_with fail
  with_reducible refine (rtwo_h _).mono ?_
  rintro e v7 ⟨rfl, rfl⟩
  go_wp2
  go_ret
  exact ⟨rfl, K⟩

theorem rSign_s (w : World) : Calls Tryd.prog 39 #[.int .i64 32] w fun e w' => e = .returned (.int .u64 2147483648) ∧ w' = w := by
  have := rSign_any w 32 (by decide) (by decide)
  rwa [show p2 (32 - 1) = 2147483648 from by decide] at this
theorem rtwo_s (w : World) : Calls Tryd.prog 41 #[.int .i64 23] w fun e w' => e = .returned (.int .u64 8388608) ∧ w' = w := by
  have := rtwo_any w 23 (by decide)
  rwa [show p2 23 = 8388608 from by decide] at this

theorem shape_field0_s (w : World) : (Instr.field 72 (.agg #[.int .i64 23, .int .i64 (-149), .int .i64 255]) 0).run Tryd.prog w = .ok (.int .i64 23) w := by kernel_rfl
theorem shape_field1_s (w : World) : (Instr.field 72 (.agg #[.int .i64 23, .int .i64 (-149), .int .i64 255]) 1).run Tryd.prog w = .ok (.int .i64 (-149)) w := by kernel_rfl
theorem shape_field2_s (w : World) : (Instr.field 72 (.agg #[.int .i64 23, .int .i64 (-149), .int .i64 255]) 2).run Tryd.prog w = .ok (.int .i64 255) w := by kernel_rfl
theorem rOf_s (w : World) : Calls Tryd.prog 40 #[.int .i64 32] w fun e w' => e = .returned (.agg #[.int .i64 23, .int .i64 (-149), .int .i64 255]) ∧ Below w.heap.size w w' := by
  go_enter Tryd.func40, Tryd.ntmps40
  go_wp2
  go_returns
  exact ⟨rfl, bel_new _ _⟩

theorem rNeg_s (w : World) (x : Int) : Calls Tryd.prog 24 #[.int .i64 32, .int .u64 x] w fun e w' => e = .returned (.bool (decide (2147483648 ≤ x))) ∧ w' = w := by
  go_enter Tryd.func24, Tryd.ntmps24
  go_wp2_with fail
  with_reducible refine (rSign_s _).mono ?_
  rintro e v41 ⟨rfl, rfl⟩
  go_wp2
  go_ret
  exact ⟨rfl, rfl⟩

theorem rSize_s (w : World) (x s : Int) (h0 : 0 ≤ x) (h1 : x < 4294967296) (hs : x % 2147483648 = s) : Calls Tryd.prog 21 #[.int .i64 32, .int .u64 x] w fun e w' => e = .returned (.int .u64 s) ∧ w' = w := by
  by_cases a : 2147483648 ≤ x
  · have hx : x = s + 2147483648 := by omega
    have s0 : 0 ≤ s := by omega
    have s1 : s < 2147483648 := by omega
    clear hs h0 h1
    subst hx
    go_enter Tryd.func21, Tryd.ntmps21
    go_wp2_with fail
    with_reducible refine (rNeg_s _ _).mono ?_
    rintro e v42 ⟨rfl, rfl⟩
    go_wp2_with fail
    with_reducible refine (rSign_s _).mono ?_
    rintro e v43 ⟨rfl, rfl⟩
    go_wp2
    go_ret
    exact ⟨ret_int (by omega), rfl⟩
  · obtain rfl : x = s := by omega
    clear hs
    go_enter Tryd.func21, Tryd.ntmps21
    go_wp2_with fail
    with_reducible refine (rNeg_s _ _).mono ?_
    rintro e v44 ⟨rfl, rfl⟩
    go_wp2
    go_ret
    exact ⟨rfl, rfl⟩

theorem rInf_s (w : World) : Calls Tryd.prog 22 #[.int .i64 32] w fun e w' => e = .returned (.int .u64 2139095040) ∧ Below w.heap.size w w' := by
  have K := Below.refl w.heap.size w
  have hf := shape_field0_s
  have hg := shape_field2_s
  go_enter Tryd.func22, Tryd.ntmps22
  go_wp2_with fail
  with_reducible refine (rOf_s _).mono ?_
  rintro e v45 ⟨rfl, kb⟩
  replace K := below_trans K kb; clear kb
  go_wp2_with fail
  with_reducible refine (rOf_s _).mono ?_
  rintro e v46 ⟨rfl, kb⟩
  replace K := below_trans K kb; clear kb
  go_wp2_with fail
  with_reducible refine (rtwo_s _).mono ?_
  rintro e v47 ⟨rfl, rfl⟩
  go_wp2
  go_ret
  exact ⟨rfl, K⟩

theorem rSign_d (w : World) : Calls Tryd.prog 39 #[.int .i64 64] w fun e w' => e = .returned (.int .u64 9223372036854775808) ∧ w' = w := by
  have := rSign_any w 64 (by decide) (by decide)
  rwa [show p2 (64 - 1) = 9223372036854775808 from by decide] at this
theorem rtwo_d (w : World) : Calls Tryd.prog 41 #[.int .i64 52] w fun e w' => e = .returned (.int .u64 4503599627370496) ∧ w' = w := by
  have := rtwo_any w 52 (by decide)
  rwa [show p2 52 = 4503599627370496 from by decide] at this

theorem shape_field0_d (w : World) : (Instr.field 72 (.agg #[.int .i64 52, .int .i64 (-1074), .int .i64 2047]) 0).run Tryd.prog w = .ok (.int .i64 52) w := by kernel_rfl
theorem shape_field1_d (w : World) : (Instr.field 72 (.agg #[.int .i64 52, .int .i64 (-1074), .int .i64 2047]) 1).run Tryd.prog w = .ok (.int .i64 (-1074)) w := by kernel_rfl
theorem shape_field2_d (w : World) : (Instr.field 72 (.agg #[.int .i64 52, .int .i64 (-1074), .int .i64 2047]) 2).run Tryd.prog w = .ok (.int .i64 2047) w := by kernel_rfl
theorem rOf_d (w : World) : Calls Tryd.prog 40 #[.int .i64 64] w fun e w' => e = .returned (.agg #[.int .i64 52, .int .i64 (-1074), .int .i64 2047]) ∧ Below w.heap.size w w' := by
  go_enter Tryd.func40, Tryd.ntmps40
  go_wp2
  go_returns
  exact ⟨rfl, bel_new _ _⟩

theorem rNeg_d (w : World) (x : Int) : Calls Tryd.prog 24 #[.int .i64 64, .int .u64 x] w fun e w' => e = .returned (.bool (decide (9223372036854775808 ≤ x))) ∧ w' = w := by
  go_enter Tryd.func24, Tryd.ntmps24
  go_wp2_with fail
  with_reducible refine (rSign_d _).mono ?_
  rintro e v81 ⟨rfl, rfl⟩
  go_wp2
  go_ret
  exact ⟨rfl, rfl⟩

theorem rSize_d (w : World) (x s : Int) (h0 : 0 ≤ x) (h1 : x < 18446744073709551616) (hs : x % 9223372036854775808 = s) : Calls Tryd.prog 21 #[.int .i64 64, .int .u64 x] w fun e w' => e = .returned (.int .u64 s) ∧ w' = w := by
  by_cases a : 9223372036854775808 ≤ x
  · have hx : x = s + 9223372036854775808 := by omega
    have s0 : 0 ≤ s := by omega
    have s1 : s < 9223372036854775808 := by omega
    clear hs h0 h1
    subst hx
    go_enter Tryd.func21, Tryd.ntmps21
    go_wp2_with fail
    with_reducible refine (rNeg_d _ _).mono ?_
    rintro e v82 ⟨rfl, rfl⟩
    go_wp2_with fail
    with_reducible refine (rSign_d _).mono ?_
    rintro e v83 ⟨rfl, rfl⟩
    go_wp2
    go_ret
    exact ⟨ret_int (by omega), rfl⟩
  · obtain rfl : x = s := by omega
    clear hs
    go_enter Tryd.func21, Tryd.ntmps21
    go_wp2_with fail
    with_reducible refine (rNeg_d _ _).mono ?_
    rintro e v84 ⟨rfl, rfl⟩
    go_wp2
    go_ret
    exact ⟨rfl, rfl⟩

theorem rInf_d (w : World) : Calls Tryd.prog 22 #[.int .i64 64] w fun e w' => e = .returned (.int .u64 9218868437227405312) ∧ Below w.heap.size w w' := by
  have K := Below.refl w.heap.size w
  have hf := shape_field0_d
  have hg := shape_field2_d
  go_enter Tryd.func22, Tryd.ntmps22
  go_wp2_with fail
  with_reducible refine (rOf_d _).mono ?_
  rintro e v85 ⟨rfl, kb⟩
  replace K := below_trans K kb; clear kb
  go_wp2_with fail
  with_reducible refine (rOf_d _).mono ?_
  rintro e v86 ⟨rfl, kb⟩
  replace K := below_trans K kb; clear kb
  go_wp2_with fail
  with_reducible refine (rtwo_d _).mono ?_
  rintro e v87 ⟨rfl, rfl⟩
  go_wp2
  go_ret
  exact ⟨rfl, K⟩

end Go.Proofs.YtigehipclkoecaaDoor
