/- IeeeR, RNm, DRef7, DNatR, DNstR, DReadR, DReads -/
import Derived.Test.YtigehipclkoecaaGreatDoorIeee
import Derived.Test.YtigehipclkoecaaGreatDoorIMath
import Derived.Test.YtigehipclkoecaaGreatDoorDNum
import Derived.Test.YtigehipclkoecaaGreatDoorDDig5
import Derived.Test.YtigehipclkoecaaGreatDoorDRefM
import Derived.Deep.LoopGhost
import Derived.Deep.RegionHeld3
import Derived.Deep.Cut
import Derived.LoopN
import Derived.Laws.BytesArg
import Derived.Test.YtigehipclkoecaaGreatDoorIScaled0
import Derived.Test.YtigehipclkoecaaGreatDoorDLaw
namespace Go.Proofs.YtigehipclkoecaaGreatDoor
open Go.RowKit

theorem p2_range {n : Nat} (h : n ≤ 62) : 0 < p2 n ∧ p2 n ≤ 4611686018427387904 := ⟨p2_pos n, by
  have := p2_mono h
  rw [show p2 62 = 4611686018427387904 from by decide] at this
  exact this⟩
set_option maxHeartbeats 1000000 in
theorem rSign_any (w : World) (N : Nat) (h1 : 1 ≤ N) (h2 : N ≤ 64) : Calls Tryz.prog 24 #[.int .i64 N] w fun e w' => e = .returned (.int .u64 (p2 (N - 1))) ∧ w' = w := by
  go_enter Tryz.func24, Tryz.ntmps24
  go_wp2
  go_loopw [3, 4] (fun x i wr => ∃ j : Nat, 1 ≤ j ∧ j ≤ N ∧ i = .int .i64 j ∧ x = .int .u64 (p2 (j - 1)) ∧ wr = w) (fun _ i _ => N - (intOf i).toNat)
  case atStart => exact ⟨1, by omega, by omega, rfl, rfl, rfl⟩
  case round =>
    obtain ⟨j, hj1, hjN, rfl, rfl, rfl⟩ := hrel
    by_cases a : j < N
    · obtain ⟨q0, q1⟩ := p2_range (n := j - 1) (by omega)
      have hq : p2 j = 2 * p2 (j - 1) := by
        obtain ⟨m, rfl⟩ : ∃ m, j = m + 1 := ⟨j - 1, by omega⟩
        rw [Nat.add_sub_cancel]; rfl
      have Hq := hide hq
      clear hq
      generalize p2 (j - 1) = P at *
      go_wp2
      go_roundw
      case rel => exact ⟨j + 1, by omega, by omega, rfl, by rw [Nat.add_sub_cancel, Hq.out], by first | rfl | trivial⟩
      case measure => simp [intOf]; omega
    · obtain rfl : j = N := by omega
      go_wp2
      go_ret
      exact ⟨rfl, rfl⟩
set_option maxHeartbeats 1000000 in
theorem rtwo_any (w : World) (N : Nat) (h2 : N ≤ 63) : Calls Tryz.prog 52 #[.int .i64 N] w fun e w' => e = .returned (.int .u64 (p2 N)) ∧ w' = w := by
  go_enter Tryz.func52, Tryz.ntmps52
  go_wp2
  go_loopw [3, 4] (fun x i wr => ∃ j : Nat, j ≤ N ∧ i = .int .i64 j ∧ x = .int .u64 (p2 j) ∧ wr = w) (fun _ i _ => N - (intOf i).toNat)
  case atStart => exact ⟨0, by omega, rfl, rfl, rfl⟩
  case round =>
    obtain ⟨j, hjN, rfl, rfl, rfl⟩ := hrel
    by_cases a : j < N
    · obtain ⟨q0, q1⟩ := p2_range (n := j) (by omega)
      have Hq := hide (show p2 (j + 1) = 2 * p2 j from rfl)
      generalize p2 j = P at *
      go_wp2
      go_roundw
      case rel => exact ⟨j + 1, by omega, rfl, by rw [Hq.out], by first | rfl | trivial⟩
      case measure => simp [intOf]; omega
    · obtain rfl : j = N := by omega
      go_wp2
      go_ret
      exact ⟨rfl, rfl⟩

theorem rSign_h (w : World) : Calls Tryz.prog 24 #[.int .i64 16] w fun e w' => e = .returned (.int .u64 32768) ∧ w' = w := by
  have := rSign_any w 16 (by decide) (by decide)
  rwa [show p2 (16 - 1) = 32768 from by decide] at this
theorem rtwo_h (w : World) : Calls Tryz.prog 52 #[.int .i64 10] w fun e w' => e = .returned (.int .u64 1024) ∧ w' = w := by
  have := rtwo_any w 10 (by decide)
  rwa [show p2 10 = 1024 from by decide] at this

theorem shape_field0_h (w : World) : (Instr.field 91 (.agg #[.int .i64 10, .int .i64 (-24), .int .i64 31]) 0).run Tryz.prog w = .ok (.int .i64 10) w := by kernel_rfl
theorem shape_field1_h (w : World) : (Instr.field 91 (.agg #[.int .i64 10, .int .i64 (-24), .int .i64 31]) 1).run Tryz.prog w = .ok (.int .i64 (-24)) w := by kernel_rfl
theorem shape_field2_h (w : World) : (Instr.field 91 (.agg #[.int .i64 10, .int .i64 (-24), .int .i64 31]) 2).run Tryz.prog w = .ok (.int .i64 31) w := by kernel_rfl
theorem rOf_h (w : World) : Calls Tryz.prog 51 #[.int .i64 16] w fun e w' => e = .returned (.agg #[.int .i64 10, .int .i64 (-24), .int .i64 31]) ∧ Below w.heap.size w w' := by
  go_enter Tryz.func51, Tryz.ntmps51
  go_wp2
  go_returns
  exact ⟨rfl, bel_new _ _⟩

theorem rInf_h (w : World) : Calls Tryz.prog 26 #[.int .i64 16] w fun e w' => e = .returned (.int .u64 31744) ∧ Below w.heap.size w w' := by
  have K := Below.refl w.heap.size w
  have hf := shape_field0_h
  have hg := shape_field2_h
  go_enter Tryz.func26, Tryz.ntmps26
  go_wp2_with fail
  with_reducible refine (rOf_h _).mono ?_
  rintro e v5 ⟨rfl, kb⟩
  replace K := below_trans K kb; clear kb
  go_wp2_with fail
  with_reducible refine (rOf_h _).mono ?_
  rintro e v6 ⟨rfl, kb⟩
  replace K := below_trans K kb; clear kb
  go_wp2_with fail
  with_reducible refine (rtwo_h _).mono ?_
  rintro e v7 ⟨rfl, rfl⟩
  go_wp2
  go_ret
  exact ⟨rfl, K⟩

theorem rSign_s (w : World) : Calls Tryz.prog 24 #[.int .i64 32] w fun e w' => e = .returned (.int .u64 2147483648) ∧ w' = w := by
  have := rSign_any w 32 (by decide) (by decide)
  rwa [show p2 (32 - 1) = 2147483648 from by decide] at this
theorem rtwo_s (w : World) : Calls Tryz.prog 52 #[.int .i64 23] w fun e w' => e = .returned (.int .u64 8388608) ∧ w' = w := by
  have := rtwo_any w 23 (by decide)
  rwa [show p2 23 = 8388608 from by decide] at this

theorem shape_field0_s (w : World) : (Instr.field 91 (.agg #[.int .i64 23, .int .i64 (-149), .int .i64 255]) 0).run Tryz.prog w = .ok (.int .i64 23) w := by kernel_rfl
theorem shape_field1_s (w : World) : (Instr.field 91 (.agg #[.int .i64 23, .int .i64 (-149), .int .i64 255]) 1).run Tryz.prog w = .ok (.int .i64 (-149)) w := by kernel_rfl
theorem shape_field2_s (w : World) : (Instr.field 91 (.agg #[.int .i64 23, .int .i64 (-149), .int .i64 255]) 2).run Tryz.prog w = .ok (.int .i64 255) w := by kernel_rfl
theorem rOf_s (w : World) : Calls Tryz.prog 51 #[.int .i64 32] w fun e w' => e = .returned (.agg #[.int .i64 23, .int .i64 (-149), .int .i64 255]) ∧ Below w.heap.size w w' := by
  go_enter Tryz.func51, Tryz.ntmps51
  go_wp2
  go_returns
  exact ⟨rfl, bel_new _ _⟩

theorem rInf_s (w : World) : Calls Tryz.prog 26 #[.int .i64 32] w fun e w' => e = .returned (.int .u64 2139095040) ∧ Below w.heap.size w w' := by
  have K := Below.refl w.heap.size w
  have hf := shape_field0_s
  have hg := shape_field2_s
  go_enter Tryz.func26, Tryz.ntmps26
  go_wp2_with fail
  with_reducible refine (rOf_s _).mono ?_
  rintro e v45 ⟨rfl, kb⟩
  replace K := below_trans K kb; clear kb
  go_wp2_with fail
  with_reducible refine (rOf_s _).mono ?_
  rintro e v46 ⟨rfl, kb⟩
  replace K := below_trans K kb; clear kb
  go_wp2_with fail
  with_reducible refine (rtwo_s _).mono ?_
  rintro e v47 ⟨rfl, rfl⟩
  go_wp2
  go_ret
  exact ⟨rfl, K⟩

theorem rSign_d (w : World) : Calls Tryz.prog 24 #[.int .i64 64] w fun e w' => e = .returned (.int .u64 9223372036854775808) ∧ w' = w := by
  have := rSign_any w 64 (by decide) (by decide)
  rwa [show p2 (64 - 1) = 9223372036854775808 from by decide] at this
theorem rtwo_d (w : World) : Calls Tryz.prog 52 #[.int .i64 52] w fun e w' => e = .returned (.int .u64 4503599627370496) ∧ w' = w := by
  have := rtwo_any w 52 (by decide)
  rwa [show p2 52 = 4503599627370496 from by decide] at this

theorem shape_field0_d (w : World) : (Instr.field 91 (.agg #[.int .i64 52, .int .i64 (-1074), .int .i64 2047]) 0).run Tryz.prog w = .ok (.int .i64 52) w := by kernel_rfl
theorem shape_field1_d (w : World) : (Instr.field 91 (.agg #[.int .i64 52, .int .i64 (-1074), .int .i64 2047]) 1).run Tryz.prog w = .ok (.int .i64 (-1074)) w := by kernel_rfl
theorem shape_field2_d (w : World) : (Instr.field 91 (.agg #[.int .i64 52, .int .i64 (-1074), .int .i64 2047]) 2).run Tryz.prog w = .ok (.int .i64 2047) w := by kernel_rfl
theorem rOf_d (w : World) : Calls Tryz.prog 51 #[.int .i64 64] w fun e w' => e = .returned (.agg #[.int .i64 52, .int .i64 (-1074), .int .i64 2047]) ∧ Below w.heap.size w w' := by
  go_enter Tryz.func51, Tryz.ntmps51
  go_wp2
  go_returns
  exact ⟨rfl, bel_new _ _⟩

theorem rInf_d (w : World) : Calls Tryz.prog 26 #[.int .i64 64] w fun e w' => e = .returned (.int .u64 9218868437227405312) ∧ Below w.heap.size w w' := by
  have K := Below.refl w.heap.size w
  have hf := shape_field0_d
  have hg := shape_field2_d
  go_enter Tryz.func26, Tryz.ntmps26
  go_wp2_with fail
  with_reducible refine (rOf_d _).mono ?_
  rintro e v85 ⟨rfl, kb⟩
  replace K := below_trans K kb; clear kb
  go_wp2_with fail
  with_reducible refine (rOf_d _).mono ?_
  rintro e v86 ⟨rfl, kb⟩
  replace K := below_trans K kb; clear kb
  go_wp2_with fail
  with_reducible refine (rtwo_d _).mono ?_
  rintro e v87 ⟨rfl, rfl⟩
  go_wp2
  go_ret
  exact ⟨rfl, K⟩

end Go.Proofs.YtigehipclkoecaaGreatDoor

namespace Go.Proofs.YtigehipclkoecaaGreatDoor
open Go.RowKit
set_option linter.unusedVariables false

theorem ret_tup22 {k k' : IntKind} {x y x' y' : Int} (h : x = x') (g : y = y') : Ending.returned (.tuple #[.int k x, .int k' y]) = .returned (.tuple #[.int k x', .int k' y']) := by rw [h, g]

set_option maxHeartbeats 4000000 in
theorem rNumber_h (w : World) (s : Int) (s0 : 0 ≤ s) (s1 : s < 32768) : Calls Tryz.prog 56 #[.int .i64 16, .int .u64 s] w fun e w' => e = .returned (.tuple #[.int .u64 (mst 1024 s), .int .i64 (est 1024 (-24) s)]) ∧ Below w.heap.size w w' := by
  go_enter Tryz.func56, Tryz.ntmps56
  go_wp2_with fail
  with_reducible refine (rOf_h _).mono ?_
  rintro x w1 ⟨rfl, K1⟩
  go_upto_region 2 with fail
  have C := cell3_new w1 (.int .i64 10) (.int .i64 (-24)) (.int .i64 31) 91
  have K2 := below_trans K1 (bel_new w1 (.cells #[.int .i64 10, .int .i64 (-24), .int .i64 31] 91))
  generalize w1.alloc (.cells #[.int .i64 10, .int .i64 (-24), .int .i64 31] 91) = w2 at *
  have c0 := C.c0; have c1 := C.c1; have c2 := C.c2
  go_wp2_with fail
  with_reducible refine (rtwo_h _).mono ?_
  rintro x w3 ⟨rfl, rfl⟩
  by_cases a : s < 1024
  · have Hm := hide (show mst 1024 s = s by unfold mst; rw [if_pos a])
    have He := hide (show est 1024 (-24) s = (-24) by unfold est; rw [if_pos a])
    go_upto_region 4 with fail
    have K : Below w3.heap.size w3 w3.drew := (Below.refl _ _).drew
    go_region_held3 (fun w' => w'.cell? ⟨w1.heap.size, 0, none⟩ = some (.int .i64 10) ∧ w'.cell? ⟨w1.heap.size, 1, none⟩ = some (.int .i64 (-24)) ∧ w'.cell? ⟨w1.heap.size, 2, none⟩ = some (.int .i64 31))
      (first
      | with_reducible exact ⟨(C.below K).c0, (C.below K).c1, (C.below K).c2⟩
      | go_keep)
      (fail)
    all_goals go_wp2
    all_goals go_ret2
    all_goals exact ⟨by rw [Hm.out, He.out]; rfl, below_trans K2 K⟩
  · have Hm := hide (show mst 1024 s = s % 1024 + 1024 by unfold mst; rw [if_neg a])
    have He := hide (show est 1024 (-24) s = (-24) - 1 + s / 1024 by unfold est; rw [if_neg a])
    obtain ⟨p, hp⟩ : ∃ p, s / 1024 = p := ⟨_, rfl⟩
    obtain ⟨f, hf⟩ : ∃ f, s % 1024 = f := ⟨_, rfl⟩
    have p0 : 0 ≤ p := by omega
    have p1 : p < 65536 := by omega
    have f0 : 0 ≤ f := by omega
    have f1 : f < 1024 := by omega
    rw [hp] at He
    rw [hf] at Hm
    go_upto_region 5 with fail
    have K : Below w3.heap.size w3 w3.drew := (Below.refl _ _).drew
    go_region_held3 (fun w' => w'.cell? ⟨w1.heap.size, 0, none⟩ = some (.int .i64 10) ∧ w'.cell? ⟨w1.heap.size, 1, none⟩ = some (.int .i64 (-24)) ∧ w'.cell? ⟨w1.heap.size, 2, none⟩ = some (.int .i64 31))
      (first
      | with_reducible exact ⟨(C.below K).c0, (C.below K).c1, (C.below K).c2⟩
      | go_keep)
      (fail)
    all_goals go_wp2
    all_goals go_ret2
    all_goals exact ⟨by rw [Hm.out, He.out]; exact ret_tup22 (by rw [Int.tmod_eq_emod_of_nonneg s0, hf, IntKind.wrap_u64]; omega) (by rw [Int.tdiv_eq_ediv_of_nonneg s0, hp]; simp only [IntKind.wrap_i64, IntKind.wrap_u64]; omega), below_trans K2 K⟩

set_option maxHeartbeats 4000000 in
theorem rNumber_s (w : World) (s : Int) (s0 : 0 ≤ s) (s1 : s < 2147483648) : Calls Tryz.prog 56 #[.int .i64 32, .int .u64 s] w fun e w' => e = .returned (.tuple #[.int .u64 (mst 8388608 s), .int .i64 (est 8388608 (-149) s)]) ∧ Below w.heap.size w w' := by
  go_enter Tryz.func56, Tryz.ntmps56
  go_wp2_with fail
  with_reducible refine (rOf_s _).mono ?_
  rintro x w1 ⟨rfl, K1⟩
  go_upto_region 2 with fail
  have C := cell3_new w1 (.int .i64 23) (.int .i64 (-149)) (.int .i64 255) 91
  have K2 := below_trans K1 (bel_new w1 (.cells #[.int .i64 23, .int .i64 (-149), .int .i64 255] 91))
  generalize w1.alloc (.cells #[.int .i64 23, .int .i64 (-149), .int .i64 255] 91) = w2 at *
  have c0 := C.c0; have c1 := C.c1; have c2 := C.c2
  go_wp2_with fail
  with_reducible refine (rtwo_s _).mono ?_
  rintro x w3 ⟨rfl, rfl⟩
  by_cases a : s < 8388608
  · have Hm := hide (show mst 8388608 s = s by unfold mst; rw [if_pos a])
    have He := hide (show est 8388608 (-149) s = (-149) by unfold est; rw [if_pos a])
    go_upto_region 4 with fail
    have K : Below w3.heap.size w3 w3.drew := (Below.refl _ _).drew
    go_region_held3 (fun w' => w'.cell? ⟨w1.heap.size, 0, none⟩ = some (.int .i64 23) ∧ w'.cell? ⟨w1.heap.size, 1, none⟩ = some (.int .i64 (-149)) ∧ w'.cell? ⟨w1.heap.size, 2, none⟩ = some (.int .i64 255))
      (first
      | with_reducible exact ⟨(C.below K).c0, (C.below K).c1, (C.below K).c2⟩
      | go_keep)
      (fail)
    all_goals go_wp2
    all_goals go_ret2
    all_goals exact ⟨by rw [Hm.out, He.out]; rfl, below_trans K2 K⟩
  · have Hm := hide (show mst 8388608 s = s % 8388608 + 8388608 by unfold mst; rw [if_neg a])
    have He := hide (show est 8388608 (-149) s = (-149) - 1 + s / 8388608 by unfold est; rw [if_neg a])
    obtain ⟨p, hp⟩ : ∃ p, s / 8388608 = p := ⟨_, rfl⟩
    obtain ⟨f, hf⟩ : ∃ f, s % 8388608 = f := ⟨_, rfl⟩
    have p0 : 0 ≤ p := by omega
    have p1 : p < 65536 := by omega
    have f0 : 0 ≤ f := by omega
    have f1 : f < 8388608 := by omega
    rw [hp] at He
    rw [hf] at Hm
    go_upto_region 5 with fail
    have K : Below w3.heap.size w3 w3.drew := (Below.refl _ _).drew
    go_region_held3 (fun w' => w'.cell? ⟨w1.heap.size, 0, none⟩ = some (.int .i64 23) ∧ w'.cell? ⟨w1.heap.size, 1, none⟩ = some (.int .i64 (-149)) ∧ w'.cell? ⟨w1.heap.size, 2, none⟩ = some (.int .i64 255))
      (first
      | with_reducible exact ⟨(C.below K).c0, (C.below K).c1, (C.below K).c2⟩
      | go_keep)
      (fail)
    all_goals go_wp2
    all_goals go_ret2
    all_goals exact ⟨by rw [Hm.out, He.out]; exact ret_tup22 (by rw [Int.tmod_eq_emod_of_nonneg s0, hf, IntKind.wrap_u64]; omega) (by rw [Int.tdiv_eq_ediv_of_nonneg s0, hp]; simp only [IntKind.wrap_i64, IntKind.wrap_u64]; omega), below_trans K2 K⟩

set_option maxHeartbeats 4000000 in
theorem rNumber_d (w : World) (s : Int) (s0 : 0 ≤ s) (s1 : s < 9223372036854775808) : Calls Tryz.prog 56 #[.int .i64 64, .int .u64 s] w fun e w' => e = .returned (.tuple #[.int .u64 (mst 4503599627370496 s), .int .i64 (est 4503599627370496 (-1074) s)]) ∧ Below w.heap.size w w' := by
  go_enter Tryz.func56, Tryz.ntmps56
  go_wp2_with fail
  with_reducible refine (rOf_d _).mono ?_
  rintro x w1 ⟨rfl, K1⟩
  go_upto_region 2 with fail
  have C := cell3_new w1 (.int .i64 52) (.int .i64 (-1074)) (.int .i64 2047) 91
  have K2 := below_trans K1 (bel_new w1 (.cells #[.int .i64 52, .int .i64 (-1074), .int .i64 2047] 91))
  generalize w1.alloc (.cells #[.int .i64 52, .int .i64 (-1074), .int .i64 2047] 91) = w2 at *
  have c0 := C.c0; have c1 := C.c1; have c2 := C.c2
  go_wp2_with fail
  with_reducible refine (rtwo_d _).mono ?_
  rintro x w3 ⟨rfl, rfl⟩
  by_cases a : s < 4503599627370496
  · have Hm := hide (show mst 4503599627370496 s = s by unfold mst; rw [if_pos a])
    have He := hide (show est 4503599627370496 (-1074) s = (-1074) by unfold est; rw [if_pos a])
    go_upto_region 4 with fail
    have K : Below w3.heap.size w3 w3.drew := (Below.refl _ _).drew
    go_region_held3 (fun w' => w'.cell? ⟨w1.heap.size, 0, none⟩ = some (.int .i64 52) ∧ w'.cell? ⟨w1.heap.size, 1, none⟩ = some (.int .i64 (-1074)) ∧ w'.cell? ⟨w1.heap.size, 2, none⟩ = some (.int .i64 2047))
      (first
      | with_reducible exact ⟨(C.below K).c0, (C.below K).c1, (C.below K).c2⟩
      | go_keep)
      (fail)
    all_goals go_wp2
    all_goals go_ret2
    all_goals exact ⟨by rw [Hm.out, He.out]; rfl, below_trans K2 K⟩
  · have Hm := hide (show mst 4503599627370496 s = s % 4503599627370496 + 4503599627370496 by unfold mst; rw [if_neg a])
    have He := hide (show est 4503599627370496 (-1074) s = (-1074) - 1 + s / 4503599627370496 by unfold est; rw [if_neg a])
    obtain ⟨p, hp⟩ : ∃ p, s / 4503599627370496 = p := ⟨_, rfl⟩
    obtain ⟨f, hf⟩ : ∃ f, s % 4503599627370496 = f := ⟨_, rfl⟩
    have p0 : 0 ≤ p := by omega
    have p1 : p < 65536 := by omega
    have f0 : 0 ≤ f := by omega
    have f1 : f < 4503599627370496 := by omega
    rw [hp] at He
    rw [hf] at Hm
    go_upto_region 5 with fail
    have K : Below w3.heap.size w3 w3.drew := (Below.refl _ _).drew
    go_region_held3 (fun w' => w'.cell? ⟨w1.heap.size, 0, none⟩ = some (.int .i64 52) ∧ w'.cell? ⟨w1.heap.size, 1, none⟩ = some (.int .i64 (-1074)) ∧ w'.cell? ⟨w1.heap.size, 2, none⟩ = some (.int .i64 2047))
      (first
      | with_reducible exact ⟨(C.below K).c0, (C.below K).c1, (C.below K).c2⟩
      | go_keep)
      (fail)
    all_goals go_wp2
    all_goals go_ret2
    all_goals exact ⟨by rw [Hm.out, He.out]; exact ret_tup22 (by rw [Int.tmod_eq_emod_of_nonneg s0, hf, IntKind.wrap_u64]; omega) (by rw [Int.tdiv_eq_ediv_of_nonneg s0, hp]; simp only [IntKind.wrap_i64, IntKind.wrap_u64]; omega), below_trans K2 K⟩

end Go.Proofs.YtigehipclkoecaaGreatDoor

namespace Go.Proofs.YtigehipclkoecaaGreatDoor
open Go.RowKit
set_option linter.unusedVariables false

set_option maxRecDepth 100000 in
set_option maxHeartbeats 4000000 in
theorem fine7 {w : World} {es : List Int} {s : ByteArray} {N : Nat} {ng : Bool} {P : Int} (hd : Byt es) (hs : s = strOfNums es) (hN : es.length = N) (hl : N ≤ 4611686018427387904) :
    Calls Tryz.prog 23 #[.agg #[.bool ng, .string s, .int .i64 P]] w fun e w' => Below w.heap.size w w' ∧ ((Dg es ∧ e = .returned (.bool true)) ∨ (¬ Dg es ∧ e = .returned (.bool false))) := by
  have hsz : s.size = N := by rw [hs, strOfNums_size, hN]
  have HN := hide hN
  have hix : ∀ p (h : p < s.size), ((s[p]'h).toNat : Int) = Nt.lb es p ∧ 0 ≤ Nt.lb es p ∧ Nt.lb es p < 256 := by
    intro p h
    subst hs
    have hp : p < es.length := by rw [strOfNums_size] at h; exact h
    exact ⟨txt_at h hd, hd _ (lb_in hp)⟩
  have Hix := hide hix
  clear hd hN hs hix
  have K0 : Below w.heap.size w (w.alloc (.cells #[.bool ng, .string s, .int .i64 P] 23)) := (Below.refl _ _).alloc (Nat.le_refl _) _
  have C := cell3_new w (.bool ng) (.string s) (.int .i64 P) 23
  go_enter Tryz.func23, Tryz.ntmps23
  go_wp2
  generalize w.alloc (.cells #[.bool ng, .string s, .int .i64 P] 23) = w1 at *
  have c1 := C.c1
  go_loopg [3] N (fun c iv wr => ∃ i : Nat, i ≤ N ∧ c = N - i ∧ iv = .int .i64 i ∧ wr = w1 ∧ ∀ j, j < i → 48 ≤ Nt.lb es j ∧ Nt.lb es j ≤ 57)
  case atStart => exact ⟨0, by omega, rfl, rfl, rfl, fun j hj => absurd hj (by omega)⟩
  case round =>
    obtain ⟨i, hi, hgi, rfl, hw, hD⟩ := hrel
    replace hw := hw.symm
    subst hw
    have HD := hide hD
    have HJ := hide (show (48 ≤ Nt.lb es i ∧ Nt.lb es i ≤ 57) → ∀ j, j < i + 1 → 48 ≤ Nt.lb es j ∧ Nt.lb es j ≤ 57 from fun g j hj => by
      rcases Nat.lt_or_ge j i with k | k
      · exact hD j k
      · rw [show j = i by omega]; exact g)
    clear hD
    by_cases hiN : i < N
    · have his : i < s.size := by omega
      obtain ⟨hx, x0, x1⟩ := Hix.out i his
      obtain ⟨d, hdd⟩ : ∃ d, Nt.lb es i = d := ⟨_, rfl⟩
      rw [hdd] at hx x0 x1
      have Hdd := hide hdd
      clear hdd
      have q4 : (i : Int) < (N : Int) := by omega
      by_cases l0 : d < 48
      · go_wp2
        go_ret
        exact ⟨K0, .inr ⟨not_dg (by rw [HN.out]; exact hiN) (by rw [Hdd.out]; omega), rfl⟩⟩
      · by_cases l1 : 57 < d
        · go_wp2
          go_ret
          exact ⟨K0, .inr ⟨not_dg (by rw [HN.out]; exact hiN) (by rw [Hdd.out]; omega), rfl⟩⟩
        · go_wp2
          go_roundg (N - (i + 1))
          case measure => omega
          case rel => exact ⟨i + 1, by omega, rfl, by simp, rfl, HJ.out (by rw [Hdd.out]; omega)⟩
    · have hiE : i = N := by omega
      have HDg := hide (all_dg (es := es) (fun j hj => HD.out j (by rw [HN.out] at hj; omega)))
      subst hiE
      go_wp2
      go_ret
      exact ⟨K0, .inl ⟨HDg.out, rfl⟩⟩

/-- the digits between the noughts at both ends: from a to b -/
def Btw (es : List Int) (N a b : Nat) : Prop := a ≤ b ∧ b ≤ N ∧ (∀ j, j < a → Nt.lb es j = 48) ∧ (∀ j, b ≤ j → j < N → Nt.lb es j = 48) ∧ (a < b → Nt.lb es a ≠ 48 ∧ Nt.lb es (b - 1) ≠ 48) ∧ (a = b → a = N)
set_option maxRecDepth 100000 in
set_option maxHeartbeats 4000000 in
theorem plain7 {w : World} {es : List Int} {s : ByteArray} {N : Nat} (hd : Byt es) (hs : s = strOfNums es) (hN : es.length = N) (hl : N ≤ 4611686018427387904) :
    Calls Tryz.prog 25 #[.string s] w fun e w' => w' = w ∧ ∃ a b : Nat, Btw es N a b ∧ e = .returned (.tuple #[.string (strOfNums ((es.take b).drop a)), .int .i64 a]) := by
  have hsz : s.size = N := by rw [hs, strOfNums_size, hN]
  have HS := hide hs
  have hix : ∀ p (h : p < s.size), ((s[p]'h).toNat : Int) = Nt.lb es p := by
    intro p h
    subst hs
    exact txt_at h hd
  have Hix := hide hix
  clear hd hN hs hix
  go_enter Tryz.func25, Tryz.ntmps25
  go_wp2
  go_loopg [4] N (fun c iv wr => ∃ i : Nat, i ≤ N ∧ c = N - i ∧ iv = .int .i64 i ∧ wr = w ∧ ∀ j, j < i → Nt.lb es j = 48)
  case atStart => exact ⟨0, by omega, rfl, rfl, rfl, fun j hj => absurd hj (by omega)⟩
  case round =>
    obtain ⟨i, hi, hgi, rfl, hw, hD⟩ := hrel
    replace hw := hw.symm
    subst hw
    have HD := hide hD
    clear hD
    by_cases go : i < N ∧ Nt.lb es i = 48
    · obtain ⟨hiN, h48⟩ := go
      have his : i < s.size := by omega
      have hx := Hix.out i his
      rw [h48] at hx
      have H48 := hide h48
      have q4 : (i : Int) < (N : Int) := by omega
      clear h48
      go_wp2
      go_roundg (N - (i + 1))
      case measure => omega
      case rel => exact ⟨i + 1, by omega, rfl, by simp, rfl, fun j hj => by
        rcases Nat.lt_or_ge j i with k | k
        · exact HD.out j k
        · rw [show j = i by omega]; exact H48.out⟩
    · have HG := hide go
      have tail : ∀ {Q : Prop}, Q → Q := fun q => q
      by_cases hiN : i < N
      · have his : i < s.size := by omega
        have hx := Hix.out i his
        obtain ⟨d, hdd⟩ : ∃ d, Nt.lb es i = d := ⟨_, rfl⟩
        have h48 : (d == 48) = false := by
          simp
          intro e
          exact HG.out ⟨hiN, by rw [hdd, e]⟩
        rw [hdd] at hx
        have Hdd := hide hdd
        have q4 : (i : Int) < (N : Int) := by omega
        have Hn48 := hide (show Nt.lb es i ≠ 48 from fun e => HG.out ⟨hiN, e⟩)
        clear go hdd tail
        go_wp2
        clear hx h48 Hdd
        go_loopg [5] (N - i) (fun c ev wr => ∃ b : Nat, i < b ∧ b ≤ N ∧ c = b - i ∧ ev = .int .i64 b ∧ wr = w ∧ ∀ j, b ≤ j → j < N → Nt.lb es j = 48)
        case atStart => exact ⟨N, hiN, by omega, rfl, rfl, rfl, fun j h1 h2 => absurd h2 (by omega)⟩
        case round =>
          obtain ⟨b, hb1, hb2, hgb, rfl, hw, hZ⟩ := hrel
          replace hw := hw.symm
          subst hw
          have HZ := hide hZ
          clear hZ
          have hbs : b - 1 < s.size := by omega
          have hx := Hix.out (b - 1) hbs
          have q5 : (i : Int) < (b : Int) := by omega
          have q6 : ((b : Int) - 1).toNat = b - 1 := by omega
          have q7 : (0 : Int) ≤ (b : Int) - 1 := by omega
          have q8 : (b : Int) - 1 < (N : Int) := by omega
          obtain ⟨d, hdd⟩ : ∃ d, Nt.lb es (b - 1) = d := ⟨_, rfl⟩
          rw [hdd] at hx
          have Hdd := hide hdd
          clear hdd
          by_cases e48 : d = 48
          · have h48 : (d == 48) = true := by simp [e48]
            have hb3 : i < b - 1 := by
              rcases Nat.lt_or_ge i (b - 1) with k | k
              · exact k
              · exfalso
                have : b - 1 = i := by omega
                rw [← this] at Hn48
                exact Hn48.out (by rw [Hdd.out]; exact e48)
            go_wp2
            go_roundg (b - 1 - i)
            case measure => omega
            case rel => exact ⟨b - 1, hb3, by omega, rfl, by congr 1; omega, rfl, fun j h1 h2 => by
              rcases Nat.lt_or_ge j b with k | k
              · rw [show j = b - 1 by omega, Hdd.out]; exact e48
              · exact HZ.out j k h2⟩
          · have h48 : (d == 48) = false := by simp [e48]
            have hc := txt_cut es i b
            rw [← HS.out] at hc
            have hab : i ≤ b := by omega
            have hbs2 : b ≤ s.size := by omega
            go_wp2
            go_ret2
            exact ⟨rfl, i, b, ⟨by omega, hb2, HD.out, HZ.out, fun _ => ⟨Hn48.out, by rw [Hdd.out]; exact e48⟩, fun e => absurd e (by omega)⟩, rfl⟩
      · have hiE : i = N := by omega
        subst hiE
        have hc := txt_cut es i i
        rw [← HS.out] at hc
        have hbs2 : i ≤ s.size := by omega
        clear go tail
        go_wp2
        refine wp_loop_rounds 1 ?_
        rw [rounds_succ]
        go_wp2
        go_ret2
        exact ⟨rfl, i, i, ⟨by omega, by omega, HD.out, fun j h1 h2 => absurd h2 (by omega), fun h => absurd h (by omega), fun _ => rfl⟩, by rw [show strOfNums ((es.take i).drop i) = ByteArray.empty by rw [List.drop_eq_nil_of_le (by rw [List.length_take]; omega)]; rfl]; rfl⟩

end Go.Proofs.YtigehipclkoecaaGreatDoor

namespace Go.Proofs.YtigehipclkoecaaGreatDoor
open Go.RowKit
set_option linter.unusedVariables false

theorem Tryz.infoIn : (Tryz.prog.info? 3).map (fun i => (i.zero, i.size, i.bytes)) = some (some (.int .i64 0), 1, 8) := by kernel_rfl
/-- a store into a row of one's own -/
theorem owns_set {w : World} {base : Nat} {e : TypeId} {kd : IntKind} {g n cap : Nat} {xs : List Int} (h : w.ownsRow base e 1 (.slice (some ⟨g, 0, none⟩) n cap) n (xs.map (Value.int kd))) {i : Nat} (hi : i < n) (x : Int) :
    (w.setCell ⟨g, i, none⟩ (.int kd x)).ownsRow base e 1 (.slice (some ⟨g, 0, none⟩) n cap) n ((xs.set i x).map (Value.int kd)) := by
  obtain ⟨h1, h2⟩ := h
  rcases h2 with ⟨h2, _⟩ | ⟨g', cap', cur, he, hb, hg, hnc, hcm, hcs, ht⟩
  · cases h2
  cases he
  refine ⟨by simpa using h1, .inr ⟨g, cap, cur.setIfInBounds i (.int kd x), rfl, hb, ?_, hnc, hcm, by simpa using hcs, ?_⟩⟩
  · rw [heap_setCell_same w g i _ _ _ hg]
  · rw [List.map_set, ← ht]
    simp [List.take_set]
theorem owns_at {w : World} {base : Nat} {e : TypeId} {kd : IntKind} {g n cap : Nat} {xs : List Int} (h : w.ownsRow base e 1 (.slice (some ⟨g, 0, none⟩) n cap) n (xs.map (Value.int kd))) {i : Nat} (hi : i < n) :
    w.cell? ⟨g, i, none⟩ = some (.int kd (Nt.lb xs i)) ∧ w.frozen? ⟨g, i, none⟩ = false ∧ base ≤ g ∧ g < w.heap.size := by
  obtain ⟨h1, h2⟩ := h
  have hl : xs.length = n := by simpa using h1
  rcases h2 with ⟨h2, _⟩ | ⟨g', cap', cur, he, hb, hg, hnc, hcm, hcs, ht⟩
  · cases h2
  cases he
  refine ⟨?_, frozen_of_row w g i _ _ hg, hb, (Array.getElem?_eq_some_iff.1 hg).1⟩
  rw [cell_of_row w g i cur e (0, 0) hg]
  have : (cur.toList.take (n * 1))[i]? = (xs.map (Value.int kd))[i]? := by rw [ht]
  rw [List.getElem?_take, if_pos (by omega)] at this
  simp only [Array.getElem?_toList] at this
  rw [this]
  simp [Nt.lb, hl, hi]
theorem own_below9 {w0 w w' : World} {B : Nat} {E : TypeId} {v : Value} {n : Nat} {xs : List Value} (h : Below B w0 w) (hB : B ≤ w.heap.size) (ho : w.ownsRow B E 1 v n xs) (hg : w.grownBy w' v.ownBlock) : Below B w0 w' := below_own h hB ho hg

set_option maxRecDepth 100000 in
set_option maxHeartbeats 8000000 in
theorem natural7 {w : World} {es : List Int} {s : ByteArray} {N : Nat} (hd : Dg es) (hs : s = strOfNums es) (hN : es.length = N) (hl : N ≤ 100000) :
    Calls Tryz.prog 27 #[.string s] w fun e w' => ∃ v, e = .returned v ∧ Num w.heap.size w' v (dg es) (N + 1) ∧ Below w.heap.size w w' := by
  have hsz : s.size = N := by rw [hs, strOfNums_size, hN]
  have hix : ∀ p (h : p < s.size), ((s[p]'h).toNat : Int) = Nt.lb es p ∧ 48 ≤ Nt.lb es p ∧ Nt.lb es p ≤ 57 := by
    intro p h
    subst hs
    have hp : p < es.length := by rw [strOfNums_size] at h; exact h
    exact ⟨txt_at h hd.byt, hd _ (lb_in hp)⟩
  have Hix := hide hix
  have HN := hide hN
  have HS := hide hs
  clear hd hN hs hix
  go_enter Tryz.func27, Tryz.ntmps27
  go_wp2
  go_loopg [3, 4] N (fun c lv iv wr => ∃ (i n : Nat) (ys : List Int), i ≤ N ∧ c = N - i ∧ iv = .int .i64 i ∧ n ≤ i ∧ ys.length = n ∧ Nb.Ok ys ∧ Nb.val ys = dg (es.take i) ∧ wr.ownsRow w.heap.size 3 1 lv n (ys.map (Value.int .i64)) ∧ Below w.heap.size w wr)
  case atStart => exact ⟨0, 0, [], by omega, rfl, rfl, by omega, rfl, Nb.ok_nil, rfl, ⟨rfl, .inl ⟨rfl, rfl⟩⟩, Below.refl _ _⟩
  case round =>
    obtain ⟨i, n, ys, hi, hgi, rfl, hni, hyl, hok, hval, hown, hbr⟩ := hrel
    have HV := hide (And.intro hok hval)
    have hbs := hbr.size
    clear hok hval
    obtain ⟨wt, rfl⟩ : ∃ wt, wt = wr := ⟨_, rfl⟩
    by_cases hiN : i < N
    · have his : i < s.size := by omega
      obtain ⟨hx, x0, x1⟩ := Hix.out i his
      have q4 : (i : Int) < (N : Int) := by omega
      have HT := hide (dg_take (ds := es) (k := i) (by rw [HN.out]; exact hiN))
      obtain ⟨dd, hdd⟩ : ∃ d, Nt.lb es i = d := ⟨_, rfl⟩
      rw [hdd] at hx x0 x1 HT
      obtain ⟨d, rfl⟩ : ∃ d, dd = 48 + d := ⟨dd - 48, by omega⟩
      have d0 : 0 ≤ d := by omega
      have d9 : d ≤ 9 := by omega
      have wz : IntKind.u8.wrap (48 + d - 48) = d := by rw [IntKind.wrap_u8]; omega
      have wz2 : IntKind.u8.wrap d = d := by rw [IntKind.wrap_u8]; omega
      have wz3 : IntKind.i64.wrap d = d := by rw [IntKind.wrap_i64]; omega
      have hsub : 48 + d - 48 = d := by omega
      clear hdd
      obtain ⟨ao, cap, rfl⟩ : ∃ ao cap, u3 = .slice ao n cap := by
        rcases hown.2 with ⟨h, h'⟩ | ⟨g, cap, _, h, _⟩
        · exact ⟨_, _, by rw [h, h']⟩
        · exact ⟨_, _, h⟩
      go_wp2
      go_loopg [5, 6] n (fun c cv kv wq => ∃ (k : Nat) (cy : Int) (zs : List Int), k ≤ n ∧ c = n - k ∧ cv = .int .i64 cy ∧ kv = .int .i64 k ∧ 0 ≤ cy ∧ cy ≤ 9 ∧ zs.length = n ∧ Nb.Ok zs ∧ (∀ j, k ≤ j → Nt.lb zs j = Nt.lb ys j) ∧ Nb.vt zs k + cy * Nb.pw k = 10 * Nb.vt ys k + d ∧ wq.ownsRow w.heap.size 3 1 (.slice ao n cap) n (zs.map (Value.int .i64)) ∧ Below w.heap.size w wq)
      case atStart => exact ⟨0, d, ys, by omega, rfl, rfl, rfl, d0, d9, hyl, HV.out.1, fun _ _ => rfl, by simp [Nb.vt, Nb.pw], hown, hbr⟩
      case round =>
        clear hown
        obtain ⟨k, cy, zs, hk, hgk, rfl, rfl, c0, c9, hzl, hzo, hzt, hze, hown, hbq⟩ := hrel
        have HZ := hide (And.intro hzo (And.intro hzt hze))
        have hbqs := hbq.size
        clear hzo hzt hze
        by_cases hkn : k < n
        · have q5 : (k : Int) < (n : Int) := by omega
          obtain ⟨g, rfl⟩ : ∃ g, ao = some ⟨g, 0, none⟩ := by
            rcases hown.2 with ⟨h, h'⟩ | ⟨g, cap', _, h, _⟩
            · omega
            · injection h with h; exact ⟨g, h⟩
          obtain ⟨g1, f1, gb, gl⟩ := owns_at hown hkn
          have HO := hide (show ∀ x, _ from fun x => owns_set hown hkn x)
          have HB := hide (show ∀ x, Below w.heap.size w (wr.setCell ⟨g, k, none⟩ x) from fun x => hbq.setCell (p := ⟨g, k, none⟩) gb x)
          obtain ⟨y0, y1⟩ := HZ.out.1 k
          have yk := HZ.out.2.1 k (Nat.le_refl _)
          obtain ⟨y, hy⟩ : ∃ y, Nt.lb zs k = y := ⟨_, rfl⟩
          rw [hy] at g1 y0 y1
          have Hy := hide (show Nt.lb ys k = y by rw [← hy]; exact yk.symm)
          clear hown hy yk
          obtain ⟨x, hx9⟩ : ∃ x, 10 * y + cy = x := ⟨_, rfl⟩
          have xx0 : 0 ≤ x := by omega
          have xx1 : x ≤ 2559 := by omega
          have e1 : x.tmod 256 = x % 256 := Int.tmod_eq_emod_of_nonneg xx0
          have e2 : x.tdiv 256 = x / 256 := Int.tdiv_eq_ediv_of_nonneg xx0
          go_wp2
          go_roundg (n - (k + 1))
          case measure => omega
          case rel =>
            obtain ⟨z1, z2, z3⟩ := HZ.out
            refine ⟨k + 1, x / 256, zs.set k (x % 256), by omega, rfl, rfl, by simp, by omega, by omega, by rw [List.length_set]; exact hzl, Nb.ok_set z1 (by omega), fun j hj => by rw [Nt.lb_set_ne (by omega)]; exact z2 j (by omega), ?_, HO.out _, HB.out _⟩
            rw [Nb.vt_succ, Nb.vt_set (Nat.le_refl _), Nt.lb_set_eq (by omega), Nb.vt_succ, Nb.pw_succ, Hy.out, byte_step, ← hx9, Int.add_mul, Int.mul_add, Int.mul_assoc]
            omega
        · have hkE : k = n := by omega
          subst hkE
          have hvz : Nb.val zs + cy * Nb.pw k = 10 * dg (es.take i) + d := by
            have z3 := HZ.out.2.2
            rw [Nb.vt_out (by omega), Nb.vt_out (xs := ys) (by omega), HV.out.2] at z3
            exact z3
          have hnew : dg (es.take (i + 1)) = 10 * dg (es.take i) + d := by rw [HT.out]; omega
          have HF := hide (And.intro hvz hnew)
          clear hvz hnew
          by_cases cz : cy = 0
          · subst cz
            go_wp2
            go_roundg (N - (i + 1))
            case measure => omega
            case rel =>
              obtain ⟨f1, f2⟩ := HF.out
              exact ⟨i + 1, k, zs, by omega, rfl, by simp, by omega, hzl, HZ.out.1, by rw [f2]; omega, hown, hbq⟩
          · have cp : 0 < cy := by omega
            go_wp2_with (at_builtin; refine wpList_append_cells _ rfl _ _ 93 rfl w.heap.size 3 .i64 8 Tryz.underlying93 Tryz.infoIn _ k zs rfl (hown.alloc _) (some ⟨wr.heap.size, 0, none⟩) 1 [cy] rfl (cells_one _ _ _ _) (by unfold maxLen; simp; omega) (by simp; omega) (by simp; omega) ?_)
            intro v' w5 hown' hgrow
            have hb5 : Below w.heap.size w w5 := below_own (hbq.alloc hbqs _) (by simp; omega) (hown.alloc _) hgrow
            have HO := hide (And.intro hown' hb5)
            clear hown' hgrow hown hb5
            go_wp2
            go_roundg (N - (i + 1))
            case measure => omega
            case rel =>
              obtain ⟨f1, f2⟩ := HF.out
              exact ⟨i + 1, k + 1, zs ++ [cy], by omega, rfl, by simp, by omega, by simp [hzl], Nb.ok_snoc HZ.out.1 (by omega), by rw [Nb.val_snoc, hzl, f2]; exact f1, by simpa using HO.out.1, HO.out.2⟩
    · have hiE : i = N := by omega
      subst hiE
      have hv : Nb.val ys = dg es := by
        have h := HV.out.2
        rw [List.take_of_length_le (by rw [HN.out]; omega)] at h
        exact h
      obtain ⟨ao, cap, rfl, hl1, hm, hyc⟩ := reads_of_owns hown
      have Hv := hide hv
      have Hok := hide HV.out.1
      have Hyl := hide hyl
      rw [hyl] at hl1
      rw [hyl]
      clear hv HV hown hyl
      go_wp2_with (at_make; refine wpList_make_row _ rfl _ _ 59 rfl 44 .u32 4 Tryz.underlying59 Tryz.infoU32 _ _ _ _ ((n + 3) / 4) ((n + 3) / 4) rfl rfl (by omega) (by omega) (Nat.le_refl _) (by omega) (by unfold maxLen; omega) ?_)
      intro w1 hr hbel hsz1
      have hst := hide (limbRel_start ys)
      rw [Hyl.out] at hst
      go_wp2
      go_loopg [9] n (fun c iv wr => ∃ (m : Nat) (zs : List Int), m ≤ n ∧ c = m ∧ iv = .int .i64 ((m : Int) - 1) ∧ zs.length = (n + 3) / 4 ∧ Nt.Ok zs ∧ LimbRel ys zs m ∧ Row .u32 44 wr wt.heap.size zs ∧ Below wt.heap.size wt wr)
      case atStart => exact ⟨n, List.replicate ((n + 3) / 4) 0, Nat.le_refl _, rfl, rfl, by simp, Nt.ok_replicate _, hst.out, hr, hbel⟩
      case round =>
        obtain ⟨m, zs, hml, hgm, rfl, hzl, hzo, hrel, hrow, hbq⟩ := hrel
        have Hzl := hide hzl
        have HR := hide hrel
        clear hzl hrel hr hbel
        rcases Nat.eq_zero_or_pos m with m0 | mp
        · subst m0
          have hv : Nt.val zs = dg es := by
            have h := HR.out.1
            simp only [Nat.zero_div, Nb.vt, Nt.pw, Nb.pw] at h
            rw [← Hv.out]
            omega
          have hm2 := hrow.made (B := 0) (Nat.zero_le _) (n := zs.length) (Nat.le_refl _) (by rw [Hzl.out]; unfold maxLen; omega)
          rw [List.take_length, Hzl.out] at hm2
          have hA : Arg wr (.slice (some ⟨wt.heap.size, 0, none⟩) ((n + 3) / 4) ((n + 3) / 4)) (dg es) (i + 1) := ⟨zs, hm2.reads, hzo, hv, by rw [Hzl.out]; omega⟩
          have HA := hide hA
          have HC := hide (rnorm_any hA (by omega))
          clear hm2 hv hA
          go_wp2_with fail
          refine HC.out.mono ?_
          rintro z w3 ⟨v, rfl, hN3, b3⟩
          have KK := below_trans (below_trans hbr hbq) b3
          have hsz3 := (below_trans hbr hbq).size
          have HF := hide (And.intro (num_since hN3 hsz3) KK)
          clear HC hN3 b3 KK
          go_wp2
          go_ret
          exact ⟨_, rfl, HF.out.1, HF.out.2⟩
        · obtain ⟨p, rfl⟩ : ∃ p, m = p + 1 := ⟨m - 1, by omega⟩
          obtain ⟨b1, o1, rfl, hb1, hc1⟩ := (hyc.below hbq) (by rw [Hyl.out]; omega)
          have g1 := hc1 p (by rw [Hyl.out]; omega)
          have hp4 : p / 4 < (n + 3) / 4 := by omega
          have g2 := hrow.cell (i := p / 4) (by rw [Hzl.out]; exact hp4)
          have hfz := hrow.frozen (p / 4)
          obtain ⟨by0, by1⟩ := Hok.out p
          obtain ⟨bz0, bz1⟩ := hzo (p / 4)
          have bz2 := (limbRel_low HR.out).2
          have hpl : p < n := by omega
          have HST := hide (limbRel_step (by rw [Hzl.out]; exact hp4) by1 HR.out)
          clear hc1
          obtain ⟨y, hy⟩ : ∃ y, Nt.lb ys p = y := ⟨_, rfl⟩
          obtain ⟨t, ht⟩ : ∃ t, Nt.lb zs (p / 4) = t := ⟨_, rfl⟩
          rw [hy] at g1 by0 by1 HST
          rw [ht] at g2 bz0 bz1 bz2 HST
          rw [show t * 256 + y = 256 * t + y by omega] at HST
          have HRS := hide (hrow.set (p / 4) (256 * t + y))
          have HBS := hide (show Below wt.heap.size wt (wr.setCell ⟨wt.heap.size, p / 4, none⟩ (.int .u32 (256 * t + y))).drew from (hbq.setCell (p := ⟨wt.heap.size, p / 4, none⟩) (Nat.le_refl _) _).drew)
          go_wp2
          go_region
          all_goals go_wp2
          all_goals go_roundg p
          all_goals first
            | exact ⟨p, zs.set (p / 4) (256 * t + y), by omega, rfl, rfl, by rw [List.length_set, Hzl.out], Nt.ok_set hzo (by omega), HST.out, HRS.out, HBS.out⟩
            | omega

theorem ten_dg (n : Nat) : dg (49 :: List.replicate n 48) = tn n ∧ Dg (49 :: List.replicate n 48) := by
  constructor
  · rw [dg, dg_noughts, List.length_replicate]; omega
  · intro x hx
    rcases List.mem_cons.1 hx with g | g
    · subst g; decide
    · have := List.eq_of_mem_replicate g; omega
set_option maxRecDepth 100000 in
set_option maxHeartbeats 8000000 in
theorem ten7 {w : World} {n : Nat} (hn : n ≤ 5000) :
    Calls Tryz.prog 29 #[.int .i64 n] w fun e w' => ∃ v, e = .returned v ∧ Num w.heap.size w' v (tn n) (n + 2) ∧ Below w.heap.size w w' := by
  go_enter Tryz.func29, Tryz.ntmps29
  go_wp2_with (at_make; refine wpList_make_row _ rfl _ _ 97 rfl 5 .u8 1 Tryz.underlying97 Tryz.infoB8 _ _ _ _ (n + 1) (n + 1) rfl rfl (by omega) (by omega) (Nat.le_refl _) (by omega) (by unfold maxLen; omega) ?_)
  intro w1 hr hbel hsz1
  have g0 := hr.cell (i := 0) (by simp)
  have f0 := hr.frozen 0
  have hr2 := hr.set 0 49
  have hb2 : Below w.heap.size w (w1.setCell ⟨w.heap.size, 0, none⟩ (.int .u8 49)) := hbel.setCell (p := ⟨w.heap.size, 0, none⟩) (Nat.le_refl _) _
  have HS := hide (And.intro hr2 hb2)
  clear hr2 hb2
  go_wp2
  clear hr hbel g0 f0
  go_loopg [4] n (fun c iv wr => ∃ (i : Nat), 1 ≤ i ∧ i ≤ n + 1 ∧ c = n + 1 - i ∧ iv = .int .i64 i ∧ Row .u8 5 wr w.heap.size (49 :: (List.replicate (i - 1) 48 ++ List.replicate (n + 1 - i) 0)) ∧ Below w.heap.size w wr)
  case atStart => exact ⟨1, by omega, by omega, by omega, rfl, by have h := HS.out.1; rw [List.replicate_succ, List.set_cons_zero] at h; simpa using h, HS.out.2⟩
  case round =>
    clear HS
    obtain ⟨i, i1, i2, hgi, rfl, hrow, hbr⟩ := hrel
    have hln : (49 :: (List.replicate (i - 1) (48 : Int) ++ List.replicate (n + 1 - i) 0)).length = n + 1 := by simp; omega
    by_cases hi : i ≤ n
    · have q4 : (i : Int) ≤ (n : Int) := by omega
      have g1 := hrow.cell (i := i) (by rw [hln]; omega)
      have f1 := hrow.frozen i
      have hset : (49 :: (List.replicate (i - 1) (48 : Int) ++ List.replicate (n + 1 - i) 0)).set i 48 = 49 :: (List.replicate (i + 1 - 1) 48 ++ List.replicate (n + 1 - (i + 1)) 0) := by
        obtain ⟨j, rfl⟩ : ∃ j, i = j + 1 := ⟨i - 1, by omega⟩
        rw [List.set_cons_succ]
        congr 1
        rw [show n + 1 - (j + 1) = (n + 1 - (j + 1 + 1)) + 1 by omega, List.replicate_succ, List.set_append_right _ _ (by simp)]
        simp only [List.length_replicate, Nat.add_sub_cancel, Nat.sub_self, List.set_cons_zero]
        rw [show j + 1 = j + 1 from rfl, List.replicate_succ', List.append_assoc]
        rfl
      have hr2 := hrow.set i 48
      rw [hset] at hr2
      have HS := hide (And.intro hr2 (show Below w.heap.size w (wr.setCell ⟨w.heap.size, i, none⟩ (.int .u8 48)) from hbr.setCell (p := ⟨w.heap.size, i, none⟩) (Nat.le_refl _) _))
      clear hrow hr2 hset
      go_wp2
      go_roundg (n + 1 - (i + 1))
      case measure => omega
      case rel => exact ⟨i + 1, by omega, by omega, rfl, by simp, HS.out.1, HS.out.2⟩
    · have hiE : i = n + 1 := by omega
      subst hiE
      rw [Nat.add_sub_cancel, Nat.sub_self, List.replicate_zero, List.append_nil] at hrow
      have hcv := row_txt (cap := n + 1) hrow
      obtain ⟨t1, t2⟩ := ten_dg n
      have hl1 : (49 :: List.replicate n (48 : Int)).length = n + 1 := by simp
      rw [hl1] at hcv
      have HC := hide (show ∀ w : World, _ from fun w => natural7 (w := w) (N := n + 1) t2 rfl hl1 (by omega))
      rw [t1] at HC
      have q9 : ¬ ((n + 1 : Nat) : Int) ≤ (n : Int) := by omega
      clear hln
      go_wp2_with fail
      refine (HC.out _).mono ?_
      rintro z w3 ⟨v, rfl, hN3, b3⟩
      have HF := hide (And.intro (num_since hN3 hbr.size) (below_trans hbr b3))
      clear HC hN3 b3 hcv
      go_wp2
      go_ret
      exact ⟨_, rfl, HF.out.1, HF.out.2⟩

end Go.Proofs.YtigehipclkoecaaGreatDoor

namespace Go.Proofs.YtigehipclkoecaaGreatDoor
open Go.RowKit
set_option linter.unusedVariables false

theorem mst_top {F s : Int} (hF : 0 < F) (s0 : 0 ≤ s) : mst F s ≤ 2 * F - 1 := by
  unfold mst
  split
  · omega
  · have := Int.emod_lt_of_pos s hF; omega
theorem sgn_scale {x y c : Int} (hc : 0 < c) : sgn (x * c) (y * c) = sgn x y := by
  unfold sgn
  have h1 : x * c < y * c ↔ x < y := ⟨fun h => Int.lt_of_mul_lt_mul_right h (Int.le_of_lt hc), fun h => Int.mul_lt_mul_of_pos_right h hc⟩
  have h2 : y * c < x * c ↔ y < x := ⟨fun h => Int.lt_of_mul_lt_mul_right h (Int.le_of_lt hc), fun h => Int.mul_lt_mul_of_pos_right h hc⟩
  simp only [h1, h2]
theorem est_succ {F L s : Int} (hF : 0 < F) (s0 : 0 ≤ s) : est F L (s + 1) = est F L s ∨ est F L (s + 1) = est F L s + 1 := by
  unfold est
  by_cases a : s + 1 < F
  · rw [if_pos a, if_pos (by omega)]; exact Or.inl rfl
  · rw [if_neg a]
    by_cases b : s < F
    · rw [if_pos b, show s + 1 = F by omega, Int.ediv_self (by omega)]; exact Or.inl (by omega)
    · rw [if_neg b]
      have hd := Int.mul_ediv_add_emod s F
      have m0 := Int.emod_nonneg s (b := F) (by omega)
      have m1 := Int.emod_lt_of_pos s hF
      by_cases c : s % F + 1 < F
      · left
        rw [show s + 1 = (s % F + 1) + F * (s / F) by omega, Int.add_mul_ediv_left _ _ (by omega), Int.ediv_eq_zero_of_lt (by omega) c]
        omega
      · right
        rw [show s + 1 = F * (s / F + 1) by rw [Int.mul_add, Int.mul_one]; omega, Int.mul_ediv_cancel_left _ (by omega)]
        omega
theorem sgn_le {x y : Int} : sgn x y ≤ 0 ↔ x ≤ y := by
  unfold sgn
  by_cases h : x < y
  · rw [if_pos h]; omega
  · rw [if_neg h]
    by_cases g : y < x
    · rw [if_pos g]; omega
    · rw [if_neg g]; omega
theorem sgn_at {N E n f B : Int} (h1 : B ≤ E) (h2 : B ≤ f) : sgn (sc n f (min f E)) (sc N E (min f E)) = sgn (sc n f B) (sc N E B) := by
  rw [sc_shift (N := n) (E := f) (B := min f E) (C := B) (by omega) (by omega), sc_shift (N := N) (E := E) (B := min f E) (C := B) (by omega) (by omega), sgn_scale (p2_pos _)]
theorem len_small {A : Int} {k m : Nat} (h : IsLen A k) (hA : A < p2 m) : k ≤ m := by
  rcases Nat.lt_or_ge m k with c | c
  · have h1 := h.2 (by omega)
    have h2 := p2_mono (m := m) (n := k - 1) (by omega)
    omega
  · exact c
theorem rshl_vast {w : World} {va : Value} {A n : Int} {ka : Nat} (ha : Arg w va A ka) (hka : ka ≤ 3000000) (hA : A < p2 8000) (h0 : 0 ≤ n) (hN : n ≤ 10000) :
    Calls Tryz.prog 97 #[va, .int .i64 n] w fun e w' => ∃ v, e = .returned (.tuple #[v, .bool true]) ∧ Num w.heap.size w' v (A * p2 n.toNat) (ka + 2000) ∧ Below w.heap.size w w' := by
  obtain ⟨N, rfl⟩ := Int.eq_ofNat_of_zero_le h0
  rw [Int.toNat_natCast]
  rcases Int.lt_or_eq_of_le ha.nonneg with c | c
  · obtain ⟨k, hk, hk2⟩ := len_of ha
    have hk3 := len_small hk hA
    refine (rshl_ok (W := N / 8) (s := N % 8) ha (by omega) c hk hk2 (by omega) (by omega) (by omega)).mono ?_
    rintro x w1 ⟨vs, rfl, hv, K⟩
    exact ⟨vs, rfl, hv.mono (by omega), K⟩
  · subst c
    refine (rshl_zero ha (by omega) (n := (N : Int)) (by omega)).mono ?_
    rintro e w' ⟨rfl, K⟩
    refine ⟨.slice none 0 0, rfl, ?_, K⟩
    rw [Int.zero_mul]
    exact ⟨[], ⟨none, rfl, by simp [maxLen], fun h => by simp at h⟩, Nt.canon_nil, by simp [Nt.val, Nt.vt], by simp⟩
set_option maxRecDepth 100000 in
set_option maxHeartbeats 4000000 in
theorem rcmp2_big {w : World} {va vb : Value} {A C e f : Int} {ka kb : Nat} (ha : Arg w va A ka) (hb : Arg w vb C kb) (hka : ka ≤ 3000000) (hkb : kb ≤ 3000000) (hA : A < p2 8000) (hC : C < p2 8000) (e0 : -4000 ≤ e) (e1 : e ≤ 4000) (f0 : -4000 ≤ f) (f1 : f ≤ 4000) :
    Calls Tryz.prog 57 #[va, .int .i64 e, vb, .int .i64 f] w fun x w' => x = .returned (.int .i64 (sgn (sc A e (min e f)) (sc C f (min e f)))) ∧ Below w.heap.size w w' := by
  have HA := hide hA
  have HC := hide hC
  clear hA hC
  rcases Int.lt_trichotomy e f with c | c | c
  · have c1 : ¬ f < e := by omega
    have d0 : 0 ≤ f - e := by omega
    have hs : sgn (sc A e (min e f)) (sc C f (min e f)) = sgn A (C * p2 (f - e).toNat) := by
      unfold sc
      rw [show min e f = e by omega, Int.sub_self, show p2 (0 : Int).toNat = 1 from rfl, Int.mul_one]
    have HS := hide hs
    clear hs
    go_enter Tryz.func57, Tryz.ntmps57
    go_wp2_with fail
    with_reducible refine (rshl_vast hb hkb HC.out d0 (by omega)).mono ?_
    rintro x w1 ⟨v1, rfl, h1, K⟩
    replace ha := ha.below K
    go_wp2_with fail
    with_reducible refine (rcmp_any ha h1.arg (by omega) (by omega)).mono ?_
    rintro x w2 ⟨rfl, kb⟩
    generalize hs : sgn A (C * p2 (f - e).toNat) = s at *
    clear hs
    go_wp2
    go_ret
    exact ⟨by rw [HS.out]; rfl, below_trans K kb⟩
  · subst c
    have c1 : ¬ e < e := by omega
    have hs : sgn (sc A e (min e e)) (sc C e (min e e)) = sgn A C := by
      unfold sc
      rw [show min e e = e by omega, Int.sub_self, show p2 (0 : Int).toNat = 1 from rfl, Int.mul_one, Int.mul_one]
    have HS := hide hs
    clear hs
    go_enter Tryz.func57, Tryz.ntmps57
    go_wp2_with fail
    with_reducible refine (rcmp_any ha hb (by omega) (by omega)).mono ?_
    rintro x w2 ⟨rfl, kb⟩
    generalize hs : sgn A C = s at *
    clear hs
    go_wp2
    go_ret
    exact ⟨by rw [HS.out]; rfl, kb⟩
  · have c1 : ¬ e < f := by omega
    have d0 : 0 ≤ e - f := by omega
    have hs : sgn (sc A e (min e f)) (sc C f (min e f)) = sgn (A * p2 (e - f).toNat) C := by
      unfold sc
      rw [show min e f = f by omega, Int.sub_self, show p2 (0 : Int).toNat = 1 from rfl, Int.mul_one]
    have HS := hide hs
    clear hs
    go_enter Tryz.func57, Tryz.ntmps57
    go_wp2_with fail
    with_reducible refine (rshl_vast ha hka HA.out d0 (by omega)).mono ?_
    rintro x w1 ⟨v1, rfl, h1, K⟩
    replace hb := hb.below K
    go_wp2_with fail
    with_reducible refine (rcmp_any h1.arg hb (by omega) (by omega)).mono ?_
    rintro x w2 ⟨rfl, kb⟩
    generalize hs : sgn (A * p2 (e - f).toNat) C = s at *
    clear hs
    go_wp2
    go_ret
    exact ⟨by rw [HS.out]; rfl, below_trans K kb⟩

theorem um_none {F L : Int} (hF : 0 < F) : um F L L 0 = 0 := by unfold um sc mst; rw [if_pos hF, Int.zero_mul]
theorem cmp_low {F L s M D : Int} (hF : 0 < F) (hL : L ≤ 0) : sgn (sc (mst F s * D) (est F L s) (min (est F L s) 0)) (sc M 0 (min (est F L s) 0)) = sgn (um F L L s * D) (M * p2 (-L).toNat) := by
  have e0 := est_ge (L := L) (s := s) hF
  rw [sgn_at (B := L) hL e0]
  congr 1
  · unfold um sc; ac_rfl
  · unfold sc; rw [Int.zero_sub]
theorem cmp_mid {F L s M D m : Int} (hF : 0 < F) (hL : L ≤ 0) (s0 : 0 ≤ s)
    (hm : (est F L (s + 1) = est F L s ∧ m = mst F s + mst F (s + 1)) ∨ (est F L (s + 1) = est F L s + 1 ∧ m = mst F s + 2 * mst F (s + 1))) :
    sgn (sc M 0 (min 0 (est F L s - 1))) (sc (m * D) (est F L s - 1) (min 0 (est F L s - 1))) = sgn (2 * (M * p2 (-L).toNat)) (mid2 F L s * D) := by
  have e0 := est_ge (L := L) (s := s) hF
  rw [sgn_at (N := m * D) (E := est F L s - 1) (n := M) (f := 0) (B := L - 1) (by omega) (by omega)]
  congr 1
  · unfold sc
    rw [show (0 : Int) - (L - 1) = 1 + (-L) by omega, p2_toNat_add (by omega) (by omega), show p2 (1 : Int).toNat = 2 from rfl, Int.mul_left_comm]
  · unfold mid2 um sc
    rw [show est F L s - 1 - (L - 1) = est F L s - L by omega]
    rcases hm with ⟨g, rfl⟩ | ⟨g, rfl⟩
    · rw [g, ← Int.add_mul]; ac_rfl
    · rw [g, show est F L s + 1 - L = 1 + (est F L s - L) by omega, p2_toNat_add (by omega) (by omega), show p2 (1 : Int).toNat = 2 from rfl, ← Int.mul_assoc, ← Int.add_mul, Int.mul_comm (mst F (s + 1)) 2]; ac_rfl
theorem dn_top {F L I X D : Int} (hF : 0 < F) (hD : 0 < D) (i0 : 0 < I) (h : um F L L I * D ≤ X) : DN F L I X D I := by
  refine ⟨by omega, Int.le_refl _, fun g => by omega, fun _ => ?_⟩
  have g := um_lt (F := F) (L := L) (B := L) (s := I - 1) hF (by omega) (by omega)
  rw [Int.sub_add_cancel] at g
  have g2 := Int.mul_lt_mul_of_pos_right g hD
  unfold mid2
  rw [Int.add_mul, Int.sub_add_cancel]
  exact ⟨by omega, fun e => by omega⟩
theorem dn_found {F L I X D lo c r : Int} (hF : 0 < F) (hD : 0 < D) (l0 : 0 ≤ lo) (l1 : lo < I) (hlo : um F L L lo * D ≤ X) (hhi : X < um F L L (lo + 1) * D) (hc : c = sgn (2 * X) (mid2 F L lo * D))
    (hr : ((0 < c ∨ (c = 0 ∧ lo % 2 = 1)) ∧ r = lo + 1) ∨ ((c < 0 ∨ (c = 0 ∧ lo % 2 = 0)) ∧ r = lo)) : DN F L I X D r := by
  have cs : (0 < c ∧ mid2 F L lo * D < 2 * X) ∨ (c = 0 ∧ 2 * X = mid2 F L lo * D) ∨ (c < 0 ∧ 2 * X < mid2 F L lo * D) := by
    unfold sgn at hc
    by_cases h : 2 * X < mid2 F L lo * D
    · rw [if_pos h] at hc; exact .inr (.inr ⟨by omega, h⟩)
    · rw [if_neg h] at hc
      by_cases g : mid2 F L lo * D < 2 * X
      · rw [if_pos g] at hc; exact .inl ⟨by omega, g⟩
      · rw [if_neg g] at hc; exact .inr (.inl ⟨hc, by omega⟩)
  rcases hr with ⟨h, rfl⟩ | ⟨h, rfl⟩
  · refine ⟨by omega, by omega, fun g => ?_, fun _ => ?_⟩
    · have a := um_lt (F := F) (L := L) (B := L) (s := lo + 1) hF (by omega) (by omega)
      have a2 := Int.mul_lt_mul_of_pos_right a hD
      unfold mid2
      rw [Int.add_mul]
      exact ⟨by omega, fun e => by omega⟩
    · rw [Int.add_sub_cancel]
      exact ⟨by omega, fun e => by omega⟩
  · refine ⟨l0, by omega, fun _ => ⟨by omega, fun e => by omega⟩, fun g => ?_⟩
    have a := um_lt (F := F) (L := L) (B := L) (s := r - 1) hF (by omega) (by omega)
    rw [Int.sub_add_cancel] at a
    have a2 := Int.mul_lt_mul_of_pos_right a hD
    unfold mid2
    rw [Int.add_mul, Int.sub_add_cancel]
    exact ⟨by omega, fun e => by omega⟩

set_option maxRecDepth 100000 in
set_option maxHeartbeats 8000000 in
theorem nearest7 {w : World} {va vb : Value} {W F L I M D : Int} {ka kb : Nat} (hF : 0 < F) (hF2 : F ≤ 9007199254740992) (hL : L ≤ 0) (hL2 : -1100 ≤ L) (i0 : 0 < I) (i1 : I < 9223372036854775808)
    (hinf : ∀ w : World, Calls Tryz.prog 26 #[.int .i64 W] w fun e w' => e = .returned (.int .u64 I) ∧ Below w.heap.size w w')
    (hnum : ∀ (w : World) (s : Int), 0 ≤ s → s ≤ I → Calls Tryz.prog 56 #[.int .i64 W, .int .u64 s] w fun e w' => e = .returned (.tuple #[.int .u64 (mst F s), .int .i64 (est F L s)]) ∧ Below w.heap.size w w')
    (hest : ∀ s : Int, 0 ≤ s → s ≤ I → est F L s ≤ 2100)
    (ha : Arg w va M ka) (hb : Arg w vb D kb) (hka : ka ≤ 1000000) (hkb : kb ≤ 1000000) (hM : M < p2 6000) (hD : D < p2 6000) (D0 : 0 < D) :
    Calls Tryz.prog 30 #[.int .i64 W, va, vb] w fun e w' => ∃ r, e = .returned (.int .u64 r) ∧ 0 ≤ r ∧ r ≤ I ∧ DN F L I (M * p2 (-L).toNat) D r ∧ Below w.heap.size w w' := by
  have HI := hide hinf
  have HNU := hide hnum
  have HES := hide hest
  have HM := hide hM
  have HD := hide hD
  have M0 := ha.nonneg
  have p60 := hide (show p2 6000 ≤ p2 8000 from p2_mono (by decide))
  have mulb := hide (show ∀ k : Int, 0 ≤ k → k < 18446744073709551616 → k * D < p2 8000 from fun k k0 k1 => by
    have a : k * D ≤ 18446744073709551616 * D := Int.mul_le_mul_of_nonneg_right (by omega) (by omega)
    have b : 18446744073709551616 * p2 6000 = p2 6064 := by rw [show (18446744073709551616 : Int) = p2 64 by decide, ← p2_add]
    have c : p2 6064 ≤ p2 8000 := p2_mono (by decide)
    omega)
  clear hinf hnum hest hM hD
  go_enter Tryz.func30, Tryz.ntmps30
  go_wp2_with fail
  refine (HI.out _).mono ?_
  rintro z w1 ⟨rfl, K⟩
  replace ha := ha.below K
  replace hb := hb.below K
  go_wp2
  go_loopg [7, 8] (I + 1).toNat (fun c lv hv wr => ∃ (lo hi : Int), c = (hi - lo).toNat ∧ lv = .int .u64 lo ∧ hv = .int .u64 hi ∧ 0 ≤ lo ∧ lo < hi ∧ hi ≤ I + 1 ∧ um F L L lo * D ≤ M * p2 (-L).toNat ∧ (hi ≤ I → M * p2 (-L).toNat < um F L L hi * D) ∧ Arg wr va M ka ∧ Arg wr vb D kb ∧ Below w.heap.size w wr)
  case atStart => exact ⟨0, I + 1, by simp, rfl, rfl, Int.le_refl _, by omega, Int.le_refl _, by rw [um_none hF, Int.zero_mul]; exact Int.mul_nonneg M0 (Int.le_of_lt (p2_pos _)), fun h => by omega, ha, hb, K⟩
  case round =>
    clear ha hb K
    obtain ⟨lo, hi, hgk, rfl, rfl, l0, lh, h1, hlo, hhi, ha, hb, K⟩ := hrel
    have HLO := hide hlo
    have HHI := hide hhi
    clear hlo hhi
    by_cases more2 : 1 < hi - lo
    · obtain ⟨mid, hmid⟩ : ∃ m, lo + (hi - lo) / 2 = m := ⟨_, rfl⟩
      have g0 : lo < mid := by omega
      have g1 : mid < hi := by omega
      have mt := mst_top (F := F) (s := mid) hF (by omega)
      have m0 : 0 ≤ mst F mid := by
        unfold mst
        split
        · omega
        · have := Int.emod_nonneg mid (b := F) (by omega); omega
      have ee1 := HES.out mid (by omega) (by omega)
      have ee0 := est_ge (F := F) (L := L) (s := mid) hF
      have HCM := hide (cmp_low (F := F) (L := L) (s := mid) (M := M) (D := D) hF hL)
      go_wp2_with fail
      refine (HNU.out _ mid (by omega) (by omega)).mono ?_
      rintro z w3 ⟨rfl, kb3⟩
      replace ha := ha.below kb3
      replace hb := hb.below kb3
      replace K := below_trans K kb3
      clear kb3
      generalize mst F mid = mm at *
      generalize est F L mid = ee at *
      go_wp2_with fail
      refine (rfrom_any mm (by omega) (by omega)).mono ?_
      rintro z w4 ⟨y1, rfl, hy, kb4⟩
      replace ha := ha.below kb4
      replace hb := hb.below kb4
      replace K := below_trans K kb4
      clear kb4
      go_wp2_with fail
      refine (rmul_any hy.arg hb (by omega) (by omega)).mono ?_
      rintro z w5 ⟨y2, rfl, hy2, kb5⟩
      replace ha := ha.below kb5
      replace hb := hb.below kb5
      replace K := below_trans K kb5
      clear kb5 hy
      go_wp2_with fail
      refine (rcmp2_big (e := ee) (f := 0) hy2.arg ha (by omega) (by omega) (mulb.out mm m0 (by omega)) (by have := p60.out; have := HM.out; omega) (by omega) (by omega) (by omega) (by omega)).mono ?_
      rintro z w6 ⟨rfl, kb6⟩
      replace ha := ha.below kb6
      replace hb := hb.below kb6
      replace K := below_trans K kb6
      clear kb6 hy2
      rw [HCM.out]
      have HS := hide (sgn_le (x := um F L L mid * D) (y := M * p2 (-L).toNat))
      clear HCM
      generalize sgn (um F L L mid * D) (M * p2 (-L).toNat) = c at *
      by_cases cc : c ≤ 0
      · have HN := hide (HS.out.1 cc)
        clear HS
        go_wp2
        go_roundg (hi - mid).toNat
        case measure => omega
        case rel => exact ⟨mid, hi, rfl, rfl, rfl, by omega, g1, h1, HN.out, HHI.out, ha, hb, K⟩
      · have HN := hide (show M * p2 (-L).toNat < um F L L mid * D by
          rcases Int.lt_or_le (M * p2 (-L).toNat) (um F L L mid * D) with g | g
          · exact g
          · exact absurd (HS.out.2 g) cc)
        clear HS
        go_wp2
        go_roundg (mid - lo).toNat
        case measure => omega
        case rel => exact ⟨lo, mid, rfl, rfl, rfl, l0, g0, by omega, HLO.out, fun _ => HN.out, ha, hb, K⟩
    · obtain rfl : hi = lo + 1 := by omega
      go_wp2_with fail
      refine (HI.out _).mono ?_
      rintro z w3 ⟨rfl, kb3⟩
      replace ha := ha.below kb3
      replace hb := hb.below kb3
      replace K := below_trans K kb3
      clear kb3
      by_cases top : lo = I
      · have HF := hide (show DN F L I (M * p2 (-L).toNat) D I from dn_top hF D0 i0 (by rw [← top]; exact HLO.out))
        have top' : (lo == I) = true := by simp [top]
        have Htop := hide top
        clear top
        go_wp2
        go_ret
        exact ⟨lo, rfl, by omega, by omega, by rw [Htop.out]; exact HF.out, K⟩
      have top' : (lo == I) = false := by simp [top]
      go_wp2_with fail
      refine (HNU.out _ lo l0 (by omega)).mono ?_
      rintro z w4 ⟨rfl, kb4⟩
      replace ha := ha.below kb4
      replace hb := hb.below kb4
      replace K := below_trans K kb4
      clear kb4
      go_wp2_with fail
      refine (HNU.out _ (lo + 1) (by omega) (by omega)).mono ?_
      rintro z w5 ⟨rfl, kb5⟩
      replace ha := ha.below kb5
      replace hb := hb.below kb5
      replace K := below_trans K kb5
      clear kb5
      have HSUC := est_succ (F := F) (L := L) (s := lo) hF l0
      have ee1 := HES.out lo (by omega) (by omega)
      have ee0 := est_ge (F := F) (L := L) (s := lo) hF
      have nn2 := mst_top (F := F) (s := lo) hF l0
      have kk2 := mst_top (F := F) (s := lo + 1) hF (by omega)
      have msp : ∀ t : Int, 0 ≤ t → 0 ≤ mst F t := fun t t0 => by
        unfold mst
        split
        · omega
        · have := Int.emod_nonneg t (b := F) (by omega); omega
      have nn0 := msp lo l0
      have kk0 := msp (lo + 1) (by omega)
      have HMID := hide (fun m => cmp_mid (F := F) (L := L) (s := lo) (M := M) (D := D) (m := m) hF hL l0)
      have HFOUND := hide (fun c r hc hr => dn_found (F := F) (L := L) (I := I) (X := M * p2 (-L).toNat) (D := D) (lo := lo) (c := c) (r := r) hF D0 l0 (by omega) HLO.out (HHI.out (by omega)) hc hr)
      have ltI : lo < I := by omega
      clear HLO HHI top msp
      generalize mst F lo = n at *
      generalize mst F (lo + 1) = kq at *
      generalize est F L lo = f at *
      generalize est F L (lo + 1) = g at *
      go_upto_if 70 with fail
      go_cut [16] from 18 (fun s16 w6 => ∃ m, s16 = .int .u64 m ∧ 0 ≤ m ∧ m < 18446744073709551616 ∧ ((g = f ∧ m = n + kq) ∨ (g = f + 1 ∧ m = n + 2 * kq)) ∧ w5 = w6)
      case first =>
        rcases HSUC with e9 | e9
        · have ng : ¬ f < g := by omega
          have H9 := hide e9
          clear e9
          go_wp2
          go_meet
          case rel => exact ⟨n + kq, rfl, by omega, by omega, Or.inl ⟨H9.out, rfl⟩, rfl⟩
        · have ng : f < g := by omega
          have H9 := hide e9
          clear e9
          go_wp2
          go_meet
          case rel => exact ⟨n + 2 * kq, rfl, by omega, by omega, Or.inr ⟨H9.out, rfl⟩, rfl⟩
      case rest =>
        obtain ⟨m, rfl, mq0, mq1, hm, rfl⟩ := hcut
        have HMM := hide hm
        clear hm HSUC
        go_wp2_with fail
        refine (rfrom_any m mq0 mq1).mono ?_
        rintro z w7 ⟨y1, rfl, hy, kb7⟩
        replace ha := ha.below kb7
        replace hb := hb.below kb7
        replace K := below_trans K kb7
        clear kb7
        go_wp2_with fail
        refine (rmul_any hy.arg hb (by omega) (by omega)).mono ?_
        rintro z w8 ⟨y2, rfl, hy2, kb8⟩
        replace ha := ha.below kb8
        replace K := below_trans K kb8
        clear kb8 hy hb
        go_wp2_with fail
        refine (rcmp2_big (e := 0) (f := f - 1) ha hy2.arg (by omega) (by omega) (by have := p60.out; have := HM.out; omega) (mulb.out m mq0 mq1) (by omega) (by omega) (by omega) (by omega)).mono ?_
        rintro z w9 ⟨rfl, kb9⟩
        replace K := below_trans K kb9
        clear kb9 hy2 ha
        rw [HMID.out m HMM.out]
        have HF := fun r hr => hide (HFOUND.out (sgn (2 * (M * p2 (-L).toNat)) (mid2 F L lo * D)) r rfl hr)
        clear HMID HFOUND HMM
        generalize sgn (2 * (M * p2 (-L).toNat)) (mid2 F L lo * D) = c at *
        by_cases up : 0 < c
        · have H1 := HF (lo + 1) (Or.inl ⟨Or.inl up, rfl⟩)
          clear HF
          go_wp2
          go_ret
          exact ⟨lo + 1, rfl, by omega, by omega, H1.out, K⟩
        by_cases z0 : c = 0
        · have z' : (c == 0) = true := by simp [z0]
          by_cases od : lo % 2 = 1
          · have od' : (lo % 2 == 1) = true := by simp [od]
            have H1 := HF (lo + 1) (Or.inl ⟨Or.inr ⟨z0, od⟩, rfl⟩)
            clear HF z0 od
            go_wp2
            go_ret
            exact ⟨lo + 1, rfl, by omega, by omega, H1.out, K⟩
          · have od' : (lo % 2 == 1) = false := by simp [od]
            have H1 := HF lo (Or.inr ⟨Or.inr ⟨z0, by omega⟩, rfl⟩)
            clear HF z0 od
            go_wp2
            go_ret
            exact ⟨lo, rfl, by omega, by omega, H1.out, K⟩
        · have z' : (c == 0) = false := by simp [z0]
          have H1 := HF lo (Or.inr ⟨Or.inl (by omega), rfl⟩)
          clear HF z0
          go_wp2
          go_ret
          exact ⟨lo, rfl, by omega, by omega, H1.out, K⟩

end Go.Proofs.YtigehipclkoecaaGreatDoor

namespace Go.Proofs.YtigehipclkoecaaGreatDoor
open Go.RowKit
set_option linter.unusedVariables false

theorem dv_lead9 {F L I q r : Int} {ds : List Int} {N : Nat} (W : Wide F L I) (hd : Dg ds) (hN : ds.length = N) (h8 : 1000 < N) (h0 : Nt.lb ds 0 ≠ 48) (h1 : Nt.lb ds (N - 1) ≠ 48)
    (hq : q ≤ 1000) (h : DV F L I (dg (ds.take 1000) * 10 + 1) (q - 1001) r) : DV F L I (dg ds) (q - N) r := by
  have e : dg ds = dg (ds.take 1000) * tn (N - 1000) + dg (ds.drop 1000) := by
    have k := dg_append (ds.take 1000) (ds.drop 1000)
    rw [List.take_append_drop, List.length_drop, hN] at k
    exact k
  have p := dg_pos_last (hd.drop 1000) (by rw [List.length_drop]; omega) (by rw [List.length_drop, lb_drop, hN, show 1000 + (N - 1000 - 1) = N - 1 by omega]; exact h1)
  have s := (dg_range (hd.drop 1000)).2
  rw [List.length_drop, hN] at s
  have l := dg_lead' (hd.take 1000) (by rw [List.length_take]; omega) (by rw [lb_take (by omega)]; exact h0)
  rw [List.length_take, show min 1000 ds.length - 1 = 999 by omega] at l
  have t10 : tn 1 = 10 := by decide
  refine dv_cut (A := dg (ds.take 1000)) (j := 1) (j' := N - 1000) W (Int.le_trans (tn_mono (by decide)) l) ?_ ?_ ?_ ?_ ?_ ?_ h
  · rw [t10]; omega
  · rw [t10]; omega
  · omega
  · rw [e, Int.add_mul, Int.one_mul]; omega
  · omega
  · omega
theorem tn_p2_le (k : Nat) : tn k ≤ p2 (4 * k) := by
  induction k with
  | zero => decide
  | succ k ih =>
    rw [tn_succ, show 4 * (k + 1) = 4 * k + 4 by omega, p2_add, show p2 4 = 16 by decide]
    have := tn_pos k
    omega
theorem tn_lt_6000 {k : Nat} (h : k ≤ 1450) : tn k < p2 6000 := by
  have a := tn_p2_le k
  have b := p2_mono (m := 4 * k) (n := 5999) (by omega)
  have c : p2 6000 = 2 * p2 5999 := rfl
  have d := p2_pos 5999
  omega
theorem btw_num {es : List Int} {N a b : Nat} (hd : Dg es) (hN : es.length = N) (h : Btw es N a b) (hab : a < b) :
    Nm ((es.take b).drop a) ∧ ((es.take b).drop a).length = b - a ∧ dg es = dg ((es.take b).drop a) * tn (N - b) ∧ tn (N - a - 1) ≤ dg es ∧ dg es < tn (N - a) := by
  obtain ⟨h1, h2, h3, h4, h5, h6⟩ := h
  obtain ⟨n0, n1⟩ := h5 hab
  obtain ⟨nm, nl⟩ := nm_between (N := N) hd hN hab h2 n0 n1
  have bt := dg_between (es := es) (f := a) (e := b) (by omega) h1 h3 (fun j g1 g2 => h4 j g1 (by omega))
  rw [hN] at bt
  have ld := dg_lead' nm.1 (by omega) (nm.2.1 (by omega))
  have rg := (dg_range nm.1).2
  rw [nl] at ld rg
  have T := tn_pos (N - b)
  refine ⟨nm, nl, bt, ?_, ?_⟩
  · rw [bt, show N - a - 1 = (b - a - 1) + (N - b) by omega, tn_add]
    exact Int.mul_le_mul_of_nonneg_right ld (Int.le_of_lt T)
  · rw [bt, show N - a = (b - a) + (N - b) by omega, tn_add]
    exact Int.mul_lt_mul_of_pos_right rg T
theorem btw_none {es : List Int} {N a b : Nat} (hN : es.length = N) (h : Btw es N a b) (hab : a = b) : dg es = 0 := by
  obtain ⟨h1, h2, h3, h4, h5, h6⟩ := h
  have e := h6 hab
  have e2 : es = List.replicate es.length 48 := dg_all (fun j hj => h3 j (by omega))
  rw [e2, dg_noughts]

theorem rsign_any {v F L I S n : Int} (h : Wd v F L I S n) (w : World) : Calls Tryz.prog 24 #[.int .i64 n] w fun e w' => e = .returned (.int .u64 S) ∧ w' = w := by
  rcases h.2.2 with ⟨_, rfl, rfl, rfl, rfl, rfl⟩ | ⟨_, rfl, rfl, rfl, rfl, rfl⟩ | ⟨_, rfl, rfl, rfl, rfl, rfl⟩ | ⟨_, rfl, rfl, rfl, rfl, rfl⟩
  · exact rSign_h w
  · exact rSign_s w
  · exact rSign_d w
  · exact rSign_h w

theorem rinf_any {v F L I S n : Int} (h : Wd v F L I S n) (w : World) : Calls Tryz.prog 26 #[.int .i64 n] w fun e w' => e = .returned (.int .u64 I) ∧ Below w.heap.size w w' := by
  rcases h.2.2 with ⟨_, rfl, rfl, rfl, rfl, rfl⟩ | ⟨_, rfl, rfl, rfl, rfl, rfl⟩ | ⟨_, rfl, rfl, rfl, rfl, rfl⟩ | ⟨_, rfl, rfl, rfl, rfl, rfl⟩
  · exact rInf_h w
  · exact rInf_s w
  · exact rInf_d w
  · exact rInf_h w

theorem rnum_any {v F L I S n : Int} (h : Wd v F L I S n) (w : World) (s : Int) (s0 : 0 ≤ s) (s1 : s ≤ I) : Calls Tryz.prog 56 #[.int .i64 n, .int .u64 s] w fun e w' => e = .returned (.tuple #[.int .u64 (mst F s), .int .i64 (est F L s)]) ∧ Below w.heap.size w w' := by
  rcases h.2.2 with ⟨_, rfl, rfl, rfl, rfl, rfl⟩ | ⟨_, rfl, rfl, rfl, rfl, rfl⟩ | ⟨_, rfl, rfl, rfl, rfl, rfl⟩ | ⟨_, rfl, rfl, rfl, rfl, rfl⟩
  · exact rNumber_h w s s0 (by omega)
  · exact rNumber_s w s s0 (by omega)
  · exact rNumber_d w s s0 (by omega)
  · exact rNumber_h w s s0 (by omega)

theorem Wd.more {v F L I S n : Int} (h : Wd v F L I S n) : 0 < F ∧ F ≤ 9007199254740992 ∧ L ≤ 0 ∧ -1100 ≤ L ∧ 0 < I ∧ I < 9223372036854775808 ∧ ∀ s : Int, 0 ≤ s → s ≤ I → est F L s ≤ 2100 := by
  rcases h.2.2 with ⟨_, rfl, rfl, rfl, rfl, rfl⟩ | ⟨_, rfl, rfl, rfl, rfl, rfl⟩ | ⟨_, rfl, rfl, rfl, rfl, rfl⟩ | ⟨_, rfl, rfl, rfl, rfl, rfl⟩
  all_goals refine ⟨by decide, by decide, by decide, by decide, by decide, by decide, fun s s0 s1 => ?_⟩
  all_goals unfold est; split <;> omega
theorem arg_one (w : World) : Arg (w.alloc (.cells #[.int .u32 1] 44)) (.slice (some ⟨w.heap.size, 0, none⟩) 1 1) 1 1 :=
  ⟨[1], ⟨_, 1, rfl, Nat.le_refl _, by unfold maxLen; omega, cells_one _ _ _ _⟩, fun i => by rcases i with _ | i <;> simp [Nt.lb], by simp [Nt.val, Nt.vt, Nt.lb, Nt.pw], Nat.le_refl _⟩

set_option maxRecDepth 100000 in
set_option maxHeartbeats 8000000 in
theorem rread7 {w : World} {v F L I S n : Int} (hW : Wd v F L I S n) {es : List Int} {s : ByteArray} {N : Nat} {ng : Bool} {P : Int} (hd : Byt es) (hs : s = strOfNums es) (hN : es.length = N) (hl : N ≤ 1048576) (hP : -9223372036854775808 ≤ P) (hP2 : P ≤ 9223372036854775807) :
    Calls Tryz.prog 8 #[.int .i64 n, .agg #[.bool ng, .string s, .int .i64 P]] w fun e w' => Below w.heap.size w w' ∧
      ((¬ Dg es ∧ e = .returned (.tuple #[.int .u64 0, .bool false])) ∨ (Dg es ∧ ∃ r, e = .returned (.tuple #[.int .u64 (b2i ng * S + r), .bool true]) ∧ 0 ≤ r ∧ r ≤ I ∧ DV F L I (dg es) (P - N) r)) := by
  obtain ⟨i0, i1, i2, -⟩ := hW.ends
  have HW := hide hW
  have HD := hide hd
  have HS := hide hs
  have HN := hide hN
  have hsz : s.size = N := by rw [hs, strOfNums_size, hN]
  have K0 : Below w.heap.size w (w.alloc (.cells #[.bool ng, .string s, .int .i64 P] 23)) := al_one _ _
  have C := cell3_new w (.bool ng) (.string s) (.int .i64 P) 23
  clear hW hd hs hN
  go_enter Tryz.func8, Tryz.ntmps8
  go_wp2_with fail
  refine (fine7 HD.out HS.out HN.out (by omega)).mono ?_
  rintro z w1 ⟨b1, hfine⟩
  replace C := C.below b1
  have K := below_trans K0 b1
  clear b1 K0
  rcases hfine with ⟨hD, rfl⟩ | ⟨hD, rfl⟩
  rotate_left
  · go_wp2
    go_ret2
    exact ⟨K, .inl ⟨hD, rfl⟩⟩
  have HDg := hide hD
  clear hD
  have c0 := C.c0; have c1 := C.c1; have c2 := C.c2
  go_upto_if 16 with fail
  go_cut [6] from 12 (fun s6 w6 => s6 = .int .u64 (b2i ng * S) ∧ w1 = w6)
  case first =>
    cases ng
    · go_wp2
      go_meet
      case rel => exact ⟨by simp [b2i], rfl⟩
    · go_wp2_with fail
      refine (rsign_any HW.out _).mono ?_
      rintro z w2 ⟨rfl, rfl⟩
      go_wp2
      go_meet
      case rel => exact ⟨by simp [b2i], rfl⟩
  case rest =>
    obtain ⟨rfl, rfl⟩ := hcut
    have sg0 : 0 ≤ b2i ng * S ∧ b2i ng * S ≤ 9223372036854775808 := by
      rcases b2i_cases ng with e | e <;> rw [e] <;> omega
    obtain ⟨sg, hsg⟩ : ∃ sg, b2i ng * S = sg := ⟨_, rfl⟩
    rw [hsg] at sg0
    rw [hsg]
    have Hsg := hide hsg
    obtain ⟨g0, g1⟩ := sg0
    clear hsg
    go_wp2_with fail
    refine (plain7 HD.out HS.out HN.out (by omega)).mono ?_
    rintro z w2 ⟨rfl, a, b, hB, rfl⟩
    have HB := hide hB
    have hab := hB.1
    have hbN := hB.2.1
    clear hB
    generalize htx : strOfNums ((es.take b).drop a) = tx at *
    have Htx := hide htx
    have xsz : tx.size = b - a := by rw [← htx, strOfNums_size, List.length_drop, List.length_take, HN.out]; omega
    clear htx
    rcases Nat.eq_or_lt_of_le hab with e | lt
    · have x1 : tx.toList.isEmpty = true := by
        rw [ByteArray.toList_eq, List.isEmpty_iff]
        exact List.eq_nil_of_length_eq_zero (by rw [Array.length_toList]; show tx.size = 0; omega)
      have HZ := hide (show DV F L I (dg es) (P - N) 0 by rw [btw_none HN.out HB.out e]; exact dv_zero HW.out.wide)
      go_wp2
      go_ret2
      refine ⟨K, .inr ⟨HDg.out, 0, ?_, Int.le_refl _, by omega, HZ.out⟩⟩
      rw [Hsg.out, Int.add_zero]
      rfl
    · have x1 : tx.toList.isEmpty = false := by
        rw [ByteArray.toList_eq]
        cases h : tx.data.toList with
        | nil =>
          have : tx.size = 0 := by show tx.data.size = 0; rw [← Array.length_toList, h]; rfl
          omega
        | cons _ _ => rfl
      obtain ⟨nm, nl, hv, vlo, vhi⟩ := btw_num HDg.out HN.out HB.out lt
      have HV := hide (And.intro nm (And.intro nl (And.intro hv (And.intro vlo vhi))))
      clear nm nl hv vlo vhi
      by_cases p1 : P < -1000000000000
      · have HZ := hide (show DV F L I (dg es) (P - N) 0 from dv_small (k := N) HW.out.wide (dg_range HDg.out).1 (by have := (dg_range HDg.out).2; rwa [HN.out] at this) (by omega))
        go_wp2
        go_ret2
        refine ⟨K, .inr ⟨HDg.out, 0, ?_, Int.le_refl _, by omega, HZ.out⟩⟩
        rw [Hsg.out, Int.add_zero]
        rfl
      by_cases p2' : 1000000000000 < P
      · have HZ := hide (show DV F L I (dg es) (P - N) I from dv_large (k := N - a - 1) HW.out.wide HV.out.2.2.2.1 (by omega))
        go_wp2_with fail
        refine (rinf_any HW.out _).mono ?_
        rintro z w3 ⟨rfl, b3⟩
        have K3 := below_trans K b3
        go_wp2
        go_ret2
        refine ⟨K3, .inr ⟨HDg.out, I, ?_, by omega, Int.le_refl _, HZ.out⟩⟩
        rw [Hsg.out]
        rfl
      by_cases p3 : 400 < P - a
      · have HZ := hide (show DV F L I (dg es) (P - N) I from dv_large (k := N - a - 1) HW.out.wide HV.out.2.2.2.1 (by omega))
        go_wp2_with fail
        refine (rinf_any HW.out _).mono ?_
        rintro z w3 ⟨rfl, b3⟩
        have K3 := below_trans K b3
        go_wp2
        go_ret2
        refine ⟨K3, .inr ⟨HDg.out, I, ?_, by omega, Int.le_refl _, HZ.out⟩⟩
        rw [Hsg.out]
        rfl
      by_cases p4 : P - a < -400
      · have HZ := hide (show DV F L I (dg es) (P - N) 0 from dv_small (k := N - a) HW.out.wide (dg_range HDg.out).1 HV.out.2.2.2.2 (by omega))
        go_wp2
        go_ret2
        refine ⟨K, .inr ⟨HDg.out, 0, ?_, Int.le_refl _, by omega, HZ.out⟩⟩
        rw [Hsg.out, Int.add_zero]
        rfl
      go_upto_if 58 with fail
      go_cut [7] from 12 (fun s7 w7 => ∃ (ds : List Int) (M : Nat), s7 = .string (strOfNums ds) ∧ Dg ds ∧ ds.length = M ∧ 0 < M ∧ M ≤ 1001 ∧ (∀ r, DV F L I (dg ds) (P - a - M) r → DV F L I (dg es) (P - N) r) ∧ w2 = w7)
      case first =>
        by_cases lg : 1000 < b - a
        · have q7 : (1000 : Int) < ((b - a : Nat) : Int) := by omega
          have q8 : 1000 ≤ tx.size := by omega
          have hx : tx.extract 0 1000 = strOfNums (((es.take b).drop a).take 1000) := by rw [← Htx.out, txt_cut, List.drop_zero]
          have hj := join_one (((es.take b).drop a).take 1000)
          have HL := hide (show ∀ r, DV F L I (dg (((es.take b).drop a).take 1000 ++ [49])) (P - a - (1001 : Nat)) r → DV F L I (dg es) (P - N) r from fun r h => by
            obtain ⟨nm, nl, hv, -, -⟩ := HV.out
            rw [dg_snoc] at h
            have k := dv_lead9 (N := b - a) (q := P - a) HW.out.wide nm.1 nl lg (nm.2.1 (by omega)) (by have := nm.2.2 (by omega); rwa [nl] at this) (by omega) (by simpa using h)
            have k2 := dv_behind (N - b) k
            rw [← hv, show P - a - ((b - a : Nat) : Int) - ((N - b : Nat) : Int) = P - N by omega] at k2
            exact k2)
          have HDL := hide (show Dg (((es.take b).drop a).take 1000 ++ [49]) from (HV.out.1.1.take 1000).append (fun x hx => by simp at hx; subst hx; decide))
          have HLL := hide (show (((es.take b).drop a).take 1000 ++ [(49 : Int)]).length = 1001 by rw [List.length_append, List.length_take, HV.out.2.1]; simp; omega)
          have hs8 : (strOfNums (((es.take b).drop a).take 1000)).size = 1000 := by rw [strOfNums_size, List.length_take, HV.out.2.1]; omega
          generalize ((es.take b).drop a).take 1000 = dk at *
          go_wp2
          go_meet
          case rel => exact ⟨dk ++ [49], 1001, by rw [← hj], HDL.out, HLL.out, by omega, by omega, HL.out, rfl⟩
        · have q7 : ¬ (1000 : Int) < ((b - a : Nat) : Int) := by omega
          go_wp2
          go_meet
          case rel => exact ⟨(es.take b).drop a, b - a, by rw [Htx.out], HV.out.1.1, HV.out.2.1, by omega, by omega, fun r h => by
            have k := dv_behind (N - b) h
            rw [← HV.out.2.2.1, show P - a - ((b - a : Nat) : Int) - ((N - b : Nat) : Int) = P - N by omega] at k
            exact k, rfl⟩
      case rest =>
        obtain ⟨ds, M, rfl, hDd, hM, M0, M1, hdv, rfl⟩ := hcut
        have HDd := hide hDd
        have HMl := hide hM
        have Hdv := hide hdv
        have tsz : (strOfNums ds).size = M := by rw [strOfNums_size, hM]
        clear hDd hM hdv x1 xsz Htx HV
        obtain ⟨q, hq⟩ : ∃ q, P - a - M = q := ⟨_, rfl⟩
        have q0 : -1402 ≤ q := by omega
        have q1 : q ≤ 400 := by omega
        have HCN := hide (natural7 (w := w2) (N := M) HDd.out rfl HMl.out (by omega))
        clear c0 c1
        go_wp2_with fail
        refine HCN.out.mono ?_
        rintro z w3 ⟨vm, rfl, hM3, b3⟩
        have hAm := hM3.arg
        replace K := below_trans K b3
        have hdr := dg_range HDd.out
        rw [HMl.out] at hdr
        obtain ⟨dr0, dr1⟩ := hdr
        clear HCN b3 hM3
        have hw4 := bel_new w3 (.cells #[.int .u32 1] 44)
        have hA1 := arg_one w3
        replace hAm := hAm.below hw4
        replace K := below_trans K hw4
        obtain ⟨w4, hw4e⟩ : ∃ w4, w3.alloc (.cells #[.int .u32 1] 44) = w4 := ⟨_, rfl⟩
        rw [hw4e] at hAm hA1 K
        clear hw4
        obtain ⟨m1, m2, m3, m4, m5, m6, m7⟩ := HW.out.more
        have Hm7 := hide m7
        clear m7
        have Hfin := hide (show ∀ (M9 D9 r : Int), DN F L I (M9 * p2 (-L).toNat) D9 r → M9 = dg ds * tn q.toNat → D9 = tn (-q).toNat → DV F L I (dg es) (P - N) r from fun M9 D9 r h e1 e2 => Hdv.out r (by
          rw [hq]
          unfold DV
          rw [← e1, ← e2]
          exact h))
        by_cases qp : 0 < q
        · obtain ⟨k, rfl⟩ := Int.eq_ofNat_of_zero_le (Int.le_of_lt qp)
          go_wp2_with fail
          refine (ten7 (n := k) (by omega)).mono ?_
          rintro z w5 ⟨vt, rfl, hT, b5⟩
          replace hAm := hAm.below b5
          replace hA1 := hA1.below b5
          replace K := below_trans K b5
          clear b5
          go_wp2_with fail
          refine (rmul_any hAm hT.arg (by omega) (by omega)).mono ?_
          rintro z w6 ⟨vp, rfl, hPr, b6⟩
          replace hA1 := hA1.below b6
          replace K := below_trans K b6
          clear b6 hT hAm
          have hb1 : dg ds * tn k < p2 6000 := by
            have t := tn_pos k
            have a1 := Int.mul_lt_mul_of_pos_right dr1 t
            rw [← tn_add] at a1
            have a2 := tn_lt_6000 (k := M + k) (by omega)
            omega
          have HNR := hide (nearest7 (w := w6) (W := n) (F := F) (L := L) (I := I) m1 m2 m3 m4 m5 m6 (rinf_any HW.out) (rnum_any HW.out) Hm7.out hPr.arg hA1 (by omega) (by omega) hb1 (by have := tn_lt_6000 (k := 0) (by decide); rw [tn_zero] at this; exact this) (by decide))
          clear hb1 hPr hA1
          go_wp2_with fail
          refine HNR.out.mono ?_
          rintro z w7 ⟨r, rfl, r0, r1, hdn, b7⟩
          have HF := hide (Hfin.out _ _ r hdn (by rw [Int.toNat_natCast]) (by rw [show (-(k : Int)).toNat = 0 by omega, tn_zero]))
          replace K := below_trans K b7
          clear b7 hdn HNR Hfin
          go_wp2
          go_ret2
          refine ⟨K, .inr ⟨HDg.out, r, ?_, r0, r1, HF.out⟩⟩
          rw [Hsg.out]
          rfl
        · obtain ⟨k, hk⟩ := Int.eq_ofNat_of_zero_le (show 0 ≤ -q by omega)
          have hk2 : q = -(k : Int) := by omega
          have Hk2 := hide hk2
          have wn : IntKind.i64.wrap (-q) = k := by rw [IntKind.wrap_i64]; omega
          have wn2 : -q = (k : Int) := hk
          clear hk hk2
          go_wp2_with fail
          refine (ten7 (n := k) (by omega)).mono ?_
          rintro z w5 ⟨vt, rfl, hT, b5⟩
          replace hAm := hAm.below b5
          replace K := below_trans K b5
          clear b5 hA1
          have hb1 : dg ds < p2 6000 := by
            have a2 := tn_lt_6000 (k := M) (by omega)
            omega
          have HNR := hide (nearest7 (w := w5) (W := n) (F := F) (L := L) (I := I) m1 m2 m3 m4 m5 m6 (rinf_any HW.out) (rnum_any HW.out) Hm7.out hAm hT.arg (by omega) (by omega) hb1 (tn_lt_6000 (by omega)) (tn_pos _))
          clear hb1 hT hAm
          go_wp2_with fail
          refine HNR.out.mono ?_
          rintro z w7 ⟨r, rfl, r0, r1, hdn, b7⟩
          have HF := hide (Hfin.out _ _ r hdn (by rw [Hk2.out, show (-(k : Int)).toNat = 0 by omega, tn_zero, Int.mul_one]) (by rw [Hk2.out, Int.neg_neg, Int.toNat_natCast]))
          replace K := below_trans K b7
          clear b7 hdn HNR Hfin
          go_wp2
          go_ret2
          refine ⟨K, .inr ⟨HDg.out, r, ?_, r0, r1, HF.out⟩⟩
          rw [Hsg.out]
          rfl

end Go.Proofs.YtigehipclkoecaaGreatDoor

namespace Go.Proofs.YtigehipclkoecaaGreatDoor
open Go.RowKit
set_option linter.unusedVariables false

theorem rread9 {w : World} {v F L I S n : Int} (hW : Wd v F L I S n) {es : List Int} {s : ByteArray} {N : Nat} {ng : Bool} {P : Int} (hd : Byt es) (hs : s = strOfNums es) (hN : es.length = N) (hl : N ≤ 1048576) (hP : -9223372036854775808 ≤ P) (hP2 : P ≤ 9223372036854775807) :
    Calls Tryz.prog 8 #[.int .i64 n, .agg #[.bool ng, .string s, .int .i64 P]] w fun e w' => ∃ y ok, e = .returned (.tuple #[.int .u64 y, .bool ok]) ∧
      ((¬ Dg es ∧ y = 0 ∧ ok = false) ∨ (Dg es ∧ ok = true ∧ ∃ r, y = r + b2i ng * S ∧ 0 ≤ r ∧ r ≤ I ∧ DV F L I (dg es) (P - N) r)) ∧ Below w.heap.size w w' := by
  refine (rread7 hW hd hs hN hl hP hP2).mono ?_
  rintro e w' ⟨b, ⟨h, rfl⟩ | ⟨h, r, rfl, h2⟩⟩
  · exact ⟨0, false, rfl, .inl ⟨h, rfl, rfl⟩, b⟩
  · exact ⟨_, true, rfl, .inr ⟨h, rfl, r, Int.add_comm _ _, h2⟩, b⟩

set_option maxRecDepth 100000 in
set_option maxHeartbeats 8000000 in
theorem reads_walk7 {w : World} (T : Lays w) {v : Int} (v0 : 0 ≤ v) (v1 : v < 256) {es : List Int} {s : ByteArray} {N : Nat} {ng : Bool} {P : Int} (hd : Byt es) (hs : s = strOfNums es) (hN : es.length = N) (hl : N ≤ 1048576) (hP : -9223372036854775808 ≤ P) (hP2 : P ≤ 9223372036854775807) :
    Calls Tryz.prog 3 #[.int .u8 v, .agg #[.bool ng, .string s, .int .i64 P]] w fun e w' => e = .returned (.bool true) ∧ Below w.heap.size w w' := by
  obtain ⟨F, L, I, S, n, hW⟩ := wd_of v v0 v1
  obtain ⟨i0, i1, i2, -⟩ := hW.ends
  have HW := hide hW
  have HD := hide hd
  have HS := hide hs
  have HN := hide hN
  have K0 : Below w.heap.size w (w.alloc (.cells #[.bool ng, .string s, .int .i64 P] 23)) := al_one _ _
  have C := cell3_new w (.bool ng) (.string s) (.int .i64 P) 23
  clear hW hd hs hN
  go_enter Tryz.func3, Tryz.ntmps3
  go_wp2_with fail
  refine (lread_any (T.below K0) HW.out HD.out HS.out HN.out (by omega) hP hP2).mono ?_
  rintro z w1 ⟨b1, x, ok, rfl, hR⟩
  replace C := C.below b1
  have K := below_trans K0 b1
  clear b1 K0
  have HR := hide hR
  clear hR
  obtain ⟨p, hp⟩ : ∃ p, x = .int .u64 p := by
    rcases HR.out with ⟨-, rfl, -⟩ | ⟨-, -, r, rfl, -⟩
    · exact ⟨_, rfl⟩
    · exact ⟨_, rfl⟩
  subst hp
  go_upto_region 2 with fail
  have KK : Below w1.heap.size w1 w1.drew := (Below.refl _ _).drew
  go_region_held3 (fun w' => w'.cell? ⟨w.heap.size, 0, none⟩ = some (.bool ng) ∧ w'.cell? ⟨w.heap.size, 1, none⟩ = some (.string s) ∧ w'.cell? ⟨w.heap.size, 2, none⟩ = some (.int .i64 P))
    (first
      | with_reducible exact ⟨(C.below KK).c0, (C.below KK).c1, (C.below KK).c2⟩
      | go_keep)
    (first
      | (go_at_call 9; (with_reducible refine (lwidth7 HW.out).mono ?_); rintro e w2 ⟨rfl, rfl⟩)
      | (go_at_call 8; (with_reducible refine (rread9 HW.out HD.out HS.out HN.out hl hP hP2).mono ?_); rintro e w3 ⟨y, ok2, rfl, hQ, hb⟩; have HQ := hide hQ; clear hQ; replace KK := below_trans KK hb; clear hb))
  all_goals (
    rcases HR.out with ⟨h1, hx, rfl⟩ | ⟨h1, rfl, r, hx, r0, r1, dv⟩
    · rcases HQ.out with ⟨h2, rfl, rfl⟩ | ⟨h2, -⟩
      · cases hx
        go_wp2
        go_ret
        exact ⟨rfl, below_trans K KK⟩
      · exact absurd h2 h1
    · rcases HQ.out with ⟨h2, -⟩ | ⟨h2, rfl, r', rfl, r0', r1', dv'⟩
      · exact absurd h1 h2
      · obtain rfl : r' = r := dv_first HW.out.wide dv' dv
        cases hx
        clear dv dv' h1 h2 HR HQ
        generalize r' + b2i ng * S = y at *
        go_wp2
        go_ret
        exact ⟨rfl, below_trans K KK⟩)

end Go.Proofs.YtigehipclkoecaaGreatDoor
