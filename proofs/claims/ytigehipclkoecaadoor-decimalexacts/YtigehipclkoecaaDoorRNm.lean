/- crucibleref04.Number (out of IRefP) -/
import Derived.Test.YtigehipclkoecaaDoorIeeeR
import Derived.Test.YtigehipclkoecaaDoorIMath
namespace Go.Proofs.YtigehipclkoecaaDoor
open Go.RowKit
set_option linter.unusedVariables false

theorem ret_tup22 {k k' : IntKind} {x y x' y' : Int} (h : x = x') (g : y = y') : Ending.returned (.tuple #[.int k x, .int k' y]) = .returned (.tuple #[.int k x', .int k' y']) := by rw [h, g]

set_option maxHeartbeats 4000000 in
theorem rNumber_h (w : World) (s : Int) (s0 : 0 ≤ s) (s1 : s < 32768) : Calls Tryd.prog 23 #[.int .i64 16, .int .u64 s] w fun e w' => e = .returned (.tuple #[.int .u64 (mst 1024 s), .int .i64 (est 1024 (-24) s)]) ∧ Below w.heap.size w w' := by
  go_enter Tryd.func23, Tryd.ntmps23
  go_wp2_with fail
  with_reducible refine (rOf_h _).mono ?_
  rintro x w1 ⟨rfl, K1⟩
  go_upto_region 2 with fail
  have C := cell3_new w1 (.int .i64 10) (.int .i64 (-24)) (.int .i64 31) 72
  have K2 := below_trans K1 (bel_new w1 (.cells #[.int .i64 10, .int .i64 (-24), .int .i64 31] 72))
  generalize w1.alloc (.cells #[.int .i64 10, .int .i64 (-24), .int .i64 31] 72) = w2 at *
  have c0 := C.c0; have c1 := C.c1; have c2 := C.c2
  go_wp2_with fail
  with_reducible refine (rtwo_h _).mono ?_
  rintro x w3 ⟨rfl, rfl⟩
  by_cases a : s < 1024
  · have Hm := hide (show mst 1024 s = s by unfold mst; rw [if_pos a])
    have He := hide (show est 1024 (-24) s = (-24) by unfold est; rw [if_pos a])
    go_upto_region 4 with fail
    have K : Below w3.heap.size w3 w3.drew := (Below.refl _ _).drew
    go_region_held3 (fun w' => w'.cell? ⟨w1.heap.size, 0, none⟩ = some (.int .i64 10) ∧ w'.cell? ⟨w1.heap.size, 1, none⟩ = some (.int .i64 (-24)) ∧ w'.cell? ⟨w1.heap.size, 2, none⟩ = some (.int .i64 31))
      (first
      | with_reducible exact ⟨(C.below K).c0, (C.below K).c1, (C.below K).c2⟩
      | go_keep)
      (fail)
    all_goals go_wp2
    all_goals go_ret2
    all_goals exact ⟨by rw [Hm.out, He.out]; rfl, below_trans K2 K⟩
  · have Hm := hide (show mst 1024 s = s % 1024 + 1024 by unfold mst; rw [if_neg a])
    have He := hide (show est 1024 (-24) s = (-24) - 1 + s / 1024 by unfold est; rw [if_neg a])
    obtain ⟨p, hp⟩ : ∃ p, s / 1024 = p := ⟨_, rfl⟩
    obtain ⟨f, hf⟩ : ∃ f, s % 1024 = f := ⟨_, rfl⟩
    have p0 : 0 ≤ p := by omega
    have p1 : p < 65536 := by omega
    have f0 : 0 ≤ f := by omega
    have f1 : f < 1024 := by omega
    rw [hp] at He
    rw [hf] at Hm
    go_upto_region 5 with fail
    have K : Below w3.heap.size w3 w3.drew := (Below.refl _ _).drew
    go_region_held3 (fun w' => w'.cell? ⟨w1.heap.size, 0, none⟩ = some (.int .i64 10) ∧ w'.cell? ⟨w1.heap.size, 1, none⟩ = some (.int .i64 (-24)) ∧ w'.cell? ⟨w1.heap.size, 2, none⟩ = some (.int .i64 31))
      (first
      | with_reducible exact ⟨(C.below K).c0, (C.below K).c1, (C.below K).c2⟩
      | go_keep)
      (fail)
    all_goals go_wp2
    all_goals go_ret2
    all_goals exact ⟨by rw [Hm.out, He.out]; exact ret_tup22 (by rw [Int.tmod_eq_emod_of_nonneg s0, hf, IntKind.wrap_u64]; omega) (by rw [Int.tdiv_eq_ediv_of_nonneg s0, hp]; simp only [IntKind.wrap_i64, IntKind.wrap_u64]; omega), below_trans K2 K⟩

set_option maxHeartbeats 4000000 in
theorem rNumber_s (w : World) (s : Int) (s0 : 0 ≤ s) (s1 : s < 2147483648) : Calls Tryd.prog 23 #[.int .i64 32, .int .u64 s] w fun e w' => e = .returned (.tuple #[.int .u64 (mst 8388608 s), .int .i64 (est 8388608 (-149) s)]) ∧ Below w.heap.size w w' := by
  go_enter Tryd.func23, Tryd.ntmps23
  go_wp2_with fail
  with_reducible refine (rOf_s _).mono ?_
  rintro x w1 ⟨rfl, K1⟩
  go_upto_region 2 with fail
  have C := cell3_new w1 (.int .i64 23) (.int .i64 (-149)) (.int .i64 255) 72
  have K2 := below_trans K1 (bel_new w1 (.cells #[.int .i64 23, .int .i64 (-149), .int .i64 255] 72))
  generalize w1.alloc (.cells #[.int .i64 23, .int .i64 (-149), .int .i64 255] 72) = w2 at *
  have c0 := C.c0; have c1 := C.c1; have c2 := C.c2
  go_wp2_with fail
  with_reducible refine (rtwo_s _).mono ?_
  rintro x w3 ⟨rfl, rfl⟩
  by_cases a : s < 8388608
  · have Hm := hide (show mst 8388608 s = s by unfold mst; rw [if_pos a])
    have He := hide (show est 8388608 (-149) s = (-149) by unfold est; rw [if_pos a])
    go_upto_region 4 with fail
    have K : Below w3.heap.size w3 w3.drew := (Below.refl _ _).drew
    go_region_held3 (fun w' => w'.cell? ⟨w1.heap.size, 0, none⟩ = some (.int .i64 23) ∧ w'.cell? ⟨w1.heap.size, 1, none⟩ = some (.int .i64 (-149)) ∧ w'.cell? ⟨w1.heap.size, 2, none⟩ = some (.int .i64 255))
      (first
      | with_reducible exact ⟨(C.below K).c0, (C.below K).c1, (C.below K).c2⟩
      | go_keep)
      (fail)
    all_goals go_wp2
    all_goals go_ret2
    all_goals exact ⟨by rw [Hm.out, He.out]; rfl, below_trans K2 K⟩
  · have Hm := hide (show mst 8388608 s = s % 8388608 + 8388608 by unfold mst; rw [if_neg a])
    have He := hide (show est 8388608 (-149) s = (-149) - 1 + s / 8388608 by unfold est; rw [if_neg a])
    obtain ⟨p, hp⟩ : ∃ p, s / 8388608 = p := ⟨_, rfl⟩
    obtain ⟨f, hf⟩ : ∃ f, s % 8388608 = f := ⟨_, rfl⟩
    have p0 : 0 ≤ p := by omega
    have p1 : p < 65536 := by omega
    have f0 : 0 ≤ f := by omega
    have f1 : f < 8388608 := by omega
    rw [hp] at He
    rw [hf] at Hm
    go_upto_region 5 with fail
    have K : Below w3.heap.size w3 w3.drew := (Below.refl _ _).drew
    go_region_held3 (fun w' => w'.cell? ⟨w1.heap.size, 0, none⟩ = some (.int .i64 23) ∧ w'.cell? ⟨w1.heap.size, 1, none⟩ = some (.int .i64 (-149)) ∧ w'.cell? ⟨w1.heap.size, 2, none⟩ = some (.int .i64 255))
      (first
      | with_reducible exact ⟨(C.below K).c0, (C.below K).c1, (C.below K).c2⟩
      | go_keep)
      (fail)
    all_goals go_wp2
    all_goals go_ret2
    all_goals exact ⟨by rw [Hm.out, He.out]; exact ret_tup22 (by rw [Int.tmod_eq_emod_of_nonneg s0, hf, IntKind.wrap_u64]; omega) (by rw [Int.tdiv_eq_ediv_of_nonneg s0, hp]; simp only [IntKind.wrap_i64, IntKind.wrap_u64]; omega), below_trans K2 K⟩

set_option maxHeartbeats 4000000 in
theorem rNumber_d (w : World) (s : Int) (s0 : 0 ≤ s) (s1 : s < 9223372036854775808) : Calls Tryd.prog 23 #[.int .i64 64, .int .u64 s] w fun e w' => e = .returned (.tuple #[.int .u64 (mst 4503599627370496 s), .int .i64 (est 4503599627370496 (-1074) s)]) ∧ Below w.heap.size w w' := by
  go_enter Tryd.func23, Tryd.ntmps23
  go_wp2_with fail
  with_reducible refine (rOf_d _).mono ?_
  rintro x w1 ⟨rfl, K1⟩
  go_upto_region 2 with fail
  have C := cell3_new w1 (.int .i64 52) (.int .i64 (-1074)) (.int .i64 2047) 72
  have K2 := below_trans K1 (bel_new w1 (.cells #[.int .i64 52, .int .i64 (-1074), .int .i64 2047] 72))
  generalize w1.alloc (.cells #[.int .i64 52, .int .i64 (-1074), .int .i64 2047] 72) = w2 at *
  have c0 := C.c0; have c1 := C.c1; have c2 := C.c2
  go_wp2_with fail
  with_reducible refine (rtwo_d _).mono ?_
  rintro x w3 ⟨rfl, rfl⟩
  by_cases a : s < 4503599627370496
  · have Hm := hide (show mst 4503599627370496 s = s by unfold mst; rw [if_pos a])
    have He := hide (show est 4503599627370496 (-1074) s = (-1074) by unfold est; rw [if_pos a])
    go_upto_region 4 with fail
    have K : Below w3.heap.size w3 w3.drew := (Below.refl _ _).drew
    go_region_held3 (fun w' => w'.cell? ⟨w1.heap.size, 0, none⟩ = some (.int .i64 52) ∧ w'.cell? ⟨w1.heap.size, 1, none⟩ = some (.int .i64 (-1074)) ∧ w'.cell? ⟨w1.heap.size, 2, none⟩ = some (.int .i64 2047))
      (first
      | with_reducible exact ⟨(C.below K).c0, (C.below K).c1, (C.below K).c2⟩
      | go_keep)
      (fail)
    all_goals go_wp2
    all_goals go_ret2
    all_goals exact ⟨by rw [Hm.out, He.out]; rfl, below_trans K2 K⟩
  · have Hm := hide (show mst 4503599627370496 s = s % 4503599627370496 + 4503599627370496 by unfold mst; rw [if_neg a])
    have He := hide (show est 4503599627370496 (-1074) s = (-1074) - 1 + s / 4503599627370496 by unfold est; rw [if_neg a])
    obtain ⟨p, hp⟩ : ∃ p, s / 4503599627370496 = p := ⟨_, rfl⟩
    obtain ⟨f, hf⟩ : ∃ f, s % 4503599627370496 = f := ⟨_, rfl⟩
    have p0 : 0 ≤ p := by omega
    have p1 : p < 65536 := by omega
    have f0 : 0 ≤ f := by omega
    have f1 : f < 4503599627370496 := by omega
    rw [hp] at He
    rw [hf] at Hm
    go_upto_region 5 with fail
    have K : Below w3.heap.size w3 w3.drew := (Below.refl _ _).drew
    go_region_held3 (fun w' => w'.cell? ⟨w1.heap.size, 0, none⟩ = some (.int .i64 52) ∧ w'.cell? ⟨w1.heap.size, 1, none⟩ = some (.int .i64 (-1074)) ∧ w'.cell? ⟨w1.heap.size, 2, none⟩ = some (.int .i64 2047))
      (first
      | with_reducible exact ⟨(C.below K).c0, (C.below K).c1, (C.below K).c2⟩
      | go_keep)
      (fail)
    all_goals go_wp2
    all_goals go_ret2
    all_goals exact ⟨by rw [Hm.out, He.out]; exact ret_tup22 (by rw [Int.tmod_eq_emod_of_nonneg s0, hf, IntKind.wrap_u64]; omega) (by rw [Int.tdiv_eq_ediv_of_nonneg s0, hp]; simp only [IntKind.wrap_i64, IntKind.wrap_u64]; omega), below_trans K2 K⟩

end Go.Proofs.YtigehipclkoecaaDoor
