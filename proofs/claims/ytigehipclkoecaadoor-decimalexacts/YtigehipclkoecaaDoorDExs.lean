/- DecimalExacts -/
import Derived.Test.YtigehipclkoecaaDoorDExR
namespace Go.Proofs.YtigehipclkoecaaDoor
open Go.RowKit
set_option linter.unusedVariables false

set_option maxHeartbeats 1000000 in
theorem lwidth7 {w : World} {v F L I S n : Int} (h : Wd v F L I S n) : Calls Tryd.prog 7 #[.int .u8 v] w fun e w' => e = .returned (.int .i64 n) ∧ w' = w := by
  obtain ⟨v0, v1, h⟩ := h
  rcases h with ⟨h, rfl, rfl, rfl, rfl, rfl⟩ | ⟨h, rfl, rfl, rfl, rfl, rfl⟩ | ⟨h, rfl, rfl, rfl, rfl, rfl⟩ | ⟨h, rfl, rfl, rfl, rfl, rfl⟩
  all_goals
    go_enter Tryd.func7, Tryd.ntmps7
    go_wp2
    go_ret
    exact ⟨rfl, rfl⟩

theorem rexact_any {w : World} {v F L I S n x : Int} (h : Wd v F L I S n) (x0 : 0 ≤ x) (x1 : x < 2 * S) :
    Calls Tryd.prog 6 #[.int .i64 n, .int .u64 x] w fun e w' => Below w.heap.size w w' ∧ ExR F L I (x % S) (decide (S ≤ x)) e := by
  obtain ⟨v0, v1, h⟩ := h
  rcases h with ⟨h, rfl, rfl, rfl, rfl, rfl⟩ | ⟨h, rfl, rfl, rfl, rfl, rfl⟩ | ⟨h, rfl, rfl, rfl, rfl, rfl⟩ | ⟨h, rfl, rfl, rfl, rfl, rfl⟩
  · exact rexact7 (by decide) (by decide) (Int.emod_nonneg _ (by decide)) (fun w => rParts_h w x _ _ x0 (by omega) rfl rfl) (fun a m E ok hP => part_bounds (F := 1024) (L := -24) (S := 32768) (by decide) (by decide) (by decide) (Int.emod_nonneg _ (by decide)) (Int.emod_lt_of_pos _ (by decide)) (by unfold est; split <;> omega) (by decide) hP)
  · exact rexact7 (by decide) (by decide) (Int.emod_nonneg _ (by decide)) (fun w => rParts_s w x _ _ x0 (by omega) rfl rfl) (fun a m E ok hP => part_bounds (F := 8388608) (L := -149) (S := 2147483648) (by decide) (by decide) (by decide) (Int.emod_nonneg _ (by decide)) (Int.emod_lt_of_pos _ (by decide)) (by unfold est; split <;> omega) (by decide) hP)
  · exact rexact7 (by decide) (by decide) (Int.emod_nonneg _ (by decide)) (fun w => rParts_d w x _ _ x0 (by omega) rfl rfl) (fun a m E ok hP => part_bounds (F := 4503599627370496) (L := -1074) (S := 9223372036854775808) (by decide) (by decide) (by decide) (Int.emod_nonneg _ (by decide)) (Int.emod_lt_of_pos _ (by decide)) (by unfold est; split <;> omega) (by decide) hP)
  · exact rexact7 (by decide) (by decide) (Int.emod_nonneg _ (by decide)) (fun w => rParts_h w x _ _ x0 (by omega) rfl rfl) (fun a m E ok hP => part_bounds (F := 1024) (L := -24) (S := 32768) (by decide) (by decide) (by decide) (Int.emod_nonneg _ (by decide)) (Int.emod_lt_of_pos _ (by decide)) (by unfold est; split <;> omega) (by decide) hP)
theorem Wd.low {v F L I S n : Int} (h : Wd v F L I S n) : 0 < F ∧ L ≤ 0 := by
  rcases h.2.2 with ⟨_, rfl, rfl, rfl, rfl, rfl⟩ | ⟨_, rfl, rfl, rfl, rfl, rfl⟩ | ⟨_, rfl, rfl, rfl, rfl, rfl⟩ | ⟨_, rfl, rfl, rfl, rfl, rfl⟩ <;> decide

set_option maxRecDepth 100000 in
set_option maxHeartbeats 8000000 in
theorem exacts_walk7 {w : World} (TT : Lays w ∧ Brn w) {v x : Int} (v0 : 0 ≤ v) (v1 : v < 256) (x0 : 0 ≤ x) (x1 : x < 18446744073709551616) :
    Calls Tryd.prog 3 #[.int .u8 v, .int .u64 x] w fun e w' => e = .returned (.bool true) ∧ Below w.heap.size w w' := by
  obtain ⟨T, U⟩ := TT
  obtain ⟨F, L, I, S, n, hW⟩ := wd_of v v0 v1
  obtain ⟨i0, i1, i2, -⟩ := hW.ends
  obtain ⟨f0, l0⟩ := hW.low
  have HW := hide hW
  clear hW
  have S0 : 0 < 2 * S := by omega
  go_enter Tryd.func3, Tryd.ntmps3
  go_wp2_with fail
  refine (lfit_any HW.out x0 x1).mono ?_
  rintro z w2 ⟨rfl, rfl⟩
  obtain ⟨p, hp⟩ : ∃ p, x % (2 * S) = p := ⟨_, rfl⟩
  have p0 : 0 ≤ p := by rw [← hp]; exact Int.emod_nonneg _ (by omega)
  have p1 : p < 2 * S := by rw [← hp]; exact Int.emod_lt_of_pos _ S0
  rw [hp]
  clear hp
  go_wp2_with fail
  refine (lexact_any T U HW.out p0 p1).mono ?_
  rintro z w4 ⟨K, d, ok, rfl, X1⟩
  have q0 : 0 ≤ p % S := Int.emod_nonneg _ (by omega)
  have HX1 := hide X1
  clear X1
  rcases HX1.out with ⟨h1, rfl, rfl⟩ | ⟨h1, rfl, ds, pt, rfl, e1⟩
  · have C1 := cell3_new w4 (.bool false) (.string ⟨#[]⟩) (.int .i64 0) 25
    have K5 := below_trans K (al_one w4 (.cells #[.bool false, .string ⟨#[]⟩, .int .i64 0] 25))
    clear HX1
    go_wp2_with fail
    refine (lwidth7 HW.out).mono ?_
    rintro z w5 ⟨rfl, rfl⟩
    go_wp2_with fail
    refine (rexact_any HW.out p0 p1).mono ?_
    rintro z w6 ⟨b6, hR⟩
    rcases hR with ⟨-, rfl⟩ | ⟨k, -⟩
    rotate_left
    · omega
    replace K5 := below_trans (below_trans K5 b6) (al_one w6 (.cells #[.bool false, .string ⟨#[]⟩, .int .i64 0] 25))
    replace C1 := (C1.below b6).below (al_one w6 (.cells #[.bool false, .string ⟨#[]⟩, .int .i64 0] 25))
    have C2 := cell3_new w6 (.bool false) (.string ⟨#[]⟩) (.int .i64 0) 25
    have c0 := C1.c0; have c1 := C1.c1; have c2 := C1.c2
    have c3 := C2.c0; have c4 := C2.c1; have c5 := C2.c2
    go_wp2
    go_ret
    exact ⟨rfl, K5⟩
  · obtain ⟨ng, hng⟩ : ∃ b, decide (S ≤ p) = b := ⟨_, rfl⟩
    rw [hng]
    have HE1 := hide e1
    have C1 := cell3_new w4 (.bool ng) (.string (strOfNums ds)) (.int .i64 pt) 25
    have K5 := below_trans K (al_one w4 (.cells #[.bool ng, .string (strOfNums ds), .int .i64 pt] 25))
    clear e1 HX1
    go_wp2_with fail
    refine (lwidth7 HW.out).mono ?_
    rintro z w5 ⟨rfl, rfl⟩
    go_wp2_with fail
    refine (rexact_any HW.out p0 p1).mono ?_
    rintro z w6 ⟨b6, hR⟩
    rcases hR with ⟨k, -⟩ | ⟨-, ds2, pt2, rfl, e2⟩
    · omega
    obtain ⟨rfl, rfl⟩ := exv_one (F := F) (F' := F) (L := L) (L' := L) f0 (Int.le_refl _) l0 q0 q0 Iff.rfl rfl HE1.out e2
    rw [hng]
    clear e2
    replace K5 := below_trans (below_trans K5 b6) (al_one w6 (.cells #[.bool ng, .string (strOfNums ds2), .int .i64 pt2] 25))
    replace C1 := (C1.below b6).below (al_one w6 (.cells #[.bool ng, .string (strOfNums ds2), .int .i64 pt2] 25))
    have C2 := cell3_new w6 (.bool ng) (.string (strOfNums ds2)) (.int .i64 pt2) 25
    clear b6
    have c0 := C1.c0; have c1 := C1.c1; have c2 := C1.c2
    have c3 := C2.c0; have c4 := C2.c1; have c5 := C2.c2
    clear C1 C2
    generalize strOfNums ds2 = s at *
    go_wp2
    go_ret
    exact ⟨rfl, K5⟩

end Go.Proofs.YtigehipclkoecaaDoor
