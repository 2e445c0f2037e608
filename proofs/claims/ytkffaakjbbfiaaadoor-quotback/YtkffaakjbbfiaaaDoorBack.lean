/- QuotBack: the walk -/
import Derived.Test.YtkffaakjbbfiaaaDoorQKit
namespace Go.Proofs.YtkffaakjbbfiaaaDoor
open Go.RowKit

set_option maxRecDepth 20000 in
set_option maxHeartbeats 8000000 in
theorem back_walk {w : World} {va vb vc : Value} {A B C : Int} {ka kb kc : Nat} (h_a : Arg w va A ka) (h_b : Arg w vb B kb) (h_c : Arg w vc C kc) (l_a : ka ≤ 35184372087808) (l_b : kb ≤ 35184372087808) (l_c : kc ≤ 35184372087808) :
    Calls Tryd.prog 3 #[va, vb, vc] w fun e w' => e = .returned (.bool true) ∧ Below w.heap.size w w' := by
  have n_a := h_a.nonneg
  have n_b := h_b.nonneg
  have n_c := h_c.nonneg
  have hW : Below w.heap.size w w := Below.refl _ _
  go_enter Tryd.func3, Tryd.ntmps3
  go_wp2_with fail
  with_reducible refine (twin_arg h_a (by omega)).mono ?_
  rintro e w1 ⟨v_s, rfl, h_s, hB⟩
  replace hW := below_trans hW hB
  replace h_a := h_a.below hB
  replace h_b := h_b.below hB
  replace h_c := h_c.below hB
  clear hB
  go_wp2_with fail
  with_reducible refine (twin_arg h_b (by omega)).mono ?_
  rintro e w2 ⟨v_t, rfl, h_t, hB⟩
  replace hW := below_trans hW hB
  replace h_a := h_a.below hB
  replace h_b := h_b.below hB
  replace h_c := h_c.below hB
  replace h_s := h_s.below hB
  clear hB
  by_cases hz : B = 0
  · subst hz
    go_wp2_with fail
    with_reducible refine (div_zero h_s h_t (by omega) (by omega)).mono ?_
    rintro e w3 ⟨rfl, rfl⟩
    clear h_s
    clear h_t
    go_wp2_with fail
    with_reducible refine (len_is h_b (by omega) (k := 0) isLen_zero).mono ?_
    rintro e w4 ⟨rfl, rfl⟩
    go_wp2_with fail
    with_reducible refine (qlives_any).mono ?_
    rintro e w5 ⟨rfl, hB⟩
    replace hW := below_trans hW hB
    replace h_a := h_a.below hB
    replace h_b := h_b.below hB
    replace h_c := h_c.below hB
    clear hB
    go_wp2
    go_ret
    exact ⟨rfl, hW⟩
  · have hB0 : 0 < B := by omega
    have e1 : A / B * B + A % B = A := by rw [Int.mul_comm]; exact Int.mul_ediv_add_emod A B
    have r0 := Int.emod_nonneg A (show B ≠ 0 by omega)
    have r1 := Int.emod_lt_of_pos A hB0
    have e2 : (C * B + A % B) / B = C := by rw [Int.add_comm, Int.add_mul_ediv_right _ _ (by omega), Int.ediv_eq_zero_of_lt r0 r1]; omega
    have e3 : (C * B + A % B) % B = A % B := by rw [Int.add_comm, Int.add_mul_emod_self_right]; exact Int.emod_eq_of_lt r0 r1
    have E1 := hide e1
    have E2 := hide e2
    have E3 := hide e3
    clear e1 e2 e3
    go_wp2_with fail
    with_reducible refine (div_any h_s h_t (by omega) (by omega) hB0).mono ?_
    rintro e w3 ⟨v_q, v_r, rfl, h_q, h_r, hB⟩
    replace hW := below_trans hW hB
    replace h_a := h_a.below hB
    replace h_b := h_b.below hB
    replace h_c := h_c.below hB
    replace h_s := h_s.below hB
    replace h_t := h_t.below hB
    clear hB
    clear h_s
    clear h_t
    go_wp2_with fail
    with_reducible refine (len_any h_b (by omega)).mono ?_
    rintro e w4 ⟨k, rfl, hk, _, rfl⟩
    have hkn := isLen_pos hk hB0
    have hk0 : (0 : Int) < (k : Int) := by omega
    have hkd : decide (0 < k) = true := decide_eq_true hkn
    clear hk
    go_wp2_with fail
    with_reducible refine (mul_any h_q.arg h_b (by omega) (by omega)).mono ?_
    rintro e w5 ⟨v_m, rfl, h_m, hB⟩
    replace hW := below_trans hW hB
    replace h_a := h_a.below hB
    replace h_b := h_b.below hB
    replace h_c := h_c.below hB
    replace h_q := h_q.below hB
    replace h_r := h_r.below hB
    clear hB
    go_wp2_with fail
    with_reducible refine (add_any h_m.arg h_r.arg (by omega) (by omega)).mono ?_
    rintro e w6 ⟨v_n, rfl, h_n, hB⟩
    replace hW := below_trans hW hB
    replace h_a := h_a.below hB
    replace h_b := h_b.below hB
    replace h_c := h_c.below hB
    replace h_q := h_q.below hB
    replace h_r := h_r.below hB
    replace h_m := h_m.below hB
    clear hB
    clear h_m
    have s1 : sgn (A / B * B + A % B) A = 0 := sgn_eq E1.out
    go_wp2_with fail
    with_reducible refine (cmp_any h_n.arg h_a (by omega) (by omega)).mono ?_
    rintro e w7 ⟨rfl, hB⟩
    replace hW := below_trans hW hB
    replace h_a := h_a.below hB
    replace h_b := h_b.below hB
    replace h_c := h_c.below hB
    replace h_q := h_q.below hB
    replace h_r := h_r.below hB
    replace h_n := h_n.below hB
    clear hB
    clear h_n
    clear h_a
    have s2 : sgn (A % B) B = -1 := sgn_lt r1
    go_wp2_with fail
    with_reducible refine (cmp_any h_r.arg h_b (by omega) (by omega)).mono ?_
    rintro e w8 ⟨rfl, hB⟩
    replace hW := below_trans hW hB
    replace h_b := h_b.below hB
    replace h_c := h_c.below hB
    replace h_q := h_q.below hB
    replace h_r := h_r.below hB
    clear hB
    go_wp2_with fail
    with_reducible refine (tight_num h_q).mono ?_
    rintro e w9 ⟨rfl, rfl⟩
    clear h_q
    go_wp2_with fail
    with_reducible refine (tight_num h_r).mono ?_
    rintro e w10 ⟨rfl, rfl⟩
    go_wp2_with fail
    with_reducible refine (mul_any h_c h_b (by omega) (by omega)).mono ?_
    rintro e w11 ⟨v_m, rfl, h_m, hB⟩
    replace hW := below_trans hW hB
    replace h_b := h_b.below hB
    replace h_c := h_c.below hB
    replace h_r := h_r.below hB
    clear hB
    go_wp2_with fail
    with_reducible refine (add_any h_m.arg h_r.arg (by omega) (by omega)).mono ?_
    rintro e w12 ⟨v_n, rfl, h_n, hB⟩
    replace hW := below_trans hW hB
    replace h_b := h_b.below hB
    replace h_c := h_c.below hB
    replace h_r := h_r.below hB
    replace h_m := h_m.below hB
    clear hB
    clear h_m
    go_wp2_with fail
    with_reducible refine (div_any h_n.arg h_b (by omega) (by omega) hB0).mono ?_
    rintro e w13 ⟨v_x, v_y, rfl, h_x, h_y, hB⟩
    replace hW := below_trans hW hB
    replace h_b := h_b.below hB
    replace h_c := h_c.below hB
    replace h_r := h_r.below hB
    replace h_n := h_n.below hB
    clear hB
    clear h_n
    clear h_b
    rw [E2.out] at h_x
    rw [E3.out] at h_y
    have s3 := sgn_self C
    go_wp2_with fail
    with_reducible refine (cmp_any h_x.arg h_c (by omega) (by omega)).mono ?_
    rintro e w14 ⟨rfl, hB⟩
    replace hW := below_trans hW hB
    replace h_c := h_c.below hB
    replace h_r := h_r.below hB
    replace h_x := h_x.below hB
    replace h_y := h_y.below hB
    clear hB
    clear h_x
    clear h_c
    have s4 := sgn_self (A % B)
    go_wp2_with fail
    with_reducible refine (cmp_any h_y.arg h_r.arg (by omega) (by omega)).mono ?_
    rintro e w15 ⟨rfl, hB⟩
    replace hW := below_trans hW hB
    replace h_r := h_r.below hB
    replace h_y := h_y.below hB
    clear hB
    clear h_y
    clear h_r
    go_wp2_with fail
    with_reducible refine (qlives_any).mono ?_
    rintro e w16 ⟨rfl, hB⟩
    replace hW := below_trans hW hB
    clear hB
    go_wp2
    go_ret
    exact ⟨rfl, hW⟩

end Go.Proofs.YtkffaakjbbfiaaaDoor
