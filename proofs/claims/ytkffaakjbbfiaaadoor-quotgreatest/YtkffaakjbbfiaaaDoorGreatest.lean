/- QuotGreatest: the walk -/
import Derived.Test.YtkffaakjbbfiaaaDoorGdMath
namespace Go.Proofs.YtkffaakjbbfiaaaDoor
open Go.RowKit

set_option maxRecDepth 20000 in
set_option maxHeartbeats 8000000 in
theorem greatest_walk {w : World} {va vb vc : Value} {A B C : Int} {ka kb kc : Nat} (h_a : Arg w va A ka) (h_b : Arg w vb B kb) (h_c : Arg w vc C kc) (l_a : ka ≤ 35184372087808) (l_b : kb ≤ 35184372087808) (l_c : kc ≤ 35184372087808) :
    Calls Tryd.prog 4 #[va, vb, vc] w fun e w' => e = .returned (.bool true) ∧ Below w.heap.size w w' := by
  have n_a := h_a.nonneg
  have n_b := h_b.nonneg
  have n_c := h_c.nonneg
  have hW : Below w.heap.size w w := Below.refl _ _
  go_enter Tryd.func4, Tryd.ntmps4
  go_wp2_with fail
  with_reducible refine (twin_arg h_a (by omega)).mono ?_
  rintro e w1 ⟨v_s, rfl, h_s, hB⟩
  replace hW := below_trans hW hB
  replace h_a := h_a.below hB
  replace h_b := h_b.below hB
  replace h_c := h_c.below hB
  clear hB
  go_wp2_with fail
  with_reducible refine (twin_arg h_b (by omega)).mono ?_
  rintro e w2 ⟨v_t, rfl, h_t, hB⟩
  replace hW := below_trans hW hB
  replace h_a := h_a.below hB
  replace h_b := h_b.below hB
  replace h_c := h_c.below hB
  replace h_s := h_s.below hB
  clear hB
  go_wp2_with fail
  with_reducible refine (gcd_any h_s h_t (by omega) (by omega)).mono ?_
  rintro e w3 ⟨v_g, rfl, h_g, hB⟩
  replace hW := below_trans hW hB
  replace h_a := h_a.below hB
  replace h_b := h_b.below hB
  replace h_c := h_c.below hB
  replace h_s := h_s.below hB
  replace h_t := h_t.below hB
  clear hB
  clear h_s
  clear h_t
  by_cases hz : A = 0 ∧ B = 0
  · obtain ⟨rfl, rfl⟩ := hz
    rw [gd_zero (Int.le_refl 0)] at h_g
    go_wp2_with fail
    with_reducible refine (len_is h_a (by omega) (k := 0) isLen_zero).mono ?_
    rintro e w4 ⟨rfl, rfl⟩
    go_wp2_with fail
    with_reducible refine (len_is h_b (by omega) (k := 0) isLen_zero).mono ?_
    rintro e w5 ⟨rfl, rfl⟩
    obtain ⟨zs, ⟨go, rfl, _, _⟩, hzc, hzv, _⟩ := h_g
    have hze := (Nt.canon_zero hzc).1 hzv
    subst hze
    go_wp2_with fail
    with_reducible refine (qlives_any).mono ?_
    rintro e w6 ⟨rfl, hB⟩
    replace hW := below_trans hW hB
    replace h_a := h_a.below hB
    replace h_b := h_b.below hB
    replace h_c := h_c.below hB
    clear hB
    go_wp2
    go_ret
    exact ⟨rfl, hW⟩
  · have g_pos := gd_pos n_a n_b hz
    have G1 := hide (gd_left n_a n_b)
    have G2 := hide (gd_right n_a n_b)
    have G3 := hide (gd_one n_a n_b g_pos)
    have G4 := hide (gd_mul n_a n_b n_c)
    have G5 := hide (gd_comm B A)
    have G6 : Hid (0 < C → A % C = 0 → B % C = 0 → gd A B % C = 0) := hide (fun h h1 h2 => gd_all n_a n_b h h1 h2)
    have g_non := gd_nonneg A B
    generalize gd A B = G at *
    by_cases ha0 : A = 0
    · have hb0 : 0 < B := by omega
      subst ha0
      go_wp2_with fail
      with_reducible refine (len_is h_a (by omega) (k := 0) isLen_zero).mono ?_
      rintro e w4 ⟨rfl, rfl⟩
      go_wp2_with fail
      with_reducible refine (len_any h_b (by omega)).mono ?_
      rintro e w5 ⟨kb1, rfl, hk, _, rfl⟩
      have p_kb1 := isLen_pos hk hb0
      have q_kb1 : (0 : Int) < (kb1 : Int) := by omega
      have r_kb1 : ((kb1 : Int) == 0) = false := by simp; omega
      have s_kb1 : decide (0 < kb1) = true := decide_eq_true p_kb1
      clear hk
      go_wp2_with fail
      with_reducible refine (div_any h_a h_g.arg (by omega) (by omega) g_pos).mono ?_
      rintro e w6 ⟨v_p, v_r, rfl, h_p, h_r, hB⟩
      replace hW := below_trans hW hB
      replace h_a := h_a.below hB
      replace h_b := h_b.below hB
      replace h_c := h_c.below hB
      replace h_g := h_g.below hB
      clear hB
      go_wp2_with fail
      with_reducible refine (div_any h_b h_g.arg (by omega) (by omega) g_pos).mono ?_
      rintro e w7 ⟨v_q, v_s, rfl, h_q, h_s, hB⟩
      replace hW := below_trans hW hB
      replace h_a := h_a.below hB
      replace h_b := h_b.below hB
      replace h_c := h_c.below hB
      replace h_g := h_g.below hB
      replace h_p := h_p.below hB
      replace h_r := h_r.below hB
      clear hB
      rw [G1.out] at h_r
      rw [G2.out] at h_s
      go_wp2_with fail
      with_reducible refine (len_is h_r.arg (by omega) (k := 0) isLen_zero).mono ?_
      rintro e w8 ⟨rfl, rfl⟩
      go_wp2_with fail
      with_reducible refine (len_is h_s.arg (by omega) (k := 0) isLen_zero).mono ?_
      rintro e w9 ⟨rfl, rfl⟩
      go_wp2_with fail
      with_reducible refine (tight_num h_g).mono ?_
      rintro e w10 ⟨rfl, rfl⟩
      clear h_r
      clear h_s
      go_wp2_with fail
      with_reducible refine (gcd_any h_p.arg h_q.arg (by omega) (by omega)).mono ?_
      rintro e w11 ⟨v_o, rfl, h_o, hB⟩
      replace hW := below_trans hW hB
      replace h_a := h_a.below hB
      replace h_b := h_b.below hB
      replace h_c := h_c.below hB
      replace h_g := h_g.below hB
      replace h_p := h_p.below hB
      replace h_q := h_q.below hB
      clear hB
      clear h_p
      clear h_q
      rw [G3.out] at h_o
      have s1 : sgn 1 1 = 0 := sgn_self 1
      go_wp2_with fail
      with_reducible refine (cmp_any (h_o.arg.below (below_alloc _ _)) (arg_one w11 (x := 1) (by omega)) (by omega) (by omega)).mono ?_
      rintro e w12 ⟨rfl, hB⟩
      have hB2 := below_trans (below_alloc w11 _) hB
      replace hW := below_trans hW hB2
      replace h_a := h_a.below hB2
      replace h_b := h_b.below hB2
      replace h_c := h_c.below hB2
      replace h_g := h_g.below hB2
      clear hB hB2 h_o
      go_wp2_with fail
      with_reducible refine (mul_any h_a h_c (by omega) (by omega)).mono ?_
      rintro e w13 ⟨v_m, rfl, h_m, hB⟩
      replace hW := below_trans hW hB
      replace h_a := h_a.below hB
      replace h_b := h_b.below hB
      replace h_c := h_c.below hB
      replace h_g := h_g.below hB
      clear hB
      go_wp2_with fail
      with_reducible refine (mul_any h_b h_c (by omega) (by omega)).mono ?_
      rintro e w14 ⟨v_n, rfl, h_n, hB⟩
      replace hW := below_trans hW hB
      replace h_a := h_a.below hB
      replace h_b := h_b.below hB
      replace h_c := h_c.below hB
      replace h_g := h_g.below hB
      replace h_m := h_m.below hB
      clear hB
      go_wp2_with fail
      with_reducible refine (gcd_any h_m.arg h_n.arg (by omega) (by omega)).mono ?_
      rintro e w15 ⟨v_o, rfl, h_o, hB⟩
      replace hW := below_trans hW hB
      replace h_a := h_a.below hB
      replace h_b := h_b.below hB
      replace h_c := h_c.below hB
      replace h_g := h_g.below hB
      replace h_m := h_m.below hB
      replace h_n := h_n.below hB
      clear hB
      clear h_m
      clear h_n
      rw [G4.out] at h_o
      go_wp2_with fail
      with_reducible refine (mul_any h_g.arg h_c (by omega) (by omega)).mono ?_
      rintro e w16 ⟨v_m, rfl, h_m, hB⟩
      replace hW := below_trans hW hB
      replace h_a := h_a.below hB
      replace h_b := h_b.below hB
      replace h_c := h_c.below hB
      replace h_g := h_g.below hB
      replace h_o := h_o.below hB
      clear hB
      have s2 := sgn_self (G * C)
      go_wp2_with fail
      with_reducible refine (cmp_any h_o.arg h_m.arg (by omega) (by omega)).mono ?_
      rintro e w17 ⟨rfl, hB⟩
      replace hW := below_trans hW hB
      replace h_a := h_a.below hB
      replace h_b := h_b.below hB
      replace h_c := h_c.below hB
      replace h_g := h_g.below hB
      replace h_o := h_o.below hB
      replace h_m := h_m.below hB
      clear hB
      clear h_o
      clear h_m
      go_wp2_with fail
      with_reducible refine (gcd_any h_b h_a (by omega) (by omega)).mono ?_
      rintro e w18 ⟨v_o, rfl, h_o, hB⟩
      replace hW := below_trans hW hB
      replace h_a := h_a.below hB
      replace h_b := h_b.below hB
      replace h_c := h_c.below hB
      replace h_g := h_g.below hB
      clear hB
      rw [G5.out] at h_o
      have s3 := sgn_self G
      go_wp2_with fail
      with_reducible refine (cmp_any h_o.arg h_g.arg (by omega) (by omega)).mono ?_
      rintro e w19 ⟨rfl, hB⟩
      replace hW := below_trans hW hB
      replace h_a := h_a.below hB
      replace h_b := h_b.below hB
      replace h_c := h_c.below hB
      replace h_g := h_g.below hB
      replace h_o := h_o.below hB
      clear hB
      clear h_o
      by_cases hc : C = 0
      · subst hc
        go_wp2_with fail
        with_reducible refine (div_zero h_a h_c (by omega) (by omega)).mono ?_
        rintro e w20 ⟨rfl, rfl⟩
        go_wp2_with fail
        with_reducible refine (div_zero h_b h_c (by omega) (by omega)).mono ?_
        rintro e w21 ⟨rfl, rfl⟩
        go_wp2_with fail
        with_reducible refine (qlives_any).mono ?_
        rintro e w22 ⟨rfl, hB⟩
        replace hW := below_trans hW hB
        replace h_a := h_a.below hB
        replace h_b := h_b.below hB
        replace h_c := h_c.below hB
        replace h_g := h_g.below hB
        clear hB
        go_wp2
        go_ret
        exact ⟨rfl, hW⟩
      · have c_pos : 0 < C := by omega
        go_wp2_with fail
        with_reducible refine (div_any h_a h_c (by omega) (by omega) c_pos).mono ?_
        rintro e w20 ⟨v_x, v_t, rfl, h_x, h_t, hB⟩
        replace hW := below_trans hW hB
        replace h_a := h_a.below hB
        replace h_b := h_b.below hB
        replace h_c := h_c.below hB
        replace h_g := h_g.below hB
        clear hB
        go_wp2_with fail
        with_reducible refine (div_any h_b h_c (by omega) (by omega) c_pos).mono ?_
        rintro e w21 ⟨v_y, v_u, rfl, h_y, h_u, hB⟩
        replace hW := below_trans hW hB
        replace h_a := h_a.below hB
        replace h_b := h_b.below hB
        replace h_c := h_c.below hB
        replace h_g := h_g.below hB
        replace h_x := h_x.below hB
        replace h_t := h_t.below hB
        clear hB
        by_cases ht : 0 % C = 0
        · rw [ht] at h_t
          go_wp2_with fail
          with_reducible refine (len_is h_t.arg (by omega) (k := 0) isLen_zero).mono ?_
          rintro e w22 ⟨rfl, rfl⟩
          by_cases hu : B % C = 0
          · rw [hu] at h_u
            go_wp2_with fail
            with_reducible refine (len_is h_u.arg (by omega) (k := 0) isLen_zero).mono ?_
            rintro e w23 ⟨rfl, rfl⟩
            have hg0 := G6.out c_pos ht hu
            clear ht hu
            go_wp2_with fail
            with_reducible refine (div_any h_g.arg h_c (by omega) (by omega) c_pos).mono ?_
            rintro e w24 ⟨v_z, v_v, rfl, h_z, h_v, hB⟩
            replace hW := below_trans hW hB
            replace h_a := h_a.below hB
            replace h_b := h_b.below hB
            replace h_c := h_c.below hB
            replace h_g := h_g.below hB
            replace h_x := h_x.below hB
            replace h_t := h_t.below hB
            replace h_y := h_y.below hB
            replace h_u := h_u.below hB
            clear hB
            rw [hg0] at h_v
            go_wp2_with fail
            with_reducible refine (len_is h_v.arg (by omega) (k := 0) isLen_zero).mono ?_
            rintro e w25 ⟨rfl, rfl⟩
            go_wp2_with fail
            with_reducible refine (qlives_any).mono ?_
            rintro e w26 ⟨rfl, hB⟩
            replace hW := below_trans hW hB
            replace h_a := h_a.below hB
            replace h_b := h_b.below hB
            replace h_c := h_c.below hB
            replace h_g := h_g.below hB
            replace h_x := h_x.below hB
            replace h_t := h_t.below hB
            replace h_y := h_y.below hB
            replace h_u := h_u.below hB
            replace h_z := h_z.below hB
            replace h_v := h_v.below hB
            clear hB
            go_wp2
            go_ret
            exact ⟨rfl, hW⟩
          · have hu1 : 0 < B % C := by have := Int.emod_nonneg B (show C ≠ 0 by omega); omega
            have h_u2 := h_u.arg
            clear ht hu
            go_wp2_with fail
            with_reducible refine (len_any h_u2 (by omega)).mono ?_
            rintro e w23 ⟨k9, rfl, hk, _, rfl⟩
            have p_k9 := isLen_pos hk hu1
            have r_k9 : ((k9 : Int) == 0) = false := by simp; omega
            clear hk h_u2
            go_wp2_with fail
            with_reducible refine (qlives_any).mono ?_
            rintro e w24 ⟨rfl, hB⟩
            replace hW := below_trans hW hB
            replace h_a := h_a.below hB
            replace h_b := h_b.below hB
            replace h_c := h_c.below hB
            replace h_g := h_g.below hB
            replace h_x := h_x.below hB
            replace h_t := h_t.below hB
            replace h_y := h_y.below hB
            replace h_u := h_u.below hB
            clear hB
            go_wp2
            go_ret
            exact ⟨rfl, hW⟩
        · have ht1 : 0 < 0 % C := by have := Int.emod_nonneg 0 (show C ≠ 0 by omega); omega
          have h_t2 := h_t.arg
          clear ht
          go_wp2_with fail
          with_reducible refine (len_any h_t2 (by omega)).mono ?_
          rintro e w22 ⟨k9, rfl, hk, _, rfl⟩
          have p_k9 := isLen_pos hk ht1
          have r_k9 : ((k9 : Int) == 0) = false := by simp; omega
          clear hk h_t2
          go_wp2_with fail
          with_reducible refine (qlives_any).mono ?_
          rintro e w23 ⟨rfl, hB⟩
          replace hW := below_trans hW hB
          replace h_a := h_a.below hB
          replace h_b := h_b.below hB
          replace h_c := h_c.below hB
          replace h_g := h_g.below hB
          replace h_x := h_x.below hB
          replace h_t := h_t.below hB
          replace h_y := h_y.below hB
          replace h_u := h_u.below hB
          clear hB
          go_wp2
          go_ret
          exact ⟨rfl, hW⟩
    · have ha1 : 0 < A := by omega
      go_wp2_with fail
      with_reducible refine (len_any h_a (by omega)).mono ?_
      rintro e w4 ⟨ka1, rfl, hk, _, rfl⟩
      have p_ka1 := isLen_pos hk ha1
      have q_ka1 : (0 : Int) < (ka1 : Int) := by omega
      have r_ka1 : ((ka1 : Int) == 0) = false := by simp; omega
      have s_ka1 : decide (0 < ka1) = true := decide_eq_true p_ka1
      clear hk
      go_wp2_with fail
      with_reducible refine (div_any h_a h_g.arg (by omega) (by omega) g_pos).mono ?_
      rintro e w5 ⟨v_p, v_r, rfl, h_p, h_r, hB⟩
      replace hW := below_trans hW hB
      replace h_a := h_a.below hB
      replace h_b := h_b.below hB
      replace h_c := h_c.below hB
      replace h_g := h_g.below hB
      clear hB
      go_wp2_with fail
      with_reducible refine (div_any h_b h_g.arg (by omega) (by omega) g_pos).mono ?_
      rintro e w6 ⟨v_q, v_s, rfl, h_q, h_s, hB⟩
      replace hW := below_trans hW hB
      replace h_a := h_a.below hB
      replace h_b := h_b.below hB
      replace h_c := h_c.below hB
      replace h_g := h_g.below hB
      replace h_p := h_p.below hB
      replace h_r := h_r.below hB
      clear hB
      rw [G1.out] at h_r
      rw [G2.out] at h_s
      go_wp2_with fail
      with_reducible refine (len_is h_r.arg (by omega) (k := 0) isLen_zero).mono ?_
      rintro e w7 ⟨rfl, rfl⟩
      go_wp2_with fail
      with_reducible refine (len_is h_s.arg (by omega) (k := 0) isLen_zero).mono ?_
      rintro e w8 ⟨rfl, rfl⟩
      go_wp2_with fail
      with_reducible refine (tight_num h_g).mono ?_
      rintro e w9 ⟨rfl, rfl⟩
      clear h_r
      clear h_s
      go_wp2_with fail
      with_reducible refine (gcd_any h_p.arg h_q.arg (by omega) (by omega)).mono ?_
      rintro e w10 ⟨v_o, rfl, h_o, hB⟩
      replace hW := below_trans hW hB
      replace h_a := h_a.below hB
      replace h_b := h_b.below hB
      replace h_c := h_c.below hB
      replace h_g := h_g.below hB
      replace h_p := h_p.below hB
      replace h_q := h_q.below hB
      clear hB
      clear h_p
      clear h_q
      rw [G3.out] at h_o
      have s1 : sgn 1 1 = 0 := sgn_self 1
      go_wp2_with fail
      with_reducible refine (cmp_any (h_o.arg.below (below_alloc _ _)) (arg_one w10 (x := 1) (by omega)) (by omega) (by omega)).mono ?_
      rintro e w11 ⟨rfl, hB⟩
      have hB2 := below_trans (below_alloc w10 _) hB
      replace hW := below_trans hW hB2
      replace h_a := h_a.below hB2
      replace h_b := h_b.below hB2
      replace h_c := h_c.below hB2
      replace h_g := h_g.below hB2
      clear hB hB2 h_o
      go_wp2_with fail
      with_reducible refine (mul_any h_a h_c (by omega) (by omega)).mono ?_
      rintro e w12 ⟨v_m, rfl, h_m, hB⟩
      replace hW := below_trans hW hB
      replace h_a := h_a.below hB
      replace h_b := h_b.below hB
      replace h_c := h_c.below hB
      replace h_g := h_g.below hB
      clear hB
      go_wp2_with fail
      with_reducible refine (mul_any h_b h_c (by omega) (by omega)).mono ?_
      rintro e w13 ⟨v_n, rfl, h_n, hB⟩
      replace hW := below_trans hW hB
      replace h_a := h_a.below hB
      replace h_b := h_b.below hB
      replace h_c := h_c.below hB
      replace h_g := h_g.below hB
      replace h_m := h_m.below hB
      clear hB
      go_wp2_with fail
      with_reducible refine (gcd_any h_m.arg h_n.arg (by omega) (by omega)).mono ?_
      rintro e w14 ⟨v_o, rfl, h_o, hB⟩
      replace hW := below_trans hW hB
      replace h_a := h_a.below hB
      replace h_b := h_b.below hB
      replace h_c := h_c.below hB
      replace h_g := h_g.below hB
      replace h_m := h_m.below hB
      replace h_n := h_n.below hB
      clear hB
      clear h_m
      clear h_n
      rw [G4.out] at h_o
      go_wp2_with fail
      with_reducible refine (mul_any h_g.arg h_c (by omega) (by omega)).mono ?_
      rintro e w15 ⟨v_m, rfl, h_m, hB⟩
      replace hW := below_trans hW hB
      replace h_a := h_a.below hB
      replace h_b := h_b.below hB
      replace h_c := h_c.below hB
      replace h_g := h_g.below hB
      replace h_o := h_o.below hB
      clear hB
      have s2 := sgn_self (G * C)
      go_wp2_with fail
      with_reducible refine (cmp_any h_o.arg h_m.arg (by omega) (by omega)).mono ?_
      rintro e w16 ⟨rfl, hB⟩
      replace hW := below_trans hW hB
      replace h_a := h_a.below hB
      replace h_b := h_b.below hB
      replace h_c := h_c.below hB
      replace h_g := h_g.below hB
      replace h_o := h_o.below hB
      replace h_m := h_m.below hB
      clear hB
      clear h_o
      clear h_m
      go_wp2_with fail
      with_reducible refine (gcd_any h_b h_a (by omega) (by omega)).mono ?_
      rintro e w17 ⟨v_o, rfl, h_o, hB⟩
      replace hW := below_trans hW hB
      replace h_a := h_a.below hB
      replace h_b := h_b.below hB
      replace h_c := h_c.below hB
      replace h_g := h_g.below hB
      clear hB
      rw [G5.out] at h_o
      have s3 := sgn_self G
      go_wp2_with fail
      with_reducible refine (cmp_any h_o.arg h_g.arg (by omega) (by omega)).mono ?_
      rintro e w18 ⟨rfl, hB⟩
      replace hW := below_trans hW hB
      replace h_a := h_a.below hB
      replace h_b := h_b.below hB
      replace h_c := h_c.below hB
      replace h_g := h_g.below hB
      replace h_o := h_o.below hB
      clear hB
      clear h_o
      by_cases hc : C = 0
      · subst hc
        go_wp2_with fail
        with_reducible refine (div_zero h_a h_c (by omega) (by omega)).mono ?_
        rintro e w19 ⟨rfl, rfl⟩
        go_wp2_with fail
        with_reducible refine (div_zero h_b h_c (by omega) (by omega)).mono ?_
        rintro e w20 ⟨rfl, rfl⟩
        go_wp2_with fail
        with_reducible refine (qlives_any).mono ?_
        rintro e w21 ⟨rfl, hB⟩
        replace hW := below_trans hW hB
        replace h_a := h_a.below hB
        replace h_b := h_b.below hB
        replace h_c := h_c.below hB
        replace h_g := h_g.below hB
        clear hB
        go_wp2
        go_ret
        exact ⟨rfl, hW⟩
      · have c_pos : 0 < C := by omega
        go_wp2_with fail
        with_reducible refine (div_any h_a h_c (by omega) (by omega) c_pos).mono ?_
        rintro e w19 ⟨v_x, v_t, rfl, h_x, h_t, hB⟩
        replace hW := below_trans hW hB
        replace h_a := h_a.below hB
        replace h_b := h_b.below hB
        replace h_c := h_c.below hB
        replace h_g := h_g.below hB
        clear hB
        go_wp2_with fail
        with_reducible refine (div_any h_b h_c (by omega) (by omega) c_pos).mono ?_
        rintro e w20 ⟨v_y, v_u, rfl, h_y, h_u, hB⟩
        replace hW := below_trans hW hB
        replace h_a := h_a.below hB
        replace h_b := h_b.below hB
        replace h_c := h_c.below hB
        replace h_g := h_g.below hB
        replace h_x := h_x.below hB
        replace h_t := h_t.below hB
        clear hB
        by_cases ht : A % C = 0
        · rw [ht] at h_t
          go_wp2_with fail
          with_reducible refine (len_is h_t.arg (by omega) (k := 0) isLen_zero).mono ?_
          rintro e w21 ⟨rfl, rfl⟩
          by_cases hu : B % C = 0
          · rw [hu] at h_u
            go_wp2_with fail
            with_reducible refine (len_is h_u.arg (by omega) (k := 0) isLen_zero).mono ?_
            rintro e w22 ⟨rfl, rfl⟩
            have hg0 := G6.out c_pos ht hu
            clear ht hu
            go_wp2_with fail
            with_reducible refine (div_any h_g.arg h_c (by omega) (by omega) c_pos).mono ?_
            rintro e w23 ⟨v_z, v_v, rfl, h_z, h_v, hB⟩
            replace hW := below_trans hW hB
            replace h_a := h_a.below hB
            replace h_b := h_b.below hB
            replace h_c := h_c.below hB
            replace h_g := h_g.below hB
            replace h_x := h_x.below hB
            replace h_t := h_t.below hB
            replace h_y := h_y.below hB
            replace h_u := h_u.below hB
            clear hB
            rw [hg0] at h_v
            go_wp2_with fail
            with_reducible refine (len_is h_v.arg (by omega) (k := 0) isLen_zero).mono ?_
            rintro e w24 ⟨rfl, rfl⟩
            go_wp2_with fail
            with_reducible refine (qlives_any).mono ?_
            rintro e w25 ⟨rfl, hB⟩
            replace hW := below_trans hW hB
            replace h_a := h_a.below hB
            replace h_b := h_b.below hB
            replace h_c := h_c.below hB
            replace h_g := h_g.below hB
            replace h_x := h_x.below hB
            replace h_t := h_t.below hB
            replace h_y := h_y.below hB
            replace h_u := h_u.below hB
            replace h_z := h_z.below hB
            replace h_v := h_v.below hB
            clear hB
            go_wp2
            go_ret
            exact ⟨rfl, hW⟩
          · have hu1 : 0 < B % C := by have := Int.emod_nonneg B (show C ≠ 0 by omega); omega
            have h_u2 := h_u.arg
            clear ht hu
            go_wp2_with fail
            with_reducible refine (len_any h_u2 (by omega)).mono ?_
            rintro e w22 ⟨k9, rfl, hk, _, rfl⟩
            have p_k9 := isLen_pos hk hu1
            have r_k9 : ((k9 : Int) == 0) = false := by simp; omega
            clear hk h_u2
            go_wp2_with fail
            with_reducible refine (qlives_any).mono ?_
            rintro e w23 ⟨rfl, hB⟩
            replace hW := below_trans hW hB
            replace h_a := h_a.below hB
            replace h_b := h_b.below hB
            replace h_c := h_c.below hB
            replace h_g := h_g.below hB
            replace h_x := h_x.below hB
            replace h_t := h_t.below hB
            replace h_y := h_y.below hB
            replace h_u := h_u.below hB
            clear hB
            go_wp2
            go_ret
            exact ⟨rfl, hW⟩
        · have ht1 : 0 < A % C := by have := Int.emod_nonneg A (show C ≠ 0 by omega); omega
          have h_t2 := h_t.arg
          clear ht
          go_wp2_with fail
          with_reducible refine (len_any h_t2 (by omega)).mono ?_
          rintro e w21 ⟨k9, rfl, hk, _, rfl⟩
          have p_k9 := isLen_pos hk ht1
          have r_k9 : ((k9 : Int) == 0) = false := by simp; omega
          clear hk h_t2
          go_wp2_with fail
          with_reducible refine (qlives_any).mono ?_
          rintro e w22 ⟨rfl, hB⟩
          replace hW := below_trans hW hB
          replace h_a := h_a.below hB
          replace h_b := h_b.below hB
          replace h_c := h_c.below hB
          replace h_g := h_g.below hB
          replace h_x := h_x.below hB
          replace h_t := h_t.below hB
          replace h_y := h_y.below hB
          replace h_u := h_u.below hB
          clear hB
          go_wp2
          go_ret
          exact ⟨rfl, hW⟩

end Go.Proofs.YtkffaakjbbfiaaaDoor
