/- SR -/
import Derived.Test.YtinfkoiifemjmaaGreatDoorS11
import Derived.Test.YtinfkoiifemjmaaGreatDoorS04
import Derived.Test.YtinfkoiifemjmaaGreatDoorS26
import Derived.Deep.RegionHeld3
import Derived.Deep.Cut
namespace Go.Proofs.YtinfkoiifemjmaaGreatDoor
open Go.RowKit
set_option linter.unusedVariables false

theorem nat_or_one (n : Nat) : n ||| 1 = if n % 2 = 0 then n + 1 else n := by
  have t1 : (n ||| 1) / 2 = n / 2 := by rw [Nat.or_div_two]; simp
  have t2 : (n ||| 1) % 2 = 1 := Nat.or_mod_two_eq_one.2 (Or.inr rfl)
  split <;> omega
theorem int_or_one (x : Int) (h0 : 0 ≤ x) : ((x.toNat ||| (1 : Int).toNat : Nat) : Int) = or1 x := by
  obtain ⟨n, rfl⟩ := Int.eq_ofNat_of_zero_le h0
  rw [Int.toNat_natCast, show (1 : Int).toNat = 1 from rfl, nat_or_one]
  unfold or1
  split <;> split <;> omega
theorem est_high {F L s : Int} {n : Nat} (hF : 0 < F) (h0 : 0 ≤ s) (h1 : s < n * F) : est F L s ≤ L + n := by
  unfold est
  split
  · omega
  · have : s / F < n := (Int.ediv_lt_iff_lt_mul hF).2 h1
    omega


theorem or_one_d (x : Int) (h0 : 0 ≤ x) (h1 : x < 18446744073709551616) : bits .or .u64 x 1 = or1 x := by
  rw [u64_or x 1 h0 h1 (by decide) (by decide)]
  exact int_or_one x h0

set_option maxRecDepth 100000 in
set_option maxHeartbeats 8000000 in
theorem reach_d {w : World} (T : Lays w) (U : Brn w) (s : Int) (h0 : 0 < s) (h1 : s < 9218868437227405312) :
    Calls Tryz.prog 45 #[.int .u64 s] w fun r w' => ∃ v0 v1 v2 v3, r = .returned (.agg #[v0, v1, v2, v3, .bool (decide (s % 2 = 0))]) ∧ ∃ (up dn : Nat), (up : Int) - dn = est 4503599627370496 (-1074) (s - 1) - 1 ∧ up ≤ 1100 ∧ dn ≤ 1100 ∧
      Four w' v0 v1 v2 v3 (2 * mst 4503599627370496 s * p2 (est 4503599627370496 (-1074) s - est 4503599627370496 (-1074) (s - 1)).toNat * p2 up) (1 * p2 up) (p2 (est 4503599627370496 (-1074) s - est 4503599627370496 (-1074) (s - 1)).toNat * p2 up) (p2 dn) ∧ Below w.heap.size w w' := by
  have o1 := or_one_d s (by omega) (by omega)
  have o2 := or_one_d (s - 1) (by omega) (by omega)
  have hw : IntKind.u64.wrap (s - 1) = s - 1 := by rw [IntKind.wrap_u64]; omega
  have c1 := or1_cases s
  have c2 := or1_cases (s - 1)
  obtain ⟨x1, hx1⟩ : ∃ x, or1 s = x := ⟨_, rfl⟩
  obtain ⟨x2, hx2⟩ : ∃ x, or1 (s - 1) = x := ⟨_, rfl⟩
  rw [hx1] at o1 c1
  rw [hx2] at o2 c2
  have d1 : x1 % 9223372036854775808 = x1 := by omega
  have d2 : x2 % 9223372036854775808 = x2 := by omega
  have ev : (s.tmod 2 == 0) = decide (s % 2 = 0) := by rw [Int.tmod_eq_emod_of_nonneg (by omega)]; by_cases z : s % 2 = 0 <;> simp [z]
  have Hx1 := hide hx1
  have Hx2 := hide hx2
  clear hx1 hx2
  go_enter Tryz.func45, Tryz.ntmps45
  go_wp2_with fail
  have R0 : Rch (w.alloc (.cells #[.slice none 0 0, .slice none 0 0, .slice none 0 0, .slice none 0 0, .bool false] 85)) w.heap.size (.slice none 0 0) (.slice none 0 0) (.slice none 0 0) (.slice none 0 0) false := heap_alloc_new _ _
  have K0 := bel_new w (.cells #[.slice none 0 0, .slice none 0 0, .slice none 0 0, .slice none 0 0, .bool false] 85)
  have Z0 : (w.alloc (.cells #[.slice none 0 0, .slice none 0 0, .slice none 0 0, .slice none 0 0, .bool false] 85)).heap.size = w.heap.size + 1 := by simp
  generalize w.alloc (.cells #[.slice none 0 0, .slice none 0 0, .slice none 0 0, .slice none 0 0, .bool false] 85) = w0 at *
  refine (parts_64 (T.below K0) (U.below K0) s s false (by omega) (by omega) (by omega) (decide_eq_false (by omega)).symm).mono ?_
  rintro r w1 ⟨a1, m1, E1, k1, rfl, pa, b1⟩
  have Kb := below_trans K0 b1
  go_wp2_with fail
  refine (parts_64 (T.below Kb) (U.below Kb) x1 x1 false (by omega) (by omega) (by omega) (decide_eq_false (by omega)).symm).mono ?_
  rintro r w2 ⟨a2, m2, E2, k2, rfl, pb, b2⟩
  have Kc := below_trans Kb b2
  go_wp2_with fail
  refine (parts_64 (T.below Kc) (U.below Kc) x2 x2 false (by omega) (by omega) (by omega) (decide_eq_false (by omega)).symm).mono ?_
  rintro r w3 ⟨a3, m3, E3, k3, rfl, pc, b3⟩
  have Kd := below_trans Kc b3
  have K3 := below_trans (below_trans b1 b2) b3
  rw [← Hx1.out] at pb
  rw [← Hx2.out] at pc
  have q2 := part_above (by decide) (by decide) (by decide) h0 h1 pb
  have q3 := part_below (by decide) (by decide) h0 h1 pc
  obtain ⟨n1, n2, n3, n4, n5, n6, n7⟩ := part_number (by decide) h0 h1 pa q3
  have e1 := est_ge (F := 4503599627370496) (L := -1074) (s := s - 1) (by decide)
  have e2 := est_high (F := 4503599627370496) (L := -1074) (s := s) (n := 2047) (by decide) (by omega) (by omega)
  obtain ⟨mm0, mm1⟩ := mst_lt (F := 4503599627370496) (s := s) (by decide) (by omega)
  rw [← q2] at n4 n5 e2
  rw [← q3] at e1
  obtain ⟨dl, hdl⟩ : ∃ d : Nat, E2 - E3 = d := ⟨(E2 - E3).toNat, by omega⟩
  have hd1 : dl ≤ 1 := by omega
  rw [← q2, hdl, Int.toNat_natCast] at n6
  have num := num_wrap (m := m1) (x := mst 4503599627370496 s) n1 n7 n2 (by omega) hd1 n6
  obtain ⟨j, hj⟩ : ∃ j : Nat, E1 - E3 = j := ⟨(E1 - E3).toNat, by omega⟩
  have w1' : IntKind.i64.wrap (E1 - E3) = (j : Int) := by rw [hj, IntKind.wrap_i64]; omega
  have w2' : IntKind.i64.wrap (E2 - E3) = (dl : Int) := by rw [hdl, IntKind.wrap_i64]; omega
  have w3' : IntKind.u64.wrap (2 * m1) = 2 * m1 := by rw [IntKind.wrap_u64]; omega
  obtain ⟨Nv, hNv⟩ : ∃ N, 2 * mst 4503599627370496 s * p2 dl = N := ⟨_, rfl⟩
  obtain ⟨Av, hAv⟩ : ∃ A, p2 dl = A := ⟨_, rfl⟩
  have hNw : IntKind.u64.wrap (2 * m1 * 2 ^ j) = Nv := by rw [← hNv, ← num, w3', hj, Int.toNat_natCast, Nat.min_eq_left (by omega)]
  have hAw : IntKind.u64.wrap (2 ^ dl) = Av := by rw [← hAv]; exact abo_wrap hd1
  have hNr := nv_range mm0 mm1 (by decide) hd1 hNv
  have hAr := av_range hd1 hAv
  have HNv := hide hNv
  have HAv := hide hAv
  clear hNv hAv
  have Hj := hide hj
  have Hdl := hide hdl
  have j64 : (j : Int) ≤ 64 := by omega
  clear hj hdl
  have Q2 := hide q2
  have Q3 := hide q3
  have N6 := hide n6
  clear pa pb pc q2 q3 n6 num T U K0 Kb Kc b1 b2 b3 c1 c2 o1 o2 d1 d2 hw
  replace R0 := R0.keeps K3
  go_upto_region 4 with fail
  have hz : w.heap.size < w3.heap.size := by have := K3.size; omega
  go_cut [15] from 41 (fun s15 wc => AtR w3 w.heap.size (decide (s % 2 = 0)) Nv Av s15 wc)
  case first =>
    go_region_held3 (fun _ => True) (exact trivial)
      (first
        | (go_at_call 69; have _c3 := g3; (refine (from_any _ ?_ ?_).mono ?_); omega; omega; rintro r w7 ⟨y4, rfl, g4, f4⟩; obtain ⟨y4a, y4l, y4c, rfl⟩ := g4.slice; (first | (have rr := rch_new f4) | (have rr := rch_new_d f4) | (replace rr := rr.keeps f4) | skip); (first | (clear k0 k1 k2 k3 k4 kf) | skip); (first | (have k0 := rr.c0; have k1 := rr.c1; have k2 := rr.c2; have k3 := rr.c3; have k4 := rr.c4; have kf := rr.frozen) | skip))
        | (go_at_call 69; have _c2 := g2; (refine (from_any _ ?_ ?_).mono ?_); omega; omega; rintro r w6 ⟨y3, rfl, g3, f3⟩; obtain ⟨y3a, y3l, y3c, rfl⟩ := g3.slice; (first | (have rr := rch_new f3) | (have rr := rch_new_d f3) | (replace rr := rr.keeps f3) | skip); (first | (clear k0 k1 k2 k3 k4 kf) | skip); (first | (have k0 := rr.c0; have k1 := rr.c1; have k2 := rr.c2; have k3 := rr.c3; have k4 := rr.c4; have kf := rr.frozen) | skip))
        | (go_at_call 69; have _c1 := g1; (refine (from_any _ ?_ ?_).mono ?_); omega; omega; rintro r w5 ⟨y2, rfl, g2, f2⟩; obtain ⟨y2a, y2l, y2c, rfl⟩ := g2.slice; (first | (have rr := rch_new f2) | (have rr := rch_new_d f2) | (replace rr := rr.keeps f2) | skip); (first | (clear k0 k1 k2 k3 k4 kf) | skip); (first | (have k0 := rr.c0; have k1 := rr.c1; have k2 := rr.c2; have k3 := rr.c3; have k4 := rr.c4; have kf := rr.frozen) | skip))
        | (go_at_call 69; (refine (from_any _ ?_ ?_).mono ?_); omega; omega; rintro r w4 ⟨y1, rfl, g1, f1⟩; obtain ⟨y1a, y1l, y1c, rfl⟩ := g1.slice; (first | (have rr := rch_new f1) | (have rr := rch_new_d f1) | (replace rr := rr.keeps f1) | skip); (first | (clear k0 k1 k2 k3 k4 kf) | skip); (first | (have k0 := rr.c0; have k1 := rr.c1; have k2 := rr.c2; have k3 := rr.c3; have k4 := rr.c4; have kf := rr.frozen) | skip)))
    · go_wp2_with fail
      go_meet
      exact reach_leaf4 hz f1 f2 f3 f4 g1 g2 g3 g4
    · go_wp2_with fail
      go_meet
      exact reach_leaf3 hz f1 f2 f3 f4 g1 g2 g3 g4 rr
    · go_wp2_with fail
      go_meet
      exact reach_leaf2 hz f1 f2 f3 f4 g1 g2 g3 g4 rr
    · go_wp2_with fail
      go_meet
      exact reach_leaf1 hz f1 f2 f3 f4 g1 g2 g3 g4 rr
    · go_wp2_with fail
      go_meet
      exact reach_leaf0 hz f1 f2 f3 f4 g1 g2 g3 g4 rr
  case rest =>
  obtain ⟨b, v0, v1, v2, v3, rfl, hbz, R, x0, x1, x2, x3, lw, kc⟩ := hcut
  rename World => wc
  have Q : Bn w wc b v0 v1 v2 v3 Nv 1 Av 1 (decide (s % 2 = 0)) 2 2 2 2 := ⟨R, R0.keeps kc, x0, x1, x2, x3, lw, by omega, by omega, below_trans Kd kc⟩
  have hne : b ≠ w.heap.size := by omega
  have hne' : w.heap.size ≠ b := by omega
  obtain ⟨a0, l0, p0, rfl⟩ := x0.slice
  obtain ⟨a1', l1, p1, rfl⟩ := x1.slice
  obtain ⟨a2', l2, p2', rfl⟩ := x2.slice
  obtain ⟨a3', l3, p3, rfl⟩ := x3.slice
  obtain ⟨pt, hpt⟩ : ∃ p, E3 - 1 = p := ⟨_, rfl⟩
  have wp : IntKind.i64.wrap (E3 - 1) = pt := by rw [hpt, IntKind.wrap_i64]; omega
  have wn : IntKind.i64.wrap (-pt) = -pt := by rw [IntKind.wrap_i64]; omega
  have bp : -1100 ≤ pt ∧ pt ≤ 1100 := by omega
  have Hpt := hide hpt
  have Hd : (est 4503599627370496 (-1074) s - est 4503599627370496 (-1074) (s - 1)).toNat = dl := by rw [← Q2.out, ← Q3.out, Hdl.out, Int.toNat_natCast]
  clear hpt w1' w2' w3' hNw hAw kc K3 Kd R R0 x0 x1 x2 x3 lw
  have HHd := hide Hd
  clear Hd
  by_cases c : pt < 0
  · obtain ⟨np, hnp⟩ : ∃ n : Nat, -pt = n := ⟨(-pt).toNat, by omega⟩
    rw [hnp] at wn
    have k0 := Q.R.c0
    have k1' := Q.R.c1
    have k2' := Q.R.c2
    have k3' := Q.R.c3
    have k4 := Q.R.c4
    have kf := Q.R.frozen
    have j0 := Q.R0.c0
    have j1 := Q.R0.c1
    have j2 := Q.R0.c2
    have j3 := Q.R0.c3
    have j4 := Q.R0.c4
    have jf := Q.R0.frozen
    go_wp2_with fail
    refine (shl_int (n := (np : Int)) Q.x3.arg (by omega) (by omega) (by omega)).mono ?_
    rintro r wd ⟨v', rfl, hv, hb⟩
    obtain ⟨a', l', p', rfl⟩ := hv.slice
    rw [Int.toNat_natCast] at hv
    have B4 := (Q.R.keeps hb)
    have B5 := (Q.R0.keeps hb)
    replace Q := Q.put3 hb hv
    clear hv hb
    clear k0 k1' k2' k3' k4 kf j0 j1 j2 j3 j4 jf
    have i3 := B4.c3
    have i4 := B4.frozen
    go_upto_region 11 with fail
    generalize wd.setCell ⟨b, 3, none⟩ (.slice a' l' p') = we at *
    clear i3 i4 B4 B5
    have k0 := Q.R.c0
    have k1' := Q.R.c1
    have k2' := Q.R.c2
    have k3' := Q.R.c3
    have k4 := Q.R.c4
    have kf := Q.R.frozen
    have j0 := Q.R0.c0
    have j1 := Q.R0.c1
    have j2 := Q.R0.c2
    have j3 := Q.R0.c3
    have j4 := Q.R0.c4
    have jf := Q.R0.frozen
    go_wp2
    obtain ⟨F4, PR, KB⟩ := Q.fin (by omega) (by omega) (by omega) (by omega)
    clear Q k0 k1' k2' k3' k4 kf j0 j1 j2 j3 j4 jf
    unfold put5 at F4 PR KB
    generalize ((((we.setCell ⟨w.heap.size, 0, none⟩ (.slice a0 l0 p0)).setCell ⟨w.heap.size, 1, none⟩ (.slice a1' l1 p1)).setCell ⟨w.heap.size, 2, none⟩ (.slice a2' l2 p2')).setCell ⟨w.heap.size, 3, none⟩ (.slice a' l' p')).setCell ⟨w.heap.size, 4, none⟩ (.bool (decide (s % 2 = 0))) = wf at *
    (try simp only [Exit.inBlock, Exit.then])
    exact bodyPost_ret (v := .agg #[.slice a0 l0 p0, .slice a1' l1 p1, .slice a2' l2 p2', .slice a' l' p', .bool (decide (s % 2 = 0))]) (by simp [results, Tryz.results45, go_sem, PR.c0, PR.c1, PR.c2, PR.c3, PR.c4]) rfl ⟨_, _, _, _, rfl, 0, np, by have := Hpt.out; have := Q3.out; omega, by omega, by omega, by rw [HHd.out, HNv.out, HAv.out, show p2 0 = 1 from rfl, Int.mul_one, Int.mul_one, Int.mul_one]; rw [Int.one_mul] at F4; exact F4, KB⟩
  · obtain ⟨np, hnp⟩ : ∃ n : Nat, pt = n := ⟨pt.toNat, by omega⟩
    subst hnp
    have k0 := Q.R.c0
    have k1' := Q.R.c1
    have k2' := Q.R.c2
    have k3' := Q.R.c3
    have k4 := Q.R.c4
    have kf := Q.R.frozen
    have j0 := Q.R0.c0
    have j1 := Q.R0.c1
    have j2 := Q.R0.c2
    have j3 := Q.R0.c3
    have j4 := Q.R0.c4
    have jf := Q.R0.frozen
    go_wp2_with fail
    refine (shl_int (n := (np : Int)) Q.x0.arg (by omega) (by omega) (by omega)).mono ?_
    rintro r wd0 ⟨v', rfl, hv, hb⟩
    obtain ⟨ua, ul, uq, rfl⟩ := hv.slice
    rw [Int.toNat_natCast] at hv
    have B4 := (Q.R.keeps hb)
    replace Q := Q.put0 hb hv
    clear hv hb
    clear k0 k1' k2' k3' k4 kf j0 j1 j2 j3 j4 jf
    have i3 := B4.c0
    have i4 := B4.frozen
    go_upto_region 9 with fail
    generalize wd0.setCell ⟨b, 0, none⟩ (.slice ua ul uq) = we0 at *
    clear i3 i4 B4
    have k0 := Q.R.c0
    have k1' := Q.R.c1
    have k2' := Q.R.c2
    have k3' := Q.R.c3
    have k4 := Q.R.c4
    have kf := Q.R.frozen
    have j0 := Q.R0.c0
    have j1 := Q.R0.c1
    have j2 := Q.R0.c2
    have j3 := Q.R0.c3
    have j4 := Q.R0.c4
    have jf := Q.R0.frozen
    go_wp2_with fail
    refine (shl_int (n := (np : Int)) Q.x1.arg (by omega) (by omega) (by omega)).mono ?_
    rintro r wd1 ⟨v', rfl, hv, hb⟩
    obtain ⟨va, vl, vq, rfl⟩ := hv.slice
    rw [Int.toNat_natCast] at hv
    have B4 := (Q.R.keeps hb)
    replace Q := Q.put1 hb hv
    clear hv hb
    clear k0 k1' k2' k3' k4 kf j0 j1 j2 j3 j4 jf
    have i3 := B4.c1
    have i4 := B4.frozen
    go_upto_region 10 with fail
    generalize wd1.setCell ⟨b, 1, none⟩ (.slice va vl vq) = we1 at *
    clear i3 i4 B4
    have k0 := Q.R.c0
    have k1' := Q.R.c1
    have k2' := Q.R.c2
    have k3' := Q.R.c3
    have k4 := Q.R.c4
    have kf := Q.R.frozen
    have j0 := Q.R0.c0
    have j1 := Q.R0.c1
    have j2 := Q.R0.c2
    have j3 := Q.R0.c3
    have j4 := Q.R0.c4
    have jf := Q.R0.frozen
    go_wp2_with fail
    refine (shl_int (n := (np : Int)) Q.x2.arg (by omega) (by omega) (by omega)).mono ?_
    rintro r wd2 ⟨v', rfl, hv, hb⟩
    obtain ⟨ta, tl, tq, rfl⟩ := hv.slice
    rw [Int.toNat_natCast] at hv
    have B4 := (Q.R.keeps hb)
    replace Q := Q.put2 hb hv
    clear hv hb
    clear k0 k1' k2' k3' k4 kf j0 j1 j2 j3 j4 jf
    have i3 := B4.c2
    have i4 := B4.frozen
    go_upto_region 11 with fail
    generalize wd2.setCell ⟨b, 2, none⟩ (.slice ta tl tq) = we2 at *
    clear i3 i4 B4
    have k0 := Q.R.c0
    have k1' := Q.R.c1
    have k2' := Q.R.c2
    have k3' := Q.R.c3
    have k4 := Q.R.c4
    have kf := Q.R.frozen
    have j0 := Q.R0.c0
    have j1 := Q.R0.c1
    have j2 := Q.R0.c2
    have j3 := Q.R0.c3
    have j4 := Q.R0.c4
    have jf := Q.R0.frozen
    go_wp2
    obtain ⟨F4, PR, KB⟩ := Q.fin (by omega) (by omega) (by omega) (by omega)
    clear Q k0 k1' k2' k3' k4 kf j0 j1 j2 j3 j4 jf
    unfold put5 at F4 PR KB
    generalize ((((we2.setCell ⟨w.heap.size, 0, none⟩ (.slice ua ul uq)).setCell ⟨w.heap.size, 1, none⟩ (.slice va vl vq)).setCell ⟨w.heap.size, 2, none⟩ (.slice ta tl tq)).setCell ⟨w.heap.size, 3, none⟩ (.slice a3' l3 p3)).setCell ⟨w.heap.size, 4, none⟩ (.bool (decide (s % 2 = 0))) = wf at *
    (try simp only [Exit.inBlock, Exit.then])
    exact bodyPost_ret (v := .agg #[.slice ua ul uq, .slice va vl vq, .slice ta tl tq, .slice a3' l3 p3, .bool (decide (s % 2 = 0))]) (by simp [results, Tryz.results45, go_sem, PR.c0, PR.c1, PR.c2, PR.c3, PR.c4]) rfl ⟨_, _, _, _, rfl, np, 0, by have := Hpt.out; have := Q3.out; omega, by omega, by omega, by rw [HHd.out, HNv.out, HAv.out]; exact F4, KB⟩

end Go.Proofs.YtinfkoiifemjmaaGreatDoor
