/- RealJoins: the walk -/
import Derived.Test.YtkaakhmncmpliaaRSumC
import Derived.Test.YtkaakhmncmpliaaRNum
namespace Go.Proofs.Ytkaakhmncmpliaa
open Go.RowKit
set_option linter.unusedVariables false

set_option maxHeartbeats 1000000 in
theorem is_any (w : World) (a b : Nat) (x y : Int) : Calls Try.prog 30 #[.complex .f64 a b, .int .u64 x, .int .u64 y] w fun e w' => e = .returned (.bool (oneD a == x && oneD b == y)) ∧ w' = w := by
  go_enter Try.func30, Try.ntmps30
  have q1 : ∀ (w : World), Calls Try.prog 11 #[.float .f64 a] w fun e w' => e = .returned (.int .u64 (oneD a)) ∧ w' = w := fun w => bits_any w a
  have q2 : ∀ (w : World), Calls Try.prog 11 #[.float .f64 b] w fun e w' => e = .returned (.int .u64 (oneD b)) ∧ w' = w := fun w => bits_any w b
  generalize hA : oneD a = p at *
  generalize hB : oneD b = q at *
  have HA := hide hA
  have HB := hide hB
  clear hA hB
  rcases h1 : (p == x) with _ | _
  · go_wp2_with (first | (with_reducible refine (split_any _ _ _).mono ?_; rintro e w1 ⟨rfl, rfl⟩) | (with_reducible refine (q1 _).mono ?_; rintro e w1 ⟨rfl, rfl⟩) | (with_reducible refine (q2 _).mono ?_; rintro e w1 ⟨rfl, rfl⟩))
    go_ret
    exact ⟨by rw [Bool.false_and]; rfl, rfl⟩
  · rcases h2 : (q == y) with _ | _
    · go_wp2_with (first | (with_reducible refine (split_any _ _ _).mono ?_; rintro e w1 ⟨rfl, rfl⟩) | (with_reducible refine (q1 _).mono ?_; rintro e w1 ⟨rfl, rfl⟩) | (with_reducible refine (q2 _).mono ?_; rintro e w1 ⟨rfl, rfl⟩))
      go_ret
      exact ⟨rfl, rfl⟩
    · go_wp2_with (first | (with_reducible refine (split_any _ _ _).mono ?_; rintro e w1 ⟨rfl, rfl⟩) | (with_reducible refine (q1 _).mono ?_; rintro e w1 ⟨rfl, rfl⟩) | (with_reducible refine (q2 _).mono ?_; rintro e w1 ⟨rfl, rfl⟩))
      go_ret
      exact ⟨rfl, rfl⟩
theorem is_yes (w : World) {a b : Nat} {x y : Int} (hx : oneD a = x) (hy : oneD b = y) : Calls Try.prog 30 #[.complex .f64 a b, .int .u64 x, .int .u64 y] w fun e w' => e = .returned (.bool true) ∧ w' = w := by
  have := is_any w a b x y
  rwa [show (oneD a == x && oneD b == y) = true by simp [hx, hy]] at this

theorem one_one (b : Nat) : oneD (oneD b).toNat = oneD b := by
  by_cases h : nanD b
  · rw [one_nan h]; exact one_nan nan_one
  · rw [one_not h, Int.toNat_natCast]; exact one_not h
theorem one_fit {b : Nat} (h : b < 18446744073709551616) : 0 ≤ oneD b ∧ oneD b < 18446744073709551616 := by
  unfold oneD
  split <;> omega
set_option maxRecDepth 100000 in
set_option maxHeartbeats 2000000 in
theorem rjoins_walk {W : World} {a b c d : Int} (ha : (Lit.int .u64 a).wf = true) (hb : (Lit.int .u64 b).wf = true) (hc : (Lit.int .u64 c).wf = true) (hd : (Lit.int .u64 d).wf = true) :
    Calls Try.prog 7 #[.agg #[.int .u64 a, .int .u64 b], .agg #[.int .u64 c, .int .u64 d]] W fun e w' => e = .returned (.bool true) ∧ Below W.heap.size W w' := by
  have fit : ∀ x : Int, (Lit.int .u64 x).wf = true → 0 ≤ x ∧ x < 18446744073709551616 := fun x h => by
    have : 0 ≤ x ∧ x ≤ 18446744073709551615 := by simpa [Lit.wf, IntKind.min, IntKind.max, IntKind.signed, IntKind.bits] using h
    omega
  obtain ⟨a0, a1⟩ := fit a ha
  obtain ⟨b0, b1⟩ := fit b hb
  obtain ⟨c0, c1⟩ := fit c hc
  obtain ⟨d0, d1⟩ := fit d hd
  clear fit ha hb hc hd
  have o_a : ∀ (w : World), Calls Try.prog 12 #[.int .u64 a] w fun e w' => e = .returned (.int .u64 (oneD a.toNat)) ∧ w' = w := fun w => one_any w a a0 a1
  have o_b : ∀ (w : World), Calls Try.prog 12 #[.int .u64 b] w fun e w' => e = .returned (.int .u64 (oneD b.toNat)) ∧ w' = w := fun w => one_any w b b0 b1
  have o_c : ∀ (w : World), Calls Try.prog 12 #[.int .u64 c] w fun e w' => e = .returned (.int .u64 (oneD c.toNat)) ∧ w' = w := fun w => one_any w c c0 c1
  have o_d : ∀ (w : World), Calls Try.prog 12 #[.int .u64 d] w fun e w' => e = .returned (.int .u64 (oneD d.toNat)) ∧ w' = w := fun w => one_any w d d0 d1
  have s_1 : ∀ (w : World), Calls Try.prog 31 #[.complex .f64 a.toNat b.toNat, .complex .f64 c.toNat d.toNat] w fun e w' => e = .returned (.bool (oneD a.toNat == oneD c.toNat && oneD b.toNat == oneD d.toNat)) ∧ w' = w := fun w => samec_any w _ _ _ _
  have s_2 : ∀ (w : World), Calls Try.prog 31 #[.complex .f64 a.toNat b.toNat, .complex .f64 a.toNat b.toNat] w fun e w' => e = .returned (.bool true) ∧ w' = w := fun w => by
    have := samec_any w a.toNat b.toNat a.toNat b.toNat
    rwa [show (oneD a.toNat == oneD a.toNat && oneD b.toNat == oneD b.toNat) = true by simp] at this
  have i_1 : ∀ (w : World), Calls Try.prog 30 #[.complex .f64 a.toNat b.toNat, .int .u64 (oneD a.toNat), .int .u64 (oneD b.toNat)] w fun e w' => e = .returned (.bool true) ∧ w' = w := fun w => is_yes w rfl rfl
  have i_2 : ∀ (w : World), Calls Try.prog 30 #[.complex .f64 a.toNat (flipD b.toNat), .int .u64 (oneD a.toNat), .int .u64 (oneD (flipD b.toNat))] w fun e w' => e = .returned (.bool true) ∧ w' = w := fun w => is_yes w rfl rfl
  have f_1 : ∀ (w : World), Calls Try.prog 32 #[.complex .f64 a.toNat b.toNat] w fun e w' => e = .returned (.complex .f64 a.toNat (flipD b.toNat)) ∧ w' = w := fun w => flip_any w _ _
  have t_b : ∀ (w : World), Calls Try.prog 33 #[.int .u64 b] w fun e w' => e = .returned (.int .u64 (oneD (flipD b.toNat))) ∧ w' = w := fun w => turned_any w b b0 b1
  have t_c : ∀ (w : World), Calls Try.prog 33 #[.int .u64 c] w fun e w' => e = .returned (.int .u64 (oneD (flipD c.toNat))) ∧ w' = w := fun w => turned_any w c c0 c1
  have t_d : ∀ (w : World), Calls Try.prog 33 #[.int .u64 d] w fun e w' => e = .returned (.int .u64 (oneD (flipD d.toNat))) ∧ w' = w := fun w => turned_any w d d0 d1
  go_enter Try.func7, Try.ntmps7
  go_upto_region 1 with fail
  have D1 := (duo_new W (.int .u64 a) (.int .u64 b) 58).below (bel_alloc _ (.cells #[.int .u64 c, .int .u64 d] 58))
  have D2 := duo_new (W.alloc (.cells #[.int .u64 a, .int .u64 b] 58)) (.int .u64 c) (.int .u64 d) 58
  have K := below_trans (bel_alloc W (.cells #[.int .u64 a, .int .u64 b] 58)) (bel_alloc _ (.cells #[.int .u64 c, .int .u64 d] 58))
  rw [World.size_alloc] at D2
  generalize (W.alloc (.cells #[.int .u64 a, .int .u64 b] 58)).alloc (.cells #[.int .u64 c, .int .u64 d] 58) = w1 at *
  have HD1 := hide D1
  have HD2 := hide D2
  have p0 := D1.c0
  have p1 := D1.c1
  have q0 := D2.c0
  have q1 := D2.c1
  clear D1 D2
  go_wp2_with fail
  with_reducible refine (number_any _ a b).mono ?_
  rintro e w2 ⟨rfl, b2⟩
  have D1 := HD1.out.below b2
  have D2 := HD2.out.below b2
  replace K := below_trans K b2
  clear HD1 HD2 p0 p1 q0 q1 b2
  have HD1 := hide D1
  have HD2 := hide D2
  have p0 := D1.c0
  have p1 := D1.c1
  have q0 := D2.c0
  have q1 := D2.c1
  clear D1 D2
  go_wp2_with fail
  with_reducible refine (number_any _ c d).mono ?_
  rintro e w3 ⟨rfl, b3⟩
  have D1 := HD1.out.below b3
  have D2 := HD2.out.below b3
  replace K := below_trans K b3
  clear HD1 HD2 p0 p1 q0 q1 b3
  have HD1 := hide D1
  have HD2 := hide D2
  have p0 := D1.c0
  have p1 := D1.c1
  have q0 := D2.c0
  have q1 := D2.c1
  clear D1 D2
  have RA : Hid (∀ {x y : Nat}, OpIs .sub a.toNat c.toNat x → OpIs .sub b.toNat d.toNat y → oneD x = oneD (sumD a.toNat (oneD (flipD c.toNat)).toNat) ∧ oneD y = oneD (sumD b.toNat (oneD (flipD d.toNat)).toNat)) := by
    refine hide fun h g => ⟨?_, ?_⟩
    · rw [one_sub h, sub_flip (by omega)]
      exact sum_like rfl (one_one _).symm
    · rw [one_sub g, sub_flip (by omega)]
      exact sum_like rfl (one_one _).symm
  have tc := one_fit (flip_lt (b := c.toNat) (by omega))
  have td := one_fit (flip_lt (b := d.toNat) (by omega))
  generalize oneD (flipD c.toNat) = tc' at *
  generalize oneD (flipD d.toNat) = td' at *
  have s_a : ∀ (w : World), Calls Try.prog 34 #[.int .u64 a, .int .u64 tc'] w fun e w' => e = .returned (.int .u64 (oneD (sumD a.toNat tc'.toNat))) ∧ Below w.heap.size w w' := fun w => sum_any w a tc' a0 a1 tc.1 tc.2
  have s_b : ∀ (w : World), Calls Try.prog 34 #[.int .u64 b, .int .u64 td'] w fun e w' => e = .returned (.int .u64 (oneD (sumD b.toNat td'.toNat))) ∧ Below w.heap.size w w' := fun w => sum_any w b td' b0 b1 td.1 td.2
  generalize oneD (sumD a.toNat tc'.toNat) = sa at *
  generalize oneD (sumD b.toNat td'.toNat) = sb at *
  generalize oneD (flipD b.toNat) = tb' at *
  generalize oneD a.toNat = xa at *
  generalize oneD b.toNat = xb at *
  generalize oneD c.toNat = xc at *
  generalize oneD d.toNat = xd at *
  clear a0 a1 b0 b1 c0 c1 d0 d1 tc td
  go_upto_region 3 with fail
  go_cut [7] from 10 (fun s wx => s = .bool (xa == xc && xb == xd) ∧ Hid (Duo wx W.heap.size (.int .u64 a) (.int .u64 b)) ∧ Hid (Duo wx (W.heap.size + 1) (.int .u64 c) (.int .u64 d)) ∧ Below W.heap.size W wx)
  case first =>
    rcases h1 : (xa == xc) with _ | _
    · go_quiet ((first | (go_at_call 12; first | with_reducible exact Calls.quiet_of_same (o_a _) | with_reducible exact Calls.quiet_of_same (o_b _) | with_reducible exact Calls.quiet_of_same (o_c _) | with_reducible exact Calls.quiet_of_same (o_d _)) | (go_at_call 30; first | with_reducible exact Calls.quiet_of_same (i_1 _) | with_reducible exact Calls.quiet_of_same (i_2 _)) | (go_at_call 31; first | with_reducible exact Calls.quiet_of_same (s_1 _) | with_reducible exact Calls.quiet_of_same (s_2 _)) | (go_at_call 32; exact Calls.quiet_of_same (f_1 _)) | (go_at_call 33; with_reducible exact Calls.quiet_of_same (t_b _))))
      go_wp2
      go_meet
      case rel => exact ⟨by rw [h1, Bool.false_and], hide (HD1.out.below (below_drewN' (Below.refl _ _))), hide (HD2.out.below (below_drewN' (Below.refl _ _))), below_drewN' K⟩
    · rcases h2 : (xb == xd) with _ | _
      · go_quiet ((first | (go_at_call 12; first | with_reducible exact Calls.quiet_of_same (o_a _) | with_reducible exact Calls.quiet_of_same (o_b _) | with_reducible exact Calls.quiet_of_same (o_c _) | with_reducible exact Calls.quiet_of_same (o_d _)) | (go_at_call 30; first | with_reducible exact Calls.quiet_of_same (i_1 _) | with_reducible exact Calls.quiet_of_same (i_2 _)) | (go_at_call 31; first | with_reducible exact Calls.quiet_of_same (s_1 _) | with_reducible exact Calls.quiet_of_same (s_2 _)) | (go_at_call 32; exact Calls.quiet_of_same (f_1 _)) | (go_at_call 33; with_reducible exact Calls.quiet_of_same (t_b _))))
        go_wp2
        go_meet
        case rel => exact ⟨by rw [h1, h2]; rfl, hide (HD1.out.below (below_drewN' (Below.refl _ _))), hide (HD2.out.below (below_drewN' (Below.refl _ _))), below_drewN' K⟩
      · go_quiet ((first | (go_at_call 12; first | with_reducible exact Calls.quiet_of_same (o_a _) | with_reducible exact Calls.quiet_of_same (o_b _) | with_reducible exact Calls.quiet_of_same (o_c _) | with_reducible exact Calls.quiet_of_same (o_d _)) | (go_at_call 30; first | with_reducible exact Calls.quiet_of_same (i_1 _) | with_reducible exact Calls.quiet_of_same (i_2 _)) | (go_at_call 31; first | with_reducible exact Calls.quiet_of_same (s_1 _) | with_reducible exact Calls.quiet_of_same (s_2 _)) | (go_at_call 32; exact Calls.quiet_of_same (f_1 _)) | (go_at_call 33; with_reducible exact Calls.quiet_of_same (t_b _))))
        go_wp2
        go_meet
        case rel => exact ⟨by rw [h1, h2]; rfl, hide (HD1.out.below (below_drewN' (Below.refl _ _))), hide (HD2.out.below (below_drewN' (Below.refl _ _))), below_drewN' K⟩
  case rest =>
    obtain ⟨rfl, HD1, HD2, K⟩ := hcut
    generalize (xa == xc && xb == xd) = same at *
    have p0 := HD1.out.c0
    have p1 := HD1.out.c1
    have q0 := HD2.out.c0
    have q1 := HD2.out.c1
    cases same <;> (
    go_upto_region 4 with fail
    go_quiet ((first | (go_at_call 12; first | with_reducible exact Calls.quiet_of_same (o_a _) | with_reducible exact Calls.quiet_of_same (o_b _) | with_reducible exact Calls.quiet_of_same (o_c _) | with_reducible exact Calls.quiet_of_same (o_d _)) | (go_at_call 30; first | with_reducible exact Calls.quiet_of_same (i_1 _) | with_reducible exact Calls.quiet_of_same (i_2 _)) | (go_at_call 31; first | with_reducible exact Calls.quiet_of_same (s_1 _) | with_reducible exact Calls.quiet_of_same (s_2 _)) | (go_at_call 32; exact Calls.quiet_of_same (f_1 _)) | (go_at_call 33; with_reducible exact Calls.quiet_of_same (t_b _))))
    go_upto_region 6 with fail
    have E1 := hide (HD1.out.below (below_drewN' (n := nq) (Below.refl _ _)))
    have E2 := hide (HD2.out.below (below_drewN' (n := nq) (Below.refl _ _)))
    have L := below_drewN' (n := nq) K
    clear HD1 HD2 p0 p1 q0 q1 K
    generalize wc.drewN nq = w5 at *
    have p0 := E1.out.c0
    have p1 := E1.out.c1
    have q0 := E2.out.c0
    have q1 := E2.out.c1
    go_quiet ((first | (go_at_call 12; first | with_reducible exact Calls.quiet_of_same (o_a _) | with_reducible exact Calls.quiet_of_same (o_b _) | with_reducible exact Calls.quiet_of_same (o_c _) | with_reducible exact Calls.quiet_of_same (o_d _)) | (go_at_call 30; first | with_reducible exact Calls.quiet_of_same (i_1 _) | with_reducible exact Calls.quiet_of_same (i_2 _)) | (go_at_call 31; first | with_reducible exact Calls.quiet_of_same (s_1 _) | with_reducible exact Calls.quiet_of_same (s_2 _)) | (go_at_call 32; exact Calls.quiet_of_same (f_1 _)) | (go_at_call 33; with_reducible exact Calls.quiet_of_same (t_b _))))
    go_upto_region 8 with fail
    replace E1 := hide (E1.out.below (below_drewN' (n := nq) (Below.refl _ _)))
    replace E2 := hide (E2.out.below (below_drewN' (n := nq) (Below.refl _ _)))
    replace L := below_drewN' (n := nq) L
    clear p0 p1 q0 q1
    generalize w5.drewN nq = w6 at *
    have p0 := E1.out.c0
    have q0 := E2.out.c0
    have K : Below w6.heap.size w6 w6.drew := (Below.refl _ _).drew
    go_region_held3 (fun w' => w'.cell? ⟨W.heap.size, 0, none⟩ = some (.int .u64 a) ∧ w'.cell? ⟨W.heap.size + 1, 0, none⟩ = some (.int .u64 c))
      (first
        | with_reducible exact ⟨(E1.out.below K).c0, (E2.out.below K).c0⟩
        | go_keep)
      (first
        | (go_at_call 33; (with_reducible refine (t_c _).mono ?_); rintro e' w7 ⟨rfl, rfl⟩)
        | (go_at_call 34; (with_reducible refine (s_a _).mono ?_); rintro e' w8 ⟨rfl, hb⟩; replace K := below_trans K hb; clear hb))
    replace E1 := hide (E1.out.below K)
    replace E2 := hide (E2.out.below K)
    replace L := below_trans L K
    clear K p0 q0
    go_upto_region 9 with fail
    have p0 := E1.out.c1
    have q0 := E2.out.c1
    have K : Below w8.heap.size w8 w8.drew := (Below.refl _ _).drew
    go_region_held3 (fun w' => w'.cell? ⟨W.heap.size, 1, none⟩ = some (.int .u64 b) ∧ w'.cell? ⟨W.heap.size + 1, 1, none⟩ = some (.int .u64 d))
      (first
        | with_reducible exact ⟨(E1.out.below K).c1, (E2.out.below K).c1⟩
        | go_keep)
      (first
        | (go_at_call 33; (with_reducible refine (t_d _).mono ?_); rintro e' w7 ⟨rfl, rfl⟩)
        | (go_at_call 34; (with_reducible refine (s_b _).mono ?_); rintro e' w9 ⟨rfl, hb⟩; replace K := below_trans K hb; clear hb))
    replace L := below_trans L K
    clear K p0 q0
    go_wp2_with (first | (with_reducible refine (minus_any _ _ _ _ _).mono ?_; rintro e' w10 ⟨x, y, rfl, hx, hy, hD⟩; obtain ⟨rx, ry⟩ := RA.out hx hy; replace L := L.trans (hD.below _); clear hx hy hD))
    with_reducible refine (is_yes _ rx ry).mono ?_
    rintro e' w11 ⟨rfl, rfl⟩
    go_wp2_with (with_reducible refine (lives_ok _).mono ?_; rintro e' w12 ⟨rfl, hb⟩; replace L := below_trans L hb)
    go_ret
    exact ⟨rfl, L⟩)

end Go.Proofs.Ytkaakhmncmpliaa
