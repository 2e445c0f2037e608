/- DecimalBack -/
import Derived.Test.YtigehipclkoecaaGreatDoorDWide
import Derived.Test.YtigehipclkoecaaGreatDoorDLives
namespace Go.Proofs.YtigehipclkoecaaGreatDoor
open Go.RowKit
set_option linter.unusedVariables false

theorem Wd.low {v F L I S n : Int} (h : Wd v F L I S n) : -1074 ≤ L ∧ L ≤ 0 := by
  rcases h.2.2 with ⟨_, rfl, rfl, rfl, rfl, rfl⟩ | ⟨_, rfl, rfl, rfl, rfl, rfl⟩ | ⟨_, rfl, rfl, rfl, rfl, rfl⟩ | ⟨_, rfl, rfl, rfl, rfl, rfl⟩ <;> decide

set_option maxRecDepth 100000 in
set_option maxHeartbeats 8000000 in
theorem back_walk7 {w : World} (TT : Lays w ∧ Brn w) {v x : Int} (v0 : 0 ≤ v) (v1 : v < 256) (x0 : 0 ≤ x) (x1 : x < 18446744073709551616) :
    Calls Tryz.prog 4 #[.int .u8 v, .int .u64 x] w fun e w' => e = .returned (.bool true) ∧ Below w.heap.size w w' := by
  obtain ⟨T, U⟩ := TT
  obtain ⟨F, L, I, S, n, hW⟩ := wd_of v v0 v1
  obtain ⟨i0, i1, i2, -⟩ := hW.ends
  have HW := hide hW
  clear hW
  have S0 : 0 < 2 * S := by omega
  go_enter Tryz.func4, Tryz.ntmps4
  go_wp2_with fail
  refine (lives7 T U).mono ?_
  rintro z w1 ⟨rfl, K⟩
  go_wp2_with fail
  refine (lfit_any HW.out x0 x1).mono ?_
  rintro z w2 ⟨rfl, rfl⟩
  obtain ⟨p, hp⟩ : ∃ p, x % (2 * S) = p := ⟨_, rfl⟩
  have p0 : 0 ≤ p := by rw [← hp]; exact Int.emod_nonneg _ (by omega)
  have p1 : p < 2 * S := by rw [← hp]; exact Int.emod_lt_of_pos _ S0
  rw [hp]
  clear hp
  go_wp2_with fail
  refine (lexact_any (T.below K) (U.below K) HW.out p0 p1).mono ?_
  rintro z w4 ⟨b4, d, ok, rfl, X1⟩
  replace K := below_trans K b4
  have HX1 := hide X1
  clear b4 X1
  have K5 := fun o => below_trans K (al_one w4 o)
  have E2 := hide (show ∀ o, _ from fun o => lwide_any (w := w4.alloc o) (T.below (K5 o)) (U.below (K5 o)) HW.out p0 p1)
  rcases HX1.out with ⟨h1, rfl, rfl⟩ | ⟨h1, rfl, ds, pt, rfl, e1⟩
  · have C1 := cell3_new w4 (.bool false) (.string ⟨#[]⟩) (.int .i64 0) 23
    clear HX1
    go_wp2_with fail
    refine (E2.out _).mono ?_
    rintro z w5 ⟨y, rfl, hY, b5⟩
    have K6 := below_trans (K5 _) b5
    replace C1 := C1.below b5
    have HY := hide hY
    have y0 := hY.1; have y1 := hY.2.1
    clear hY
    go_wp2_with fail
    refine (parts_64 (T.below K6) (U.below K6) y _ _ y0 y1 rfl rfl).mono ?_
    rintro z w6 ⟨a, m, E, ok2, rfl, hP, b6⟩
    have c1 : 9218868437227405312 ≤ y % 9223372036854775808 := by
      rcases HY.out.2.2 with ⟨-, k⟩ | ⟨k, -⟩
      · exact k
      · omega
    obtain ⟨rfl, rfl, rfl, rfl⟩ := hP.1 c1
    clear hP c1
    replace C1 := C1.below b6
    have c0 := C1.c0; have c1 := C1.c1; have c2 := C1.c2
    go_wp2
    go_ret
    exact ⟨rfl, below_trans K6 b6⟩
  · obtain ⟨ng, hng⟩ : ∃ b, decide (S ≤ p) = b := ⟨_, rfl⟩
    rw [hng]
    have HE1 := hide e1
    have C1 := cell3_new w4 (.bool ng) (.string (strOfNums ds)) (.int .i64 pt) 23
    clear e1 HX1
    go_wp2_with fail
    refine (E2.out _).mono ?_
    rintro z w5 ⟨y, rfl, hY, b5⟩
    have K6 := below_trans (K5 _) b5
    replace C1 := C1.below b5
    have HY := hide hY
    have y0 := hY.1; have y1 := hY.2.1
    clear hY b5
    go_wp2_with fail
    refine (parts_64 (T.below K6) (U.below K6) y _ _ y0 y1 rfl rfl).mono ?_
    rintro z w6 ⟨a, m, E, ok2, rfl, hP, b6⟩
    obtain ⟨c1, c2, c3, c4⟩ : y % 9223372036854775808 < 9218868437227405312 ∧ decide (9223372036854775808 ≤ y) = ng ∧ (p % S = 0 ↔ y % 9223372036854775808 = 0) ∧ um 4503599627370496 (-1074) (-1074) (y % 9223372036854775808) = um F L (-1074) (p % S) := by
      rcases HY.out.2.2 with ⟨k, -⟩ | ⟨-, k1, k2, k3, k4⟩
      · omega
      · exact ⟨k1, k2.trans hng, k3, k4⟩
    obtain ⟨rfl, -⟩ := hP.2 c1
    clear hP HY
    replace C1 := C1.below b6
    replace K6 := below_trans K6 b6
    clear b6
    have Hc := hide (And.intro c1 (And.intro c2 (And.intro c3 c4)))
    clear c1 c2 c3 c4 E2
    have c0 := C1.c0; have c1 := C1.c1; have c2 := C1.c2
    go_wp2_with fail
    refine (lread_any (N := ds.length) (T.below K6) HW.out HE1.out.1.1.byt rfl rfl (by have := HE1.out.2.1; omega) (by have := HE1.out.2.2.1; omega) (by have := HE1.out.2.2.2.1; omega)).mono ?_
    rintro z w7 ⟨b7, y', ok3, rfl, hR⟩
    rcases hR with ⟨hno, -, -⟩ | ⟨-, rfl, r, rfl, r0, r1, dv⟩
    · exact absurd HE1.out.1.1 hno
    have q0 : 0 ≤ p % S := Int.emod_nonneg _ (by omega)
    have hr : r = p % S := dv_first HW.out.wide dv (exv_dv HW.out.wide HE1.out q0 h1)
    have ep : r + b2i ng * S = p := by
      rw [hr, ← hng]
      rcases Int.lt_or_le p S with c | c
      · rw [Int.emod_eq_of_lt p0 c, show decide (S ≤ p) = false by simp; omega]; show p + 0 * S = p; omega
      · rw [show decide (S ≤ p) = true by simp; exact c]
        have k : p % S = p - S := by rw [show p = (p - S) + S by omega, Int.add_emod_right, Int.emod_eq_of_lt (by omega) (by omega)]; omega
        rw [k]; show p - S + 1 * S = p; omega
    rw [ep]
    clear ep hr dv r0 r1
    replace C1 := C1.below b7
    replace K6 := below_trans K6 b7
    clear b7 c0 c1 c2 Hc
    go_wp2_with fail
    refine (lwide_any (T.below K6) (U.below K6) HW.out p0 p1).mono ?_
    rintro z w8 ⟨y2, rfl, hY2, b8⟩
    replace C1 := C1.below b8
    replace K6 := below_trans K6 b8
    have z0 := hY2.1; have z1 := hY2.2.1
    have HY2 := hide hY2
    clear hY2 b8
    go_wp2_with fail
    refine (exact_d (T.below K6) (U.below K6) z0 z1 rfl rfl).mono ?_
    rintro z w9 ⟨b9, hX⟩
    obtain ⟨c1, c2, c3, c4⟩ : y2 % 9223372036854775808 < 9218868437227405312 ∧ decide (9223372036854775808 ≤ y2) = ng ∧ (p % S = 0 ↔ y2 % 9223372036854775808 = 0) ∧ um 4503599627370496 (-1074) (-1074) (y2 % 9223372036854775808) = um F L (-1074) (p % S) := by
      rcases HY2.out.2.2 with ⟨k, -⟩ | ⟨-, k1, k2, k3, k4⟩
      · omega
      · exact ⟨k1, k2.trans hng, k3, k4⟩
    rcases hX with ⟨k, -⟩ | ⟨-, ds2, pt2, rfl, e2⟩
    · omega
    obtain ⟨l1, l2⟩ := HW.out.low
    obtain ⟨rfl, rfl⟩ := exv_one (by have := HW.out.wide.f0; omega) l1 l2 q0 (Int.emod_nonneg _ (by decide)) c3 c4 HE1.out e2
    rw [c2]
    clear e2 c1 c2 c3 c4 HY2
    have C2 := cell3_new w9 (.bool ng) (.string (strOfNums ds2)) (.int .i64 pt2) 23
    replace C1 := (C1.below b9).below (al_one w9 (.cells #[.bool ng, .string (strOfNums ds2), .int .i64 pt2] 23))
    replace K6 := below_trans (below_trans K6 b9) (al_one w9 (.cells #[.bool ng, .string (strOfNums ds2), .int .i64 pt2] 23))
    clear b9 hng
    have c0 := C1.c0; have c1 := C1.c1; have c2 := C1.c2
    have c3 := C2.c0; have c4 := C2.c1; have c5 := C2.c2
    clear C1 C2
    obtain ⟨s, hs⟩ : ∃ s, s = strOfNums ds2 := ⟨_, rfl⟩
    have hn : s.size = ds2.length := by rw [hs, strOfNums_size]
    have Hs := hide hs
    clear hs
    rw [← Hs.out] at c0 c1 c2 c3 c4 c5 K6
    rw [← Hs.out]
    rcases Nat.eq_zero_or_pos ds2.length with c | c
    · have pz : pt2 = 0 := by
        have k := HE1.out.2.2.2.2
        exact (k.1 (by
          rcases Int.lt_or_eq_of_le q0 with g | g
          · have := k.2.1 g; omega
          · exact g.symm)).2
      subst pz
      have nz : s.size = 0 := by omega
      clear hn c
      go_wp2
      go_ret
      exact ⟨rfl, K6⟩
    · have nz : 0 < s.size := by omega
      have ix : ∀ q (h : q < s.size), ((s[q]'h).toNat : Int) = Nt.lb ds2 q := by
        intro q h
        have k := Hs.out
        subst k
        exact txt_at h HE1.out.1.1.byt
      have n0 : Nt.lb ds2 0 ≠ 48 := HE1.out.1.2.1 c
      have n1 : Nt.lb ds2 (ds2.length - 1) ≠ 48 := HE1.out.1.2.2 c
      have hz0 : 0 < s.size := nz
      have hz9 : s.size - 1 < s.size := by omega
      have h0 : ¬ (s[0]'hz0).toNat = 48 := fun h => n0 (by rw [← ix 0 (by omega), h]; rfl)
      have h9 : ¬ (s[s.size - 1]'hz9).toNat = 48 := fun h => n1 (by rw [← hn, ← ix (s.size - 1) (by omega), h]; rfl)
      have l9 := HE1.out.2.1
      rw [← hn] at l9
      have hw : wrap64 ((s.size : Int) - 1) = (s.size : Int) - 1 := by unfold wrap64; omega
      have nz2 : ¬ s.size = 0 := by omega
      have nz3 : 0 < (s.size : Int) := by omega
      have b0 := hide (show ((((s[0]'hz0).toNat : Int) != 48) && (((s[s.size - 1]'hz9).toNat : Int) != 48)) = true by simp; omega)
      clear ix n0 n1 hn c l9
      go_wp2
      go_ret
      refine ⟨?_, K6⟩
      show Ending.returned (.bool ((((s[0]'hz0).toNat : Int) != 48) && (((s[s.size - 1]'hz9).toNat : Int) != 48))) = _
      rw [b0.out]

end Go.Proofs.YtigehipclkoecaaGreatDoor
