/- IeeeSorted's walk (mk_ilaws.py) -/
import Derived.Test.YtomjckginmjhmaaDoorILives
import Derived.BigQuiet
import Derived.WalkSmall
namespace Go.Proofs.YtomjckginmjhmaaDoor
open Go.RowKit
set_option linter.unusedVariables false

theorem tri_range (a b : Int) : -1 ≤ tri a b ∧ tri a b ≤ 1 := by unfold tri; repeat' split
                                                                 all_goals omega
theorem tri_zero (a b : Int) : tri a b = 0 ↔ a = b := by
  unfold tri
  by_cases h : a < b
  · rw [if_pos h]; omega
  · rw [if_neg h]
    by_cases g : b < a
    · rw [if_pos g]; omega
    · rw [if_neg g]; omega
theorem tri_le (a b : Int) : tri a b ≤ 0 ↔ a ≤ b := by
  unfold tri
  by_cases h : a < b
  · rw [if_pos h]; omega
  · rw [if_neg h]
    by_cases g : b < a
    · rw [if_pos g]; omega
    · rw [if_neg g]; omega
theorem tri_neg (a b : Int) : tri b a = - tri a b := by
  unfold tri
  by_cases h : a < b
  · have g : ¬ b < a := by omega
    simp [h, g]
  · by_cases g : b < a <;> simp [h, g]
theorem rk_inj {S x y : Int} (hx : x < 2 * S) (hy : y < 2 * S) (h0 : 0 ≤ x) (h1 : 0 ≤ y) : rk S x = rk S y ↔ x = y := by
  unfold rk
  by_cases a : x < S <;> by_cases b : y < S <;> simp only [a, b, if_true, if_false] <;> omega

set_option maxRecDepth 20000 in
set_option maxHeartbeats 8000000 in
theorem sorted_0 {w : World} (L : Lays w) (T : Brn w) (v : Int) (v0 : 0 ≤ v) (v1 : v < 256) (hv : v % 4 = 0) (x : Int) (x0 : 0 ≤ x) (x1 : x < 18446744073709551616) (y : Int) (y0 : 0 ≤ y) (y1 : y < 18446744073709551616) (z : Int) (z0 : 0 ≤ z) (z1 : z < 18446744073709551616) : Calls Tryd.prog 6 #[.int .u8 v, .int .u64 x, .int .u64 y, .int .u64 z] w fun e w' => e = .returned (.bool true) ∧ Below w.heap.size w w' := by
  have K := Below.refl w.heap.size w
  go_enter Tryd.func6, Tryd.ntmps6
  go_wp2_with fail
  with_reducible refine (lives_ok L T).mono ?_
  rintro x' u1 ⟨rfl, kb⟩
  replace K := below_trans K kb; clear kb
  go_wp2_with fail
  with_reducible refine (lfit_0 _ v v0 v1 hv x x0 x1).mono ?_
  rintro x' u2 ⟨rfl, rfl⟩
  go_wp2_with fail
  with_reducible refine (lfit_0 _ v v0 v1 hv y y0 y1).mono ?_
  rintro x' u3 ⟨rfl, rfl⟩
  go_wp2_with fail
  with_reducible refine (lfit_0 _ v v0 v1 hv z z0 z1).mono ?_
  rintro x' u4 ⟨rfl, rfl⟩
  obtain ⟨X, hX⟩ : ∃ X, x % 65536 = X := ⟨_, rfl⟩
  have X0 : 0 ≤ X := by omega
  have X1 : X < 65536 := by omega
  rw [hX]
  clear hX
  obtain ⟨Y, hY⟩ : ∃ X, y % 65536 = X := ⟨_, rfl⟩
  have Y0 : 0 ≤ Y := by omega
  have Y1 : Y < 65536 := by omega
  rw [hY]
  clear hY
  obtain ⟨Z, hZ⟩ : ∃ X, z % 65536 = X := ⟨_, rfl⟩
  have Z0 : 0 ≤ Z := by omega
  have Z1 : Z < 65536 := by omega
  rw [hZ]
  clear hZ
  go_wp2_with fail
  with_reducible refine (ltotal_0 (L.below K) v v0 v1 hv X Y X0 X1 Y0 Y1).mono ?_
  rintro x' u5 ⟨rfl, kb⟩
  replace K := below_trans K kb; clear kb
  go_wp2_with fail
  with_reducible refine (ltotal_0 (L.below K) v v0 v1 hv Y Z Y0 Y1 Z0 Z1).mono ?_
  rintro x' u6 ⟨rfl, kb⟩
  replace K := below_trans K kb; clear kb
  have HN := hide (tri_neg (rk 32768 X) (rk 32768 Y))
  have HX := hide (show tri (rk 32768 X) (rk 32768 Y) ≤ 0 → tri (rk 32768 Y) (rk 32768 Z) ≤ 0 → tri (rk 32768 X) (rk 32768 Z) ≤ 0 by rw [tri_le, tri_le, tri_le]; omega)
  obtain ⟨a0, a1⟩ := tri_range (rk 32768 X) (rk 32768 Y)
  have hE : (tri (rk 32768 X) (rk 32768 Y) == 0) = (X == Y) := by
    rw [Bool.eq_iff_iff]
    simp only [beq_iff_eq]
    rw [tri_zero, rk_inj (by omega) (by omega) X0 Y0]
  have HC := hide (show cmpC 32768 1024 X Y = if X % 32768 ≤ 31744 ∧ Y % 32768 ≤ 31744 then (if X % 32768 = 0 ∧ Y % 32768 = 0 then 0 else tri (rk 32768 X) (rk 32768 Y)) else 0 from rfl)
  have HO := hide (show cmpOk 32768 1024 X Y = decide (X % 32768 ≤ 31744 ∧ Y % 32768 ≤ 31744) from rfl)
  generalize tri (rk 32768 X) (rk 32768 Y) = a at *
  generalize tri (rk 32768 Y) (rk 32768 Z) = b at *
  go_wp2_with fail
  with_reducible refine (ltotal_0 (L.below K) v v0 v1 hv Y X Y0 Y1 X0 X1).mono ?_
  rintro x' u7 ⟨rfl, kb⟩
  replace K := below_trans K kb; clear kb
  rw [HN.out]
  clear HN
  by_cases ca : a ≤ 0
  · by_cases cb : b ≤ 0
    · have hle := HX.out ca cb
      have Hle := hide hle
      clear hle
      go_wp2_with fail
      with_reducible refine (ltotal_0 (L.below K) v v0 v1 hv X Z X0 X1 Z0 Z1).mono ?_
      rintro x' u8 ⟨rfl, kb⟩
      replace K := below_trans K kb; clear kb
      have hle := Hle.out
      generalize tri (rk 32768 X) (rk 32768 Z) = g at *
      go_wp2_with fail
      with_reducible refine (lcmp_0 (L.below K) v v0 v1 hv X Y X0 X1 Y0 Y1).mono ?_
      rintro x' u9 ⟨rfl, kb⟩
      replace K := below_trans K kb; clear kb
      rw [HC.out, HO.out]
      clear HC HO HX hE
      obtain ⟨p, hp⟩ : ∃ p, X % 32768 = p := ⟨_, rfl⟩
      obtain ⟨q, hq⟩ : ∃ q, Y % 32768 = q := ⟨_, rfl⟩
      rw [hp, hq]
      by_cases pc : p ≤ 31744
      · by_cases qc : q ≤ 31744
        · skip
          rw [if_pos ⟨pc, qc⟩, decide_eq_true (⟨pc, qc⟩ : p ≤ 31744 ∧ q ≤ 31744)]
          obtain ⟨c9, h9⟩ : ∃ c, (if p = 0 ∧ q = 0 then (0 : Int) else a) = c := ⟨_, rfl⟩
          rw [h9]
          have H9 := hide h9
          clear h9
          go_upto_region 11 with fail
          go_quiet ((first | (go_at_call 23; exact Calls.quiet_of_same (lsign_0 _ v v0 v1 hv)) | (go_at_call 24; exact Calls.quiet_of_same (ltop_0 _ v v0 v1 hv))))
          replace K := below_drewN K
          go_wp2_with fail
          with_reducible refine (lsign_0 _ v v0 v1 hv).mono ?_
          rintro x' u10 ⟨rfl, rfl⟩
          by_cases c : p = 0
          · have c' : (p == 0) = true := by simp [c]
            go_wp2_with fail
            with_reducible refine (lsign_0 _ v v0 v1 hv).mono ?_
            rintro x' u11 ⟨rfl, rfl⟩
            by_cases c2 : q = 0
            · have c2' : (q == 0) = true := by simp [c2]
              have e9 := H9.out
              rw [if_pos ⟨c, c2⟩] at e9
              subst e9
              clear c c2
              go_wp2
              go_ret
              exact ⟨rfl, K _⟩
            · have c2' : (q == 0) = false := by simp [c2]
              have e9 := H9.out
              rw [if_neg (by omega)] at e9
              subst e9
              clear c c2
              go_wp2
              go_ret
              exact ⟨rfl, K _⟩
          · have c' : (p == 0) = false := by simp [c]
            have e9 := H9.out
            rw [if_neg (by omega)] at e9
            subst e9
            clear c
            go_wp2
            go_ret
            exact ⟨rfl, K _⟩
        · skip
          rw [if_neg (by omega), decide_eq_false (by omega : ¬ (p ≤ 31744 ∧ q ≤ 31744))]
          go_upto_region 11 with fail
          go_quiet ((first | (go_at_call 23; exact Calls.quiet_of_same (lsign_0 _ v v0 v1 hv)) | (go_at_call 24; exact Calls.quiet_of_same (ltop_0 _ v v0 v1 hv))))
          replace K := below_drewN K
          go_wp2
          go_ret
          exact ⟨rfl, K _⟩
      · skip
        rw [if_neg (by omega), decide_eq_false (by omega : ¬ (p ≤ 31744 ∧ q ≤ 31744))]
        have pc1 : decide (p ≤ 31744) = false := decide_eq_false pc
        have pc2 : ¬ p ≤ 31744 := pc
        go_upto_region 11 with fail
        go_quiet ((first | (go_at_call 23; exact Calls.quiet_of_same (lsign_0 _ v v0 v1 hv)) | (go_at_call 24; exact Calls.quiet_of_same (ltop_0 _ v v0 v1 hv))))
        replace K := below_drewN K
        go_wp2
        go_ret
        exact ⟨rfl, K _⟩
    · skip
      go_wp2_with fail
      with_reducible refine (lcmp_0 (L.below K) v v0 v1 hv X Y X0 X1 Y0 Y1).mono ?_
      rintro x' u12 ⟨rfl, kb⟩
      replace K := below_trans K kb; clear kb
      rw [HC.out, HO.out]
      clear HC HO HX hE
      obtain ⟨p, hp⟩ : ∃ p, X % 32768 = p := ⟨_, rfl⟩
      obtain ⟨q, hq⟩ : ∃ q, Y % 32768 = q := ⟨_, rfl⟩
      rw [hp, hq]
      by_cases pc : p ≤ 31744
      · by_cases qc : q ≤ 31744
        · skip
          rw [if_pos ⟨pc, qc⟩, decide_eq_true (⟨pc, qc⟩ : p ≤ 31744 ∧ q ≤ 31744)]
          obtain ⟨c9, h9⟩ : ∃ c, (if p = 0 ∧ q = 0 then (0 : Int) else a) = c := ⟨_, rfl⟩
          rw [h9]
          have H9 := hide h9
          clear h9
          go_upto_region 11 with fail
          go_quiet ((first | (go_at_call 23; exact Calls.quiet_of_same (lsign_0 _ v v0 v1 hv)) | (go_at_call 24; exact Calls.quiet_of_same (ltop_0 _ v v0 v1 hv))))
          replace K := below_drewN K
          go_wp2_with fail
          with_reducible refine (lsign_0 _ v v0 v1 hv).mono ?_
          rintro x' u13 ⟨rfl, rfl⟩
          by_cases c : p = 0
          · have c' : (p == 0) = true := by simp [c]
            go_wp2_with fail
            with_reducible refine (lsign_0 _ v v0 v1 hv).mono ?_
            rintro x' u14 ⟨rfl, rfl⟩
            by_cases c2 : q = 0
            · have c2' : (q == 0) = true := by simp [c2]
              have e9 := H9.out
              rw [if_pos ⟨c, c2⟩] at e9
              subst e9
              clear c c2
              go_wp2
              go_ret
              exact ⟨rfl, K _⟩
            · have c2' : (q == 0) = false := by simp [c2]
              have e9 := H9.out
              rw [if_neg (by omega)] at e9
              subst e9
              clear c c2
              go_wp2
              go_ret
              exact ⟨rfl, K _⟩
          · have c' : (p == 0) = false := by simp [c]
            have e9 := H9.out
            rw [if_neg (by omega)] at e9
            subst e9
            clear c
            go_wp2
            go_ret
            exact ⟨rfl, K _⟩
        · skip
          rw [if_neg (by omega), decide_eq_false (by omega : ¬ (p ≤ 31744 ∧ q ≤ 31744))]
          go_upto_region 11 with fail
          go_quiet ((first | (go_at_call 23; exact Calls.quiet_of_same (lsign_0 _ v v0 v1 hv)) | (go_at_call 24; exact Calls.quiet_of_same (ltop_0 _ v v0 v1 hv))))
          replace K := below_drewN K
          go_wp2
          go_ret
          exact ⟨rfl, K _⟩
      · skip
        rw [if_neg (by omega), decide_eq_false (by omega : ¬ (p ≤ 31744 ∧ q ≤ 31744))]
        have pc1 : decide (p ≤ 31744) = false := decide_eq_false pc
        have pc2 : ¬ p ≤ 31744 := pc
        go_upto_region 11 with fail
        go_quiet ((first | (go_at_call 23; exact Calls.quiet_of_same (lsign_0 _ v v0 v1 hv)) | (go_at_call 24; exact Calls.quiet_of_same (ltop_0 _ v v0 v1 hv))))
        replace K := below_drewN K
        go_wp2
        go_ret
        exact ⟨rfl, K _⟩
  · skip
    go_wp2_with fail
    with_reducible refine (lcmp_0 (L.below K) v v0 v1 hv X Y X0 X1 Y0 Y1).mono ?_
    rintro x' u15 ⟨rfl, kb⟩
    replace K := below_trans K kb; clear kb
    rw [HC.out, HO.out]
    clear HC HO HX hE
    obtain ⟨p, hp⟩ : ∃ p, X % 32768 = p := ⟨_, rfl⟩
    obtain ⟨q, hq⟩ : ∃ q, Y % 32768 = q := ⟨_, rfl⟩
    rw [hp, hq]
    by_cases pc : p ≤ 31744
    · by_cases qc : q ≤ 31744
      · skip
        rw [if_pos ⟨pc, qc⟩, decide_eq_true (⟨pc, qc⟩ : p ≤ 31744 ∧ q ≤ 31744)]
        obtain ⟨c9, h9⟩ : ∃ c, (if p = 0 ∧ q = 0 then (0 : Int) else a) = c := ⟨_, rfl⟩
        rw [h9]
        have H9 := hide h9
        clear h9
        go_upto_region 11 with fail
        go_quiet ((first | (go_at_call 23; exact Calls.quiet_of_same (lsign_0 _ v v0 v1 hv)) | (go_at_call 24; exact Calls.quiet_of_same (ltop_0 _ v v0 v1 hv))))
        replace K := below_drewN K
        go_wp2_with fail
        with_reducible refine (lsign_0 _ v v0 v1 hv).mono ?_
        rintro x' u16 ⟨rfl, rfl⟩
        by_cases c : p = 0
        · have c' : (p == 0) = true := by simp [c]
          go_wp2_with fail
          with_reducible refine (lsign_0 _ v v0 v1 hv).mono ?_
          rintro x' u17 ⟨rfl, rfl⟩
          by_cases c2 : q = 0
          · have c2' : (q == 0) = true := by simp [c2]
            have e9 := H9.out
            rw [if_pos ⟨c, c2⟩] at e9
            subst e9
            clear c c2
            go_wp2
            go_ret
            exact ⟨rfl, K _⟩
          · have c2' : (q == 0) = false := by simp [c2]
            have e9 := H9.out
            rw [if_neg (by omega)] at e9
            subst e9
            clear c c2
            go_wp2
            go_ret
            exact ⟨rfl, K _⟩
        · have c' : (p == 0) = false := by simp [c]
          have e9 := H9.out
          rw [if_neg (by omega)] at e9
          subst e9
          clear c
          go_wp2
          go_ret
          exact ⟨rfl, K _⟩
      · skip
        rw [if_neg (by omega), decide_eq_false (by omega : ¬ (p ≤ 31744 ∧ q ≤ 31744))]
        go_upto_region 11 with fail
        go_quiet ((first | (go_at_call 23; exact Calls.quiet_of_same (lsign_0 _ v v0 v1 hv)) | (go_at_call 24; exact Calls.quiet_of_same (ltop_0 _ v v0 v1 hv))))
        replace K := below_drewN K
        go_wp2
        go_ret
        exact ⟨rfl, K _⟩
    · skip
      rw [if_neg (by omega), decide_eq_false (by omega : ¬ (p ≤ 31744 ∧ q ≤ 31744))]
      have pc1 : decide (p ≤ 31744) = false := decide_eq_false pc
      have pc2 : ¬ p ≤ 31744 := pc
      go_upto_region 11 with fail
      go_quiet ((first | (go_at_call 23; exact Calls.quiet_of_same (lsign_0 _ v v0 v1 hv)) | (go_at_call 24; exact Calls.quiet_of_same (ltop_0 _ v v0 v1 hv))))
      replace K := below_drewN K
      go_wp2
      go_ret
      exact ⟨rfl, K _⟩

set_option maxRecDepth 20000 in
set_option maxHeartbeats 8000000 in
theorem sorted_1 {w : World} (L : Lays w) (T : Brn w) (v : Int) (v0 : 0 ≤ v) (v1 : v < 256) (hv : v % 4 = 1) (x : Int) (x0 : 0 ≤ x) (x1 : x < 18446744073709551616) (y : Int) (y0 : 0 ≤ y) (y1 : y < 18446744073709551616) (z : Int) (z0 : 0 ≤ z) (z1 : z < 18446744073709551616) : Calls Tryd.prog 6 #[.int .u8 v, .int .u64 x, .int .u64 y, .int .u64 z] w fun e w' => e = .returned (.bool true) ∧ Below w.heap.size w w' := by
  have K := Below.refl w.heap.size w
  go_enter Tryd.func6, Tryd.ntmps6
  go_wp2_with fail
  with_reducible refine (lives_ok L T).mono ?_
  rintro x' u18 ⟨rfl, kb⟩
  replace K := below_trans K kb; clear kb
  go_wp2_with fail
  with_reducible refine (lfit_1 _ v v0 v1 hv x x0 x1).mono ?_
  rintro x' u19 ⟨rfl, rfl⟩
  go_wp2_with fail
  with_reducible refine (lfit_1 _ v v0 v1 hv y y0 y1).mono ?_
  rintro x' u20 ⟨rfl, rfl⟩
  go_wp2_with fail
  with_reducible refine (lfit_1 _ v v0 v1 hv z z0 z1).mono ?_
  rintro x' u21 ⟨rfl, rfl⟩
  obtain ⟨X, hX⟩ : ∃ X, x % 4294967296 = X := ⟨_, rfl⟩
  have X0 : 0 ≤ X := by omega
  have X1 : X < 4294967296 := by omega
  rw [hX]
  clear hX
  obtain ⟨Y, hY⟩ : ∃ X, y % 4294967296 = X := ⟨_, rfl⟩
  have Y0 : 0 ≤ Y := by omega
  have Y1 : Y < 4294967296 := by omega
  rw [hY]
  clear hY
  obtain ⟨Z, hZ⟩ : ∃ X, z % 4294967296 = X := ⟨_, rfl⟩
  have Z0 : 0 ≤ Z := by omega
  have Z1 : Z < 4294967296 := by omega
  rw [hZ]
  clear hZ
  go_wp2_with fail
  with_reducible refine (ltotal_1 (L.below K) v v0 v1 hv X Y X0 X1 Y0 Y1).mono ?_
  rintro x' u22 ⟨rfl, kb⟩
  replace K := below_trans K kb; clear kb
  go_wp2_with fail
  with_reducible refine (ltotal_1 (L.below K) v v0 v1 hv Y Z Y0 Y1 Z0 Z1).mono ?_
  rintro x' u23 ⟨rfl, kb⟩
  replace K := below_trans K kb; clear kb
  have HN := hide (tri_neg (rk 2147483648 X) (rk 2147483648 Y))
  have HX := hide (show tri (rk 2147483648 X) (rk 2147483648 Y) ≤ 0 → tri (rk 2147483648 Y) (rk 2147483648 Z) ≤ 0 → tri (rk 2147483648 X) (rk 2147483648 Z) ≤ 0 by rw [tri_le, tri_le, tri_le]; omega)
  obtain ⟨a0, a1⟩ := tri_range (rk 2147483648 X) (rk 2147483648 Y)
  have hE : (tri (rk 2147483648 X) (rk 2147483648 Y) == 0) = (X == Y) := by
    rw [Bool.eq_iff_iff]
    simp only [beq_iff_eq]
    rw [tri_zero, rk_inj (by omega) (by omega) X0 Y0]
  have HC := hide (show cmpC 2147483648 8388608 X Y = if X % 2147483648 ≤ 2139095040 ∧ Y % 2147483648 ≤ 2139095040 then (if X % 2147483648 = 0 ∧ Y % 2147483648 = 0 then 0 else tri (rk 2147483648 X) (rk 2147483648 Y)) else 0 from rfl)
  have HO := hide (show cmpOk 2147483648 8388608 X Y = decide (X % 2147483648 ≤ 2139095040 ∧ Y % 2147483648 ≤ 2139095040) from rfl)
  generalize tri (rk 2147483648 X) (rk 2147483648 Y) = a at *
  generalize tri (rk 2147483648 Y) (rk 2147483648 Z) = b at *
  go_wp2_with fail
  with_reducible refine (ltotal_1 (L.below K) v v0 v1 hv Y X Y0 Y1 X0 X1).mono ?_
  rintro x' u24 ⟨rfl, kb⟩
  replace K := below_trans K kb; clear kb
  rw [HN.out]
  clear HN
  by_cases ca : a ≤ 0
  · by_cases cb : b ≤ 0
    · have hle := HX.out ca cb
      have Hle := hide hle
      clear hle
      go_wp2_with fail
      with_reducible refine (ltotal_1 (L.below K) v v0 v1 hv X Z X0 X1 Z0 Z1).mono ?_
      rintro x' u25 ⟨rfl, kb⟩
      replace K := below_trans K kb; clear kb
      have hle := Hle.out
      generalize tri (rk 2147483648 X) (rk 2147483648 Z) = g at *
      go_wp2_with fail
      with_reducible refine (lcmp_1 (L.below K) v v0 v1 hv X Y X0 X1 Y0 Y1).mono ?_
      rintro x' u26 ⟨rfl, kb⟩
      replace K := below_trans K kb; clear kb
      rw [HC.out, HO.out]
      clear HC HO HX hE
      obtain ⟨p, hp⟩ : ∃ p, X % 2147483648 = p := ⟨_, rfl⟩
      obtain ⟨q, hq⟩ : ∃ q, Y % 2147483648 = q := ⟨_, rfl⟩
      rw [hp, hq]
      by_cases pc : p ≤ 2139095040
      · by_cases qc : q ≤ 2139095040
        · skip
          rw [if_pos ⟨pc, qc⟩, decide_eq_true (⟨pc, qc⟩ : p ≤ 2139095040 ∧ q ≤ 2139095040)]
          obtain ⟨c9, h9⟩ : ∃ c, (if p = 0 ∧ q = 0 then (0 : Int) else a) = c := ⟨_, rfl⟩
          rw [h9]
          have H9 := hide h9
          clear h9
          go_upto_region 11 with fail
          go_quiet ((first | (go_at_call 23; exact Calls.quiet_of_same (lsign_1 _ v v0 v1 hv)) | (go_at_call 24; exact Calls.quiet_of_same (ltop_1 _ v v0 v1 hv))))
          replace K := below_drewN K
          go_wp2_with fail
          with_reducible refine (lsign_1 _ v v0 v1 hv).mono ?_
          rintro x' u27 ⟨rfl, rfl⟩
          by_cases c : p = 0
          · have c' : (p == 0) = true := by simp [c]
            go_wp2_with fail
            with_reducible refine (lsign_1 _ v v0 v1 hv).mono ?_
            rintro x' u28 ⟨rfl, rfl⟩
            by_cases c2 : q = 0
            · have c2' : (q == 0) = true := by simp [c2]
              have e9 := H9.out
              rw [if_pos ⟨c, c2⟩] at e9
              subst e9
              clear c c2
              go_wp2
              go_ret
              exact ⟨rfl, K _⟩
            · have c2' : (q == 0) = false := by simp [c2]
              have e9 := H9.out
              rw [if_neg (by omega)] at e9
              subst e9
              clear c c2
              go_wp2
              go_ret
              exact ⟨rfl, K _⟩
          · have c' : (p == 0) = false := by simp [c]
            have e9 := H9.out
            rw [if_neg (by omega)] at e9
            subst e9
            clear c
            go_wp2
            go_ret
            exact ⟨rfl, K _⟩
        · skip
          rw [if_neg (by omega), decide_eq_false (by omega : ¬ (p ≤ 2139095040 ∧ q ≤ 2139095040))]
          go_upto_region 11 with fail
          go_quiet ((first | (go_at_call 23; exact Calls.quiet_of_same (lsign_1 _ v v0 v1 hv)) | (go_at_call 24; exact Calls.quiet_of_same (ltop_1 _ v v0 v1 hv))))
          replace K := below_drewN K
          go_wp2
          go_ret
          exact ⟨rfl, K _⟩
      · skip
        rw [if_neg (by omega), decide_eq_false (by omega : ¬ (p ≤ 2139095040 ∧ q ≤ 2139095040))]
        have pc1 : decide (p ≤ 2139095040) = false := decide_eq_false pc
        have pc2 : ¬ p ≤ 2139095040 := pc
        go_upto_region 11 with fail
        go_quiet ((first | (go_at_call 23; exact Calls.quiet_of_same (lsign_1 _ v v0 v1 hv)) | (go_at_call 24; exact Calls.quiet_of_same (ltop_1 _ v v0 v1 hv))))
        replace K := below_drewN K
        go_wp2
        go_ret
        exact ⟨rfl, K _⟩
    · skip
      go_wp2_with fail
      with_reducible refine (lcmp_1 (L.below K) v v0 v1 hv X Y X0 X1 Y0 Y1).mono ?_
      rintro x' u29 ⟨rfl, kb⟩
      replace K := below_trans K kb; clear kb
      rw [HC.out, HO.out]
      clear HC HO HX hE
      obtain ⟨p, hp⟩ : ∃ p, X % 2147483648 = p := ⟨_, rfl⟩
      obtain ⟨q, hq⟩ : ∃ q, Y % 2147483648 = q := ⟨_, rfl⟩
      rw [hp, hq]
      by_cases pc : p ≤ 2139095040
      · by_cases qc : q ≤ 2139095040
        · skip
          rw [if_pos ⟨pc, qc⟩, decide_eq_true (⟨pc, qc⟩ : p ≤ 2139095040 ∧ q ≤ 2139095040)]
          obtain ⟨c9, h9⟩ : ∃ c, (if p = 0 ∧ q = 0 then (0 : Int) else a) = c := ⟨_, rfl⟩
          rw [h9]
          have H9 := hide h9
          clear h9
          go_upto_region 11 with fail
          go_quiet ((first | (go_at_call 23; exact Calls.quiet_of_same (lsign_1 _ v v0 v1 hv)) | (go_at_call 24; exact Calls.quiet_of_same (ltop_1 _ v v0 v1 hv))))
          replace K := below_drewN K
          go_wp2_with fail
          with_reducible refine (lsign_1 _ v v0 v1 hv).mono ?_
          rintro x' u30 ⟨rfl, rfl⟩
          by_cases c : p = 0
          · have c' : (p == 0) = true := by simp [c]
            go_wp2_with fail
            with_reducible refine (lsign_1 _ v v0 v1 hv).mono ?_
            rintro x' u31 ⟨rfl, rfl⟩
            by_cases c2 : q = 0
            · have c2' : (q == 0) = true := by simp [c2]
              have e9 := H9.out
              rw [if_pos ⟨c, c2⟩] at e9
              subst e9
              clear c c2
              go_wp2
              go_ret
              exact ⟨rfl, K _⟩
            · have c2' : (q == 0) = false := by simp [c2]
              have e9 := H9.out
              rw [if_neg (by omega)] at e9
              subst e9
              clear c c2
              go_wp2
              go_ret
              exact ⟨rfl, K _⟩
          · have c' : (p == 0) = false := by simp [c]
            have e9 := H9.out
            rw [if_neg (by omega)] at e9
            subst e9
            clear c
            go_wp2
            go_ret
            exact ⟨rfl, K _⟩
        · skip
          rw [if_neg (by omega), decide_eq_false (by omega : ¬ (p ≤ 2139095040 ∧ q ≤ 2139095040))]
          go_upto_region 11 with fail
          go_quiet ((first | (go_at_call 23; exact Calls.quiet_of_same (lsign_1 _ v v0 v1 hv)) | (go_at_call 24; exact Calls.quiet_of_same (ltop_1 _ v v0 v1 hv))))
          replace K := below_drewN K
          go_wp2
          go_ret
          exact ⟨rfl, K _⟩
      · skip
        rw [if_neg (by omega), decide_eq_false (by omega : ¬ (p ≤ 2139095040 ∧ q ≤ 2139095040))]
        have pc1 : decide (p ≤ 2139095040) = false := decide_eq_false pc
        have pc2 : ¬ p ≤ 2139095040 := pc
        go_upto_region 11 with fail
        go_quiet ((first | (go_at_call 23; exact Calls.quiet_of_same (lsign_1 _ v v0 v1 hv)) | (go_at_call 24; exact Calls.quiet_of_same (ltop_1 _ v v0 v1 hv))))
        replace K := below_drewN K
        go_wp2
        go_ret
        exact ⟨rfl, K _⟩
  · skip
    go_wp2_with fail
    with_reducible refine (lcmp_1 (L.below K) v v0 v1 hv X Y X0 X1 Y0 Y1).mono ?_
    rintro x' u32 ⟨rfl, kb⟩
    replace K := below_trans K kb; clear kb
    rw [HC.out, HO.out]
    clear HC HO HX hE
    obtain ⟨p, hp⟩ : ∃ p, X % 2147483648 = p := ⟨_, rfl⟩
    obtain ⟨q, hq⟩ : ∃ q, Y % 2147483648 = q := ⟨_, rfl⟩
    rw [hp, hq]
    by_cases pc : p ≤ 2139095040
    · by_cases qc : q ≤ 2139095040
      · skip
        rw [if_pos ⟨pc, qc⟩, decide_eq_true (⟨pc, qc⟩ : p ≤ 2139095040 ∧ q ≤ 2139095040)]
        obtain ⟨c9, h9⟩ : ∃ c, (if p = 0 ∧ q = 0 then (0 : Int) else a) = c := ⟨_, rfl⟩
        rw [h9]
        have H9 := hide h9
        clear h9
        go_upto_region 11 with fail
        go_quiet ((first | (go_at_call 23; exact Calls.quiet_of_same (lsign_1 _ v v0 v1 hv)) | (go_at_call 24; exact Calls.quiet_of_same (ltop_1 _ v v0 v1 hv))))
        replace K := below_drewN K
        go_wp2_with fail
        with_reducible refine (lsign_1 _ v v0 v1 hv).mono ?_
        rintro x' u33 ⟨rfl, rfl⟩
        by_cases c : p = 0
        · have c' : (p == 0) = true := by simp [c]
          go_wp2_with fail
          with_reducible refine (lsign_1 _ v v0 v1 hv).mono ?_
          rintro x' u34 ⟨rfl, rfl⟩
          by_cases c2 : q = 0
          · have c2' : (q == 0) = true := by simp [c2]
            have e9 := H9.out
            rw [if_pos ⟨c, c2⟩] at e9
            subst e9
            clear c c2
            go_wp2
            go_ret
            exact ⟨rfl, K _⟩
          · have c2' : (q == 0) = false := by simp [c2]
            have e9 := H9.out
            rw [if_neg (by omega)] at e9
            subst e9
            clear c c2
            go_wp2
            go_ret
            exact ⟨rfl, K _⟩
        · have c' : (p == 0) = false := by simp [c]
          have e9 := H9.out
          rw [if_neg (by omega)] at e9
          subst e9
          clear c
          go_wp2
          go_ret
          exact ⟨rfl, K _⟩
      · skip
        rw [if_neg (by omega), decide_eq_false (by omega : ¬ (p ≤ 2139095040 ∧ q ≤ 2139095040))]
        go_upto_region 11 with fail
        go_quiet ((first | (go_at_call 23; exact Calls.quiet_of_same (lsign_1 _ v v0 v1 hv)) | (go_at_call 24; exact Calls.quiet_of_same (ltop_1 _ v v0 v1 hv))))
        replace K := below_drewN K
        go_wp2
        go_ret
        exact ⟨rfl, K _⟩
    · skip
      rw [if_neg (by omega), decide_eq_false (by omega : ¬ (p ≤ 2139095040 ∧ q ≤ 2139095040))]
      have pc1 : decide (p ≤ 2139095040) = false := decide_eq_false pc
      have pc2 : ¬ p ≤ 2139095040 := pc
      go_upto_region 11 with fail
      go_quiet ((first | (go_at_call 23; exact Calls.quiet_of_same (lsign_1 _ v v0 v1 hv)) | (go_at_call 24; exact Calls.quiet_of_same (ltop_1 _ v v0 v1 hv))))
      replace K := below_drewN K
      go_wp2
      go_ret
      exact ⟨rfl, K _⟩

set_option maxRecDepth 20000 in
set_option maxHeartbeats 8000000 in
theorem sorted_2 {w : World} (L : Lays w) (T : Brn w) (v : Int) (v0 : 0 ≤ v) (v1 : v < 256) (hv : v % 4 = 2) (x : Int) (x0 : 0 ≤ x) (x1 : x < 18446744073709551616) (y : Int) (y0 : 0 ≤ y) (y1 : y < 18446744073709551616) (z : Int) (z0 : 0 ≤ z) (z1 : z < 18446744073709551616) : Calls Tryd.prog 6 #[.int .u8 v, .int .u64 x, .int .u64 y, .int .u64 z] w fun e w' => e = .returned (.bool true) ∧ Below w.heap.size w w' := by
  have K := Below.refl w.heap.size w
  go_enter Tryd.func6, Tryd.ntmps6
  go_wp2_with fail
  with_reducible refine (lives_ok L T).mono ?_
  rintro x' u35 ⟨rfl, kb⟩
  replace K := below_trans K kb; clear kb
  go_wp2_with fail
  with_reducible refine (lfit_2 _ v v0 v1 hv x x0 x1).mono ?_
  rintro x' u36 ⟨rfl, rfl⟩
  go_wp2_with fail
  with_reducible refine (lfit_2 _ v v0 v1 hv y y0 y1).mono ?_
  rintro x' u37 ⟨rfl, rfl⟩
  go_wp2_with fail
  with_reducible refine (lfit_2 _ v v0 v1 hv z z0 z1).mono ?_
  rintro x' u38 ⟨rfl, rfl⟩
  obtain ⟨X, hX⟩ : ∃ X, x % 18446744073709551616 = X := ⟨_, rfl⟩
  have X0 : 0 ≤ X := by omega
  have X1 : X < 18446744073709551616 := by omega
  rw [hX]
  clear hX
  obtain ⟨Y, hY⟩ : ∃ X, y % 18446744073709551616 = X := ⟨_, rfl⟩
  have Y0 : 0 ≤ Y := by omega
  have Y1 : Y < 18446744073709551616 := by omega
  rw [hY]
  clear hY
  obtain ⟨Z, hZ⟩ : ∃ X, z % 18446744073709551616 = X := ⟨_, rfl⟩
  have Z0 : 0 ≤ Z := by omega
  have Z1 : Z < 18446744073709551616 := by omega
  rw [hZ]
  clear hZ
  go_wp2_with fail
  with_reducible refine (ltotal_2 (L.below K) v v0 v1 hv X Y X0 X1 Y0 Y1).mono ?_
  rintro x' u39 ⟨rfl, kb⟩
  replace K := below_trans K kb; clear kb
  go_wp2_with fail
  with_reducible refine (ltotal_2 (L.below K) v v0 v1 hv Y Z Y0 Y1 Z0 Z1).mono ?_
  rintro x' u40 ⟨rfl, kb⟩
  replace K := below_trans K kb; clear kb
  have HN := hide (tri_neg (rk 9223372036854775808 X) (rk 9223372036854775808 Y))
  have HX := hide (show tri (rk 9223372036854775808 X) (rk 9223372036854775808 Y) ≤ 0 → tri (rk 9223372036854775808 Y) (rk 9223372036854775808 Z) ≤ 0 → tri (rk 9223372036854775808 X) (rk 9223372036854775808 Z) ≤ 0 by rw [tri_le, tri_le, tri_le]; omega)
  obtain ⟨a0, a1⟩ := tri_range (rk 9223372036854775808 X) (rk 9223372036854775808 Y)
  have hE : (tri (rk 9223372036854775808 X) (rk 9223372036854775808 Y) == 0) = (X == Y) := by
    rw [Bool.eq_iff_iff]
    simp only [beq_iff_eq]
    rw [tri_zero, rk_inj (by omega) (by omega) X0 Y0]
  have HC := hide (show cmpC 9223372036854775808 4503599627370496 X Y = if X % 9223372036854775808 ≤ 9218868437227405312 ∧ Y % 9223372036854775808 ≤ 9218868437227405312 then (if X % 9223372036854775808 = 0 ∧ Y % 9223372036854775808 = 0 then 0 else tri (rk 9223372036854775808 X) (rk 9223372036854775808 Y)) else 0 from rfl)
  have HO := hide (show cmpOk 9223372036854775808 4503599627370496 X Y = decide (X % 9223372036854775808 ≤ 9218868437227405312 ∧ Y % 9223372036854775808 ≤ 9218868437227405312) from rfl)
  generalize tri (rk 9223372036854775808 X) (rk 9223372036854775808 Y) = a at *
  generalize tri (rk 9223372036854775808 Y) (rk 9223372036854775808 Z) = b at *
  go_wp2_with fail
  with_reducible refine (ltotal_2 (L.below K) v v0 v1 hv Y X Y0 Y1 X0 X1).mono ?_
  rintro x' u41 ⟨rfl, kb⟩
  replace K := below_trans K kb; clear kb
  rw [HN.out]
  clear HN
  by_cases ca : a ≤ 0
  · by_cases cb : b ≤ 0
    · have hle := HX.out ca cb
      have Hle := hide hle
      clear hle
      go_wp2_with fail
      with_reducible refine (ltotal_2 (L.below K) v v0 v1 hv X Z X0 X1 Z0 Z1).mono ?_
      rintro x' u42 ⟨rfl, kb⟩
      replace K := below_trans K kb; clear kb
      have hle := Hle.out
      generalize tri (rk 9223372036854775808 X) (rk 9223372036854775808 Z) = g at *
      go_wp2_with fail
      with_reducible refine (lcmp_2 (L.below K) v v0 v1 hv X Y X0 X1 Y0 Y1).mono ?_
      rintro x' u43 ⟨rfl, kb⟩
      replace K := below_trans K kb; clear kb
      rw [HC.out, HO.out]
      clear HC HO HX hE
      obtain ⟨p, hp⟩ : ∃ p, X % 9223372036854775808 = p := ⟨_, rfl⟩
      obtain ⟨q, hq⟩ : ∃ q, Y % 9223372036854775808 = q := ⟨_, rfl⟩
      rw [hp, hq]
      by_cases pc : p ≤ 9218868437227405312
      · by_cases qc : q ≤ 9218868437227405312
        · skip
          rw [if_pos ⟨pc, qc⟩, decide_eq_true (⟨pc, qc⟩ : p ≤ 9218868437227405312 ∧ q ≤ 9218868437227405312)]
          obtain ⟨c9, h9⟩ : ∃ c, (if p = 0 ∧ q = 0 then (0 : Int) else a) = c := ⟨_, rfl⟩
          rw [h9]
          have H9 := hide h9
          clear h9
          go_upto_region 11 with fail
          go_quiet ((first | (go_at_call 23; exact Calls.quiet_of_same (lsign_2 _ v v0 v1 hv)) | (go_at_call 24; exact Calls.quiet_of_same (ltop_2 _ v v0 v1 hv))))
          replace K := below_drewN K
          go_wp2_with fail
          with_reducible refine (lsign_2 _ v v0 v1 hv).mono ?_
          rintro x' u44 ⟨rfl, rfl⟩
          by_cases c : p = 0
          · have c' : (p == 0) = true := by simp [c]
            go_wp2_with fail
            with_reducible refine (lsign_2 _ v v0 v1 hv).mono ?_
            rintro x' u45 ⟨rfl, rfl⟩
            by_cases c2 : q = 0
            · have c2' : (q == 0) = true := by simp [c2]
              have e9 := H9.out
              rw [if_pos ⟨c, c2⟩] at e9
              subst e9
              clear c c2
              go_wp2
              go_ret
              exact ⟨rfl, K _⟩
            · have c2' : (q == 0) = false := by simp [c2]
              have e9 := H9.out
              rw [if_neg (by omega)] at e9
              subst e9
              clear c c2
              go_wp2
              go_ret
              exact ⟨rfl, K _⟩
          · have c' : (p == 0) = false := by simp [c]
            have e9 := H9.out
            rw [if_neg (by omega)] at e9
            subst e9
            clear c
            go_wp2
            go_ret
            exact ⟨rfl, K _⟩
        · skip
          rw [if_neg (by omega), decide_eq_false (by omega : ¬ (p ≤ 9218868437227405312 ∧ q ≤ 9218868437227405312))]
          go_upto_region 11 with fail
          go_quiet ((first | (go_at_call 23; exact Calls.quiet_of_same (lsign_2 _ v v0 v1 hv)) | (go_at_call 24; exact Calls.quiet_of_same (ltop_2 _ v v0 v1 hv))))
          replace K := below_drewN K
          go_wp2
          go_ret
          exact ⟨rfl, K _⟩
      · skip
        rw [if_neg (by omega), decide_eq_false (by omega : ¬ (p ≤ 9218868437227405312 ∧ q ≤ 9218868437227405312))]
        have pc1 : decide (p ≤ 9218868437227405312) = false := decide_eq_false pc
        have pc2 : ¬ p ≤ 9218868437227405312 := pc
        go_upto_region 11 with fail
        go_quiet ((first | (go_at_call 23; exact Calls.quiet_of_same (lsign_2 _ v v0 v1 hv)) | (go_at_call 24; exact Calls.quiet_of_same (ltop_2 _ v v0 v1 hv))))
        replace K := below_drewN K
        go_wp2
        go_ret
        exact ⟨rfl, K _⟩
    · skip
      go_wp2_with fail
      with_reducible refine (lcmp_2 (L.below K) v v0 v1 hv X Y X0 X1 Y0 Y1).mono ?_
      rintro x' u46 ⟨rfl, kb⟩
      replace K := below_trans K kb; clear kb
      rw [HC.out, HO.out]
      clear HC HO HX hE
      obtain ⟨p, hp⟩ : ∃ p, X % 9223372036854775808 = p := ⟨_, rfl⟩
      obtain ⟨q, hq⟩ : ∃ q, Y % 9223372036854775808 = q := ⟨_, rfl⟩
      rw [hp, hq]
      by_cases pc : p ≤ 9218868437227405312
      · by_cases qc : q ≤ 9218868437227405312
        · skip
          rw [if_pos ⟨pc, qc⟩, decide_eq_true (⟨pc, qc⟩ : p ≤ 9218868437227405312 ∧ q ≤ 9218868437227405312)]
          obtain ⟨c9, h9⟩ : ∃ c, (if p = 0 ∧ q = 0 then (0 : Int) else a) = c := ⟨_, rfl⟩
          rw [h9]
          have H9 := hide h9
          clear h9
          go_upto_region 11 with fail
          go_quiet ((first | (go_at_call 23; exact Calls.quiet_of_same (lsign_2 _ v v0 v1 hv)) | (go_at_call 24; exact Calls.quiet_of_same (ltop_2 _ v v0 v1 hv))))
          replace K := below_drewN K
          go_wp2_with fail
          with_reducible refine (lsign_2 _ v v0 v1 hv).mono ?_
          rintro x' u47 ⟨rfl, rfl⟩
          by_cases c : p = 0
          · have c' : (p == 0) = true := by simp [c]
            go_wp2_with fail
            with_reducible refine (lsign_2 _ v v0 v1 hv).mono ?_
            rintro x' u48 ⟨rfl, rfl⟩
            by_cases c2 : q = 0
            · have c2' : (q == 0) = true := by simp [c2]
              have e9 := H9.out
              rw [if_pos ⟨c, c2⟩] at e9
              subst e9
              clear c c2
              go_wp2
              go_ret
              exact ⟨rfl, K _⟩
            · have c2' : (q == 0) = false := by simp [c2]
              have e9 := H9.out
              rw [if_neg (by omega)] at e9
              subst e9
              clear c c2
              go_wp2
              go_ret
              exact ⟨rfl, K _⟩
          · have c' : (p == 0) = false := by simp [c]
            have e9 := H9.out
            rw [if_neg (by omega)] at e9
            subst e9
            clear c
            go_wp2
            go_ret
            exact ⟨rfl, K _⟩
        · skip
          rw [if_neg (by omega), decide_eq_false (by omega : ¬ (p ≤ 9218868437227405312 ∧ q ≤ 9218868437227405312))]
          go_upto_region 11 with fail
          go_quiet ((first | (go_at_call 23; exact Calls.quiet_of_same (lsign_2 _ v v0 v1 hv)) | (go_at_call 24; exact Calls.quiet_of_same (ltop_2 _ v v0 v1 hv))))
          replace K := below_drewN K
          go_wp2
          go_ret
          exact ⟨rfl, K _⟩
      · skip
        rw [if_neg (by omega), decide_eq_false (by omega : ¬ (p ≤ 9218868437227405312 ∧ q ≤ 9218868437227405312))]
        have pc1 : decide (p ≤ 9218868437227405312) = false := decide_eq_false pc
        have pc2 : ¬ p ≤ 9218868437227405312 := pc
        go_upto_region 11 with fail
        go_quiet ((first | (go_at_call 23; exact Calls.quiet_of_same (lsign_2 _ v v0 v1 hv)) | (go_at_call 24; exact Calls.quiet_of_same (ltop_2 _ v v0 v1 hv))))
        replace K := below_drewN K
        go_wp2
        go_ret
        exact ⟨rfl, K _⟩
  · skip
    go_wp2_with fail
    with_reducible refine (lcmp_2 (L.below K) v v0 v1 hv X Y X0 X1 Y0 Y1).mono ?_
    rintro x' u49 ⟨rfl, kb⟩
    replace K := below_trans K kb; clear kb
    rw [HC.out, HO.out]
    clear HC HO HX hE
    obtain ⟨p, hp⟩ : ∃ p, X % 9223372036854775808 = p := ⟨_, rfl⟩
    obtain ⟨q, hq⟩ : ∃ q, Y % 9223372036854775808 = q := ⟨_, rfl⟩
    rw [hp, hq]
    by_cases pc : p ≤ 9218868437227405312
    · by_cases qc : q ≤ 9218868437227405312
      · skip
        rw [if_pos ⟨pc, qc⟩, decide_eq_true (⟨pc, qc⟩ : p ≤ 9218868437227405312 ∧ q ≤ 9218868437227405312)]
        obtain ⟨c9, h9⟩ : ∃ c, (if p = 0 ∧ q = 0 then (0 : Int) else a) = c := ⟨_, rfl⟩
        rw [h9]
        have H9 := hide h9
        clear h9
        go_upto_region 11 with fail
        go_quiet ((first | (go_at_call 23; exact Calls.quiet_of_same (lsign_2 _ v v0 v1 hv)) | (go_at_call 24; exact Calls.quiet_of_same (ltop_2 _ v v0 v1 hv))))
        replace K := below_drewN K
        go_wp2_with fail
        with_reducible refine (lsign_2 _ v v0 v1 hv).mono ?_
        rintro x' u50 ⟨rfl, rfl⟩
        by_cases c : p = 0
        · have c' : (p == 0) = true := by simp [c]
          go_wp2_with fail
          with_reducible refine (lsign_2 _ v v0 v1 hv).mono ?_
          rintro x' u51 ⟨rfl, rfl⟩
          by_cases c2 : q = 0
          · have c2' : (q == 0) = true := by simp [c2]
            have e9 := H9.out
            rw [if_pos ⟨c, c2⟩] at e9
            subst e9
            clear c c2
            go_wp2
            go_ret
            exact ⟨rfl, K _⟩
          · have c2' : (q == 0) = false := by simp [c2]
            have e9 := H9.out
            rw [if_neg (by omega)] at e9
            subst e9
            clear c c2
            go_wp2
            go_ret
            exact ⟨rfl, K _⟩
        · have c' : (p == 0) = false := by simp [c]
          have e9 := H9.out
          rw [if_neg (by omega)] at e9
          subst e9
          clear c
          go_wp2
          go_ret
          exact ⟨rfl, K _⟩
      · skip
        rw [if_neg (by omega), decide_eq_false (by omega : ¬ (p ≤ 9218868437227405312 ∧ q ≤ 9218868437227405312))]
        go_upto_region 11 with fail
        go_quiet ((first | (go_at_call 23; exact Calls.quiet_of_same (lsign_2 _ v v0 v1 hv)) | (go_at_call 24; exact Calls.quiet_of_same (ltop_2 _ v v0 v1 hv))))
        replace K := below_drewN K
        go_wp2
        go_ret
        exact ⟨rfl, K _⟩
    · skip
      rw [if_neg (by omega), decide_eq_false (by omega : ¬ (p ≤ 9218868437227405312 ∧ q ≤ 9218868437227405312))]
      have pc1 : decide (p ≤ 9218868437227405312) = false := decide_eq_false pc
      have pc2 : ¬ p ≤ 9218868437227405312 := pc
      go_upto_region 11 with fail
      go_quiet ((first | (go_at_call 23; exact Calls.quiet_of_same (lsign_2 _ v v0 v1 hv)) | (go_at_call 24; exact Calls.quiet_of_same (ltop_2 _ v v0 v1 hv))))
      replace K := below_drewN K
      go_wp2
      go_ret
      exact ⟨rfl, K _⟩

set_option maxRecDepth 20000 in
set_option maxHeartbeats 8000000 in
theorem sorted_3 {w : World} (L : Lays w) (T : Brn w) (v : Int) (v0 : 0 ≤ v) (v1 : v < 256) (hv : v % 4 = 3) (x : Int) (x0 : 0 ≤ x) (x1 : x < 18446744073709551616) (y : Int) (y0 : 0 ≤ y) (y1 : y < 18446744073709551616) (z : Int) (z0 : 0 ≤ z) (z1 : z < 18446744073709551616) : Calls Tryd.prog 6 #[.int .u8 v, .int .u64 x, .int .u64 y, .int .u64 z] w fun e w' => e = .returned (.bool true) ∧ Below w.heap.size w w' := by
  have K := Below.refl w.heap.size w
  go_enter Tryd.func6, Tryd.ntmps6
  go_wp2_with fail
  with_reducible refine (lives_ok L T).mono ?_
  rintro x' u52 ⟨rfl, kb⟩
  replace K := below_trans K kb; clear kb
  go_wp2_with fail
  with_reducible refine (lfit_3 _ v v0 v1 hv x x0 x1).mono ?_
  rintro x' u53 ⟨rfl, rfl⟩
  go_wp2_with fail
  with_reducible refine (lfit_3 _ v v0 v1 hv y y0 y1).mono ?_
  rintro x' u54 ⟨rfl, rfl⟩
  go_wp2_with fail
  with_reducible refine (lfit_3 _ v v0 v1 hv z z0 z1).mono ?_
  rintro x' u55 ⟨rfl, rfl⟩
  obtain ⟨X, hX⟩ : ∃ X, x % 4294967296 = X := ⟨_, rfl⟩
  have X0 : 0 ≤ X := by omega
  have X1 : X < 4294967296 := by omega
  rw [hX]
  clear hX
  obtain ⟨Y, hY⟩ : ∃ X, y % 4294967296 = X := ⟨_, rfl⟩
  have Y0 : 0 ≤ Y := by omega
  have Y1 : Y < 4294967296 := by omega
  rw [hY]
  clear hY
  obtain ⟨Z, hZ⟩ : ∃ X, z % 4294967296 = X := ⟨_, rfl⟩
  have Z0 : 0 ≤ Z := by omega
  have Z1 : Z < 4294967296 := by omega
  rw [hZ]
  clear hZ
  go_wp2_with fail
  with_reducible refine (ltotal_3 (L.below K) v v0 v1 hv X Y X0 X1 Y0 Y1).mono ?_
  rintro x' u56 ⟨rfl, kb⟩
  replace K := below_trans K kb; clear kb
  go_wp2_with fail
  with_reducible refine (ltotal_3 (L.below K) v v0 v1 hv Y Z Y0 Y1 Z0 Z1).mono ?_
  rintro x' u57 ⟨rfl, kb⟩
  replace K := below_trans K kb; clear kb
  have HN := hide (tri_neg (rk 2147483648 X) (rk 2147483648 Y))
  have HX := hide (show tri (rk 2147483648 X) (rk 2147483648 Y) ≤ 0 → tri (rk 2147483648 Y) (rk 2147483648 Z) ≤ 0 → tri (rk 2147483648 X) (rk 2147483648 Z) ≤ 0 by rw [tri_le, tri_le, tri_le]; omega)
  obtain ⟨a0, a1⟩ := tri_range (rk 2147483648 X) (rk 2147483648 Y)
  have hE : (tri (rk 2147483648 X) (rk 2147483648 Y) == 0) = (X == Y) := by
    rw [Bool.eq_iff_iff]
    simp only [beq_iff_eq]
    rw [tri_zero, rk_inj (by omega) (by omega) X0 Y0]
  have HC := hide (show cmpC 2147483648 8388608 X Y = if X % 2147483648 ≤ 2139095040 ∧ Y % 2147483648 ≤ 2139095040 then (if X % 2147483648 = 0 ∧ Y % 2147483648 = 0 then 0 else tri (rk 2147483648 X) (rk 2147483648 Y)) else 0 from rfl)
  have HO := hide (show cmpOk 2147483648 8388608 X Y = decide (X % 2147483648 ≤ 2139095040 ∧ Y % 2147483648 ≤ 2139095040) from rfl)
  generalize tri (rk 2147483648 X) (rk 2147483648 Y) = a at *
  generalize tri (rk 2147483648 Y) (rk 2147483648 Z) = b at *
  go_wp2_with fail
  with_reducible refine (ltotal_3 (L.below K) v v0 v1 hv Y X Y0 Y1 X0 X1).mono ?_
  rintro x' u58 ⟨rfl, kb⟩
  replace K := below_trans K kb; clear kb
  rw [HN.out]
  clear HN
  by_cases ca : a ≤ 0
  · by_cases cb : b ≤ 0
    · have hle := HX.out ca cb
      have Hle := hide hle
      clear hle
      go_wp2_with fail
      with_reducible refine (ltotal_3 (L.below K) v v0 v1 hv X Z X0 X1 Z0 Z1).mono ?_
      rintro x' u59 ⟨rfl, kb⟩
      replace K := below_trans K kb; clear kb
      have hle := Hle.out
      generalize tri (rk 2147483648 X) (rk 2147483648 Z) = g at *
      go_wp2_with fail
      with_reducible refine (lcmp_3 (L.below K) v v0 v1 hv X Y X0 X1 Y0 Y1).mono ?_
      rintro x' u60 ⟨rfl, kb⟩
      replace K := below_trans K kb; clear kb
      rw [HC.out, HO.out]
      clear HC HO HX hE
      obtain ⟨p, hp⟩ : ∃ p, X % 2147483648 = p := ⟨_, rfl⟩
      obtain ⟨q, hq⟩ : ∃ q, Y % 2147483648 = q := ⟨_, rfl⟩
      rw [hp, hq]
      by_cases pc : p ≤ 2139095040
      · by_cases qc : q ≤ 2139095040
        · skip
          rw [if_pos ⟨pc, qc⟩, decide_eq_true (⟨pc, qc⟩ : p ≤ 2139095040 ∧ q ≤ 2139095040)]
          obtain ⟨c9, h9⟩ : ∃ c, (if p = 0 ∧ q = 0 then (0 : Int) else a) = c := ⟨_, rfl⟩
          rw [h9]
          have H9 := hide h9
          clear h9
          go_upto_region 11 with fail
          go_quiet ((first | (go_at_call 23; exact Calls.quiet_of_same (lsign_3 _ v v0 v1 hv)) | (go_at_call 24; exact Calls.quiet_of_same (ltop_3 _ v v0 v1 hv))))
          replace K := below_drewN K
          go_wp2_with fail
          with_reducible refine (lsign_3 _ v v0 v1 hv).mono ?_
          rintro x' u61 ⟨rfl, rfl⟩
          by_cases c : p = 0
          · have c' : (p == 0) = true := by simp [c]
            go_wp2_with fail
            with_reducible refine (lsign_3 _ v v0 v1 hv).mono ?_
            rintro x' u62 ⟨rfl, rfl⟩
            by_cases c2 : q = 0
            · have c2' : (q == 0) = true := by simp [c2]
              have e9 := H9.out
              rw [if_pos ⟨c, c2⟩] at e9
              subst e9
              clear c c2
              go_wp2
              go_ret
              exact ⟨rfl, K _⟩
            · have c2' : (q == 0) = false := by simp [c2]
              have e9 := H9.out
              rw [if_neg (by omega)] at e9
              subst e9
              clear c c2
              go_wp2
              go_ret
              exact ⟨rfl, K _⟩
          · have c' : (p == 0) = false := by simp [c]
            have e9 := H9.out
            rw [if_neg (by omega)] at e9
            subst e9
            clear c
            go_wp2
            go_ret
            exact ⟨rfl, K _⟩
        · skip
          rw [if_neg (by omega), decide_eq_false (by omega : ¬ (p ≤ 2139095040 ∧ q ≤ 2139095040))]
          go_upto_region 11 with fail
          go_quiet ((first | (go_at_call 23; exact Calls.quiet_of_same (lsign_3 _ v v0 v1 hv)) | (go_at_call 24; exact Calls.quiet_of_same (ltop_3 _ v v0 v1 hv))))
          replace K := below_drewN K
          go_wp2
          go_ret
          exact ⟨rfl, K _⟩
      · skip
        rw [if_neg (by omega), decide_eq_false (by omega : ¬ (p ≤ 2139095040 ∧ q ≤ 2139095040))]
        have pc1 : decide (p ≤ 2139095040) = false := decide_eq_false pc
        have pc2 : ¬ p ≤ 2139095040 := pc
        go_upto_region 11 with fail
        go_quiet ((first | (go_at_call 23; exact Calls.quiet_of_same (lsign_3 _ v v0 v1 hv)) | (go_at_call 24; exact Calls.quiet_of_same (ltop_3 _ v v0 v1 hv))))
        replace K := below_drewN K
        go_wp2
        go_ret
        exact ⟨rfl, K _⟩
    · skip
      go_wp2_with fail
      with_reducible refine (lcmp_3 (L.below K) v v0 v1 hv X Y X0 X1 Y0 Y1).mono ?_
      rintro x' u63 ⟨rfl, kb⟩
      replace K := below_trans K kb; clear kb
      rw [HC.out, HO.out]
      clear HC HO HX hE
      obtain ⟨p, hp⟩ : ∃ p, X % 2147483648 = p := ⟨_, rfl⟩
      obtain ⟨q, hq⟩ : ∃ q, Y % 2147483648 = q := ⟨_, rfl⟩
      rw [hp, hq]
      by_cases pc : p ≤ 2139095040
      · by_cases qc : q ≤ 2139095040
        · skip
          rw [if_pos ⟨pc, qc⟩, decide_eq_true (⟨pc, qc⟩ : p ≤ 2139095040 ∧ q ≤ 2139095040)]
          obtain ⟨c9, h9⟩ : ∃ c, (if p = 0 ∧ q = 0 then (0 : Int) else a) = c := ⟨_, rfl⟩
          rw [h9]
          have H9 := hide h9
          clear h9
          go_upto_region 11 with fail
          go_quiet ((first | (go_at_call 23; exact Calls.quiet_of_same (lsign_3 _ v v0 v1 hv)) | (go_at_call 24; exact Calls.quiet_of_same (ltop_3 _ v v0 v1 hv))))
          replace K := below_drewN K
          go_wp2_with fail
          with_reducible refine (lsign_3 _ v v0 v1 hv).mono ?_
          rintro x' u64 ⟨rfl, rfl⟩
          by_cases c : p = 0
          · have c' : (p == 0) = true := by simp [c]
            go_wp2_with fail
            with_reducible refine (lsign_3 _ v v0 v1 hv).mono ?_
            rintro x' u65 ⟨rfl, rfl⟩
            by_cases c2 : q = 0
            · have c2' : (q == 0) = true := by simp [c2]
              have e9 := H9.out
              rw [if_pos ⟨c, c2⟩] at e9
              subst e9
              clear c c2
              go_wp2
              go_ret
              exact ⟨rfl, K _⟩
            · have c2' : (q == 0) = false := by simp [c2]
              have e9 := H9.out
              rw [if_neg (by omega)] at e9
              subst e9
              clear c c2
              go_wp2
              go_ret
              exact ⟨rfl, K _⟩
          · have c' : (p == 0) = false := by simp [c]
            have e9 := H9.out
            rw [if_neg (by omega)] at e9
            subst e9
            clear c
            go_wp2
            go_ret
            exact ⟨rfl, K _⟩
        · skip
          rw [if_neg (by omega), decide_eq_false (by omega : ¬ (p ≤ 2139095040 ∧ q ≤ 2139095040))]
          go_upto_region 11 with fail
          go_quiet ((first | (go_at_call 23; exact Calls.quiet_of_same (lsign_3 _ v v0 v1 hv)) | (go_at_call 24; exact Calls.quiet_of_same (ltop_3 _ v v0 v1 hv))))
          replace K := below_drewN K
          go_wp2
          go_ret
          exact ⟨rfl, K _⟩
      · skip
        rw [if_neg (by omega), decide_eq_false (by omega : ¬ (p ≤ 2139095040 ∧ q ≤ 2139095040))]
        have pc1 : decide (p ≤ 2139095040) = false := decide_eq_false pc
        have pc2 : ¬ p ≤ 2139095040 := pc
        go_upto_region 11 with fail
        go_quiet ((first | (go_at_call 23; exact Calls.quiet_of_same (lsign_3 _ v v0 v1 hv)) | (go_at_call 24; exact Calls.quiet_of_same (ltop_3 _ v v0 v1 hv))))
        replace K := below_drewN K
        go_wp2
        go_ret
        exact ⟨rfl, K _⟩
  · skip
    go_wp2_with fail
    with_reducible refine (lcmp_3 (L.below K) v v0 v1 hv X Y X0 X1 Y0 Y1).mono ?_
    rintro x' u66 ⟨rfl, kb⟩
    replace K := below_trans K kb; clear kb
    rw [HC.out, HO.out]
    clear HC HO HX hE
    obtain ⟨p, hp⟩ : ∃ p, X % 2147483648 = p := ⟨_, rfl⟩
    obtain ⟨q, hq⟩ : ∃ q, Y % 2147483648 = q := ⟨_, rfl⟩
    rw [hp, hq]
    by_cases pc : p ≤ 2139095040
    · by_cases qc : q ≤ 2139095040
      · skip
        rw [if_pos ⟨pc, qc⟩, decide_eq_true (⟨pc, qc⟩ : p ≤ 2139095040 ∧ q ≤ 2139095040)]
        obtain ⟨c9, h9⟩ : ∃ c, (if p = 0 ∧ q = 0 then (0 : Int) else a) = c := ⟨_, rfl⟩
        rw [h9]
        have H9 := hide h9
        clear h9
        go_upto_region 11 with fail
        go_quiet ((first | (go_at_call 23; exact Calls.quiet_of_same (lsign_3 _ v v0 v1 hv)) | (go_at_call 24; exact Calls.quiet_of_same (ltop_3 _ v v0 v1 hv))))
        replace K := below_drewN K
        go_wp2_with fail
        with_reducible refine (lsign_3 _ v v0 v1 hv).mono ?_
        rintro x' u67 ⟨rfl, rfl⟩
        by_cases c : p = 0
        · have c' : (p == 0) = true := by simp [c]
          go_wp2_with fail
          with_reducible refine (lsign_3 _ v v0 v1 hv).mono ?_
          rintro x' u68 ⟨rfl, rfl⟩
          by_cases c2 : q = 0
          · have c2' : (q == 0) = true := by simp [c2]
            have e9 := H9.out
            rw [if_pos ⟨c, c2⟩] at e9
            subst e9
            clear c c2
            go_wp2
            go_ret
            exact ⟨rfl, K _⟩
          · have c2' : (q == 0) = false := by simp [c2]
            have e9 := H9.out
            rw [if_neg (by omega)] at e9
            subst e9
            clear c c2
            go_wp2
            go_ret
            exact ⟨rfl, K _⟩
        · have c' : (p == 0) = false := by simp [c]
          have e9 := H9.out
          rw [if_neg (by omega)] at e9
          subst e9
          clear c
          go_wp2
          go_ret
          exact ⟨rfl, K _⟩
      · skip
        rw [if_neg (by omega), decide_eq_false (by omega : ¬ (p ≤ 2139095040 ∧ q ≤ 2139095040))]
        go_upto_region 11 with fail
        go_quiet ((first | (go_at_call 23; exact Calls.quiet_of_same (lsign_3 _ v v0 v1 hv)) | (go_at_call 24; exact Calls.quiet_of_same (ltop_3 _ v v0 v1 hv))))
        replace K := below_drewN K
        go_wp2
        go_ret
        exact ⟨rfl, K _⟩
    · skip
      rw [if_neg (by omega), decide_eq_false (by omega : ¬ (p ≤ 2139095040 ∧ q ≤ 2139095040))]
      have pc1 : decide (p ≤ 2139095040) = false := decide_eq_false pc
      have pc2 : ¬ p ≤ 2139095040 := pc
      go_upto_region 11 with fail
      go_quiet ((first | (go_at_call 23; exact Calls.quiet_of_same (lsign_3 _ v v0 v1 hv)) | (go_at_call 24; exact Calls.quiet_of_same (ltop_3 _ v v0 v1 hv))))
      replace K := below_drewN K
      go_wp2
      go_ret
      exact ⟨rfl, K _⟩

theorem sorted_walk {w : World} (h : Lays w ∧ Brn w) (v : Int) (v0 : 0 ≤ v) (v1 : v < 256) (x : Int) (x0 : 0 ≤ x) (x1 : x < 18446744073709551616) (y : Int) (y0 : 0 ≤ y) (y1 : y < 18446744073709551616) (z : Int) (z0 : 0 ≤ z) (z1 : z < 18446744073709551616) : Calls Tryd.prog 6 #[.int .u8 v, .int .u64 x, .int .u64 y, .int .u64 z] w fun e w' => e = .returned (.bool true) ∧ Below w.heap.size w w' := by
  rcases (by omega : v % 4 = 0 ∨ v % 4 = 1 ∨ v % 4 = 2 ∨ v % 4 = 3) with k | k | k | k
  · exact sorted_0 h.1 h.2 v v0 v1 k x x0 x1 y y0 y1 z z0 z1
  · exact sorted_1 h.1 h.2 v v0 v1 k x x0 x1 y y0 y1 z z0 z1
  · exact sorted_2 h.1 h.2 v v0 v1 k x x0 x1 y y0 y1 z z0 z1
  · exact sorted_3 h.1 h.2 v v0 v1 k x x0 x1 y y0 y1 z z0 z1

end Go.Proofs.YtomjckginmjhmaaDoor
