/- IeeeSteps' walk (mk_ilaws.py) -/
import Derived.Test.YtomjckginmjhmaaDoorILives
import Derived.BigQuiet
import Derived.WalkSmall
namespace Go.Proofs.YtomjckginmjhmaaDoor
open Go.RowKit
set_option linter.unusedVariables false

theorem steps_math_0 {X N : Int} (X0 : 0 ≤ X) (X1 : X < 65536) (h1 : ¬ 31744 < X % 32768) (h2 : ¬ X = 31744) (hN : nxt 32768 1024 X = N) :
    N % 32768 ≤ 31744 ∧ (X = 32768 ∧ N = 1 ∨ X ≠ 32768 ∧ rk 32768 N = rk 32768 X + 1) := by
  subst hN
  unfold nxt rk
  rw [if_neg (by omega)]
  by_cases a : X % 32768 = 0
  · rw [if_pos a]
    by_cases b : X = 32768
    · exact ⟨by omega, Or.inl ⟨b, rfl⟩⟩
    · refine ⟨by omega, Or.inr ⟨b, ?_⟩⟩
      have : X = 0 := by omega
      subst this
      decide
  · rw [if_neg a]
    by_cases b : 32768 ≤ X
    · rw [if_pos b]
      refine ⟨by omega, Or.inr ⟨by omega, ?_⟩⟩
      rw [if_neg (by omega), if_neg (by omega)]
      omega
    · rw [if_neg b]
      refine ⟨by omega, Or.inr ⟨by omega, ?_⟩⟩
      rw [if_pos (by omega), if_pos (by omega)]
      omega
theorem steps_cmp_0 {X N Z : Int} (X0 : 0 ≤ X) (X1 : X < 65536) (Z0 : 0 ≤ Z) (Z1 : Z < 65536) (h1 : ¬ 31744 < X % 32768) (h2 : ¬ X = 31744) (hN : nxt 32768 1024 X = N) :
    cmpC 32768 1024 X N = -1 ∧ cmpOk 32768 1024 X N = true ∧ tri (rk 32768 X) (rk 32768 N) = -1 ∧ cmpOk 32768 1024 X Z = decide (Z % 32768 ≤ 31744) ∧ cmpOk 32768 1024 Z N = decide (Z % 32768 ≤ 31744) ∧
      (cmpC 32768 1024 X Z < 0 → ¬ cmpC 32768 1024 Z N < 0) := by
  obtain ⟨hNs, hc⟩ := steps_math_0 X0 X1 h1 h2 hN
  have hlt : rk 32768 X < rk 32768 N := by
    rcases hc with ⟨rfl, rfl⟩ | ⟨_, h⟩
    · decide
    · omega
  have ht : tri (rk 32768 X) (rk 32768 N) = -1 := by unfold tri; rw [if_pos hlt]
  have hnz : ¬ (X % 32768 = 0 ∧ N % 32768 = 0) := by
    rintro ⟨a, b⟩
    rcases hc with ⟨rfl, rfl⟩ | ⟨h, h'⟩
    · omega
    · have : X = 0 := by omega
      subst this
      unfold nxt at hN
      rw [if_neg (by omega), if_pos (by omega)] at hN
      omega
  refine ⟨?_, ?_, ht, ?_, ?_, ?_⟩
  · unfold cmpC; rw [if_pos (by omega), if_neg hnz, ht]
  · unfold cmpOk; rw [decide_eq_true]; omega
  · exact decide_eq_decide.2 (by omega)
  · exact decide_eq_decide.2 (by omega)
  · have neg : ∀ u v : Int, cmpC 32768 1024 u v < 0 → rk 32768 u < rk 32768 v ∧ ¬ (u % 32768 = 0 ∧ v % 32768 = 0) := by
      intro u v h
      unfold cmpC at h
      split at h
      · split at h
        · omega
        · rename_i hh
          unfold tri at h
          split at h
          · rename_i g; exact ⟨g, hh⟩
          · split at h <;> omega
      · omega
    intro ha hb
    obtain ⟨a1, a2⟩ := neg _ _ ha
    obtain ⟨b1, b2⟩ := neg _ _ hb
    rcases hc with ⟨rfl, rfl⟩ | ⟨_, h⟩
    · have e1 : rk 32768 32768 = 32768 - 1 := by decide
      have e2 : rk 32768 1 = 32768 + 1 := by decide
      have : Z = 0 := by
        unfold rk at a1 b1
        by_cases c : Z < 32768
        · rw [if_pos c] at a1 b1; simp at a1 b1; omega
        · rw [if_neg c] at a1 b1; simp at a1 b1; omega
      subst this
      omega
    · omega

set_option maxRecDepth 20000 in
set_option maxHeartbeats 8000000 in
theorem stepsw_0 {w : World} (L : Lays w) (T : Brn w) (v : Int) (v0 : 0 ≤ v) (v1 : v < 256) (hv : v % 4 = 0) (x : Int) (x0 : 0 ≤ x) (x1 : x < 18446744073709551616) (z : Int) (z0 : 0 ≤ z) (z1 : z < 18446744073709551616) : Calls Tryd.prog 5 #[.int .u8 v, .int .u64 x, .int .u64 z] w fun e w' => e = .returned (.bool true) ∧ Below w.heap.size w w' := by
  have K := Below.refl w.heap.size w
  go_enter Tryd.func5, Tryd.ntmps5
  go_wp2_with fail
  with_reducible refine (lives_ok L T).mono ?_
  rintro x' u69 ⟨rfl, kb⟩
  replace K := below_trans K kb; clear kb
  go_wp2_with fail
  with_reducible refine (lfit_0 _ v v0 v1 hv x x0 x1).mono ?_
  rintro x' u70 ⟨rfl, rfl⟩
  go_wp2_with fail
  with_reducible refine (lfit_0 _ v v0 v1 hv z z0 z1).mono ?_
  rintro x' u71 ⟨rfl, rfl⟩
  obtain ⟨X, hX⟩ : ∃ X, x % 65536 = X := ⟨_, rfl⟩
  have X0 : 0 ≤ X := by omega
  have X1 : X < 65536 := by omega
  rw [hX]
  clear hX
  obtain ⟨Z, hZ⟩ : ∃ X, z % 65536 = X := ⟨_, rfl⟩
  have Z0 : 0 ≤ Z := by omega
  have Z1 : Z < 65536 := by omega
  rw [hZ]
  clear hZ
  go_wp2_with fail
  with_reducible refine (lnext_0 (L.below K) v v0 v1 hv X X0 X1).mono ?_
  rintro x' u72 ⟨rfl, kb⟩
  replace K := below_trans K kb; clear kb
  obtain ⟨N0, N1⟩ := nxt_0 X X0 X1
  obtain ⟨N, hN⟩ : ∃ N, nxt 32768 1024 X = N := ⟨_, rfl⟩
  rw [hN] at N0 N1
  rw [hN]
  have HNN := hide hN
  clear hN
  obtain ⟨s, hs⟩ : ∃ s, X % 32768 = s := ⟨_, rfl⟩
  have H1 := hide (next_1 32768 1024 X s hs)
  rw [HNN.out] at H1
  go_upto_region 6 with fail
  by_cases p1 : 31744 < s
  · have Hx := hide (H1.out (Or.inl (by omega)))
    go_quiet ((first | (go_at_call 23; exact Calls.quiet_of_same (lsign_0 _ v v0 v1 hv)) | (go_at_call 24; exact Calls.quiet_of_same (ltop_0 _ v v0 v1 hv))))
    have K' := fun n => below_drewN K n
    have e := Hx.out
    subst e
    go_wp2
    go_ret
    exact ⟨rfl, K' _⟩
  by_cases p2 : X = 31744
  · have Hx := hide (H1.out (Or.inr (by omega)))
    have p2' : (X == 31744) = true := by simp [p2]
    clear p2
    go_quiet ((first | (go_at_call 23; exact Calls.quiet_of_same (lsign_0 _ v v0 v1 hv)) | (go_at_call 24; exact Calls.quiet_of_same (ltop_0 _ v v0 v1 hv))))
    have K' := fun n => below_drewN K n
    have e := Hx.out
    subst e
    go_wp2
    go_ret
    exact ⟨rfl, K' _⟩
  have p2' : (X == 31744) = false := by simp [p2]
  have HS := hide (steps_cmp_0 X0 X1 Z0 Z1 (by omega) p2 HNN.out)
  go_quiet ((first | (go_at_call 23; exact Calls.quiet_of_same (lsign_0 _ v v0 v1 hv)) | (go_at_call 24; exact Calls.quiet_of_same (ltop_0 _ v v0 v1 hv))))
  replace K := below_drewN K nq
  clear hs p1 p2 p2' H1 HNN
  go_wp2_with fail
  with_reducible refine (lcmp_0 (L.below K) v v0 v1 hv X N X0 X1 N0 N1).mono ?_
  rintro x' u73 ⟨rfl, kb⟩
  replace K := below_trans K kb; clear kb
  rw [HS.out.1, HS.out.2.1]
  go_wp2_with fail
  with_reducible refine (ltotal_0 (L.below K) v v0 v1 hv X N X0 X1 N0 N1).mono ?_
  rintro x' u74 ⟨rfl, kb⟩
  replace K := below_trans K kb; clear kb
  rw [HS.out.2.2.1]
  go_wp2_with fail
  with_reducible refine (lcmp_0 (L.below K) v v0 v1 hv X Z X0 X1 Z0 Z1).mono ?_
  rintro x' u75 ⟨rfl, kb⟩
  replace K := below_trans K kb; clear kb
  rw [HS.out.2.2.2.1]
  have HF := hide HS.out.2.2.2.2
  clear HS
  obtain ⟨p, hp⟩ : ∃ p, Z % 32768 = p := ⟨_, rfl⟩
  rw [hp]
  generalize cmpC 32768 1024 X Z = a at *
  go_wp2_with fail
  with_reducible refine (lcmp_0 (L.below K) v v0 v1 hv Z N Z0 Z1 N0 N1).mono ?_
  rintro x' u76 ⟨rfl, kb⟩
  replace K := below_trans K kb; clear kb
  rw [HF.out.1, hp]
  have HG := hide HF.out.2
  clear HF
  generalize cmpC 32768 1024 Z N = b at *
  by_cases pc : p ≤ 31744
  · rw [decide_eq_true pc]
    by_cases ac : a < 0
    · have bc := HG.out ac
      have bc2 : decide (b < 0) = false := decide_eq_false (by omega)
      have ac2 : decide (a < 0) = true := decide_eq_true (by omega)
      go_upto_region 13 with fail
      go_quiet ((first | (go_at_call 23; exact Calls.quiet_of_same (lsign_0 _ v v0 v1 hv)) | (go_at_call 24; exact Calls.quiet_of_same (ltop_0 _ v v0 v1 hv))))
      replace K := below_drewN K nq
      go_wp2_with fail
      with_reducible refine (lnext_0 (L.below K) v v0 v1 hv 0 (by decide) (by decide)).mono ?_
      rintro x' u77 ⟨rfl, kb⟩
      replace K := below_trans K kb; clear kb
      rw [show nxt 32768 1024 0 = 1 by decide]
      go_wp2_with fail
      with_reducible refine (lsign_0 _ v v0 v1 hv).mono ?_
      rintro x' u78 ⟨rfl, rfl⟩
      go_wp2_with fail
      with_reducible refine (lnext_0 (L.below K) v v0 v1 hv 32768 (by decide) (by decide)).mono ?_
      rintro x' u79 ⟨rfl, kb⟩
      replace K := below_trans K kb; clear kb
      rw [show nxt 32768 1024 32768 = 1 by decide]
      go_wp2
      go_ret
      exact ⟨rfl, K⟩
    · have ac2 : decide (a < 0) = false := decide_eq_false (by omega)
      go_upto_region 13 with fail
      go_quiet ((first | (go_at_call 23; exact Calls.quiet_of_same (lsign_0 _ v v0 v1 hv)) | (go_at_call 24; exact Calls.quiet_of_same (ltop_0 _ v v0 v1 hv))))
      replace K := below_drewN K nq
      go_wp2_with fail
      with_reducible refine (lnext_0 (L.below K) v v0 v1 hv 0 (by decide) (by decide)).mono ?_
      rintro x' u80 ⟨rfl, kb⟩
      replace K := below_trans K kb; clear kb
      rw [show nxt 32768 1024 0 = 1 by decide]
      go_wp2_with fail
      with_reducible refine (lsign_0 _ v v0 v1 hv).mono ?_
      rintro x' u81 ⟨rfl, rfl⟩
      go_wp2_with fail
      with_reducible refine (lnext_0 (L.below K) v v0 v1 hv 32768 (by decide) (by decide)).mono ?_
      rintro x' u82 ⟨rfl, kb⟩
      replace K := below_trans K kb; clear kb
      rw [show nxt 32768 1024 32768 = 1 by decide]
      go_wp2
      go_ret
      exact ⟨rfl, K⟩
  · rw [decide_eq_false pc]
    have pc1 : decide (p ≤ 31744) = false := decide_eq_false pc
    have pc2 : ¬ p ≤ 31744 := pc
    go_upto_region 13 with fail
    go_quiet ((first | (go_at_call 23; exact Calls.quiet_of_same (lsign_0 _ v v0 v1 hv)) | (go_at_call 24; exact Calls.quiet_of_same (ltop_0 _ v v0 v1 hv))))
    replace K := below_drewN K nq
    go_wp2_with fail
    with_reducible refine (lnext_0 (L.below K) v v0 v1 hv 0 (by decide) (by decide)).mono ?_
    rintro x' u83 ⟨rfl, kb⟩
    replace K := below_trans K kb; clear kb
    rw [show nxt 32768 1024 0 = 1 by decide]
    go_wp2_with fail
    with_reducible refine (lsign_0 _ v v0 v1 hv).mono ?_
    rintro x' u84 ⟨rfl, rfl⟩
    go_wp2_with fail
    with_reducible refine (lnext_0 (L.below K) v v0 v1 hv 32768 (by decide) (by decide)).mono ?_
    rintro x' u85 ⟨rfl, kb⟩
    replace K := below_trans K kb; clear kb
    rw [show nxt 32768 1024 32768 = 1 by decide]
    go_wp2
    go_ret
    exact ⟨rfl, K⟩

theorem steps_math_1 {X N : Int} (X0 : 0 ≤ X) (X1 : X < 4294967296) (h1 : ¬ 2139095040 < X % 2147483648) (h2 : ¬ X = 2139095040) (hN : nxt 2147483648 8388608 X = N) :
    N % 2147483648 ≤ 2139095040 ∧ (X = 2147483648 ∧ N = 1 ∨ X ≠ 2147483648 ∧ rk 2147483648 N = rk 2147483648 X + 1) := by
  subst hN
  unfold nxt rk
  rw [if_neg (by omega)]
  by_cases a : X % 2147483648 = 0
  · rw [if_pos a]
    by_cases b : X = 2147483648
    · exact ⟨by omega, Or.inl ⟨b, rfl⟩⟩
    · refine ⟨by omega, Or.inr ⟨b, ?_⟩⟩
      have : X = 0 := by omega
      subst this
      decide
  · rw [if_neg a]
    by_cases b : 2147483648 ≤ X
    · rw [if_pos b]
      refine ⟨by omega, Or.inr ⟨by omega, ?_⟩⟩
      rw [if_neg (by omega), if_neg (by omega)]
      omega
    · rw [if_neg b]
      refine ⟨by omega, Or.inr ⟨by omega, ?_⟩⟩
      rw [if_pos (by omega), if_pos (by omega)]
      omega
theorem steps_cmp_1 {X N Z : Int} (X0 : 0 ≤ X) (X1 : X < 4294967296) (Z0 : 0 ≤ Z) (Z1 : Z < 4294967296) (h1 : ¬ 2139095040 < X % 2147483648) (h2 : ¬ X = 2139095040) (hN : nxt 2147483648 8388608 X = N) :
    cmpC 2147483648 8388608 X N = -1 ∧ cmpOk 2147483648 8388608 X N = true ∧ tri (rk 2147483648 X) (rk 2147483648 N) = -1 ∧ cmpOk 2147483648 8388608 X Z = decide (Z % 2147483648 ≤ 2139095040) ∧ cmpOk 2147483648 8388608 Z N = decide (Z % 2147483648 ≤ 2139095040) ∧
      (cmpC 2147483648 8388608 X Z < 0 → ¬ cmpC 2147483648 8388608 Z N < 0) := by
  obtain ⟨hNs, hc⟩ := steps_math_1 X0 X1 h1 h2 hN
  have hlt : rk 2147483648 X < rk 2147483648 N := by
    rcases hc with ⟨rfl, rfl⟩ | ⟨_, h⟩
    · decide
    · omega
  have ht : tri (rk 2147483648 X) (rk 2147483648 N) = -1 := by unfold tri; rw [if_pos hlt]
  have hnz : ¬ (X % 2147483648 = 0 ∧ N % 2147483648 = 0) := by
    rintro ⟨a, b⟩
    rcases hc with ⟨rfl, rfl⟩ | ⟨h, h'⟩
    · omega
    · have : X = 0 := by omega
      subst this
      unfold nxt at hN
      rw [if_neg (by omega), if_pos (by omega)] at hN
      omega
  refine ⟨?_, ?_, ht, ?_, ?_, ?_⟩
  · unfold cmpC; rw [if_pos (by omega), if_neg hnz, ht]
  · unfold cmpOk; rw [decide_eq_true]; omega
  · exact decide_eq_decide.2 (by omega)
  · exact decide_eq_decide.2 (by omega)
  · have neg : ∀ u v : Int, cmpC 2147483648 8388608 u v < 0 → rk 2147483648 u < rk 2147483648 v ∧ ¬ (u % 2147483648 = 0 ∧ v % 2147483648 = 0) := by
      intro u v h
      unfold cmpC at h
      split at h
      · split at h
        · omega
        · rename_i hh
          unfold tri at h
          split at h
          · rename_i g; exact ⟨g, hh⟩
          · split at h <;> omega
      · omega
    intro ha hb
    obtain ⟨a1, a2⟩ := neg _ _ ha
    obtain ⟨b1, b2⟩ := neg _ _ hb
    rcases hc with ⟨rfl, rfl⟩ | ⟨_, h⟩
    · have e1 : rk 2147483648 2147483648 = 2147483648 - 1 := by decide
      have e2 : rk 2147483648 1 = 2147483648 + 1 := by decide
      have : Z = 0 := by
        unfold rk at a1 b1
        by_cases c : Z < 2147483648
        · rw [if_pos c] at a1 b1; simp at a1 b1; omega
        · rw [if_neg c] at a1 b1; simp at a1 b1; omega
      subst this
      omega
    · omega

set_option maxRecDepth 20000 in
set_option maxHeartbeats 8000000 in
theorem stepsw_1 {w : World} (L : Lays w) (T : Brn w) (v : Int) (v0 : 0 ≤ v) (v1 : v < 256) (hv : v % 4 = 1) (x : Int) (x0 : 0 ≤ x) (x1 : x < 18446744073709551616) (z : Int) (z0 : 0 ≤ z) (z1 : z < 18446744073709551616) : Calls Tryd.prog 5 #[.int .u8 v, .int .u64 x, .int .u64 z] w fun e w' => e = .returned (.bool true) ∧ Below w.heap.size w w' := by
  have K := Below.refl w.heap.size w
  go_enter Tryd.func5, Tryd.ntmps5
  go_wp2_with fail
  with_reducible refine (lives_ok L T).mono ?_
  rintro x' u86 ⟨rfl, kb⟩
  replace K := below_trans K kb; clear kb
  go_wp2_with fail
  with_reducible refine (lfit_1 _ v v0 v1 hv x x0 x1).mono ?_
  rintro x' u87 ⟨rfl, rfl⟩
  go_wp2_with fail
  with_reducible refine (lfit_1 _ v v0 v1 hv z z0 z1).mono ?_
  rintro x' u88 ⟨rfl, rfl⟩
  obtain ⟨X, hX⟩ : ∃ X, x % 4294967296 = X := ⟨_, rfl⟩
  have X0 : 0 ≤ X := by omega
  have X1 : X < 4294967296 := by omega
  rw [hX]
  clear hX
  obtain ⟨Z, hZ⟩ : ∃ X, z % 4294967296 = X := ⟨_, rfl⟩
  have Z0 : 0 ≤ Z := by omega
  have Z1 : Z < 4294967296 := by omega
  rw [hZ]
  clear hZ
  go_wp2_with fail
  with_reducible refine (lnext_1 (L.below K) v v0 v1 hv X X0 X1).mono ?_
  rintro x' u89 ⟨rfl, kb⟩
  replace K := below_trans K kb; clear kb
  obtain ⟨N0, N1⟩ := nxt_1 X X0 X1
  obtain ⟨N, hN⟩ : ∃ N, nxt 2147483648 8388608 X = N := ⟨_, rfl⟩
  rw [hN] at N0 N1
  rw [hN]
  have HNN := hide hN
  clear hN
  obtain ⟨s, hs⟩ : ∃ s, X % 2147483648 = s := ⟨_, rfl⟩
  have H1 := hide (next_1 2147483648 8388608 X s hs)
  rw [HNN.out] at H1
  go_upto_region 6 with fail
  by_cases p1 : 2139095040 < s
  · have Hx := hide (H1.out (Or.inl (by omega)))
    go_quiet ((first | (go_at_call 23; exact Calls.quiet_of_same (lsign_1 _ v v0 v1 hv)) | (go_at_call 24; exact Calls.quiet_of_same (ltop_1 _ v v0 v1 hv))))
    have K' := fun n => below_drewN K n
    have e := Hx.out
    subst e
    go_wp2
    go_ret
    exact ⟨rfl, K' _⟩
  by_cases p2 : X = 2139095040
  · have Hx := hide (H1.out (Or.inr (by omega)))
    have p2' : (X == 2139095040) = true := by simp [p2]
    clear p2
    go_quiet ((first | (go_at_call 23; exact Calls.quiet_of_same (lsign_1 _ v v0 v1 hv)) | (go_at_call 24; exact Calls.quiet_of_same (ltop_1 _ v v0 v1 hv))))
    have K' := fun n => below_drewN K n
    have e := Hx.out
    subst e
    go_wp2
    go_ret
    exact ⟨rfl, K' _⟩
  have p2' : (X == 2139095040) = false := by simp [p2]
  have HS := hide (steps_cmp_1 X0 X1 Z0 Z1 (by omega) p2 HNN.out)
  go_quiet ((first | (go_at_call 23; exact Calls.quiet_of_same (lsign_1 _ v v0 v1 hv)) | (go_at_call 24; exact Calls.quiet_of_same (ltop_1 _ v v0 v1 hv))))
  replace K := below_drewN K nq
  clear hs p1 p2 p2' H1 HNN
  go_wp2_with fail
  with_reducible refine (lcmp_1 (L.below K) v v0 v1 hv X N X0 X1 N0 N1).mono ?_
  rintro x' u90 ⟨rfl, kb⟩
  replace K := below_trans K kb; clear kb
  rw [HS.out.1, HS.out.2.1]
  go_wp2_with fail
  with_reducible refine (ltotal_1 (L.below K) v v0 v1 hv X N X0 X1 N0 N1).mono ?_
  rintro x' u91 ⟨rfl, kb⟩
  replace K := below_trans K kb; clear kb
  rw [HS.out.2.2.1]
  go_wp2_with fail
  with_reducible refine (lcmp_1 (L.below K) v v0 v1 hv X Z X0 X1 Z0 Z1).mono ?_
  rintro x' u92 ⟨rfl, kb⟩
  replace K := below_trans K kb; clear kb
  rw [HS.out.2.2.2.1]
  have HF := hide HS.out.2.2.2.2
  clear HS
  obtain ⟨p, hp⟩ : ∃ p, Z % 2147483648 = p := ⟨_, rfl⟩
  rw [hp]
  generalize cmpC 2147483648 8388608 X Z = a at *
  go_wp2_with fail
  with_reducible refine (lcmp_1 (L.below K) v v0 v1 hv Z N Z0 Z1 N0 N1).mono ?_
  rintro x' u93 ⟨rfl, kb⟩
  replace K := below_trans K kb; clear kb
  rw [HF.out.1, hp]
  have HG := hide HF.out.2
  clear HF
  generalize cmpC 2147483648 8388608 Z N = b at *
  by_cases pc : p ≤ 2139095040
  · rw [decide_eq_true pc]
    by_cases ac : a < 0
    · have bc := HG.out ac
      have bc2 : decide (b < 0) = false := decide_eq_false (by omega)
      have ac2 : decide (a < 0) = true := decide_eq_true (by omega)
      go_upto_region 13 with fail
      go_quiet ((first | (go_at_call 23; exact Calls.quiet_of_same (lsign_1 _ v v0 v1 hv)) | (go_at_call 24; exact Calls.quiet_of_same (ltop_1 _ v v0 v1 hv))))
      replace K := below_drewN K nq
      go_wp2_with fail
      with_reducible refine (lnext_1 (L.below K) v v0 v1 hv 0 (by decide) (by decide)).mono ?_
      rintro x' u94 ⟨rfl, kb⟩
      replace K := below_trans K kb; clear kb
      rw [show nxt 2147483648 8388608 0 = 1 by decide]
      go_wp2_with fail
      with_reducible refine (lsign_1 _ v v0 v1 hv).mono ?_
      rintro x' u95 ⟨rfl, rfl⟩
      go_wp2_with fail
      with_reducible refine (lnext_1 (L.below K) v v0 v1 hv 2147483648 (by decide) (by decide)).mono ?_
      rintro x' u96 ⟨rfl, kb⟩
      replace K := below_trans K kb; clear kb
      rw [show nxt 2147483648 8388608 2147483648 = 1 by decide]
      go_wp2
      go_ret
      exact ⟨rfl, K⟩
    · have ac2 : decide (a < 0) = false := decide_eq_false (by omega)
      go_upto_region 13 with fail
      go_quiet ((first | (go_at_call 23; exact Calls.quiet_of_same (lsign_1 _ v v0 v1 hv)) | (go_at_call 24; exact Calls.quiet_of_same (ltop_1 _ v v0 v1 hv))))
      replace K := below_drewN K nq
      go_wp2_with fail
      with_reducible refine (lnext_1 (L.below K) v v0 v1 hv 0 (by decide) (by decide)).mono ?_
      rintro x' u97 ⟨rfl, kb⟩
      replace K := below_trans K kb; clear kb
      rw [show nxt 2147483648 8388608 0 = 1 by decide]
      go_wp2_with fail
      with_reducible refine (lsign_1 _ v v0 v1 hv).mono ?_
      rintro x' u98 ⟨rfl, rfl⟩
      go_wp2_with fail
      with_reducible refine (lnext_1 (L.below K) v v0 v1 hv 2147483648 (by decide) (by decide)).mono ?_
      rintro x' u99 ⟨rfl, kb⟩
      replace K := below_trans K kb; clear kb
      rw [show nxt 2147483648 8388608 2147483648 = 1 by decide]
      go_wp2
      go_ret
      exact ⟨rfl, K⟩
  · rw [decide_eq_false pc]
    have pc1 : decide (p ≤ 2139095040) = false := decide_eq_false pc
    have pc2 : ¬ p ≤ 2139095040 := pc
    go_upto_region 13 with fail
    go_quiet ((first | (go_at_call 23; exact Calls.quiet_of_same (lsign_1 _ v v0 v1 hv)) | (go_at_call 24; exact Calls.quiet_of_same (ltop_1 _ v v0 v1 hv))))
    replace K := below_drewN K nq
    go_wp2_with fail
    with_reducible refine (lnext_1 (L.below K) v v0 v1 hv 0 (by decide) (by decide)).mono ?_
    rintro x' u100 ⟨rfl, kb⟩
    replace K := below_trans K kb; clear kb
    rw [show nxt 2147483648 8388608 0 = 1 by decide]
    go_wp2_with fail
    with_reducible refine (lsign_1 _ v v0 v1 hv).mono ?_
    rintro x' u101 ⟨rfl, rfl⟩
    go_wp2_with fail
    with_reducible refine (lnext_1 (L.below K) v v0 v1 hv 2147483648 (by decide) (by decide)).mono ?_
    rintro x' u102 ⟨rfl, kb⟩
    replace K := below_trans K kb; clear kb
    rw [show nxt 2147483648 8388608 2147483648 = 1 by decide]
    go_wp2
    go_ret
    exact ⟨rfl, K⟩

theorem steps_math_2 {X N : Int} (X0 : 0 ≤ X) (X1 : X < 18446744073709551616) (h1 : ¬ 9218868437227405312 < X % 9223372036854775808) (h2 : ¬ X = 9218868437227405312) (hN : nxt 9223372036854775808 4503599627370496 X = N) :
    N % 9223372036854775808 ≤ 9218868437227405312 ∧ (X = 9223372036854775808 ∧ N = 1 ∨ X ≠ 9223372036854775808 ∧ rk 9223372036854775808 N = rk 9223372036854775808 X + 1) := by
  subst hN
  unfold nxt rk
  rw [if_neg (by omega)]
  by_cases a : X % 9223372036854775808 = 0
  · rw [if_pos a]
    by_cases b : X = 9223372036854775808
    · exact ⟨by omega, Or.inl ⟨b, rfl⟩⟩
    · refine ⟨by omega, Or.inr ⟨b, ?_⟩⟩
      have : X = 0 := by omega
      subst this
      decide
  · rw [if_neg a]
    by_cases b : 9223372036854775808 ≤ X
    · rw [if_pos b]
      refine ⟨by omega, Or.inr ⟨by omega, ?_⟩⟩
      rw [if_neg (by omega), if_neg (by omega)]
      omega
    · rw [if_neg b]
      refine ⟨by omega, Or.inr ⟨by omega, ?_⟩⟩
      rw [if_pos (by omega), if_pos (by omega)]
      omega
theorem steps_cmp_2 {X N Z : Int} (X0 : 0 ≤ X) (X1 : X < 18446744073709551616) (Z0 : 0 ≤ Z) (Z1 : Z < 18446744073709551616) (h1 : ¬ 9218868437227405312 < X % 9223372036854775808) (h2 : ¬ X = 9218868437227405312) (hN : nxt 9223372036854775808 4503599627370496 X = N) :
    cmpC 9223372036854775808 4503599627370496 X N = -1 ∧ cmpOk 9223372036854775808 4503599627370496 X N = true ∧ tri (rk 9223372036854775808 X) (rk 9223372036854775808 N) = -1 ∧ cmpOk 9223372036854775808 4503599627370496 X Z = decide (Z % 9223372036854775808 ≤ 9218868437227405312) ∧ cmpOk 9223372036854775808 4503599627370496 Z N = decide (Z % 9223372036854775808 ≤ 9218868437227405312) ∧
      (cmpC 9223372036854775808 4503599627370496 X Z < 0 → ¬ cmpC 9223372036854775808 4503599627370496 Z N < 0) := by
  obtain ⟨hNs, hc⟩ := steps_math_2 X0 X1 h1 h2 hN
  have hlt : rk 9223372036854775808 X < rk 9223372036854775808 N := by
    rcases hc with ⟨rfl, rfl⟩ | ⟨_, h⟩
    · decide
    · omega
  have ht : tri (rk 9223372036854775808 X) (rk 9223372036854775808 N) = -1 := by unfold tri; rw [if_pos hlt]
  have hnz : ¬ (X % 9223372036854775808 = 0 ∧ N % 9223372036854775808 = 0) := by
    rintro ⟨a, b⟩
    rcases hc with ⟨rfl, rfl⟩ | ⟨h, h'⟩
    · omega
    · have : X = 0 := by omega
      subst this
      unfold nxt at hN
      rw [if_neg (by omega), if_pos (by omega)] at hN
      omega
  refine ⟨?_, ?_, ht, ?_, ?_, ?_⟩
  · unfold cmpC; rw [if_pos (by omega), if_neg hnz, ht]
  · unfold cmpOk; rw [decide_eq_true]; omega
  · exact decide_eq_decide.2 (by omega)
  · exact decide_eq_decide.2 (by omega)
  · have neg : ∀ u v : Int, cmpC 9223372036854775808 4503599627370496 u v < 0 → rk 9223372036854775808 u < rk 9223372036854775808 v ∧ ¬ (u % 9223372036854775808 = 0 ∧ v % 9223372036854775808 = 0) := by
      intro u v h
      unfold cmpC at h
      split at h
      · split at h
        · omega
        · rename_i hh
          unfold tri at h
          split at h
          · rename_i g; exact ⟨g, hh⟩
          · split at h <;> omega
      · omega
    intro ha hb
    obtain ⟨a1, a2⟩ := neg _ _ ha
    obtain ⟨b1, b2⟩ := neg _ _ hb
    rcases hc with ⟨rfl, rfl⟩ | ⟨_, h⟩
    · have e1 : rk 9223372036854775808 9223372036854775808 = 9223372036854775808 - 1 := by decide
      have e2 : rk 9223372036854775808 1 = 9223372036854775808 + 1 := by decide
      have : Z = 0 := by
        unfold rk at a1 b1
        by_cases c : Z < 9223372036854775808
        · rw [if_pos c] at a1 b1; simp at a1 b1; omega
        · rw [if_neg c] at a1 b1; simp at a1 b1; omega
      subst this
      omega
    · omega

set_option maxRecDepth 20000 in
set_option maxHeartbeats 8000000 in
theorem stepsw_2 {w : World} (L : Lays w) (T : Brn w) (v : Int) (v0 : 0 ≤ v) (v1 : v < 256) (hv : v % 4 = 2) (x : Int) (x0 : 0 ≤ x) (x1 : x < 18446744073709551616) (z : Int) (z0 : 0 ≤ z) (z1 : z < 18446744073709551616) : Calls Tryd.prog 5 #[.int .u8 v, .int .u64 x, .int .u64 z] w fun e w' => e = .returned (.bool true) ∧ Below w.heap.size w w' := by
  have K := Below.refl w.heap.size w
  go_enter Tryd.func5, Tryd.ntmps5
  go_wp2_with fail
  with_reducible refine (lives_ok L T).mono ?_
  rintro x' u103 ⟨rfl, kb⟩
  replace K := below_trans K kb; clear kb
  go_wp2_with fail
  with_reducible refine (lfit_2 _ v v0 v1 hv x x0 x1).mono ?_
  rintro x' u104 ⟨rfl, rfl⟩
  go_wp2_with fail
  with_reducible refine (lfit_2 _ v v0 v1 hv z z0 z1).mono ?_
  rintro x' u105 ⟨rfl, rfl⟩
  obtain ⟨X, hX⟩ : ∃ X, x % 18446744073709551616 = X := ⟨_, rfl⟩
  have X0 : 0 ≤ X := by omega
  have X1 : X < 18446744073709551616 := by omega
  rw [hX]
  clear hX
  obtain ⟨Z, hZ⟩ : ∃ X, z % 18446744073709551616 = X := ⟨_, rfl⟩
  have Z0 : 0 ≤ Z := by omega
  have Z1 : Z < 18446744073709551616 := by omega
  rw [hZ]
  clear hZ
  go_wp2_with fail
  with_reducible refine (lnext_2 (L.below K) v v0 v1 hv X X0 X1).mono ?_
  rintro x' u106 ⟨rfl, kb⟩
  replace K := below_trans K kb; clear kb
  obtain ⟨N0, N1⟩ := nxt_2 X X0 X1
  obtain ⟨N, hN⟩ : ∃ N, nxt 9223372036854775808 4503599627370496 X = N := ⟨_, rfl⟩
  rw [hN] at N0 N1
  rw [hN]
  have HNN := hide hN
  clear hN
  obtain ⟨s, hs⟩ : ∃ s, X % 9223372036854775808 = s := ⟨_, rfl⟩
  have H1 := hide (next_1 9223372036854775808 4503599627370496 X s hs)
  rw [HNN.out] at H1
  go_upto_region 6 with fail
  by_cases p1 : 9218868437227405312 < s
  · have Hx := hide (H1.out (Or.inl (by omega)))
    go_quiet ((first | (go_at_call 23; exact Calls.quiet_of_same (lsign_2 _ v v0 v1 hv)) | (go_at_call 24; exact Calls.quiet_of_same (ltop_2 _ v v0 v1 hv))))
    have K' := fun n => below_drewN K n
    have e := Hx.out
    subst e
    go_wp2
    go_ret
    exact ⟨rfl, K' _⟩
  by_cases p2 : X = 9218868437227405312
  · have Hx := hide (H1.out (Or.inr (by omega)))
    have p2' : (X == 9218868437227405312) = true := by simp [p2]
    clear p2
    go_quiet ((first | (go_at_call 23; exact Calls.quiet_of_same (lsign_2 _ v v0 v1 hv)) | (go_at_call 24; exact Calls.quiet_of_same (ltop_2 _ v v0 v1 hv))))
    have K' := fun n => below_drewN K n
    have e := Hx.out
    subst e
    go_wp2
    go_ret
    exact ⟨rfl, K' _⟩
  have p2' : (X == 9218868437227405312) = false := by simp [p2]
  have HS := hide (steps_cmp_2 X0 X1 Z0 Z1 (by omega) p2 HNN.out)
  go_quiet ((first | (go_at_call 23; exact Calls.quiet_of_same (lsign_2 _ v v0 v1 hv)) | (go_at_call 24; exact Calls.quiet_of_same (ltop_2 _ v v0 v1 hv))))
  replace K := below_drewN K nq
  clear hs p1 p2 p2' H1 HNN
  go_wp2_with fail
  with_reducible refine (lcmp_2 (L.below K) v v0 v1 hv X N X0 X1 N0 N1).mono ?_
  rintro x' u107 ⟨rfl, kb⟩
  replace K := below_trans K kb; clear kb
  rw [HS.out.1, HS.out.2.1]
  go_wp2_with fail
  with_reducible refine (ltotal_2 (L.below K) v v0 v1 hv X N X0 X1 N0 N1).mono ?_
  rintro x' u108 ⟨rfl, kb⟩
  replace K := below_trans K kb; clear kb
  rw [HS.out.2.2.1]
  go_wp2_with fail
  with_reducible refine (lcmp_2 (L.below K) v v0 v1 hv X Z X0 X1 Z0 Z1).mono ?_
  rintro x' u109 ⟨rfl, kb⟩
  replace K := below_trans K kb; clear kb
  rw [HS.out.2.2.2.1]
  have HF := hide HS.out.2.2.2.2
  clear HS
  obtain ⟨p, hp⟩ : ∃ p, Z % 9223372036854775808 = p := ⟨_, rfl⟩
  rw [hp]
  generalize cmpC 9223372036854775808 4503599627370496 X Z = a at *
  go_wp2_with fail
  with_reducible refine (lcmp_2 (L.below K) v v0 v1 hv Z N Z0 Z1 N0 N1).mono ?_
  rintro x' u110 ⟨rfl, kb⟩
  replace K := below_trans K kb; clear kb
  rw [HF.out.1, hp]
  have HG := hide HF.out.2
  clear HF
  generalize cmpC 9223372036854775808 4503599627370496 Z N = b at *
  by_cases pc : p ≤ 9218868437227405312
  · rw [decide_eq_true pc]
    by_cases ac : a < 0
    · have bc := HG.out ac
      have bc2 : decide (b < 0) = false := decide_eq_false (by omega)
      have ac2 : decide (a < 0) = true := decide_eq_true (by omega)
      go_upto_region 13 with fail
      go_quiet ((first | (go_at_call 23; exact Calls.quiet_of_same (lsign_2 _ v v0 v1 hv)) | (go_at_call 24; exact Calls.quiet_of_same (ltop_2 _ v v0 v1 hv))))
      replace K := below_drewN K nq
      go_wp2_with fail
      with_reducible refine (lnext_2 (L.below K) v v0 v1 hv 0 (by decide) (by decide)).mono ?_
      rintro x' u111 ⟨rfl, kb⟩
      replace K := below_trans K kb; clear kb
      rw [show nxt 9223372036854775808 4503599627370496 0 = 1 by decide]
      go_wp2_with fail
      with_reducible refine (lsign_2 _ v v0 v1 hv).mono ?_
      rintro x' u112 ⟨rfl, rfl⟩
      go_wp2_with fail
      with_reducible refine (lnext_2 (L.below K) v v0 v1 hv 9223372036854775808 (by decide) (by decide)).mono ?_
      rintro x' u113 ⟨rfl, kb⟩
      replace K := below_trans K kb; clear kb
      rw [show nxt 9223372036854775808 4503599627370496 9223372036854775808 = 1 by decide]
      go_wp2
      go_ret
      exact ⟨rfl, K⟩
    · have ac2 : decide (a < 0) = false := decide_eq_false (by omega)
      go_upto_region 13 with fail
      go_quiet ((first | (go_at_call 23; exact Calls.quiet_of_same (lsign_2 _ v v0 v1 hv)) | (go_at_call 24; exact Calls.quiet_of_same (ltop_2 _ v v0 v1 hv))))
      replace K := below_drewN K nq
      go_wp2_with fail
      with_reducible refine (lnext_2 (L.below K) v v0 v1 hv 0 (by decide) (by decide)).mono ?_
      rintro x' u114 ⟨rfl, kb⟩
      replace K := below_trans K kb; clear kb
      rw [show nxt 9223372036854775808 4503599627370496 0 = 1 by decide]
      go_wp2_with fail
      with_reducible refine (lsign_2 _ v v0 v1 hv).mono ?_
      rintro x' u115 ⟨rfl, rfl⟩
      go_wp2_with fail
      with_reducible refine (lnext_2 (L.below K) v v0 v1 hv 9223372036854775808 (by decide) (by decide)).mono ?_
      rintro x' u116 ⟨rfl, kb⟩
      replace K := below_trans K kb; clear kb
      rw [show nxt 9223372036854775808 4503599627370496 9223372036854775808 = 1 by decide]
      go_wp2
      go_ret
      exact ⟨rfl, K⟩
  · rw [decide_eq_false pc]
    have pc1 : decide (p ≤ 9218868437227405312) = false := decide_eq_false pc
    have pc2 : ¬ p ≤ 9218868437227405312 := pc
    go_upto_region 13 with fail
    go_quiet ((first | (go_at_call 23; exact Calls.quiet_of_same (lsign_2 _ v v0 v1 hv)) | (go_at_call 24; exact Calls.quiet_of_same (ltop_2 _ v v0 v1 hv))))
    replace K := below_drewN K nq
    go_wp2_with fail
    with_reducible refine (lnext_2 (L.below K) v v0 v1 hv 0 (by decide) (by decide)).mono ?_
    rintro x' u117 ⟨rfl, kb⟩
    replace K := below_trans K kb; clear kb
    rw [show nxt 9223372036854775808 4503599627370496 0 = 1 by decide]
    go_wp2_with fail
    with_reducible refine (lsign_2 _ v v0 v1 hv).mono ?_
    rintro x' u118 ⟨rfl, rfl⟩
    go_wp2_with fail
    with_reducible refine (lnext_2 (L.below K) v v0 v1 hv 9223372036854775808 (by decide) (by decide)).mono ?_
    rintro x' u119 ⟨rfl, kb⟩
    replace K := below_trans K kb; clear kb
    rw [show nxt 9223372036854775808 4503599627370496 9223372036854775808 = 1 by decide]
    go_wp2
    go_ret
    exact ⟨rfl, K⟩

theorem steps_math_3 {X N : Int} (X0 : 0 ≤ X) (X1 : X < 4294967296) (h1 : ¬ 2139095040 < X % 2147483648) (h2 : ¬ X = 2139095040) (hN : nxt 2147483648 8388608 X = N) :
    N % 2147483648 ≤ 2139095040 ∧ (X = 2147483648 ∧ N = 1 ∨ X ≠ 2147483648 ∧ rk 2147483648 N = rk 2147483648 X + 1) := by
  subst hN
  unfold nxt rk
  rw [if_neg (by omega)]
  by_cases a : X % 2147483648 = 0
  · rw [if_pos a]
    by_cases b : X = 2147483648
    · exact ⟨by omega, Or.inl ⟨b, rfl⟩⟩
    · refine ⟨by omega, Or.inr ⟨b, ?_⟩⟩
      have : X = 0 := by omega
      subst this
      decide
  · rw [if_neg a]
    by_cases b : 2147483648 ≤ X
    · rw [if_pos b]
      refine ⟨by omega, Or.inr ⟨by omega, ?_⟩⟩
      rw [if_neg (by omega), if_neg (by omega)]
      omega
    · rw [if_neg b]
      refine ⟨by omega, Or.inr ⟨by omega, ?_⟩⟩
      rw [if_pos (by omega), if_pos (by omega)]
      omega
theorem steps_cmp_3 {X N Z : Int} (X0 : 0 ≤ X) (X1 : X < 4294967296) (Z0 : 0 ≤ Z) (Z1 : Z < 4294967296) (h1 : ¬ 2139095040 < X % 2147483648) (h2 : ¬ X = 2139095040) (hN : nxt 2147483648 8388608 X = N) :
    cmpC 2147483648 8388608 X N = -1 ∧ cmpOk 2147483648 8388608 X N = true ∧ tri (rk 2147483648 X) (rk 2147483648 N) = -1 ∧ cmpOk 2147483648 8388608 X Z = decide (Z % 2147483648 ≤ 2139095040) ∧ cmpOk 2147483648 8388608 Z N = decide (Z % 2147483648 ≤ 2139095040) ∧
      (cmpC 2147483648 8388608 X Z < 0 → ¬ cmpC 2147483648 8388608 Z N < 0) := by
  obtain ⟨hNs, hc⟩ := steps_math_3 X0 X1 h1 h2 hN
  have hlt : rk 2147483648 X < rk 2147483648 N := by
    rcases hc with ⟨rfl, rfl⟩ | ⟨_, h⟩
    · decide
    · omega
  have ht : tri (rk 2147483648 X) (rk 2147483648 N) = -1 := by unfold tri; rw [if_pos hlt]
  have hnz : ¬ (X % 2147483648 = 0 ∧ N % 2147483648 = 0) := by
    rintro ⟨a, b⟩
    rcases hc with ⟨rfl, rfl⟩ | ⟨h, h'⟩
    · omega
    · have : X = 0 := by omega
      subst this
      unfold nxt at hN
      rw [if_neg (by omega), if_pos (by omega)] at hN
      omega
  refine ⟨?_, ?_, ht, ?_, ?_, ?_⟩
  · unfold cmpC; rw [if_pos (by omega), if_neg hnz, ht]
  · unfold cmpOk; rw [decide_eq_true]; omega
  · exact decide_eq_decide.2 (by omega)
  · exact decide_eq_decide.2 (by omega)
  · have neg : ∀ u v : Int, cmpC 2147483648 8388608 u v < 0 → rk 2147483648 u < rk 2147483648 v ∧ ¬ (u % 2147483648 = 0 ∧ v % 2147483648 = 0) := by
      intro u v h
      unfold cmpC at h
      split at h
      · split at h
        · omega
        · rename_i hh
          unfold tri at h
          split at h
          · rename_i g; exact ⟨g, hh⟩
          · split at h <;> omega
      · omega
    intro ha hb
    obtain ⟨a1, a2⟩ := neg _ _ ha
    obtain ⟨b1, b2⟩ := neg _ _ hb
    rcases hc with ⟨rfl, rfl⟩ | ⟨_, h⟩
    · have e1 : rk 2147483648 2147483648 = 2147483648 - 1 := by decide
      have e2 : rk 2147483648 1 = 2147483648 + 1 := by decide
      have : Z = 0 := by
        unfold rk at a1 b1
        by_cases c : Z < 2147483648
        · rw [if_pos c] at a1 b1; simp at a1 b1; omega
        · rw [if_neg c] at a1 b1; simp at a1 b1; omega
      subst this
      omega
    · omega

set_option maxRecDepth 20000 in
set_option maxHeartbeats 8000000 in
theorem stepsw_3 {w : World} (L : Lays w) (T : Brn w) (v : Int) (v0 : 0 ≤ v) (v1 : v < 256) (hv : v % 4 = 3) (x : Int) (x0 : 0 ≤ x) (x1 : x < 18446744073709551616) (z : Int) (z0 : 0 ≤ z) (z1 : z < 18446744073709551616) : Calls Tryd.prog 5 #[.int .u8 v, .int .u64 x, .int .u64 z] w fun e w' => e = .returned (.bool true) ∧ Below w.heap.size w w' := by
  have K := Below.refl w.heap.size w
  go_enter Tryd.func5, Tryd.ntmps5
  go_wp2_with fail
  with_reducible refine (lives_ok L T).mono ?_
  rintro x' u120 ⟨rfl, kb⟩
  replace K := below_trans K kb; clear kb
  go_wp2_with fail
  with_reducible refine (lfit_3 _ v v0 v1 hv x x0 x1).mono ?_
  rintro x' u121 ⟨rfl, rfl⟩
  go_wp2_with fail
  with_reducible refine (lfit_3 _ v v0 v1 hv z z0 z1).mono ?_
  rintro x' u122 ⟨rfl, rfl⟩
  obtain ⟨X, hX⟩ : ∃ X, x % 4294967296 = X := ⟨_, rfl⟩
  have X0 : 0 ≤ X := by omega
  have X1 : X < 4294967296 := by omega
  rw [hX]
  clear hX
  obtain ⟨Z, hZ⟩ : ∃ X, z % 4294967296 = X := ⟨_, rfl⟩
  have Z0 : 0 ≤ Z := by omega
  have Z1 : Z < 4294967296 := by omega
  rw [hZ]
  clear hZ
  go_wp2_with fail
  with_reducible refine (lnext_3 (L.below K) v v0 v1 hv X X0 X1).mono ?_
  rintro x' u123 ⟨rfl, kb⟩
  replace K := below_trans K kb; clear kb
  obtain ⟨N0, N1⟩ := nxt_3 X X0 X1
  obtain ⟨N, hN⟩ : ∃ N, nxt 2147483648 8388608 X = N := ⟨_, rfl⟩
  rw [hN] at N0 N1
  rw [hN]
  have HNN := hide hN
  clear hN
  obtain ⟨s, hs⟩ : ∃ s, X % 2147483648 = s := ⟨_, rfl⟩
  have H1 := hide (next_1 2147483648 8388608 X s hs)
  rw [HNN.out] at H1
  go_upto_region 6 with fail
  by_cases p1 : 2139095040 < s
  · have Hx := hide (H1.out (Or.inl (by omega)))
    go_quiet ((first | (go_at_call 23; exact Calls.quiet_of_same (lsign_3 _ v v0 v1 hv)) | (go_at_call 24; exact Calls.quiet_of_same (ltop_3 _ v v0 v1 hv))))
    have K' := fun n => below_drewN K n
    have e := Hx.out
    subst e
    go_wp2
    go_ret
    exact ⟨rfl, K' _⟩
  by_cases p2 : X = 2139095040
  · have Hx := hide (H1.out (Or.inr (by omega)))
    have p2' : (X == 2139095040) = true := by simp [p2]
    clear p2
    go_quiet ((first | (go_at_call 23; exact Calls.quiet_of_same (lsign_3 _ v v0 v1 hv)) | (go_at_call 24; exact Calls.quiet_of_same (ltop_3 _ v v0 v1 hv))))
    have K' := fun n => below_drewN K n
    have e := Hx.out
    subst e
    go_wp2
    go_ret
    exact ⟨rfl, K' _⟩
  have p2' : (X == 2139095040) = false := by simp [p2]
  have HS := hide (steps_cmp_3 X0 X1 Z0 Z1 (by omega) p2 HNN.out)
  go_quiet ((first | (go_at_call 23; exact Calls.quiet_of_same (lsign_3 _ v v0 v1 hv)) | (go_at_call 24; exact Calls.quiet_of_same (ltop_3 _ v v0 v1 hv))))
  replace K := below_drewN K nq
  clear hs p1 p2 p2' H1 HNN
  go_wp2_with fail
  with_reducible refine (lcmp_3 (L.below K) v v0 v1 hv X N X0 X1 N0 N1).mono ?_
  rintro x' u124 ⟨rfl, kb⟩
  replace K := below_trans K kb; clear kb
  rw [HS.out.1, HS.out.2.1]
  go_wp2_with fail
  with_reducible refine (ltotal_3 (L.below K) v v0 v1 hv X N X0 X1 N0 N1).mono ?_
  rintro x' u125 ⟨rfl, kb⟩
  replace K := below_trans K kb; clear kb
  rw [HS.out.2.2.1]
  go_wp2_with fail
  with_reducible refine (lcmp_3 (L.below K) v v0 v1 hv X Z X0 X1 Z0 Z1).mono ?_
  rintro x' u126 ⟨rfl, kb⟩
  replace K := below_trans K kb; clear kb
  rw [HS.out.2.2.2.1]
  have HF := hide HS.out.2.2.2.2
  clear HS
  obtain ⟨p, hp⟩ : ∃ p, Z % 2147483648 = p := ⟨_, rfl⟩
  rw [hp]
  generalize cmpC 2147483648 8388608 X Z = a at *
  go_wp2_with fail
  with_reducible refine (lcmp_3 (L.below K) v v0 v1 hv Z N Z0 Z1 N0 N1).mono ?_
  rintro x' u127 ⟨rfl, kb⟩
  replace K := below_trans K kb; clear kb
  rw [HF.out.1, hp]
  have HG := hide HF.out.2
  clear HF
  generalize cmpC 2147483648 8388608 Z N = b at *
  by_cases pc : p ≤ 2139095040
  · rw [decide_eq_true pc]
    by_cases ac : a < 0
    · have bc := HG.out ac
      have bc2 : decide (b < 0) = false := decide_eq_false (by omega)
      have ac2 : decide (a < 0) = true := decide_eq_true (by omega)
      go_upto_region 13 with fail
      go_quiet ((first | (go_at_call 23; exact Calls.quiet_of_same (lsign_3 _ v v0 v1 hv)) | (go_at_call 24; exact Calls.quiet_of_same (ltop_3 _ v v0 v1 hv))))
      replace K := below_drewN K nq
      go_wp2_with fail
      with_reducible refine (lnext_3 (L.below K) v v0 v1 hv 0 (by decide) (by decide)).mono ?_
      rintro x' u128 ⟨rfl, kb⟩
      replace K := below_trans K kb; clear kb
      rw [show nxt 2147483648 8388608 0 = 1 by decide]
      go_wp2_with fail
      with_reducible refine (lsign_3 _ v v0 v1 hv).mono ?_
      rintro x' u129 ⟨rfl, rfl⟩
      go_wp2_with fail
      with_reducible refine (lnext_3 (L.below K) v v0 v1 hv 2147483648 (by decide) (by decide)).mono ?_
      rintro x' u130 ⟨rfl, kb⟩
      replace K := below_trans K kb; clear kb
      rw [show nxt 2147483648 8388608 2147483648 = 1 by decide]
      go_wp2
      go_ret
      exact ⟨rfl, K⟩
    · have ac2 : decide (a < 0) = false := decide_eq_false (by omega)
      go_upto_region 13 with fail
      go_quiet ((first | (go_at_call 23; exact Calls.quiet_of_same (lsign_3 _ v v0 v1 hv)) | (go_at_call 24; exact Calls.quiet_of_same (ltop_3 _ v v0 v1 hv))))
      replace K := below_drewN K nq
      go_wp2_with fail
      with_reducible refine (lnext_3 (L.below K) v v0 v1 hv 0 (by decide) (by decide)).mono ?_
      rintro x' u131 ⟨rfl, kb⟩
      replace K := below_trans K kb; clear kb
      rw [show nxt 2147483648 8388608 0 = 1 by decide]
      go_wp2_with fail
      with_reducible refine (lsign_3 _ v v0 v1 hv).mono ?_
      rintro x' u132 ⟨rfl, rfl⟩
      go_wp2_with fail
      with_reducible refine (lnext_3 (L.below K) v v0 v1 hv 2147483648 (by decide) (by decide)).mono ?_
      rintro x' u133 ⟨rfl, kb⟩
      replace K := below_trans K kb; clear kb
      rw [show nxt 2147483648 8388608 2147483648 = 1 by decide]
      go_wp2
      go_ret
      exact ⟨rfl, K⟩
  · rw [decide_eq_false pc]
    have pc1 : decide (p ≤ 2139095040) = false := decide_eq_false pc
    have pc2 : ¬ p ≤ 2139095040 := pc
    go_upto_region 13 with fail
    go_quiet ((first | (go_at_call 23; exact Calls.quiet_of_same (lsign_3 _ v v0 v1 hv)) | (go_at_call 24; exact Calls.quiet_of_same (ltop_3 _ v v0 v1 hv))))
    replace K := below_drewN K nq
    go_wp2_with fail
    with_reducible refine (lnext_3 (L.below K) v v0 v1 hv 0 (by decide) (by decide)).mono ?_
    rintro x' u134 ⟨rfl, kb⟩
    replace K := below_trans K kb; clear kb
    rw [show nxt 2147483648 8388608 0 = 1 by decide]
    go_wp2_with fail
    with_reducible refine (lsign_3 _ v v0 v1 hv).mono ?_
    rintro x' u135 ⟨rfl, rfl⟩
    go_wp2_with fail
    with_reducible refine (lnext_3 (L.below K) v v0 v1 hv 2147483648 (by decide) (by decide)).mono ?_
    rintro x' u136 ⟨rfl, kb⟩
    replace K := below_trans K kb; clear kb
    rw [show nxt 2147483648 8388608 2147483648 = 1 by decide]
    go_wp2
    go_ret
    exact ⟨rfl, K⟩

theorem steps_walk {w : World} (h : Lays w ∧ Brn w) (v : Int) (v0 : 0 ≤ v) (v1 : v < 256) (x : Int) (x0 : 0 ≤ x) (x1 : x < 18446744073709551616) (z : Int) (z0 : 0 ≤ z) (z1 : z < 18446744073709551616) : Calls Tryd.prog 5 #[.int .u8 v, .int .u64 x, .int .u64 z] w fun e w' => e = .returned (.bool true) ∧ Below w.heap.size w w' := by
  rcases (by omega : v % 4 = 0 ∨ v % 4 = 1 ∨ v % 4 = 2 ∨ v % 4 = 3) with k | k | k | k
  · exact stepsw_0 h.1 h.2 v v0 v1 k x x0 x1 z z0 z1
  · exact stepsw_1 h.1 h.2 v v0 v1 k x x0 x1 z z0 z1
  · exact stepsw_2 h.1 h.2 v v0 v1 k x x0 x1 z z0 z1
  · exact stepsw_3 h.1 h.2 v v0 v1 k x x0 x1 z z0 z1

end Go.Proofs.YtomjckginmjhmaaDoor
