/- IeeeBack's walk, to one width (mk_iback.py) -/
import Derived.Test.YtmmkdihhcmcjjaaDoorIBackL
namespace Go.Proofs.YtmmkdihhcmcjjaaDoor
open Go.RowKit
set_option linter.unusedVariables false

set_option maxRecDepth 20000 in
set_option maxHeartbeats 8000000 in
theorem iback_2_0 {w : World} (L : Lays w) (T : Brn w) (u : Int) (u0 : 0 ≤ u) (u1 : u < 256) (hu : u % 4 = 2) (v : Int) (v0 : 0 ≤ v) (v1 : v < 256) (hv : v % 4 = 0) (x : Int) (x0 : 0 ≤ x) (x1 : x < 18446744073709551616) :
    Calls Tryd.prog 6 #[.int .u8 u, .int .u8 v, .int .u64 x] w fun e w' => e = .returned (.bool true) ∧ Below w.heap.size w w' := by
  have K := Below.refl w.heap.size w
  go_enter Tryd.func6, Tryd.ntmps6
  go_wp2_with fail
  with_reducible refine (lives_ok L T).mono ?_
  rintro x' u313 ⟨rfl, kb⟩
  replace K := below_trans K kb; clear kb
  go_wp2_with fail
  with_reducible refine (lfit_0 _ v v0 v1 hv x x0 x1).mono ?_
  rintro x' u314 ⟨rfl, rfl⟩
  obtain ⟨X, hX⟩ : ∃ X, x % 65536 = X := ⟨_, rfl⟩
  have X0 : 0 ≤ X := by omega
  have X1 : X < 65536 := by omega
  rw [hX]
  clear hX
  obtain ⟨s, hs⟩ : ∃ s, X % 32768 = s := ⟨_, rfl⟩
  have s0 : 0 ≤ s := by omega
  obtain ⟨ng, hng⟩ : ∃ b, b = decide (32768 ≤ X) := ⟨_, rfl⟩
  have s1 : s < 32768 := by omega
  have Hx : Hid (X = s + b2i ng * 32768) := by
    refine hide ?_
    subst hng
    by_cases c : 32768 ≤ X
    · rw [decide_eq_true c, show b2i true = 1 from rfl]; omega
    · rw [decide_eq_false c, show b2i false = 0 from rfl]; omega
  have hgd : decide (32768 ≤ X) = ng := hng.symm
  have Hs := hide hs
  have Hng := hide hng
  clear hng
  go_wp2_with fail
  with_reducible refine (lsign_0 _ v v0 v1 hv).mono ?_
  rintro x' u315 ⟨rfl, rfl⟩
  go_wp2_with fail
  with_reducible refine (bparts_0 (L.below K) (T.below K) v v0 v1 hv X s ng X0 X1 Hs.out Hng.out).mono ?_
  rintro x' u316 ⟨a, m, E, ok, rfl, hP, kb⟩
  replace K := below_trans K kb; clear kb
  obtain ⟨m0, m1, E0, E1⟩ := part_bounds (F := 1024) (L := (-24)) (S := 32768) (by decide) (by decide) (by decide) s0 s1 (by unfold est; split <;> omega) (by decide) hP
  go_upto_region 6 with fail
  go_cut [7, 72] from 20 (fun s7 s72 w2 => s7 = .int .u64 s ∧ s72 = .bool false ∧ Below w.heap.size w w2)
  case first =>
    go_wp2_with fail
    with_reducible refine (ltop_0 _ v v0 v1 hv).mono ?_
    rintro x' u317 ⟨rfl, rfl⟩
    by_cases fin : s < 31744
    · obtain ⟨hok, hag, pz, po⟩ := hP.2 fin
      subst hok
      have hag' := hag.symm
      subst hag'
      have HP := hide hP
      have hor : s = 0 ∨ m % 2 = 1 := by
        rcases Int.lt_or_eq_of_le s0 with c | c
        · exact Or.inr (po c).1
        · exact Or.inl c.symm
      clear hP pz po
      go_wp2_with fail
      with_reducible refine (lsign_0 _ v v0 v1 hv).mono ?_
      rintro x' u318 ⟨rfl, rfl⟩
      rcases hor with z | od
      · have z' : (s == 0) = true := by simp [z]
        by_cases ev : m % 2 = 0
        · have ev' : (m % 2 == 0) = true := by simp [ev]
          clear z ev
          go_wp2_with fail
          with_reducible refine (from_any m m0 (by omega)).mono ?_
          rintro x' u319 ⟨vm, rfl, hM, kb⟩
          replace K := below_trans K kb; clear kb
          go_wp2_with fail
          with_reducible refine (lround_0 (L.below K) v v0 v1 hv (neg := ng) (more := false) (e := E) hM.arg (by decide) (by omega) (by omega)).mono ?_
          rintro x' u320 ⟨r, rfl, hN, kb⟩
          replace K := below_trans K kb; clear kb
          have hrs := near_self (by decide) (by decide) s0 fin HP.out hN
          rw [hrs, ← Hx.out]
          clear hN hM HP hrs
          go_wp2
          go_meet
          case rel => exact ⟨by first | rfl | (rw [eq_of_beq z']), rfl, K⟩
          all_goals exact absurd (eq_of_beq z') (by assumption)
        · have ev' : (m % 2 == 0) = false := by simp [ev]
          clear z ev
          go_wp2_with fail
          with_reducible refine (from_any m m0 (by omega)).mono ?_
          rintro x' u319 ⟨vm, rfl, hM, kb⟩
          replace K := below_trans K kb; clear kb
          go_wp2_with fail
          with_reducible refine (lround_0 (L.below K) v v0 v1 hv (neg := ng) (more := false) (e := E) hM.arg (by decide) (by omega) (by omega)).mono ?_
          rintro x' u320 ⟨r, rfl, hN, kb⟩
          replace K := below_trans K kb; clear kb
          have hrs := near_self (by decide) (by decide) s0 fin HP.out hN
          rw [hrs, ← Hx.out]
          clear hN hM HP hrs
          go_wp2
          go_meet
          case rel => exact ⟨by first | rfl | (rw [eq_of_beq z']), rfl, K⟩
      · have ev' : (m % 2 == 0) = false := by simp [od]
        clear od
        go_wp2_with fail
        with_reducible refine (from_any m m0 (by omega)).mono ?_
        rintro x' u321 ⟨vm, rfl, hM, kb⟩
        replace K := below_trans K kb; clear kb
        go_wp2_with fail
        with_reducible refine (lround_0 (L.below K) v v0 v1 hv (neg := ng) (more := false) (e := E) hM.arg (by decide) (by omega) (by omega)).mono ?_
        rintro x' u322 ⟨r, rfl, hN, kb⟩
        replace K := below_trans K kb; clear kb
        have hrs := near_self (by decide) (by decide) s0 fin HP.out hN
        rw [hrs, ← Hx.out]
        clear hN hM HP hrs
        go_wp2
        go_meet
        case rel => exact ⟨by first | rfl | (rw [eq_of_beq z']), rfl, K⟩
    · obtain ⟨rfl, rfl, rfl, rfl⟩ := hP.1 (by omega)
      clear hP
      go_wp2
      go_meet
      case rel => exact ⟨rfl, by first | rfl | rw [decide_eq_false (by omega)], K⟩
  case rest =>
    clear K hP
    obtain ⟨rfl, rfl, K⟩ := hcut
    by_cases nan : 31744 < s
    · skip
      go_wp2_with fail
      with_reducible refine (bto_2_0 (L.below K) (T.below K) u u0 u1 hu v v0 v1 hv X s ng X0 X1 Hs.out Hng.out).mono ?_
      rintro x' u323 ⟨y, same, rfl, hT, y0, y1, kb⟩
      replace K := below_trans K kb; clear kb
      have hT1 : y = 9221120237041090560 ∧ same = true := by
        rcases hT with ⟨_, h1, h2⟩ | ⟨h, _⟩ | ⟨h, _⟩
        · exact ⟨by rw [h1]; rfl, h2⟩
        · omega
        · omega
      obtain ⟨rfl, rfl⟩ := hT1
      clear hT
      go_wp2_with fail
      with_reducible refine (bto_0_2 (L.below K) (T.below K) v v0 v1 hv u u0 u1 hu 9221120237041090560 9221120237041090560 false (by decide) (by decide) (by decide) (by decide)).mono ?_
      rintro x' u324 ⟨back, ok2, rfl, hT2, w0, w1, kb⟩
      replace K := below_trans K kb; clear kb
      have hT3 : back = 32256 := by
        rcases hT2 with ⟨_, h1, h2⟩ | ⟨h, _⟩ | ⟨h, _⟩
        · rw [h1]; rfl
        · omega
        · omega
      subst hT3
      clear hT2 w0 w1
      go_wp2_with fail
      with_reducible refine (ltop_0 _ v v0 v1 hv).mono ?_
      rintro x' u325 ⟨rfl, rfl⟩
      go_wp2_with fail
      with_reducible refine (lnan_2 _ u u0 u1 hu).mono ?_
      rintro x' u326 ⟨rfl, rfl⟩
      go_wp2_with fail
      with_reducible refine (lnan_0 _ v v0 v1 hv).mono ?_
      rintro x' u327 ⟨rfl, rfl⟩
      go_wp2
      go_ret
      exact ⟨rfl, K⟩
    have hle : s ≤ 31744 := by omega
    go_wp2_with fail
    with_reducible refine (bto_2_0 (L.below K) (T.below K) u u0 u1 hu v v0 v1 hv X s ng X0 X1 Hs.out Hng.out).mono ?_
    rintro x' u328 ⟨y, same, rfl, hT, y0, y1, kb⟩
    replace K := below_trans K kb; clear kb
    obtain ⟨hsame, s', p0, p1, hy, hback⟩ := back_up (Sa := 32768) (z := X) (ok2 := true) (lima := 16) (limb := 1024) (fra := 10) (frb := 52) (by decide) (by decide) (by decide) (by decide) (by decide) (by decide) (by decide) (by decide) (by decide) (by decide) (by decide) s0 hle hT
    subst hsame
    clear hback
    have HT := hide hT
    clear hT
    obtain ⟨y2, y3, -, -⟩ := sgn_split (S := 9223372036854775808) ng p0 (by omega)
    rw [← hy] at y2 y3
    have Hy := hide hy
    clear hy
    go_wp2_with fail
    with_reducible refine (bto_0_2 (L.below K) (T.below K) v v0 v1 hv u u0 u1 hu y s' ng y0 y1 y2 y3).mono ?_
    rintro x' u329 ⟨back, ok2, rfl, hT2, w0, w1, kb⟩
    replace K := below_trans K kb; clear kb
    have HB : Hid (back = s + b2i ng * 32768) := by
      obtain ⟨-, s9, r0, r1, ry, rb⟩ := back_up (Sa := 32768) (z := back) (ok2 := ok2) (lima := 16) (limb := 1024) (fra := 10) (frb := 52) (by decide) (by decide) (by decide) (by decide) (by decide) (by decide) (by decide) (by decide) (by decide) (by decide) (by decide) s0 hle HT.out
      have e9 : s9 = s' := by have := Hy.out; omega
      subst e9
      exact hide (rb hT2)
    clear hT2 HT Hy y2 y3 w0 w1 y0 y1
    have nn : ¬ 31744 < s := by omega
    go_wp2_with fail
    with_reducible refine (ltop_0 _ v v0 v1 hv).mono ?_
    rintro x' u330 ⟨rfl, rfl⟩
    have hbk : back = X := by rw [HB.out, Hx.out]
    subst hbk
    go_wp2_with fail
    with_reducible refine (lwidth_2 _ u u0 u1 hu).mono ?_
    rintro x' u331 ⟨rfl, rfl⟩
    go_wp2_with fail
    with_reducible refine (lwidth_0 _ v v0 v1 hv).mono ?_
    rintro x' u332 ⟨rfl, rfl⟩
    clear HB
    go_wp2_with fail
    with_reducible refine (bwhole_0 (L.below K) (T.below K) v v0 v1 hv back s ng X0 X1 Hs.out Hng.out).mono ?_
    rintro x' u333 ⟨va, n, is, rfl, hR, hI, kb⟩
    replace K := below_trans K kb; clear kb
    obtain ⟨rg, ro, rl, rfl⟩ := hR.told
    have HI := hide hI
    clear hI
    go_upto_region 15 with fail
    rename World => q1
    have D1 := cell2_new q1 (.bool rg) (.slice ro rl rl) 38
    have k1 := bel_new q1 (.cells #[.bool rg, .slice ro rl rl] 38)
    replace K := below_trans K k1
    replace hR := hR.below k1
    clear k1
    generalize hb1 : q1.heap.size = b1 at *
    generalize q1.alloc (.cells #[.bool rg, .slice ro rl rl] 38) = q2 at *
    clear hb1
    obtain ⟨c0, c1, -, -⟩ := D1.told
    cases is
    · have n0 := int_no HI.out
      subst n0
      obtain ⟨hsg, hmag⟩ := wnum_sign hR
      obtain ⟨zs, ⟨zo, ze, -, -⟩, hcan, hval, -⟩ := hmag
      have hz := empty_len hcan hval
      injection ze with z1 z2 z3
      have hrg : rg = false := by rw [hsg]; rfl
      have hrl : rl = 0 := by omega
      subst hrg hrl
      clear hsg hcan hval hz z1 z2 z3 hR HI
      go_wp2
      go_ret
      exact ⟨rfl, K⟩
    go_wp2_with fail
    with_reducible refine (bfrom_0 (L.below K) (T.below K) v v0 v1 hv hR.arg (by decide)).mono ?_
    rintro x' u334 ⟨z, fine, rfl, hF, kb⟩
    replace K := below_trans K kb; clear kb
    obtain ⟨rfl, hz⟩ := from_back (by decide) (by decide) (by decide) (by decide) s0 (by omega) (by unfold est; split <;> omega) (by decide) (by decide) HI.out hF
    clear hF HI hR c0 c1 D1
    rcases hz with hz | ⟨z1, z2, z3⟩
    · have e1 : z = back := by rw [hz, Hx.out]
      have e2 : (z == back) = true := by simp [e1]
      clear hz e1
      go_wp2
      go_ret
      exact ⟨rfl, K⟩
    · have ex : back = 32768 := by rw [Hx.out, z1, z2]; rfl
      have e2 : (z == back) = false := by rw [z3, ex]; rfl
      have e3 : (back == 32768) = true := by rw [ex]; rfl
      have e4 : (z == 0) = true := by rw [z3]; rfl
      clear ex z1 z2 z3
      go_wp2_with fail
      with_reducible refine (lsign_0 _ v v0 v1 hv).mono ?_
      rintro x' u335 ⟨rfl, rfl⟩
      go_wp2
      go_ret
      exact ⟨rfl, K⟩

set_option maxRecDepth 20000 in
set_option maxHeartbeats 8000000 in
theorem iback_2_1 {w : World} (L : Lays w) (T : Brn w) (u : Int) (u0 : 0 ≤ u) (u1 : u < 256) (hu : u % 4 = 2) (v : Int) (v0 : 0 ≤ v) (v1 : v < 256) (hv : v % 4 = 1) (x : Int) (x0 : 0 ≤ x) (x1 : x < 18446744073709551616) :
    Calls Tryd.prog 6 #[.int .u8 u, .int .u8 v, .int .u64 x] w fun e w' => e = .returned (.bool true) ∧ Below w.heap.size w w' := by
  have K := Below.refl w.heap.size w
  go_enter Tryd.func6, Tryd.ntmps6
  go_wp2_with fail
  with_reducible refine (lives_ok L T).mono ?_
  rintro x' u336 ⟨rfl, kb⟩
  replace K := below_trans K kb; clear kb
  go_wp2_with fail
  with_reducible refine (lfit_1 _ v v0 v1 hv x x0 x1).mono ?_
  rintro x' u337 ⟨rfl, rfl⟩
  obtain ⟨X, hX⟩ : ∃ X, x % 4294967296 = X := ⟨_, rfl⟩
  have X0 : 0 ≤ X := by omega
  have X1 : X < 4294967296 := by omega
  rw [hX]
  clear hX
  obtain ⟨s, hs⟩ : ∃ s, X % 2147483648 = s := ⟨_, rfl⟩
  have s0 : 0 ≤ s := by omega
  obtain ⟨ng, hng⟩ : ∃ b, b = decide (2147483648 ≤ X) := ⟨_, rfl⟩
  have s1 : s < 2147483648 := by omega
  have Hx : Hid (X = s + b2i ng * 2147483648) := by
    refine hide ?_
    subst hng
    by_cases c : 2147483648 ≤ X
    · rw [decide_eq_true c, show b2i true = 1 from rfl]; omega
    · rw [decide_eq_false c, show b2i false = 0 from rfl]; omega
  have hgd : decide (2147483648 ≤ X) = ng := hng.symm
  have Hs := hide hs
  have Hng := hide hng
  clear hng
  go_wp2_with fail
  with_reducible refine (lsign_1 _ v v0 v1 hv).mono ?_
  rintro x' u338 ⟨rfl, rfl⟩
  go_wp2_with fail
  with_reducible refine (bparts_1 (L.below K) (T.below K) v v0 v1 hv X s ng X0 X1 Hs.out Hng.out).mono ?_
  rintro x' u339 ⟨a, m, E, ok, rfl, hP, kb⟩
  replace K := below_trans K kb; clear kb
  obtain ⟨m0, m1, E0, E1⟩ := part_bounds (F := 8388608) (L := (-149)) (S := 2147483648) (by decide) (by decide) (by decide) s0 s1 (by unfold est; split <;> omega) (by decide) hP
  go_upto_region 6 with fail
  go_cut [7, 72] from 20 (fun s7 s72 w2 => s7 = .int .u64 s ∧ s72 = .bool false ∧ Below w.heap.size w w2)
  case first =>
    go_wp2_with fail
    with_reducible refine (ltop_1 _ v v0 v1 hv).mono ?_
    rintro x' u340 ⟨rfl, rfl⟩
    by_cases fin : s < 2139095040
    · obtain ⟨hok, hag, pz, po⟩ := hP.2 fin
      subst hok
      have hag' := hag.symm
      subst hag'
      have HP := hide hP
      have hor : s = 0 ∨ m % 2 = 1 := by
        rcases Int.lt_or_eq_of_le s0 with c | c
        · exact Or.inr (po c).1
        · exact Or.inl c.symm
      clear hP pz po
      go_wp2_with fail
      with_reducible refine (lsign_1 _ v v0 v1 hv).mono ?_
      rintro x' u341 ⟨rfl, rfl⟩
      rcases hor with z | od
      · have z' : (s == 0) = true := by simp [z]
        by_cases ev : m % 2 = 0
        · have ev' : (m % 2 == 0) = true := by simp [ev]
          clear z ev
          go_wp2_with fail
          with_reducible refine (from_any m m0 (by omega)).mono ?_
          rintro x' u342 ⟨vm, rfl, hM, kb⟩
          replace K := below_trans K kb; clear kb
          go_wp2_with fail
          with_reducible refine (lround_1 (L.below K) v v0 v1 hv (neg := ng) (more := false) (e := E) hM.arg (by decide) (by omega) (by omega)).mono ?_
          rintro x' u343 ⟨r, rfl, hN, kb⟩
          replace K := below_trans K kb; clear kb
          have hrs := near_self (by decide) (by decide) s0 fin HP.out hN
          rw [hrs, ← Hx.out]
          clear hN hM HP hrs
          go_wp2
          go_meet
          case rel => exact ⟨by first | rfl | (rw [eq_of_beq z']), rfl, K⟩
          all_goals exact absurd (eq_of_beq z') (by assumption)
        · have ev' : (m % 2 == 0) = false := by simp [ev]
          clear z ev
          go_wp2_with fail
          with_reducible refine (from_any m m0 (by omega)).mono ?_
          rintro x' u342 ⟨vm, rfl, hM, kb⟩
          replace K := below_trans K kb; clear kb
          go_wp2_with fail
          with_reducible refine (lround_1 (L.below K) v v0 v1 hv (neg := ng) (more := false) (e := E) hM.arg (by decide) (by omega) (by omega)).mono ?_
          rintro x' u343 ⟨r, rfl, hN, kb⟩
          replace K := below_trans K kb; clear kb
          have hrs := near_self (by decide) (by decide) s0 fin HP.out hN
          rw [hrs, ← Hx.out]
          clear hN hM HP hrs
          go_wp2
          go_meet
          case rel => exact ⟨by first | rfl | (rw [eq_of_beq z']), rfl, K⟩
      · have ev' : (m % 2 == 0) = false := by simp [od]
        clear od
        go_wp2_with fail
        with_reducible refine (from_any m m0 (by omega)).mono ?_
        rintro x' u344 ⟨vm, rfl, hM, kb⟩
        replace K := below_trans K kb; clear kb
        go_wp2_with fail
        with_reducible refine (lround_1 (L.below K) v v0 v1 hv (neg := ng) (more := false) (e := E) hM.arg (by decide) (by omega) (by omega)).mono ?_
        rintro x' u345 ⟨r, rfl, hN, kb⟩
        replace K := below_trans K kb; clear kb
        have hrs := near_self (by decide) (by decide) s0 fin HP.out hN
        rw [hrs, ← Hx.out]
        clear hN hM HP hrs
        go_wp2
        go_meet
        case rel => exact ⟨by first | rfl | (rw [eq_of_beq z']), rfl, K⟩
    · obtain ⟨rfl, rfl, rfl, rfl⟩ := hP.1 (by omega)
      clear hP
      go_wp2
      go_meet
      case rel => exact ⟨rfl, by first | rfl | rw [decide_eq_false (by omega)], K⟩
  case rest =>
    clear K hP
    obtain ⟨rfl, rfl, K⟩ := hcut
    by_cases nan : 2139095040 < s
    · skip
      go_wp2_with fail
      with_reducible refine (bto_2_1 (L.below K) (T.below K) u u0 u1 hu v v0 v1 hv X s ng X0 X1 Hs.out Hng.out).mono ?_
      rintro x' u346 ⟨y, same, rfl, hT, y0, y1, kb⟩
      replace K := below_trans K kb; clear kb
      have hT1 : y = 9221120237041090560 ∧ same = true := by
        rcases hT with ⟨_, h1, h2⟩ | ⟨h, _⟩ | ⟨h, _⟩
        · exact ⟨by rw [h1]; rfl, h2⟩
        · omega
        · omega
      obtain ⟨rfl, rfl⟩ := hT1
      clear hT
      go_wp2_with fail
      with_reducible refine (bto_1_2 (L.below K) (T.below K) v v0 v1 hv u u0 u1 hu 9221120237041090560 9221120237041090560 false (by decide) (by decide) (by decide) (by decide)).mono ?_
      rintro x' u347 ⟨back, ok2, rfl, hT2, w0, w1, kb⟩
      replace K := below_trans K kb; clear kb
      have hT3 : back = 2143289344 := by
        rcases hT2 with ⟨_, h1, h2⟩ | ⟨h, _⟩ | ⟨h, _⟩
        · rw [h1]; rfl
        · omega
        · omega
      subst hT3
      clear hT2 w0 w1
      go_wp2_with fail
      with_reducible refine (ltop_1 _ v v0 v1 hv).mono ?_
      rintro x' u348 ⟨rfl, rfl⟩
      go_wp2_with fail
      with_reducible refine (lnan_2 _ u u0 u1 hu).mono ?_
      rintro x' u349 ⟨rfl, rfl⟩
      go_wp2_with fail
      with_reducible refine (lnan_1 _ v v0 v1 hv).mono ?_
      rintro x' u350 ⟨rfl, rfl⟩
      go_wp2
      go_ret
      exact ⟨rfl, K⟩
    have hle : s ≤ 2139095040 := by omega
    go_wp2_with fail
    with_reducible refine (bto_2_1 (L.below K) (T.below K) u u0 u1 hu v v0 v1 hv X s ng X0 X1 Hs.out Hng.out).mono ?_
    rintro x' u351 ⟨y, same, rfl, hT, y0, y1, kb⟩
    replace K := below_trans K kb; clear kb
    obtain ⟨hsame, s', p0, p1, hy, hback⟩ := back_up (Sa := 2147483648) (z := X) (ok2 := true) (lima := 128) (limb := 1024) (fra := 23) (frb := 52) (by decide) (by decide) (by decide) (by decide) (by decide) (by decide) (by decide) (by decide) (by decide) (by decide) (by decide) s0 hle hT
    subst hsame
    clear hback
    have HT := hide hT
    clear hT
    obtain ⟨y2, y3, -, -⟩ := sgn_split (S := 9223372036854775808) ng p0 (by omega)
    rw [← hy] at y2 y3
    have Hy := hide hy
    clear hy
    go_wp2_with fail
    with_reducible refine (bto_1_2 (L.below K) (T.below K) v v0 v1 hv u u0 u1 hu y s' ng y0 y1 y2 y3).mono ?_
    rintro x' u352 ⟨back, ok2, rfl, hT2, w0, w1, kb⟩
    replace K := below_trans K kb; clear kb
    have HB : Hid (back = s + b2i ng * 2147483648) := by
      obtain ⟨-, s9, r0, r1, ry, rb⟩ := back_up (Sa := 2147483648) (z := back) (ok2 := ok2) (lima := 128) (limb := 1024) (fra := 23) (frb := 52) (by decide) (by decide) (by decide) (by decide) (by decide) (by decide) (by decide) (by decide) (by decide) (by decide) (by decide) s0 hle HT.out
      have e9 : s9 = s' := by have := Hy.out; omega
      subst e9
      exact hide (rb hT2)
    clear hT2 HT Hy y2 y3 w0 w1 y0 y1
    have nn : ¬ 2139095040 < s := by omega
    go_wp2_with fail
    with_reducible refine (ltop_1 _ v v0 v1 hv).mono ?_
    rintro x' u353 ⟨rfl, rfl⟩
    have hbk : back = X := by rw [HB.out, Hx.out]
    subst hbk
    go_wp2_with fail
    with_reducible refine (lwidth_2 _ u u0 u1 hu).mono ?_
    rintro x' u354 ⟨rfl, rfl⟩
    go_wp2_with fail
    with_reducible refine (lwidth_1 _ v v0 v1 hv).mono ?_
    rintro x' u355 ⟨rfl, rfl⟩
    clear HB
    go_wp2_with fail
    with_reducible refine (bwhole_1 (L.below K) (T.below K) v v0 v1 hv back s ng X0 X1 Hs.out Hng.out).mono ?_
    rintro x' u356 ⟨va, n, is, rfl, hR, hI, kb⟩
    replace K := below_trans K kb; clear kb
    obtain ⟨rg, ro, rl, rfl⟩ := hR.told
    have HI := hide hI
    clear hI
    go_upto_region 15 with fail
    rename World => q1
    have D1 := cell2_new q1 (.bool rg) (.slice ro rl rl) 38
    have k1 := bel_new q1 (.cells #[.bool rg, .slice ro rl rl] 38)
    replace K := below_trans K k1
    replace hR := hR.below k1
    clear k1
    generalize hb1 : q1.heap.size = b1 at *
    generalize q1.alloc (.cells #[.bool rg, .slice ro rl rl] 38) = q2 at *
    clear hb1
    obtain ⟨c0, c1, -, -⟩ := D1.told
    cases is
    · have n0 := int_no HI.out
      subst n0
      obtain ⟨hsg, hmag⟩ := wnum_sign hR
      obtain ⟨zs, ⟨zo, ze, -, -⟩, hcan, hval, -⟩ := hmag
      have hz := empty_len hcan hval
      injection ze with z1 z2 z3
      have hrg : rg = false := by rw [hsg]; rfl
      have hrl : rl = 0 := by omega
      subst hrg hrl
      clear hsg hcan hval hz z1 z2 z3 hR HI
      go_wp2
      go_ret
      exact ⟨rfl, K⟩
    go_wp2_with fail
    with_reducible refine (bfrom_1 (L.below K) (T.below K) v v0 v1 hv hR.arg (by decide)).mono ?_
    rintro x' u357 ⟨z, fine, rfl, hF, kb⟩
    replace K := below_trans K kb; clear kb
    obtain ⟨rfl, hz⟩ := from_back (by decide) (by decide) (by decide) (by decide) s0 (by omega) (by unfold est; split <;> omega) (by decide) (by decide) HI.out hF
    clear hF HI hR c0 c1 D1
    rcases hz with hz | ⟨z1, z2, z3⟩
    · have e1 : z = back := by rw [hz, Hx.out]
      have e2 : (z == back) = true := by simp [e1]
      clear hz e1
      go_wp2
      go_ret
      exact ⟨rfl, K⟩
    · have ex : back = 2147483648 := by rw [Hx.out, z1, z2]; rfl
      have e2 : (z == back) = false := by rw [z3, ex]; rfl
      have e3 : (back == 2147483648) = true := by rw [ex]; rfl
      have e4 : (z == 0) = true := by rw [z3]; rfl
      clear ex z1 z2 z3
      go_wp2_with fail
      with_reducible refine (lsign_1 _ v v0 v1 hv).mono ?_
      rintro x' u358 ⟨rfl, rfl⟩
      go_wp2
      go_ret
      exact ⟨rfl, K⟩

set_option maxRecDepth 20000 in
set_option maxHeartbeats 8000000 in
theorem iback_2_2 {w : World} (L : Lays w) (T : Brn w) (u : Int) (u0 : 0 ≤ u) (u1 : u < 256) (hu : u % 4 = 2) (v : Int) (v0 : 0 ≤ v) (v1 : v < 256) (hv : v % 4 = 2) (x : Int) (x0 : 0 ≤ x) (x1 : x < 18446744073709551616) :
    Calls Tryd.prog 6 #[.int .u8 u, .int .u8 v, .int .u64 x] w fun e w' => e = .returned (.bool true) ∧ Below w.heap.size w w' := by
  have K := Below.refl w.heap.size w
  go_enter Tryd.func6, Tryd.ntmps6
  go_wp2_with fail
  with_reducible refine (lives_ok L T).mono ?_
  rintro x' u359 ⟨rfl, kb⟩
  replace K := below_trans K kb; clear kb
  go_wp2_with fail
  with_reducible refine (lfit_2 _ v v0 v1 hv x x0 x1).mono ?_
  rintro x' u360 ⟨rfl, rfl⟩
  obtain ⟨X, hX⟩ : ∃ X, x % 18446744073709551616 = X := ⟨_, rfl⟩
  have X0 : 0 ≤ X := by omega
  have X1 : X < 18446744073709551616 := by omega
  rw [hX]
  clear hX
  obtain ⟨s, hs⟩ : ∃ s, X % 9223372036854775808 = s := ⟨_, rfl⟩
  have s0 : 0 ≤ s := by omega
  obtain ⟨ng, hng⟩ : ∃ b, b = decide (9223372036854775808 ≤ X) := ⟨_, rfl⟩
  have s1 : s < 9223372036854775808 := by omega
  have Hx : Hid (X = s + b2i ng * 9223372036854775808) := by
    refine hide ?_
    subst hng
    by_cases c : 9223372036854775808 ≤ X
    · rw [decide_eq_true c, show b2i true = 1 from rfl]; omega
    · rw [decide_eq_false c, show b2i false = 0 from rfl]; omega
  have hgd : decide (9223372036854775808 ≤ X) = ng := hng.symm
  have Hs := hide hs
  have Hng := hide hng
  clear hng
  go_wp2_with fail
  with_reducible refine (lsign_2 _ v v0 v1 hv).mono ?_
  rintro x' u361 ⟨rfl, rfl⟩
  go_wp2_with fail
  with_reducible refine (bparts_2 (L.below K) (T.below K) v v0 v1 hv X s ng X0 X1 Hs.out Hng.out).mono ?_
  rintro x' u362 ⟨a, m, E, ok, rfl, hP, kb⟩
  replace K := below_trans K kb; clear kb
  obtain ⟨m0, m1, E0, E1⟩ := part_bounds (F := 4503599627370496) (L := (-1074)) (S := 9223372036854775808) (by decide) (by decide) (by decide) s0 s1 (by unfold est; split <;> omega) (by decide) hP
  go_upto_region 6 with fail
  go_cut [7, 72] from 20 (fun s7 s72 w2 => s7 = .int .u64 s ∧ s72 = .bool false ∧ Below w.heap.size w w2)
  case first =>
    go_wp2_with fail
    with_reducible refine (ltop_2 _ v v0 v1 hv).mono ?_
    rintro x' u363 ⟨rfl, rfl⟩
    by_cases fin : s < 9218868437227405312
    · obtain ⟨hok, hag, pz, po⟩ := hP.2 fin
      subst hok
      have hag' := hag.symm
      subst hag'
      have HP := hide hP
      have hor : s = 0 ∨ m % 2 = 1 := by
        rcases Int.lt_or_eq_of_le s0 with c | c
        · exact Or.inr (po c).1
        · exact Or.inl c.symm
      clear hP pz po
      go_wp2_with fail
      with_reducible refine (lsign_2 _ v v0 v1 hv).mono ?_
      rintro x' u364 ⟨rfl, rfl⟩
      rcases hor with z | od
      · have z' : (s == 0) = true := by simp [z]
        by_cases ev : m % 2 = 0
        · have ev' : (m % 2 == 0) = true := by simp [ev]
          clear z ev
          go_wp2_with fail
          with_reducible refine (from_any m m0 (by omega)).mono ?_
          rintro x' u365 ⟨vm, rfl, hM, kb⟩
          replace K := below_trans K kb; clear kb
          go_wp2_with fail
          with_reducible refine (lround_2 (L.below K) v v0 v1 hv (neg := ng) (more := false) (e := E) hM.arg (by decide) (by omega) (by omega)).mono ?_
          rintro x' u366 ⟨r, rfl, hN, kb⟩
          replace K := below_trans K kb; clear kb
          have hrs := near_self (by decide) (by decide) s0 fin HP.out hN
          rw [hrs, ← Hx.out]
          clear hN hM HP hrs
          go_wp2
          go_meet
          case rel => exact ⟨by first | rfl | (rw [eq_of_beq z']), rfl, K⟩
          all_goals exact absurd (eq_of_beq z') (by assumption)
        · have ev' : (m % 2 == 0) = false := by simp [ev]
          clear z ev
          go_wp2_with fail
          with_reducible refine (from_any m m0 (by omega)).mono ?_
          rintro x' u365 ⟨vm, rfl, hM, kb⟩
          replace K := below_trans K kb; clear kb
          go_wp2_with fail
          with_reducible refine (lround_2 (L.below K) v v0 v1 hv (neg := ng) (more := false) (e := E) hM.arg (by decide) (by omega) (by omega)).mono ?_
          rintro x' u366 ⟨r, rfl, hN, kb⟩
          replace K := below_trans K kb; clear kb
          have hrs := near_self (by decide) (by decide) s0 fin HP.out hN
          rw [hrs, ← Hx.out]
          clear hN hM HP hrs
          go_wp2
          go_meet
          case rel => exact ⟨by first | rfl | (rw [eq_of_beq z']), rfl, K⟩
      · have ev' : (m % 2 == 0) = false := by simp [od]
        clear od
        go_wp2_with fail
        with_reducible refine (from_any m m0 (by omega)).mono ?_
        rintro x' u367 ⟨vm, rfl, hM, kb⟩
        replace K := below_trans K kb; clear kb
        go_wp2_with fail
        with_reducible refine (lround_2 (L.below K) v v0 v1 hv (neg := ng) (more := false) (e := E) hM.arg (by decide) (by omega) (by omega)).mono ?_
        rintro x' u368 ⟨r, rfl, hN, kb⟩
        replace K := below_trans K kb; clear kb
        have hrs := near_self (by decide) (by decide) s0 fin HP.out hN
        rw [hrs, ← Hx.out]
        clear hN hM HP hrs
        go_wp2
        go_meet
        case rel => exact ⟨by first | rfl | (rw [eq_of_beq z']), rfl, K⟩
    · obtain ⟨rfl, rfl, rfl, rfl⟩ := hP.1 (by omega)
      clear hP
      go_wp2
      go_meet
      case rel => exact ⟨rfl, by first | rfl | rw [decide_eq_false (by omega)], K⟩
  case rest =>
    clear K hP
    obtain ⟨rfl, rfl, K⟩ := hcut
    by_cases nan : 9218868437227405312 < s
    · skip
      go_wp2_with fail
      with_reducible refine (bto_2_2 (L.below K) (T.below K) u u0 u1 hu v v0 v1 hv X s ng X0 X1 Hs.out Hng.out).mono ?_
      rintro x' u369 ⟨y, same, rfl, hT, y0, y1, kb⟩
      replace K := below_trans K kb; clear kb
      have hT1 : y = 9221120237041090560 ∧ same = true := by
        rcases hT with ⟨_, h1, h2⟩ | ⟨h, _⟩ | ⟨h, _⟩
        · exact ⟨by rw [h1]; rfl, h2⟩
        · omega
        · omega
      obtain ⟨rfl, rfl⟩ := hT1
      clear hT
      go_wp2_with fail
      with_reducible refine (bto_2_2 (L.below K) (T.below K) v v0 v1 hv u u0 u1 hu 9221120237041090560 9221120237041090560 false (by decide) (by decide) (by decide) (by decide)).mono ?_
      rintro x' u370 ⟨back, ok2, rfl, hT2, w0, w1, kb⟩
      replace K := below_trans K kb; clear kb
      have hT3 : back = 9221120237041090560 := by
        rcases hT2 with ⟨_, h1, h2⟩ | ⟨h, _⟩ | ⟨h, _⟩
        · rw [h1]; rfl
        · omega
        · omega
      subst hT3
      clear hT2 w0 w1
      go_wp2_with fail
      with_reducible refine (ltop_2 _ v v0 v1 hv).mono ?_
      rintro x' u371 ⟨rfl, rfl⟩
      go_wp2_with fail
      with_reducible refine (lnan_2 _ u u0 u1 hu).mono ?_
      rintro x' u372 ⟨rfl, rfl⟩
      go_wp2_with fail
      with_reducible refine (lnan_2 _ v v0 v1 hv).mono ?_
      rintro x' u373 ⟨rfl, rfl⟩
      go_wp2
      go_ret
      exact ⟨rfl, K⟩
    have hle : s ≤ 9218868437227405312 := by omega
    go_wp2_with fail
    with_reducible refine (bto_2_2 (L.below K) (T.below K) u u0 u1 hu v v0 v1 hv X s ng X0 X1 Hs.out Hng.out).mono ?_
    rintro x' u374 ⟨y, same, rfl, hT, y0, y1, kb⟩
    replace K := below_trans K kb; clear kb
    obtain ⟨hsame, s', p0, p1, hy, hback⟩ := back_up (Sa := 9223372036854775808) (z := X) (ok2 := true) (lima := 1024) (limb := 1024) (fra := 52) (frb := 52) (by decide) (by decide) (by decide) (by decide) (by decide) (by decide) (by decide) (by decide) (by decide) (by decide) (by decide) s0 hle hT
    subst hsame
    clear hback
    have HT := hide hT
    clear hT
    obtain ⟨y2, y3, -, -⟩ := sgn_split (S := 9223372036854775808) ng p0 (by omega)
    rw [← hy] at y2 y3
    have Hy := hide hy
    clear hy
    go_wp2_with fail
    with_reducible refine (bto_2_2 (L.below K) (T.below K) v v0 v1 hv u u0 u1 hu y s' ng y0 y1 y2 y3).mono ?_
    rintro x' u375 ⟨back, ok2, rfl, hT2, w0, w1, kb⟩
    replace K := below_trans K kb; clear kb
    have HB : Hid (back = s + b2i ng * 9223372036854775808) := by
      obtain ⟨-, s9, r0, r1, ry, rb⟩ := back_up (Sa := 9223372036854775808) (z := back) (ok2 := ok2) (lima := 1024) (limb := 1024) (fra := 52) (frb := 52) (by decide) (by decide) (by decide) (by decide) (by decide) (by decide) (by decide) (by decide) (by decide) (by decide) (by decide) s0 hle HT.out
      have e9 : s9 = s' := by have := Hy.out; omega
      subst e9
      exact hide (rb hT2)
    clear hT2 HT Hy y2 y3 w0 w1 y0 y1
    have nn : ¬ 9218868437227405312 < s := by omega
    go_wp2_with fail
    with_reducible refine (ltop_2 _ v v0 v1 hv).mono ?_
    rintro x' u376 ⟨rfl, rfl⟩
    have hbk : back = X := by rw [HB.out, Hx.out]
    subst hbk
    go_wp2_with fail
    with_reducible refine (lwidth_2 _ u u0 u1 hu).mono ?_
    rintro x' u377 ⟨rfl, rfl⟩
    go_wp2_with fail
    with_reducible refine (lwidth_2 _ v v0 v1 hv).mono ?_
    rintro x' u378 ⟨rfl, rfl⟩
    clear HB
    go_wp2_with fail
    with_reducible refine (bwhole_2 (L.below K) (T.below K) v v0 v1 hv back s ng X0 X1 Hs.out Hng.out).mono ?_
    rintro x' u379 ⟨va, n, is, rfl, hR, hI, kb⟩
    replace K := below_trans K kb; clear kb
    obtain ⟨rg, ro, rl, rfl⟩ := hR.told
    have HI := hide hI
    clear hI
    go_upto_region 15 with fail
    rename World => q1
    have D1 := cell2_new q1 (.bool rg) (.slice ro rl rl) 38
    have k1 := bel_new q1 (.cells #[.bool rg, .slice ro rl rl] 38)
    replace K := below_trans K k1
    replace hR := hR.below k1
    clear k1
    generalize hb1 : q1.heap.size = b1 at *
    generalize q1.alloc (.cells #[.bool rg, .slice ro rl rl] 38) = q2 at *
    clear hb1
    obtain ⟨c0, c1, -, -⟩ := D1.told
    cases is
    · have n0 := int_no HI.out
      subst n0
      obtain ⟨hsg, hmag⟩ := wnum_sign hR
      obtain ⟨zs, ⟨zo, ze, -, -⟩, hcan, hval, -⟩ := hmag
      have hz := empty_len hcan hval
      injection ze with z1 z2 z3
      have hrg : rg = false := by rw [hsg]; rfl
      have hrl : rl = 0 := by omega
      subst hrg hrl
      clear hsg hcan hval hz z1 z2 z3 hR HI
      go_wp2
      go_ret
      exact ⟨rfl, K⟩
    go_wp2_with fail
    with_reducible refine (bfrom_2 (L.below K) (T.below K) v v0 v1 hv hR.arg (by decide)).mono ?_
    rintro x' u380 ⟨z, fine, rfl, hF, kb⟩
    replace K := below_trans K kb; clear kb
    obtain ⟨rfl, hz⟩ := from_back (by decide) (by decide) (by decide) (by decide) s0 (by omega) (by unfold est; split <;> omega) (by decide) (by decide) HI.out hF
    clear hF HI hR c0 c1 D1
    rcases hz with hz | ⟨z1, z2, z3⟩
    · have e1 : z = back := by rw [hz, Hx.out]
      have e2 : (z == back) = true := by simp [e1]
      clear hz e1
      go_wp2
      go_ret
      exact ⟨rfl, K⟩
    · have ex : back = 9223372036854775808 := by rw [Hx.out, z1, z2]; rfl
      have e2 : (z == back) = false := by rw [z3, ex]; rfl
      have e3 : (back == 9223372036854775808) = true := by rw [ex]; rfl
      have e4 : (z == 0) = true := by rw [z3]; rfl
      clear ex z1 z2 z3
      go_wp2_with fail
      with_reducible refine (lsign_2 _ v v0 v1 hv).mono ?_
      rintro x' u381 ⟨rfl, rfl⟩
      go_wp2
      go_ret
      exact ⟨rfl, K⟩

set_option maxRecDepth 20000 in
set_option maxHeartbeats 8000000 in
theorem iback_2_3 {w : World} (L : Lays w) (T : Brn w) (u : Int) (u0 : 0 ≤ u) (u1 : u < 256) (hu : u % 4 = 2) (v : Int) (v0 : 0 ≤ v) (v1 : v < 256) (hv : v % 4 = 3) (x : Int) (x0 : 0 ≤ x) (x1 : x < 18446744073709551616) :
    Calls Tryd.prog 6 #[.int .u8 u, .int .u8 v, .int .u64 x] w fun e w' => e = .returned (.bool true) ∧ Below w.heap.size w w' := by
  have K := Below.refl w.heap.size w
  go_enter Tryd.func6, Tryd.ntmps6
  go_wp2_with fail
  with_reducible refine (lives_ok L T).mono ?_
  rintro x' u382 ⟨rfl, kb⟩
  replace K := below_trans K kb; clear kb
  go_wp2_with fail
  with_reducible refine (lfit_3 _ v v0 v1 hv x x0 x1).mono ?_
  rintro x' u383 ⟨rfl, rfl⟩
  obtain ⟨X, hX⟩ : ∃ X, x % 4294967296 = X := ⟨_, rfl⟩
  have X0 : 0 ≤ X := by omega
  have X1 : X < 4294967296 := by omega
  rw [hX]
  clear hX
  obtain ⟨s, hs⟩ : ∃ s, X % 2147483648 = s := ⟨_, rfl⟩
  have s0 : 0 ≤ s := by omega
  obtain ⟨ng, hng⟩ : ∃ b, b = decide (2147483648 ≤ X) := ⟨_, rfl⟩
  have s1 : s < 2147483648 := by omega
  have Hx : Hid (X = s + b2i ng * 2147483648) := by
    refine hide ?_
    subst hng
    by_cases c : 2147483648 ≤ X
    · rw [decide_eq_true c, show b2i true = 1 from rfl]; omega
    · rw [decide_eq_false c, show b2i false = 0 from rfl]; omega
  have hgd : decide (2147483648 ≤ X) = ng := hng.symm
  have Hs := hide hs
  have Hng := hide hng
  clear hng
  go_wp2_with fail
  with_reducible refine (lsign_3 _ v v0 v1 hv).mono ?_
  rintro x' u384 ⟨rfl, rfl⟩
  go_wp2_with fail
  with_reducible refine (bparts_3 (L.below K) (T.below K) v v0 v1 hv X s ng X0 X1 Hs.out Hng.out).mono ?_
  rintro x' u385 ⟨a, m, E, ok, rfl, hP, kb⟩
  replace K := below_trans K kb; clear kb
  obtain ⟨m0, m1, E0, E1⟩ := part_bounds (F := 8388608) (L := (-149)) (S := 2147483648) (by decide) (by decide) (by decide) s0 s1 (by unfold est; split <;> omega) (by decide) hP
  go_upto_region 6 with fail
  go_cut [7, 72] from 20 (fun s7 s72 w2 => s7 = .int .u64 s ∧ s72 = .bool false ∧ Below w.heap.size w w2)
  case first =>
    go_wp2_with fail
    with_reducible refine (ltop_3 _ v v0 v1 hv).mono ?_
    rintro x' u386 ⟨rfl, rfl⟩
    by_cases fin : s < 2139095040
    · obtain ⟨hok, hag, pz, po⟩ := hP.2 fin
      subst hok
      have hag' := hag.symm
      subst hag'
      have HP := hide hP
      have hor : s = 0 ∨ m % 2 = 1 := by
        rcases Int.lt_or_eq_of_le s0 with c | c
        · exact Or.inr (po c).1
        · exact Or.inl c.symm
      clear hP pz po
      go_wp2_with fail
      with_reducible refine (lsign_3 _ v v0 v1 hv).mono ?_
      rintro x' u387 ⟨rfl, rfl⟩
      rcases hor with z | od
      · have z' : (s == 0) = true := by simp [z]
        by_cases ev : m % 2 = 0
        · have ev' : (m % 2 == 0) = true := by simp [ev]
          clear z ev
          go_wp2_with fail
          with_reducible refine (from_any m m0 (by omega)).mono ?_
          rintro x' u388 ⟨vm, rfl, hM, kb⟩
          replace K := below_trans K kb; clear kb
          go_wp2_with fail
          with_reducible refine (lround_3 (L.below K) v v0 v1 hv (neg := ng) (more := false) (e := E) hM.arg (by decide) (by omega) (by omega)).mono ?_
          rintro x' u389 ⟨r, rfl, hN, kb⟩
          replace K := below_trans K kb; clear kb
          have hrs := near_self (by decide) (by decide) s0 fin HP.out hN
          rw [hrs, ← Hx.out]
          clear hN hM HP hrs
          go_wp2
          go_meet
          case rel => exact ⟨by first | rfl | (rw [eq_of_beq z']), rfl, K⟩
          all_goals exact absurd (eq_of_beq z') (by assumption)
        · have ev' : (m % 2 == 0) = false := by simp [ev]
          clear z ev
          go_wp2_with fail
          with_reducible refine (from_any m m0 (by omega)).mono ?_
          rintro x' u388 ⟨vm, rfl, hM, kb⟩
          replace K := below_trans K kb; clear kb
          go_wp2_with fail
          with_reducible refine (lround_3 (L.below K) v v0 v1 hv (neg := ng) (more := false) (e := E) hM.arg (by decide) (by omega) (by omega)).mono ?_
          rintro x' u389 ⟨r, rfl, hN, kb⟩
          replace K := below_trans K kb; clear kb
          have hrs := near_self (by decide) (by decide) s0 fin HP.out hN
          rw [hrs, ← Hx.out]
          clear hN hM HP hrs
          go_wp2
          go_meet
          case rel => exact ⟨by first | rfl | (rw [eq_of_beq z']), rfl, K⟩
      · have ev' : (m % 2 == 0) = false := by simp [od]
        clear od
        go_wp2_with fail
        with_reducible refine (from_any m m0 (by omega)).mono ?_
        rintro x' u390 ⟨vm, rfl, hM, kb⟩
        replace K := below_trans K kb; clear kb
        go_wp2_with fail
        with_reducible refine (lround_3 (L.below K) v v0 v1 hv (neg := ng) (more := false) (e := E) hM.arg (by decide) (by omega) (by omega)).mono ?_
        rintro x' u391 ⟨r, rfl, hN, kb⟩
        replace K := below_trans K kb; clear kb
        have hrs := near_self (by decide) (by decide) s0 fin HP.out hN
        rw [hrs, ← Hx.out]
        clear hN hM HP hrs
        go_wp2
        go_meet
        case rel => exact ⟨by first | rfl | (rw [eq_of_beq z']), rfl, K⟩
    · obtain ⟨rfl, rfl, rfl, rfl⟩ := hP.1 (by omega)
      clear hP
      go_wp2
      go_meet
      case rel => exact ⟨rfl, by first | rfl | rw [decide_eq_false (by omega)], K⟩
  case rest =>
    clear K hP
    obtain ⟨rfl, rfl, K⟩ := hcut
    by_cases nan : 2139095040 < s
    · skip
      go_wp2_with fail
      with_reducible refine (bto_2_3 (L.below K) (T.below K) u u0 u1 hu v v0 v1 hv X s ng X0 X1 Hs.out Hng.out).mono ?_
      rintro x' u392 ⟨y, same, rfl, hT, y0, y1, kb⟩
      replace K := below_trans K kb; clear kb
      have hT1 : y = 9221120237041090560 ∧ same = true := by
        rcases hT with ⟨_, h1, h2⟩ | ⟨h, _⟩ | ⟨h, _⟩
        · exact ⟨by rw [h1]; rfl, h2⟩
        · omega
        · omega
      obtain ⟨rfl, rfl⟩ := hT1
      clear hT
      go_wp2_with fail
      with_reducible refine (bto_3_2 (L.below K) (T.below K) v v0 v1 hv u u0 u1 hu 9221120237041090560 9221120237041090560 false (by decide) (by decide) (by decide) (by decide)).mono ?_
      rintro x' u393 ⟨back, ok2, rfl, hT2, w0, w1, kb⟩
      replace K := below_trans K kb; clear kb
      have hT3 : back = 2143289344 := by
        rcases hT2 with ⟨_, h1, h2⟩ | ⟨h, _⟩ | ⟨h, _⟩
        · rw [h1]; rfl
        · omega
        · omega
      subst hT3
      clear hT2 w0 w1
      go_wp2_with fail
      with_reducible refine (ltop_3 _ v v0 v1 hv).mono ?_
      rintro x' u394 ⟨rfl, rfl⟩
      go_wp2_with fail
      with_reducible refine (lnan_2 _ u u0 u1 hu).mono ?_
      rintro x' u395 ⟨rfl, rfl⟩
      go_wp2_with fail
      with_reducible refine (lnan_3 _ v v0 v1 hv).mono ?_
      rintro x' u396 ⟨rfl, rfl⟩
      go_wp2
      go_ret
      exact ⟨rfl, K⟩
    have hle : s ≤ 2139095040 := by omega
    go_wp2_with fail
    with_reducible refine (bto_2_3 (L.below K) (T.below K) u u0 u1 hu v v0 v1 hv X s ng X0 X1 Hs.out Hng.out).mono ?_
    rintro x' u397 ⟨y, same, rfl, hT, y0, y1, kb⟩
    replace K := below_trans K kb; clear kb
    obtain ⟨hsame, s', p0, p1, hy, hback⟩ := back_up (Sa := 2147483648) (z := X) (ok2 := true) (lima := 128) (limb := 1024) (fra := 23) (frb := 52) (by decide) (by decide) (by decide) (by decide) (by decide) (by decide) (by decide) (by decide) (by decide) (by decide) (by decide) s0 hle hT
    subst hsame
    clear hback
    have HT := hide hT
    clear hT
    obtain ⟨y2, y3, -, -⟩ := sgn_split (S := 9223372036854775808) ng p0 (by omega)
    rw [← hy] at y2 y3
    have Hy := hide hy
    clear hy
    go_wp2_with fail
    with_reducible refine (bto_3_2 (L.below K) (T.below K) v v0 v1 hv u u0 u1 hu y s' ng y0 y1 y2 y3).mono ?_
    rintro x' u398 ⟨back, ok2, rfl, hT2, w0, w1, kb⟩
    replace K := below_trans K kb; clear kb
    have HB : Hid (back = s + b2i ng * 2147483648) := by
      obtain ⟨-, s9, r0, r1, ry, rb⟩ := back_up (Sa := 2147483648) (z := back) (ok2 := ok2) (lima := 128) (limb := 1024) (fra := 23) (frb := 52) (by decide) (by decide) (by decide) (by decide) (by decide) (by decide) (by decide) (by decide) (by decide) (by decide) (by decide) s0 hle HT.out
      have e9 : s9 = s' := by have := Hy.out; omega
      subst e9
      exact hide (rb hT2)
    clear hT2 HT Hy y2 y3 w0 w1 y0 y1
    have nn : ¬ 2139095040 < s := by omega
    go_wp2_with fail
    with_reducible refine (ltop_3 _ v v0 v1 hv).mono ?_
    rintro x' u399 ⟨rfl, rfl⟩
    have hbk : back = X := by rw [HB.out, Hx.out]
    subst hbk
    go_wp2_with fail
    with_reducible refine (lwidth_2 _ u u0 u1 hu).mono ?_
    rintro x' u400 ⟨rfl, rfl⟩
    go_wp2_with fail
    with_reducible refine (lwidth_3 _ v v0 v1 hv).mono ?_
    rintro x' u401 ⟨rfl, rfl⟩
    clear HB
    go_wp2_with fail
    with_reducible refine (bwhole_3 (L.below K) (T.below K) v v0 v1 hv back s ng X0 X1 Hs.out Hng.out).mono ?_
    rintro x' u402 ⟨va, n, is, rfl, hR, hI, kb⟩
    replace K := below_trans K kb; clear kb
    obtain ⟨rg, ro, rl, rfl⟩ := hR.told
    have HI := hide hI
    clear hI
    go_upto_region 15 with fail
    rename World => q1
    have D1 := cell2_new q1 (.bool rg) (.slice ro rl rl) 38
    have k1 := bel_new q1 (.cells #[.bool rg, .slice ro rl rl] 38)
    replace K := below_trans K k1
    replace hR := hR.below k1
    clear k1
    generalize hb1 : q1.heap.size = b1 at *
    generalize q1.alloc (.cells #[.bool rg, .slice ro rl rl] 38) = q2 at *
    clear hb1
    obtain ⟨c0, c1, -, -⟩ := D1.told
    cases is
    · have n0 := int_no HI.out
      subst n0
      obtain ⟨hsg, hmag⟩ := wnum_sign hR
      obtain ⟨zs, ⟨zo, ze, -, -⟩, hcan, hval, -⟩ := hmag
      have hz := empty_len hcan hval
      injection ze with z1 z2 z3
      have hrg : rg = false := by rw [hsg]; rfl
      have hrl : rl = 0 := by omega
      subst hrg hrl
      clear hsg hcan hval hz z1 z2 z3 hR HI
      go_wp2
      go_ret
      exact ⟨rfl, K⟩
    go_wp2_with fail
    with_reducible refine (bfrom_3 (L.below K) (T.below K) v v0 v1 hv hR.arg (by decide)).mono ?_
    rintro x' u403 ⟨z, fine, rfl, hF, kb⟩
    replace K := below_trans K kb; clear kb
    obtain ⟨rfl, hz⟩ := from_back (by decide) (by decide) (by decide) (by decide) s0 (by omega) (by unfold est; split <;> omega) (by decide) (by decide) HI.out hF
    clear hF HI hR c0 c1 D1
    rcases hz with hz | ⟨z1, z2, z3⟩
    · have e1 : z = back := by rw [hz, Hx.out]
      have e2 : (z == back) = true := by simp [e1]
      clear hz e1
      go_wp2
      go_ret
      exact ⟨rfl, K⟩
    · have ex : back = 2147483648 := by rw [Hx.out, z1, z2]; rfl
      have e2 : (z == back) = false := by rw [z3, ex]; rfl
      have e3 : (back == 2147483648) = true := by rw [ex]; rfl
      have e4 : (z == 0) = true := by rw [z3]; rfl
      clear ex z1 z2 z3
      go_wp2_with fail
      with_reducible refine (lsign_3 _ v v0 v1 hv).mono ?_
      rintro x' u404 ⟨rfl, rfl⟩
      go_wp2
      go_ret
      exact ⟨rfl, K⟩

end Go.Proofs.YtmmkdihhcmcjjaaDoor
