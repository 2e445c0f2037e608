/- decimal.leading, scaled, infinite, nearest -/
import Derived.Test.YtigehipclkoecaaGreatDoorQNum
import Derived.Test.YtigehipclkoecaaGreatDoorDNum
import Derived.Test.YtigehipclkoecaaGreatDoorIeeeX
import Derived.Test.YtigehipclkoecaaGreatDoorIScaled0
namespace Go.Proofs.YtigehipclkoecaaGreatDoor
open Go.RowKit
set_option linter.unusedVariables false

theorem dv_of_up {F L I A r : Int} {n : Nat} (W : Wide F L I) (h : Near F L I (2 * (A * 5 ^ n) + b2i false) ((n : Int) - 1) r) : DV F L I A n r := by
  have k := near_dn_up (by have := W.f0; omega) W.l1 h
  have e : A * 5 ^ n * p2 n = A * tn n := by rw [tn_p2, Int.mul_assoc]
  unfold DV
  rw [show (-(n : Int)).toNat = 0 by omega, Int.toNat_natCast, tn_zero, ← e]
  exact k
theorem pow5_pos (n : Nat) : (0 : Int) < 5 ^ n := Int.pow_pos (by omega)
theorem quot_big {A D : Int} {kA k5 up : Nat} (hA : IsLen A kA) (h0 : 0 < A) (h5 : IsLen D k5) (hD : 0 < D) (hup : k5 + 64 ≤ kA + up) : p2 63 ≤ A * p2 up / D := by
  rw [Int.le_ediv_iff_mul_le hD]
  have kp : 0 < kA := by
    rcases Nat.eq_zero_or_pos kA with z | z
    · subst z; have := hA.1; simp [p2] at this; omega
    · exact z
  have a := hA.2 kp
  have b : p2 (kA - 1) * p2 up ≤ A * p2 up := Int.mul_le_mul_of_nonneg_right a (Int.le_of_lt (p2_pos _))
  rw [← p2_add] at b
  have c : p2 (63 + k5) ≤ p2 (kA - 1 + up) := p2_mono (by omega)
  rw [p2_add] at c
  have d : p2 63 * D ≤ p2 63 * p2 k5 := Int.mul_le_mul_of_nonneg_left (Int.le_of_lt h5.1) (Int.le_of_lt (p2_pos _))
  omega
/-- there is more -/
def Mr (b : Bool) (x : Int) : Prop := b = true ↔ x ≠ 0
theorem dv_of_dn {F L I A r : Int} {n up kA k5 : Nat} {more : Bool} (W : Wide F L I) (hF : 2 * F ≤ p2 63) (h0 : 0 < A) (hA : IsLen A kA) (h5 : IsLen (5 ^ n) k5) (hup : k5 + 64 ≤ kA + up)
    (hm : Mr more (A * p2 up % 5 ^ n)) (h : Near F L I (2 * (A * p2 up / 5 ^ n) + b2i more) (-(n : Int) - up - 1) r) : DV F L I A (-(n : Int)) r := by
  have D0 := pow5_pos n
  unfold DV
  rw [show (-(n : Int)).toNat = 0 by omega, show (-(-(n : Int))).toNat = n by omega, tn_zero, Int.mul_one]
  refine near_dn (a := A * p2 up / 5 ^ n) (D := 5 ^ n) (rest := A * p2 up % 5 ^ n) (mb := b2i more) (up := up + n) (by have := W.f0; omega) (by have := W.l1; omega) D0 (tn_pos n) (Int.emod_nonneg _ (by omega)) (Int.emod_lt_of_pos _ D0) ?_ ?_ ?_ ?_
  · by_cases z : A * p2 up % 5 ^ n = 0
    · rw [if_pos z]
      cases more
      · rfl
      · exact absurd z (hm.1 rfl)
    · rw [if_neg z, hm.2 z]; rfl
  · intro _
    have := quot_big hA h0 h5 D0 hup
    omega
  · have e : A * p2 up / 5 ^ n * 5 ^ n + A * p2 up % 5 ^ n = A * p2 up := by have := Int.mul_ediv_add_emod (A * p2 up) (5 ^ n); rw [Int.mul_comm] at this; exact this
    rw [e, p2_add, tn_p2]
    ac_rfl
  · rw [show -((up + n : Nat) : Int) - 1 = -(n : Int) - up - 1 by omega]
    exact h
theorem five_lt {n : Nat} (h : n ≤ 1131) : (5 : Int) ^ n < Nt.pw 83 := by
  have a : (5 : Int) ^ n ≤ 5 ^ 1131 := by
    obtain ⟨d, hd⟩ : ∃ d, 1131 = n + d := ⟨1131 - n, by omega⟩
    rw [hd, Int.pow_add]
    have := pow5_pos d
    have := Int.mul_le_mul_of_nonneg_left (show (1 : Int) ≤ 5 ^ d by omega) (Int.le_of_lt (pow5_pos n))
    omega
  have b : (5 : Int) ^ 1131 < Nt.pw 83 := by rw [← p2_32, p2_pow]; decide +kernel
  omega
theorem isLen_le {x : Int} {k m : Nat} (h : IsLen x k) (hx : x < p2 m) : k ≤ m := by
  rcases Nat.lt_or_ge m k with g | g
  · have a := h.2 (by omega)
    have b := p2_mono (show m ≤ k - 1 by omega)
    omega
  · exact g
theorem wide_f_h : 2 * (1024 : Int) ≤ p2 63 := by decide
theorem wide_f_s : 2 * (8388608 : Int) ≤ p2 63 := by decide
theorem wide_f_d : 2 * (4503599627370496 : Int) ≤ p2 63 := by decide

set_option maxRecDepth 100000 in
set_option maxHeartbeats 8000000 in
theorem scaled_h {w : World} (T : Lays w) {va : Value} {A e : Int} {ng : Bool} (ha : Arg w va A 120) (hA : 0 < A) (e0 : -1131 ≤ e) (e1 : e ≤ 309) :
    Calls Tryz.prog 95 #[.bool ng, va, .int .i64 e] w fun x w' => ∃ r, x = .returned (.int .u16 (r + b2i ng * 32768)) ∧ DV 1024 (-24) 31744 A e r ∧ Below w.heap.size w w' := by
  by_cases c : 0 ≤ e
  · obtain ⟨n, rfl⟩ : ∃ n : Nat, e = n := ⟨e.toNat, by omega⟩
    have n9 : n ≤ 309 := by omega
    have HA := hide ha
    clear ha
    go_enter Tryz.func95, Tryz.ntmps95
    go_wp2_with fail
    refine (pow_ok (b := 5) (N := n) (k := 3) (by omega) (by omega) ⟨by decide, fun _ => by decide⟩ (by omega) (.inr (by omega))).mono ?_
    rintro x w1 ⟨v1, rfl, h1, b1⟩
    have H1 := hide h1
    clear h1
    go_wp2_with fail
    with_reducible refine (mul_any (HA.out.below b1) H1.out.arg (by omega) (by omega)).mono ?_
    rintro x w2 ⟨v2, rfl, h2, b2⟩
    have H2 := hide h2
    clear h2
    have K := below_trans b1 b2
    clear b1 b2
    go_wp2_with fail
    with_reducible refine (round_16 (T.below K) H2.out.arg (by omega) (by omega) (by omega)).mono ?_
    rintro x w3 ⟨r, rfl, hN, b3⟩
    have HN := hide (dv_of_up wide_h hN)
    have K3 := below_trans K b3
    clear hN b3
    go_wp2
    go_ret
    exact ⟨r, rfl, HN.out, K3⟩
  · obtain ⟨n, rfl⟩ : ∃ n : Nat, e = -(n : Int) := ⟨(-e).toNat, by omega⟩
    have n9 : n ≤ 1131 := by omega
    have HA := hide ha
    clear ha
    go_enter Tryz.func95, Tryz.ntmps95
    go_wp2_with fail
    refine (pow_ok (b := 5) (N := n) (k := 3) (by omega) (by omega) ⟨by decide, fun _ => by decide⟩ (by omega) (.inr (by omega))).mono ?_
    rintro x w1 ⟨v1, rfl, h1, b1⟩
    have H1 := hide (h1.tight (five_lt n9))
    clear h1
    have A1 := hide (HA.out.below b1)
    go_wp2_with fail
    with_reducible refine (len_any H1.out.arg (by omega)).mono ?_
    rintro x w' ⟨k5, rfl, hk5, l5, rfl⟩
    have H5 := hide hk5
    clear hk5
    go_wp2_with fail
    with_reducible refine (len_any A1.out (by omega)).mono ?_
    rintro x w'' ⟨kA, rfl, hkA, lA, rfl⟩
    have HkA := hide hkA
    clear hkA
    obtain ⟨up, hup⟩ : ∃ up : Nat, (up : Int) = max 0 ((k5 : Int) + 64 - kA) := ⟨(max 0 ((k5 : Int) + 64 - kA)).toNat, by omega⟩
    have hu1 : k5 + 64 ≤ kA + up := by omega
    have hu2 : up ≤ 2720 := by omega
    by_cases m0 : 0 < (k5 : Int) + 64 - kA
    · have mx : (k5 : Int) + 64 - kA = (up : Int) := by omega
      clear hup
      go_wp2_with fail
      with_reducible refine (shl_room (N := up) A1.out (by omega) (by omega)).mono ?_
      rintro x w2 ⟨v2, rfl, h2, b2⟩
      have H2 := hide h2
      clear h2
      have P1 := hide (H1.out.arg.below b2)
      have K := below_trans b1 b2
      clear b2
      go_wp2_with fail
      with_reducible refine (div_any H2.out.arg P1.out (by omega) (by omega) (pow5_pos n)).mono ?_
      rintro x w3 ⟨vq, vr, rfl, hq, hr, b3⟩
      have HQ := hide hq
      have K3 := below_trans K b3
      clear hq b3 K
      obtain ⟨zr, ⟨ro, rfl, zr1, -⟩, zr2, zr3, zr4⟩ := hr
      have HZ := hide (And.intro zr2 zr3)
      clear zr2 zr3
      obtain ⟨more, hmore⟩ : ∃ m : Bool, m = decide (0 < zr.length) := ⟨_, rfl⟩
      have HM := hide (show Mr more (A * p2 up % 5 ^ n) by
        unfold Mr
        rw [hmore, decide_eq_true_iff]
        have k := Nt.canon_zero HZ.out.1
        rw [HZ.out.2] at k
        rw [Ne, k, ← List.length_eq_zero_iff]
        omega)
      have hmore2 : decide ((0 : Int) < (zr.length : Int)) = more := by rw [hmore]; congr 1; apply propext; omega
      by_cases z0 : 0 < zr.length
      · have z1 : (0 : Int) < (zr.length : Int) := by omega
        have mt : more = true := by rw [hmore]; simp [z0]
        subst mt
        clear hmore hmore2
        go_wp2_with fail
        with_reducible refine (round_16 (T.below K3) HQ.out.arg (by omega) (by omega) (by omega)).mono ?_
        rintro x w4 ⟨r, rfl, hN, b4⟩
        have HN := hide (dv_of_dn wide_h wide_f_h hA HkA.out H5.out hu1 HM.out hN)
        have K4 := below_trans K3 b4
        clear hN b4
        go_wp2
        go_ret
        exact ⟨r, rfl, HN.out, K4⟩
      · have z1 : zr.length = 0 := by omega
        have mt : more = false := by rw [hmore]; simp [z1]
        subst mt
        clear hmore hmore2
        go_wp2_with fail
        with_reducible refine (round_16 (T.below K3) HQ.out.arg (by omega) (by omega) (by omega)).mono ?_
        rintro x w4 ⟨r, rfl, hN, b4⟩
        have HN := hide (dv_of_dn (up := up) wide_h wide_f_h hA HkA.out H5.out hu1 HM.out hN)
        have K4 := below_trans K3 b4
        clear hN b4
        go_wp2
        go_ret
        exact ⟨r, rfl, HN.out, K4⟩
    · have mx : up = 0 := by omega
      subst mx
      clear hup
      go_wp2_with fail
      refine (shl_room (N := 0) A1.out (by omega) (by omega)).mono ?_
      rintro x w2 ⟨v2, rfl, h2, b2⟩
      have H2 := hide h2
      clear h2
      have P1 := hide (H1.out.arg.below b2)
      have K := below_trans b1 b2
      clear b2
      go_wp2_with fail
      with_reducible refine (div_any H2.out.arg P1.out (by omega) (by omega) (pow5_pos n)).mono ?_
      rintro x w3 ⟨vq, vr, rfl, hq, hr, b3⟩
      have HQ := hide hq
      have K3 := below_trans K b3
      clear hq b3 K
      obtain ⟨zr, ⟨ro, rfl, zr1, -⟩, zr2, zr3, zr4⟩ := hr
      have HZ := hide (And.intro zr2 zr3)
      clear zr2 zr3
      obtain ⟨more, hmore⟩ : ∃ m : Bool, m = decide (0 < zr.length) := ⟨_, rfl⟩
      have HM := hide (show Mr more (A * p2 0 % 5 ^ n) by
        unfold Mr
        rw [hmore, decide_eq_true_iff]
        have k := Nt.canon_zero HZ.out.1
        rw [HZ.out.2] at k
        rw [Ne, k, ← List.length_eq_zero_iff]
        omega)
      have hmore2 : decide ((0 : Int) < (zr.length : Int)) = more := by rw [hmore]; congr 1; apply propext; omega
      by_cases z0 : 0 < zr.length
      · have z1 : (0 : Int) < (zr.length : Int) := by omega
        have mt : more = true := by rw [hmore]; simp [z0]
        subst mt
        clear hmore hmore2
        go_wp2_with fail
        with_reducible refine (round_16 (T.below K3) HQ.out.arg (by omega) (by omega) (by omega)).mono ?_
        rintro x w4 ⟨r, rfl, hN, b4⟩
        have HN := hide (dv_of_dn (up := 0) wide_h wide_f_h hA HkA.out H5.out hu1 HM.out (by simpa using hN))
        have K4 := below_trans K3 b4
        clear hN b4
        go_wp2
        go_ret
        exact ⟨r, rfl, HN.out, K4⟩
      · have z1 : zr.length = 0 := by omega
        have mt : more = false := by rw [hmore]; simp [z1]
        subst mt
        clear hmore hmore2
        go_wp2_with fail
        with_reducible refine (round_16 (T.below K3) HQ.out.arg (by omega) (by omega) (by omega)).mono ?_
        rintro x w4 ⟨r, rfl, hN, b4⟩
        have HN := hide (dv_of_dn (up := 0) wide_h wide_f_h hA HkA.out H5.out hu1 HM.out (by simpa using hN))
        have K4 := below_trans K3 b4
        clear hN b4
        go_wp2
        go_ret
        exact ⟨r, rfl, HN.out, K4⟩

set_option maxRecDepth 100000 in
set_option maxHeartbeats 8000000 in
theorem scaled_s {w : World} (T : Lays w) {va : Value} {A e : Int} {ng : Bool} (ha : Arg w va A 120) (hA : 0 < A) (e0 : -1131 ≤ e) (e1 : e ≤ 309) :
    Calls Tryz.prog 87 #[.bool ng, va, .int .i64 e] w fun x w' => ∃ r, x = .returned (.int .u32 (r + b2i ng * 2147483648)) ∧ DV 8388608 (-149) 2139095040 A e r ∧ Below w.heap.size w w' := by
  by_cases c : 0 ≤ e
  · obtain ⟨n, rfl⟩ : ∃ n : Nat, e = n := ⟨e.toNat, by omega⟩
    have n9 : n ≤ 309 := by omega
    have HA := hide ha
    clear ha
    go_enter Tryz.func87, Tryz.ntmps87
    go_wp2_with fail
    refine (pow_ok (b := 5) (N := n) (k := 3) (by omega) (by omega) ⟨by decide, fun _ => by decide⟩ (by omega) (.inr (by omega))).mono ?_
    rintro x w1 ⟨v1, rfl, h1, b1⟩
    have H1 := hide h1
    clear h1
    go_wp2_with fail
    with_reducible refine (mul_any (HA.out.below b1) H1.out.arg (by omega) (by omega)).mono ?_
    rintro x w2 ⟨v2, rfl, h2, b2⟩
    have H2 := hide h2
    clear h2
    have K := below_trans b1 b2
    clear b1 b2
    go_wp2_with fail
    with_reducible refine (round_32 (T.below K) H2.out.arg (by omega) (by omega) (by omega)).mono ?_
    rintro x w3 ⟨r, rfl, hN, b3⟩
    have HN := hide (dv_of_up wide_s hN)
    have K3 := below_trans K b3
    clear hN b3
    go_wp2
    go_ret
    exact ⟨r, rfl, HN.out, K3⟩
  · obtain ⟨n, rfl⟩ : ∃ n : Nat, e = -(n : Int) := ⟨(-e).toNat, by omega⟩
    have n9 : n ≤ 1131 := by omega
    have HA := hide ha
    clear ha
    go_enter Tryz.func87, Tryz.ntmps87
    go_wp2_with fail
    refine (pow_ok (b := 5) (N := n) (k := 3) (by omega) (by omega) ⟨by decide, fun _ => by decide⟩ (by omega) (.inr (by omega))).mono ?_
    rintro x w1 ⟨v1, rfl, h1, b1⟩
    have H1 := hide (h1.tight (five_lt n9))
    clear h1
    have A1 := hide (HA.out.below b1)
    go_wp2_with fail
    with_reducible refine (len_any H1.out.arg (by omega)).mono ?_
    rintro x w' ⟨k5, rfl, hk5, l5, rfl⟩
    have H5 := hide hk5
    clear hk5
    go_wp2_with fail
    with_reducible refine (len_any A1.out (by omega)).mono ?_
    rintro x w'' ⟨kA, rfl, hkA, lA, rfl⟩
    have HkA := hide hkA
    clear hkA
    obtain ⟨up, hup⟩ : ∃ up : Nat, (up : Int) = max 0 ((k5 : Int) + 64 - kA) := ⟨(max 0 ((k5 : Int) + 64 - kA)).toNat, by omega⟩
    have hu1 : k5 + 64 ≤ kA + up := by omega
    have hu2 : up ≤ 2720 := by omega
    by_cases m0 : 0 < (k5 : Int) + 64 - kA
    · have mx : (k5 : Int) + 64 - kA = (up : Int) := by omega
      clear hup
      go_wp2_with fail
      with_reducible refine (shl_room (N := up) A1.out (by omega) (by omega)).mono ?_
      rintro x w2 ⟨v2, rfl, h2, b2⟩
      have H2 := hide h2
      clear h2
      have P1 := hide (H1.out.arg.below b2)
      have K := below_trans b1 b2
      clear b2
      go_wp2_with fail
      with_reducible refine (div_any H2.out.arg P1.out (by omega) (by omega) (pow5_pos n)).mono ?_
      rintro x w3 ⟨vq, vr, rfl, hq, hr, b3⟩
      have HQ := hide hq
      have K3 := below_trans K b3
      clear hq b3 K
      obtain ⟨zr, ⟨ro, rfl, zr1, -⟩, zr2, zr3, zr4⟩ := hr
      have HZ := hide (And.intro zr2 zr3)
      clear zr2 zr3
      obtain ⟨more, hmore⟩ : ∃ m : Bool, m = decide (0 < zr.length) := ⟨_, rfl⟩
      have HM := hide (show Mr more (A * p2 up % 5 ^ n) by
        unfold Mr
        rw [hmore, decide_eq_true_iff]
        have k := Nt.canon_zero HZ.out.1
        rw [HZ.out.2] at k
        rw [Ne, k, ← List.length_eq_zero_iff]
        omega)
      have hmore2 : decide ((0 : Int) < (zr.length : Int)) = more := by rw [hmore]; congr 1; apply propext; omega
      by_cases z0 : 0 < zr.length
      · have z1 : (0 : Int) < (zr.length : Int) := by omega
        have mt : more = true := by rw [hmore]; simp [z0]
        subst mt
        clear hmore hmore2
        go_wp2_with fail
        with_reducible refine (round_32 (T.below K3) HQ.out.arg (by omega) (by omega) (by omega)).mono ?_
        rintro x w4 ⟨r, rfl, hN, b4⟩
        have HN := hide (dv_of_dn wide_s wide_f_s hA HkA.out H5.out hu1 HM.out hN)
        have K4 := below_trans K3 b4
        clear hN b4
        go_wp2
        go_ret
        exact ⟨r, rfl, HN.out, K4⟩
      · have z1 : zr.length = 0 := by omega
        have mt : more = false := by rw [hmore]; simp [z1]
        subst mt
        clear hmore hmore2
        go_wp2_with fail
        with_reducible refine (round_32 (T.below K3) HQ.out.arg (by omega) (by omega) (by omega)).mono ?_
        rintro x w4 ⟨r, rfl, hN, b4⟩
        have HN := hide (dv_of_dn (up := up) wide_s wide_f_s hA HkA.out H5.out hu1 HM.out hN)
        have K4 := below_trans K3 b4
        clear hN b4
        go_wp2
        go_ret
        exact ⟨r, rfl, HN.out, K4⟩
    · have mx : up = 0 := by omega
      subst mx
      clear hup
      go_wp2_with fail
      refine (shl_room (N := 0) A1.out (by omega) (by omega)).mono ?_
      rintro x w2 ⟨v2, rfl, h2, b2⟩
      have H2 := hide h2
      clear h2
      have P1 := hide (H1.out.arg.below b2)
      have K := below_trans b1 b2
      clear b2
      go_wp2_with fail
      with_reducible refine (div_any H2.out.arg P1.out (by omega) (by omega) (pow5_pos n)).mono ?_
      rintro x w3 ⟨vq, vr, rfl, hq, hr, b3⟩
      have HQ := hide hq
      have K3 := below_trans K b3
      clear hq b3 K
      obtain ⟨zr, ⟨ro, rfl, zr1, -⟩, zr2, zr3, zr4⟩ := hr
      have HZ := hide (And.intro zr2 zr3)
      clear zr2 zr3
      obtain ⟨more, hmore⟩ : ∃ m : Bool, m = decide (0 < zr.length) := ⟨_, rfl⟩
      have HM := hide (show Mr more (A * p2 0 % 5 ^ n) by
        unfold Mr
        rw [hmore, decide_eq_true_iff]
        have k := Nt.canon_zero HZ.out.1
        rw [HZ.out.2] at k
        rw [Ne, k, ← List.length_eq_zero_iff]
        omega)
      have hmore2 : decide ((0 : Int) < (zr.length : Int)) = more := by rw [hmore]; congr 1; apply propext; omega
      by_cases z0 : 0 < zr.length
      · have z1 : (0 : Int) < (zr.length : Int) := by omega
        have mt : more = true := by rw [hmore]; simp [z0]
        subst mt
        clear hmore hmore2
        go_wp2_with fail
        with_reducible refine (round_32 (T.below K3) HQ.out.arg (by omega) (by omega) (by omega)).mono ?_
        rintro x w4 ⟨r, rfl, hN, b4⟩
        have HN := hide (dv_of_dn (up := 0) wide_s wide_f_s hA HkA.out H5.out hu1 HM.out (by simpa using hN))
        have K4 := below_trans K3 b4
        clear hN b4
        go_wp2
        go_ret
        exact ⟨r, rfl, HN.out, K4⟩
      · have z1 : zr.length = 0 := by omega
        have mt : more = false := by rw [hmore]; simp [z1]
        subst mt
        clear hmore hmore2
        go_wp2_with fail
        with_reducible refine (round_32 (T.below K3) HQ.out.arg (by omega) (by omega) (by omega)).mono ?_
        rintro x w4 ⟨r, rfl, hN, b4⟩
        have HN := hide (dv_of_dn (up := 0) wide_s wide_f_s hA HkA.out H5.out hu1 HM.out (by simpa using hN))
        have K4 := below_trans K3 b4
        clear hN b4
        go_wp2
        go_ret
        exact ⟨r, rfl, HN.out, K4⟩

set_option maxRecDepth 100000 in
set_option maxHeartbeats 8000000 in
theorem scaled_d {w : World} (T : Lays w) {va : Value} {A e : Int} {ng : Bool} (ha : Arg w va A 120) (hA : 0 < A) (e0 : -1131 ≤ e) (e1 : e ≤ 309) :
    Calls Tryz.prog 89 #[.bool ng, va, .int .i64 e] w fun x w' => ∃ r, x = .returned (.int .u64 (r + b2i ng * 9223372036854775808)) ∧ DV 4503599627370496 (-1074) 9218868437227405312 A e r ∧ Below w.heap.size w w' := by
  by_cases c : 0 ≤ e
  · obtain ⟨n, rfl⟩ : ∃ n : Nat, e = n := ⟨e.toNat, by omega⟩
    have n9 : n ≤ 309 := by omega
    have HA := hide ha
    clear ha
    go_enter Tryz.func89, Tryz.ntmps89
    go_wp2_with fail
    refine (pow_ok (b := 5) (N := n) (k := 3) (by omega) (by omega) ⟨by decide, fun _ => by decide⟩ (by omega) (.inr (by omega))).mono ?_
    rintro x w1 ⟨v1, rfl, h1, b1⟩
    have H1 := hide h1
    clear h1
    go_wp2_with fail
    with_reducible refine (mul_any (HA.out.below b1) H1.out.arg (by omega) (by omega)).mono ?_
    rintro x w2 ⟨v2, rfl, h2, b2⟩
    have H2 := hide h2
    clear h2
    have K := below_trans b1 b2
    clear b1 b2
    go_wp2_with fail
    with_reducible refine (round_64 (T.below K) H2.out.arg (by omega) (by omega) (by omega)).mono ?_
    rintro x w3 ⟨r, rfl, hN, b3⟩
    have HN := hide (dv_of_up wide_d hN)
    have K3 := below_trans K b3
    clear hN b3
    go_wp2
    go_ret
    exact ⟨r, rfl, HN.out, K3⟩
  · obtain ⟨n, rfl⟩ : ∃ n : Nat, e = -(n : Int) := ⟨(-e).toNat, by omega⟩
    have n9 : n ≤ 1131 := by omega
    have HA := hide ha
    clear ha
    go_enter Tryz.func89, Tryz.ntmps89
    go_wp2_with fail
    refine (pow_ok (b := 5) (N := n) (k := 3) (by omega) (by omega) ⟨by decide, fun _ => by decide⟩ (by omega) (.inr (by omega))).mono ?_
    rintro x w1 ⟨v1, rfl, h1, b1⟩
    have H1 := hide (h1.tight (five_lt n9))
    clear h1
    have A1 := hide (HA.out.below b1)
    go_wp2_with fail
    with_reducible refine (len_any H1.out.arg (by omega)).mono ?_
    rintro x w' ⟨k5, rfl, hk5, l5, rfl⟩
    have H5 := hide hk5
    clear hk5
    go_wp2_with fail
    with_reducible refine (len_any A1.out (by omega)).mono ?_
    rintro x w'' ⟨kA, rfl, hkA, lA, rfl⟩
    have HkA := hide hkA
    clear hkA
    obtain ⟨up, hup⟩ : ∃ up : Nat, (up : Int) = max 0 ((k5 : Int) + 64 - kA) := ⟨(max 0 ((k5 : Int) + 64 - kA)).toNat, by omega⟩
    have hu1 : k5 + 64 ≤ kA + up := by omega
    have hu2 : up ≤ 2720 := by omega
    by_cases m0 : 0 < (k5 : Int) + 64 - kA
    · have mx : (k5 : Int) + 64 - kA = (up : Int) := by omega
      clear hup
      go_wp2_with fail
      with_reducible refine (shl_room (N := up) A1.out (by omega) (by omega)).mono ?_
      rintro x w2 ⟨v2, rfl, h2, b2⟩
      have H2 := hide h2
      clear h2
      have P1 := hide (H1.out.arg.below b2)
      have K := below_trans b1 b2
      clear b2
      go_wp2_with fail
      with_reducible refine (div_any H2.out.arg P1.out (by omega) (by omega) (pow5_pos n)).mono ?_
      rintro x w3 ⟨vq, vr, rfl, hq, hr, b3⟩
      have HQ := hide hq
      have K3 := below_trans K b3
      clear hq b3 K
      obtain ⟨zr, ⟨ro, rfl, zr1, -⟩, zr2, zr3, zr4⟩ := hr
      have HZ := hide (And.intro zr2 zr3)
      clear zr2 zr3
      obtain ⟨more, hmore⟩ : ∃ m : Bool, m = decide (0 < zr.length) := ⟨_, rfl⟩
      have HM := hide (show Mr more (A * p2 up % 5 ^ n) by
        unfold Mr
        rw [hmore, decide_eq_true_iff]
        have k := Nt.canon_zero HZ.out.1
        rw [HZ.out.2] at k
        rw [Ne, k, ← List.length_eq_zero_iff]
        omega)
      have hmore2 : decide ((0 : Int) < (zr.length : Int)) = more := by rw [hmore]; congr 1; apply propext; omega
      by_cases z0 : 0 < zr.length
      · have z1 : (0 : Int) < (zr.length : Int) := by omega
        have mt : more = true := by rw [hmore]; simp [z0]
        subst mt
        clear hmore hmore2
        go_wp2_with fail
        with_reducible refine (round_64 (T.below K3) HQ.out.arg (by omega) (by omega) (by omega)).mono ?_
        rintro x w4 ⟨r, rfl, hN, b4⟩
        have HN := hide (dv_of_dn wide_d wide_f_d hA HkA.out H5.out hu1 HM.out hN)
        have K4 := below_trans K3 b4
        clear hN b4
        go_wp2
        go_ret
        exact ⟨r, rfl, HN.out, K4⟩
      · have z1 : zr.length = 0 := by omega
        have mt : more = false := by rw [hmore]; simp [z1]
        subst mt
        clear hmore hmore2
        go_wp2_with fail
        with_reducible refine (round_64 (T.below K3) HQ.out.arg (by omega) (by omega) (by omega)).mono ?_
        rintro x w4 ⟨r, rfl, hN, b4⟩
        have HN := hide (dv_of_dn (up := up) wide_d wide_f_d hA HkA.out H5.out hu1 HM.out hN)
        have K4 := below_trans K3 b4
        clear hN b4
        go_wp2
        go_ret
        exact ⟨r, rfl, HN.out, K4⟩
    · have mx : up = 0 := by omega
      subst mx
      clear hup
      go_wp2_with fail
      refine (shl_room (N := 0) A1.out (by omega) (by omega)).mono ?_
      rintro x w2 ⟨v2, rfl, h2, b2⟩
      have H2 := hide h2
      clear h2
      have P1 := hide (H1.out.arg.below b2)
      have K := below_trans b1 b2
      clear b2
      go_wp2_with fail
      with_reducible refine (div_any H2.out.arg P1.out (by omega) (by omega) (pow5_pos n)).mono ?_
      rintro x w3 ⟨vq, vr, rfl, hq, hr, b3⟩
      have HQ := hide hq
      have K3 := below_trans K b3
      clear hq b3 K
      obtain ⟨zr, ⟨ro, rfl, zr1, -⟩, zr2, zr3, zr4⟩ := hr
      have HZ := hide (And.intro zr2 zr3)
      clear zr2 zr3
      obtain ⟨more, hmore⟩ : ∃ m : Bool, m = decide (0 < zr.length) := ⟨_, rfl⟩
      have HM := hide (show Mr more (A * p2 0 % 5 ^ n) by
        unfold Mr
        rw [hmore, decide_eq_true_iff]
        have k := Nt.canon_zero HZ.out.1
        rw [HZ.out.2] at k
        rw [Ne, k, ← List.length_eq_zero_iff]
        omega)
      have hmore2 : decide ((0 : Int) < (zr.length : Int)) = more := by rw [hmore]; congr 1; apply propext; omega
      by_cases z0 : 0 < zr.length
      · have z1 : (0 : Int) < (zr.length : Int) := by omega
        have mt : more = true := by rw [hmore]; simp [z0]
        subst mt
        clear hmore hmore2
        go_wp2_with fail
        with_reducible refine (round_64 (T.below K3) HQ.out.arg (by omega) (by omega) (by omega)).mono ?_
        rintro x w4 ⟨r, rfl, hN, b4⟩
        have HN := hide (dv_of_dn (up := 0) wide_d wide_f_d hA HkA.out H5.out hu1 HM.out (by simpa using hN))
        have K4 := below_trans K3 b4
        clear hN b4
        go_wp2
        go_ret
        exact ⟨r, rfl, HN.out, K4⟩
      · have z1 : zr.length = 0 := by omega
        have mt : more = false := by rw [hmore]; simp [z1]
        subst mt
        clear hmore hmore2
        go_wp2_with fail
        with_reducible refine (round_64 (T.below K3) HQ.out.arg (by omega) (by omega) (by omega)).mono ?_
        rintro x w4 ⟨r, rfl, hN, b4⟩
        have HN := hide (dv_of_dn (up := 0) wide_d wide_f_d hA HkA.out H5.out hu1 HM.out (by simpa using hN))
        have K4 := below_trans K3 b4
        clear hN b4
        go_wp2
        go_ret
        exact ⟨r, rfl, HN.out, K4⟩

set_option maxRecDepth 100000 in
set_option maxHeartbeats 8000000 in
theorem scaled_o {w : World} (T : Lays w) {va : Value} {A e : Int} {ng : Bool} (ha : Arg w va A 120) (hA : 0 < A) (e0 : -1131 ≤ e) (e1 : e ≤ 309) :
    Calls Tryz.prog 92 #[.bool ng, va, .int .i64 e] w fun x w' => ∃ r, x = .returned (.int .u16 (r + b2i ng * 32768)) ∧ DV 1024 (-24) 31744 A e r ∧ Below w.heap.size w w' := by
  by_cases c : 0 ≤ e
  · obtain ⟨n, rfl⟩ : ∃ n : Nat, e = n := ⟨e.toNat, by omega⟩
    have n9 : n ≤ 309 := by omega
    have HA := hide ha
    clear ha
    go_enter Tryz.func92, Tryz.ntmps92
    go_wp2_with fail
    refine (pow_ok (b := 5) (N := n) (k := 3) (by omega) (by omega) ⟨by decide, fun _ => by decide⟩ (by omega) (.inr (by omega))).mono ?_
    rintro x w1 ⟨v1, rfl, h1, b1⟩
    have H1 := hide h1
    clear h1
    go_wp2_with fail
    with_reducible refine (mul_any (HA.out.below b1) H1.out.arg (by omega) (by omega)).mono ?_
    rintro x w2 ⟨v2, rfl, h2, b2⟩
    have H2 := hide h2
    clear h2
    have K := below_trans b1 b2
    clear b1 b2
    go_wp2_with fail
    with_reducible refine (round_o (T.below K) H2.out.arg (by omega) (by omega) (by omega)).mono ?_
    rintro x w3 ⟨r, rfl, hN, b3⟩
    have HN := hide (dv_of_up wide_h hN)
    have K3 := below_trans K b3
    clear hN b3
    go_wp2
    go_ret
    exact ⟨r, rfl, HN.out, K3⟩
  · obtain ⟨n, rfl⟩ : ∃ n : Nat, e = -(n : Int) := ⟨(-e).toNat, by omega⟩
    have n9 : n ≤ 1131 := by omega
    have HA := hide ha
    clear ha
    go_enter Tryz.func92, Tryz.ntmps92
    go_wp2_with fail
    refine (pow_ok (b := 5) (N := n) (k := 3) (by omega) (by omega) ⟨by decide, fun _ => by decide⟩ (by omega) (.inr (by omega))).mono ?_
    rintro x w1 ⟨v1, rfl, h1, b1⟩
    have H1 := hide (h1.tight (five_lt n9))
    clear h1
    have A1 := hide (HA.out.below b1)
    go_wp2_with fail
    with_reducible refine (len_any H1.out.arg (by omega)).mono ?_
    rintro x w' ⟨k5, rfl, hk5, l5, rfl⟩
    have H5 := hide hk5
    clear hk5
    go_wp2_with fail
    with_reducible refine (len_any A1.out (by omega)).mono ?_
    rintro x w'' ⟨kA, rfl, hkA, lA, rfl⟩
    have HkA := hide hkA
    clear hkA
    obtain ⟨up, hup⟩ : ∃ up : Nat, (up : Int) = max 0 ((k5 : Int) + 64 - kA) := ⟨(max 0 ((k5 : Int) + 64 - kA)).toNat, by omega⟩
    have hu1 : k5 + 64 ≤ kA + up := by omega
    have hu2 : up ≤ 2720 := by omega
    by_cases m0 : 0 < (k5 : Int) + 64 - kA
    · have mx : (k5 : Int) + 64 - kA = (up : Int) := by omega
      clear hup
      go_wp2_with fail
      with_reducible refine (shl_room (N := up) A1.out (by omega) (by omega)).mono ?_
      rintro x w2 ⟨v2, rfl, h2, b2⟩
      have H2 := hide h2
      clear h2
      have P1 := hide (H1.out.arg.below b2)
      have K := below_trans b1 b2
      clear b2
      go_wp2_with fail
      with_reducible refine (div_any H2.out.arg P1.out (by omega) (by omega) (pow5_pos n)).mono ?_
      rintro x w3 ⟨vq, vr, rfl, hq, hr, b3⟩
      have HQ := hide hq
      have K3 := below_trans K b3
      clear hq b3 K
      obtain ⟨zr, ⟨ro, rfl, zr1, -⟩, zr2, zr3, zr4⟩ := hr
      have HZ := hide (And.intro zr2 zr3)
      clear zr2 zr3
      obtain ⟨more, hmore⟩ : ∃ m : Bool, m = decide (0 < zr.length) := ⟨_, rfl⟩
      have HM := hide (show Mr more (A * p2 up % 5 ^ n) by
        unfold Mr
        rw [hmore, decide_eq_true_iff]
        have k := Nt.canon_zero HZ.out.1
        rw [HZ.out.2] at k
        rw [Ne, k, ← List.length_eq_zero_iff]
        omega)
      have hmore2 : decide ((0 : Int) < (zr.length : Int)) = more := by rw [hmore]; congr 1; apply propext; omega
      by_cases z0 : 0 < zr.length
      · have z1 : (0 : Int) < (zr.length : Int) := by omega
        have mt : more = true := by rw [hmore]; simp [z0]
        subst mt
        clear hmore hmore2
        go_wp2_with fail
        with_reducible refine (round_o (T.below K3) HQ.out.arg (by omega) (by omega) (by omega)).mono ?_
        rintro x w4 ⟨r, rfl, hN, b4⟩
        have HN := hide (dv_of_dn wide_h wide_f_h hA HkA.out H5.out hu1 HM.out hN)
        have K4 := below_trans K3 b4
        clear hN b4
        go_wp2
        go_ret
        exact ⟨r, rfl, HN.out, K4⟩
      · have z1 : zr.length = 0 := by omega
        have mt : more = false := by rw [hmore]; simp [z1]
        subst mt
        clear hmore hmore2
        go_wp2_with fail
        with_reducible refine (round_o (T.below K3) HQ.out.arg (by omega) (by omega) (by omega)).mono ?_
        rintro x w4 ⟨r, rfl, hN, b4⟩
        have HN := hide (dv_of_dn (up := up) wide_h wide_f_h hA HkA.out H5.out hu1 HM.out hN)
        have K4 := below_trans K3 b4
        clear hN b4
        go_wp2
        go_ret
        exact ⟨r, rfl, HN.out, K4⟩
    · have mx : up = 0 := by omega
      subst mx
      clear hup
      go_wp2_with fail
      refine (shl_room (N := 0) A1.out (by omega) (by omega)).mono ?_
      rintro x w2 ⟨v2, rfl, h2, b2⟩
      have H2 := hide h2
      clear h2
      have P1 := hide (H1.out.arg.below b2)
      have K := below_trans b1 b2
      clear b2
      go_wp2_with fail
      with_reducible refine (div_any H2.out.arg P1.out (by omega) (by omega) (pow5_pos n)).mono ?_
      rintro x w3 ⟨vq, vr, rfl, hq, hr, b3⟩
      have HQ := hide hq
      have K3 := below_trans K b3
      clear hq b3 K
      obtain ⟨zr, ⟨ro, rfl, zr1, -⟩, zr2, zr3, zr4⟩ := hr
      have HZ := hide (And.intro zr2 zr3)
      clear zr2 zr3
      obtain ⟨more, hmore⟩ : ∃ m : Bool, m = decide (0 < zr.length) := ⟨_, rfl⟩
      have HM := hide (show Mr more (A * p2 0 % 5 ^ n) by
        unfold Mr
        rw [hmore, decide_eq_true_iff]
        have k := Nt.canon_zero HZ.out.1
        rw [HZ.out.2] at k
        rw [Ne, k, ← List.length_eq_zero_iff]
        omega)
      have hmore2 : decide ((0 : Int) < (zr.length : Int)) = more := by rw [hmore]; congr 1; apply propext; omega
      by_cases z0 : 0 < zr.length
      · have z1 : (0 : Int) < (zr.length : Int) := by omega
        have mt : more = true := by rw [hmore]; simp [z0]
        subst mt
        clear hmore hmore2
        go_wp2_with fail
        with_reducible refine (round_o (T.below K3) HQ.out.arg (by omega) (by omega) (by omega)).mono ?_
        rintro x w4 ⟨r, rfl, hN, b4⟩
        have HN := hide (dv_of_dn (up := 0) wide_h wide_f_h hA HkA.out H5.out hu1 HM.out (by simpa using hN))
        have K4 := below_trans K3 b4
        clear hN b4
        go_wp2
        go_ret
        exact ⟨r, rfl, HN.out, K4⟩
      · have z1 : zr.length = 0 := by omega
        have mt : more = false := by rw [hmore]; simp [z1]
        subst mt
        clear hmore hmore2
        go_wp2_with fail
        with_reducible refine (round_o (T.below K3) HQ.out.arg (by omega) (by omega) (by omega)).mono ?_
        rintro x w4 ⟨r, rfl, hN, b4⟩
        have HN := hide (dv_of_dn (up := 0) wide_h wide_f_h hA HkA.out H5.out hu1 HM.out (by simpa using hN))
        have K4 := below_trans K3 b4
        clear hN b4
        go_wp2
        go_ret
        exact ⟨r, rfl, HN.out, K4⟩

end Go.Proofs.YtigehipclkoecaaGreatDoor
