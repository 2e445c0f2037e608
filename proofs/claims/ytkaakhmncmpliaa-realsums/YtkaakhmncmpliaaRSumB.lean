/- crucibleref05.Sum: the walk -/
import Derived.Test.YtkaakhmncmpliaaRSum
namespace Go.Proofs.Ytkaakhmncmpliaa
open Go.RowKit
set_option linter.unusedVariables false

theorem mst_lt53 (s : Nat) : mst 4503599627370496 (s : Int) < 9007199254740992 ∧ 0 ≤ mst 4503599627370496 (s : Int) := by
  unfold mst
  split
  · omega
  · omega
theorem est_top (s : Nat) (h : s < 9218868437227405312) : est 4503599627370496 (-1074) (s : Int) ≤ 971 ∧ -1074 ≤ est 4503599627370496 (-1074) (s : Int) := by
  unfold est
  split
  · omega
  · omega
theorem sum_bound {m d : Int} {X : Int} (h : m * p2 d.toNat = X) (m0 : 0 ≤ m) (m1 : m < 9007199254740992) (hd : d ≤ 2045) : X < p2 (53 + 2045) := by
  have h1 : m * p2 d.toNat < 9007199254740992 * p2 d.toNat := Int.mul_lt_mul_of_pos_right m1 (p2_pos _)
  have h2 : (9007199254740992 : Int) * p2 d.toNat = p2 (53 + d.toNat) := by rw [p2_add, show p2 53 = 9007199254740992 by decide]
  have h3 := p2_mono (m := 53 + d.toNat) (n := 53 + 2045) (by omega)
  rw [h, h2] at h1
  exact Int.lt_of_lt_of_le h1 h3
theorem sum_bounds {X Y : Int} {M N : Nat} (hX : X < p2 M) (hY : Y < p2 M) (hN : N = M + 1) : X + Y < p2 N := by
  rw [hN, p2]
  omega
set_option maxRecDepth 100000 in
set_option maxHeartbeats 2000000 in
theorem sumfin_walk {w : World} {a b m n e f ta tb X Y B T : Int} {sa sb : Bool} {M : Nat}
    (qa : ∀ w, Calls Try.prog 15 #[.int .u64 a] w fun e w' => e = .returned (.bool false) ∧ w' = w)
    (qb : ∀ w, Calls Try.prog 15 #[.int .u64 b] w fun e w' => e = .returned (.bool false) ∧ w' = w)
    (ia : ∀ w, Calls Try.prog 46 #[.int .u64 a] w fun e w' => e = .returned (.bool false) ∧ w' = w)
    (ib : ∀ w, Calls Try.prog 46 #[.int .u64 b] w fun e w' => e = .returned (.bool false) ∧ w' = w)
    (na : ∀ w, Calls Try.prog 55 #[.int .u64 a] w fun e w' => e = .returned (.bool sa) ∧ w' = w)
    (nb : ∀ w, Calls Try.prog 55 #[.int .u64 b] w fun e w' => e = .returned (.bool sb) ∧ w' = w)
    (hm : ∀ w, Calls Try.prog 47 #[.int .u64 a] w fun x w' => x = .returned (.tuple #[.int .u64 m, .int .i64 e]) ∧ w' = w)
    (hn : ∀ w, Calls Try.prog 47 #[.int .u64 b] w fun x w' => x = .returned (.tuple #[.int .u64 n, .int .i64 f]) ∧ w' = w)
    (tA : bits .and .u64 a 9223372036854775808 = ta) (tB : bits .and .u64 b 9223372036854775808 = tb) (ta0 : 0 ≤ ta) (ta1 : ta ≤ 9223372036854775808) (tb0 : 0 ≤ tb) (tb1 : tb ≤ 9223372036854775808)
    (m0 : 0 ≤ m) (n0 : 0 ≤ n) (m1 : m < 9007199254740992) (n1 : n < 9007199254740992) (HM1 : Hid (m < p2 M)) (HN1 : Hid (n < p2 M)) (hM : M ≤ 2200) (e0 : -1074 ≤ e) (e1 : e ≤ 971) (f0 : -1074 ≤ f) (f1 : f ≤ 971)
    (hB : B = min e f) (HX : Hid (m * p2 (e - B).toNat = X)) (HY : Hid (n * p2 (f - B).toNat = Y)) (X0 : 0 ≤ X) (Y0 : 0 ≤ Y) (HbX : Hid (X < p2 M)) (HbY : Hid (Y < p2 M)) (Hb2 : Hid (X + Y < p2 M))
    (H1 : Hid (sa = sb → ∀ r, Near 4503599627370496 (-1074) 9218868437227405312 (X + Y) B r → T = ta + r))
    (H2 : Hid (sa ≠ sb → X = Y → T = 0))
    (H3 : Hid (sa ≠ sb → Y < X → ∀ r, Near 4503599627370496 (-1074) 9218868437227405312 (X - Y) B r → T = ta + r))
    (H4 : Hid (sa ≠ sb → X < Y → ∀ r, Near 4503599627370496 (-1074) 9218868437227405312 (Y - X) B r → T = tb + r)) :
    Calls Try.prog 34 #[.int .u64 a, .int .u64 b] w fun x w' => x = .returned (.int .u64 T) ∧ Below w.heap.size w w' := by
  go_enter Try.func34, Try.ntmps34
  go_upto_region 9 with (first | (with_reducible refine (qa _).mono ?_; rintro e' w3 ⟨rfl, rfl⟩) | (with_reducible refine (qb _).mono ?_; rintro e' w3 ⟨rfl, rfl⟩) | (with_reducible refine (ia _).mono ?_; rintro e' w3 ⟨rfl, rfl⟩) | (with_reducible refine (ib _).mono ?_; rintro e' w3 ⟨rfl, rfl⟩) | (with_reducible refine (hm _).mono ?_; rintro e' w3 ⟨rfl, rfl⟩) | (with_reducible refine (hn _).mono ?_; rintro e' w3 ⟨rfl, rfl⟩))
  go_cut [9] from 16 (fun s wx => s = .int .i64 B ∧ w3 = wx)
  case first =>
    rcases Int.lt_trichotomy e f with d | d | d
    · obtain rfl : B = e := by omega
      clear hB
      go_wp2
      go_meet
      case rel => exact ⟨rfl, rfl⟩
    · obtain rfl : B = e := by omega
      clear hB
      go_wp2
      all_goals go_meet
      all_goals exact ⟨by first | rfl | (rw [d]), rfl⟩
    · obtain rfl : B = f := by omega
      clear hB
      go_wp2
      go_meet
      case rel => exact ⟨rfl, rfl⟩
  case rest =>
    obtain ⟨rfl, rfl⟩ := hcut
    have d0 : 0 ≤ e - B := by omega
    have d1 : e - B ≤ 10000 := by omega
    have d2 : 0 ≤ f - B := by omega
    have d3 : f - B ≤ 10000 := by omega
    have B0 : -4000 ≤ B := by omega
    have B1 : B ≤ 4000 := by omega
    have M4 : M ≤ 4000 := by omega
    have M10 : M ≤ 10000 := by omega
    clear hB
    go_wp2_with fail
    with_reducible refine (rfrom_any m m0 (by omega)).mono ?_
    rintro x' w4 ⟨v1, rfl, g1, K⟩
    go_wp2_with fail
    with_reducible refine (shl_told g1.arg (by omega) HM1.out M10 d0 d1).mono ?_
    rintro x' w5 ⟨v2, rfl, g2, b5⟩
    rw [HX.out] at g2
    replace K := below_trans K b5
    clear g1 b5
    go_wp2_with fail
    with_reducible refine (rfrom_any n n0 (by omega)).mono ?_
    rintro x' w6 ⟨v3, rfl, g3, b6⟩
    replace g2 := g2.below b6
    replace K := below_trans K b6
    clear b6
    go_wp2_with fail
    with_reducible refine (shl_told g3.arg (by omega) HN1.out M10 d2 d3).mono ?_
    rintro x' w7 ⟨v4, rfl, g4, b7⟩
    rw [HY.out] at g4
    replace g2 := g2.below b7
    replace K := below_trans K b7
    clear b7 g3 m0 n0 m1 n1 HM1 HN1 HX HY e0 e1 f0 f1 d0 d1 d2 d3
    by_cases hs : sa = sb
    · have h1 := H1.out hs
      have HR := hide h1
      subst hs
      clear h1 H1 H2 H3 H4
      go_wp2_with (first | (with_reducible refine (na _).mono ?_; rintro e' w8 ⟨rfl, rfl⟩) | (with_reducible refine (nb _).mono ?_; rintro e' w8 ⟨rfl, rfl⟩))
      with_reducible refine (radd_any g2.arg g4.arg (by omega) (by omega)).mono ?_
      rintro x' w9 ⟨v5, rfl, g5, b9⟩
      replace K := below_trans K b9
      go_wp2_with fail
      with_reducible refine (nearest_64 g5.arg (by omega) Hb2.out M4 B0 B1).mono ?_
      rintro x' w10 ⟨r, rfl, hr, b10⟩
      replace K := below_trans K b10
      have r0 := hr.1
      have r1 := hr.2.1
      have HT := hide (HR.out r hr)
      clear hr HR b9 b10
      go_wp2
      go_ret
      exact ⟨by rw [HT.out]; rfl, K⟩
    · have hs' : (sa == sb) = false := by cases sa <;> cases sb <;> simp_all
      have h2 := H2.out hs
      have h3 := H3.out hs
      have h4 := H4.out hs
      have K2 := hide h2
      have K3 := hide h3
      have K4 := hide h4
      clear h2 h3 h4 H1 H2 H3 H4 hs
      go_wp2_with (first | (with_reducible refine (na _).mono ?_; rintro e' w8 ⟨rfl, rfl⟩) | (with_reducible refine (nb _).mono ?_; rintro e' w8 ⟨rfl, rfl⟩))
      rcases Int.lt_or_le X Y with c | c
      · have HR := hide (K4.out c)
        with_reducible refine (rsub_no g2.arg g4.arg (by omega) (by omega) c).mono ?_
        rintro x' w9 ⟨rfl, b9⟩
        replace g2 := g2.below b9
        replace g4 := g4.below b9
        replace K := below_trans K b9
        go_wp2_with fail
        with_reducible refine (rsub_yes g4.arg g2.arg (by omega) (by omega) (Int.le_of_lt c)).mono ?_
        rintro x' w10 ⟨v5, rfl, g5, b10⟩
        replace K := below_trans K b10
        have Hd := hide (show Y - X < p2 M by have := HbY.out; omega)
        go_wp2_with fail
        with_reducible refine (nearest_64 g5.arg (by omega) Hd.out M4 B0 B1).mono ?_
        rintro x' w11 ⟨r, rfl, hr, b11⟩
        replace K := below_trans K b11
        have r0 := hr.1
        have r1 := hr.2.1
        have HT := hide (HR.out r hr)
        clear hr HR b9 b10 b11
        go_wp2
        go_ret
        exact ⟨by rw [HT.out]; rfl, K⟩
      · with_reducible refine (rsub_yes g2.arg g4.arg (by omega) (by omega) c).mono ?_
        rintro x' w9 ⟨v5, rfl, g5, b9⟩
        replace K := below_trans K b9
        by_cases hxy : X = Y
        · have HT := hide (K2.out hxy)
          have hl : IsLen (X - Y) 0 := ⟨by rw [hxy, Int.sub_self]; decide, fun h => by omega⟩
          have HL := hide hl
          clear hl
          go_wp2_with fail
          with_reducible refine (rlen_any g5.arg (by omega) HL.out).mono ?_
          rintro x' w10 ⟨rfl, b10⟩
          replace K := below_trans K b10
          go_wp2
          go_ret
          exact ⟨by rw [HT.out]; rfl, K⟩
        · have lt : Y < X := by omega
          have HR := hide (K3.out lt)
          have Hd := hide (show X - Y < p2 M by have := HbX.out; omega)
          obtain ⟨kl, hl, _⟩ := arg_len g5.arg
          have kl0 : kl ≠ 0 := by
            intro z
            have := hl.1
            rw [z] at this
            simp only [p2] at this
            omega
          have kl' : ((kl : Int) == 0) = false := by simp [kl0]
          have HL := hide hl
          clear hl
          go_wp2_with fail
          with_reducible refine (rlen_any g5.arg (by omega) HL.out).mono ?_
          rintro x' w10 ⟨rfl, b10⟩
          replace K := below_trans K b10
          replace g5 := g5.below b10
          go_wp2_with fail
          with_reducible refine (nearest_64 g5.arg (by omega) Hd.out M4 B0 B1).mono ?_
          rintro x' w11 ⟨r, rfl, hr, b11⟩
          replace K := below_trans K b11
          have r0 := hr.1
          have r1 := hr.2.1
          have HT := hide (HR.out r hr)
          clear hr HR b9 b10 b11
          go_wp2
          go_ret
          exact ⟨by rw [HT.out]; rfl, K⟩

end Go.Proofs.Ytkaakhmncmpliaa
