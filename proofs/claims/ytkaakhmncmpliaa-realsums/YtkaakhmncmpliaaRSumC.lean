/- crucibleref05.Sum: its answer -/
import Derived.Test.YtkaakhmncmpliaaRSumB
namespace Go.Proofs.Ytkaakhmncmpliaa
open Go.RowKit
set_option linter.unusedVariables false

set_option maxRecDepth 100000 in
set_option maxHeartbeats 2000000 in
theorem sum_any (w : World) (a b : Int) (h0 : 0 ≤ a) (h1 : a < 18446744073709551616) (g0 : 0 ≤ b) (g1 : b < 18446744073709551616) : Calls Try.prog 34 #[.int .u64 a, .int .u64 b] w fun e w' => e = .returned (.int .u64 (oneD (sumD a.toNat b.toNat))) ∧ Below w.heap.size w w' := by
  have qa : ∀ w, Calls Try.prog 15 #[.int .u64 a] w fun e w' => e = .returned (.bool (decide (nanD a.toNat))) ∧ w' = w := fun w => isnan_any w a h0 h1
  have qb : ∀ w, Calls Try.prog 15 #[.int .u64 b] w fun e w' => e = .returned (.bool (decide (nanD b.toNat))) ∧ w' = w := fun w => isnan_any w b g0 g1
  have ia : ∀ w, Calls Try.prog 46 #[.int .u64 a] w fun e w' => e = .returned (.bool (decide (szD a.toNat = 9218868437227405312))) ∧ w' = w := fun w => isinf_any w a h0 h1
  have ib : ∀ w, Calls Try.prog 46 #[.int .u64 b] w fun e w' => e = .returned (.bool (decide (szD b.toNat = 9218868437227405312))) ∧ w' = w := fun w => isinf_any w b g0 g1
  have wa : a.toNat = Ieee.double.word (ngD a.toNat) (szD a.toNat) := word_szD (by omega)
  have wb : b.toNat = Ieee.double.word (ngD b.toNat) (szD b.toNat) := word_szD (by omega)
  by_cases pa : nanD a.toNat
  · have H := hide (show oneD (sumD a.toNat b.toNat) = 9221120237041090560 by unfold sumD; rw [add_nan (Or.inl pa)]; exact one_nan nan_one)
    rw [decide_eq_true pa] at qa
    clear pa ia ib wa wb
    go_enter Try.func34, Try.ntmps34
    go_wp2_with (first | (with_reducible refine (qa _).mono ?_; rintro e w3 ⟨rfl, rfl⟩))
    go_ret
    exact ⟨by rw [H.out]; rfl, Below.refl _ _⟩
  rw [decide_eq_false pa] at qa
  by_cases pb : nanD b.toNat
  · have H := hide (show oneD (sumD a.toNat b.toNat) = 9221120237041090560 by unfold sumD; rw [add_nan (Or.inr pb)]; exact one_nan nan_one)
    rw [decide_eq_true pb] at qb
    clear pa pb ia ib wa wb
    go_enter Try.func34, Try.ntmps34
    go_wp2_with (first | (with_reducible refine (qa _).mono ?_; rintro e w3 ⟨rfl, rfl⟩) | (with_reducible refine (qb _).mono ?_; rintro e w3 ⟨rfl, rfl⟩))
    go_ret
    exact ⟨by rw [H.out]; rfl, Below.refl _ _⟩
  rw [decide_eq_false pb] at qb
  by_cases za : szD a.toNat = 9218868437227405312
  · rw [decide_eq_true za] at ia
    by_cases zb : szD b.toNat = 9218868437227405312
    · rw [decide_eq_true zb] at ib
      by_cases ab : a = b
      · have ab' : (a != b) = false := by simp [ab]
        have H := hide (show oneD (sumD a.toNat b.toNat) = a by
          rw [sum_inf za pb (fun _ => by rw [ab]), ← za, ← wa, one_not pa]; omega)
        clear pa pb za zb wa wb ab
        go_enter Try.func34, Try.ntmps34
        go_wp2_with (first | (with_reducible refine (qa _).mono ?_; rintro e w3 ⟨rfl, rfl⟩) | (with_reducible refine (qb _).mono ?_; rintro e w3 ⟨rfl, rfl⟩) | (with_reducible refine (ia _).mono ?_; rintro e w3 ⟨rfl, rfl⟩) | (with_reducible refine (ib _).mono ?_; rintro e w3 ⟨rfl, rfl⟩))
        go_ret
        exact ⟨by rw [H.out]; rfl, Below.refl _ _⟩
      · have ab' : (a != b) = true := by simp [ab]
        have H := hide (show oneD (sumD a.toNat b.toNat) = 9221120237041090560 by
          rw [sum_none za zb (fun h => ab (by have : a.toNat = b.toNat := by rw [wa, wb, h, za, zb]
                                              omega))]
          exact one_nan nan_one)
        clear pa pb za zb wa wb ab
        go_enter Try.func34, Try.ntmps34
        go_wp2_with (first | (with_reducible refine (qa _).mono ?_; rintro e w3 ⟨rfl, rfl⟩) | (with_reducible refine (qb _).mono ?_; rintro e w3 ⟨rfl, rfl⟩) | (with_reducible refine (ia _).mono ?_; rintro e w3 ⟨rfl, rfl⟩) | (with_reducible refine (ib _).mono ?_; rintro e w3 ⟨rfl, rfl⟩))
        go_ret
        exact ⟨by rw [H.out]; rfl, Below.refl _ _⟩
    · rw [decide_eq_false zb] at ib
      have H := hide (show oneD (sumD a.toNat b.toNat) = a by
        rw [sum_inf za pb (fun h => absurd h zb), ← za, ← wa, one_not pa]; omega)
      clear pa pb za zb wa wb
      go_enter Try.func34, Try.ntmps34
      go_wp2_with (first | (with_reducible refine (qa _).mono ?_; rintro e w3 ⟨rfl, rfl⟩) | (with_reducible refine (qb _).mono ?_; rintro e w3 ⟨rfl, rfl⟩) | (with_reducible refine (ia _).mono ?_; rintro e w3 ⟨rfl, rfl⟩) | (with_reducible refine (ib _).mono ?_; rintro e w3 ⟨rfl, rfl⟩))
      go_ret
      exact ⟨by rw [H.out]; rfl, Below.refl _ _⟩
  rw [decide_eq_false za] at ia
  have fa : szD a.toNat < 9218868437227405312 := by unfold nanD at pa; omega
  by_cases zb : szD b.toNat = 9218868437227405312
  · rw [decide_eq_true zb] at ib
    have H := hide (show oneD (sumD a.toNat b.toNat) = b by
      rw [sum_inf2 fa zb, ← zb, ← wb, one_not pb]; omega)
    clear pa pb za zb wa wb
    go_enter Try.func34, Try.ntmps34
    go_wp2_with (first | (with_reducible refine (qa _).mono ?_; rintro e w3 ⟨rfl, rfl⟩) | (with_reducible refine (qb _).mono ?_; rintro e w3 ⟨rfl, rfl⟩) | (with_reducible refine (ia _).mono ?_; rintro e w3 ⟨rfl, rfl⟩) | (with_reducible refine (ib _).mono ?_; rintro e w3 ⟨rfl, rfl⟩))
    go_ret
    exact ⟨by rw [H.out]; rfl, Below.refl _ _⟩
  rw [decide_eq_false zb] at ib
  have fb : szD b.toNat < 9218868437227405312 := by unfold nanD at pb; omega
  have sg : ∀ s : Bool, 0 ≤ (if s = true then (9223372036854775808 : Int) else 0) ∧ (if s = true then (9223372036854775808 : Int) else 0) ≤ 9223372036854775808 := fun s => by cases s <;> simp
  obtain ⟨m1, m0⟩ := mst_lt53 (szD a.toNat)
  obtain ⟨n1, n0⟩ := mst_lt53 (szD b.toNat)
  obtain ⟨e1, e0⟩ := est_top _ fa
  obtain ⟨f1, f0⟩ := est_top _ fb
  have b53 : (9007199254740992 : Int) = p2 53 := by decide
  have X0 : 0 ≤ um 4503599627370496 (-1074) (min (est 4503599627370496 (-1074) (szD a.toNat)) (est 4503599627370496 (-1074) (szD b.toNat))) (szD a.toNat) := Int.mul_nonneg m0 (Int.le_of_lt (p2_pos _))
  have Y0 : 0 ≤ um 4503599627370496 (-1074) (min (est 4503599627370496 (-1074) (szD a.toNat)) (est 4503599627370496 (-1074) (szD b.toNat))) (szD b.toNat) := Int.mul_nonneg n0 (Int.le_of_lt (p2_pos _))
  obtain ⟨S1, S2⟩ := sum_fin fa fb rfl rfl rfl X0 Y0
  have l1 := Int.min_le_left (est 4503599627370496 (-1074) (szD a.toNat)) (est 4503599627370496 (-1074) (szD b.toNat))
  have l2 := Int.min_le_right (est 4503599627370496 (-1074) (szD a.toNat)) (est 4503599627370496 (-1074) (szD b.toNat))
  have l0 : -1074 ≤ min (est 4503599627370496 (-1074) (szD a.toNat)) (est 4503599627370496 (-1074) (szD b.toNat)) := Int.le_min.2 ⟨e0, f0⟩
  obtain ⟨B, hB⟩ : ∃ B, B = min (est 4503599627370496 (-1074) (szD a.toNat)) (est 4503599627370496 (-1074) (szD b.toNat)) := ⟨_, rfl⟩
  rw [← hB] at X0 Y0 S1 S2 l1 l2 l0
  have xe : mst 4503599627370496 (szD a.toNat) * p2 (est 4503599627370496 (-1074) (szD a.toNat) - B).toNat = um 4503599627370496 (-1074) B (szD a.toNat) := rfl
  have ye : mst 4503599627370496 (szD b.toNat) * p2 (est 4503599627370496 (-1074) (szD b.toNat) - B).toNat = um 4503599627370496 (-1074) B (szD b.toNat) := rfl
  generalize um 4503599627370496 (-1074) B (szD a.toNat) = X at *
  generalize um 4503599627370496 (-1074) B (szD b.toNat) = Y at *
  have na : ∀ w, Calls Try.prog 55 #[.int .u64 a] w fun e w' => e = .returned (.bool (ngD a.toNat)) ∧ w' = w := fun w => neg_any w a h0 h1
  have nb : ∀ w, Calls Try.prog 55 #[.int .u64 b] w fun e w' => e = .returned (.bool (ngD b.toNat)) ∧ w' = w := fun w => neg_any w b g0 g1
  have hm : ∀ w, Calls Try.prog 47 #[.int .u64 a] w fun e w' => e = .returned (.tuple #[.int .u64 (mst 4503599627370496 (szD a.toNat)), .int .i64 (est 4503599627370496 (-1074) (szD a.toNat))]) ∧ w' = w := fun w => parts_any w a h0 h1
  have hn : ∀ w, Calls Try.prog 47 #[.int .u64 b] w fun e w' => e = .returned (.tuple #[.int .u64 (mst 4503599627370496 (szD b.toNat)), .int .i64 (est 4503599627370496 (-1074) (szD b.toNat))]) ∧ w' = w := fun w => parts_any w b g0 g1
  generalize mst 4503599627370496 (szD a.toNat) = m at *
  generalize mst 4503599627370496 (szD b.toNat) = n at *
  generalize est 4503599627370496 (-1074) (szD a.toNat) = e at *
  generalize est 4503599627370496 (-1074) (szD b.toNat) = f at *
  have bX := sum_bound xe m0 m1 (by omega)
  have bY := sum_bound ye n0 n1 (by omega)
  have le : p2 53 ≤ p2 (53 + 2045 + 1) := p2_mono (by omega)
  have le2 : p2 (53 + 2045) ≤ p2 (53 + 2045 + 1) := p2_mono (by omega)
  have b2 := sum_bounds bX bY (rfl : 53 + 2045 + 1 = 53 + 2045 + 1)
  refine sumfin_walk (M := 53 + 2045 + 1) (B := B) (X := X) (Y := Y) qa qb ia ib na nb hm hn (and_top a h0 h1) (and_top b g0 g1) (sg _).1 (sg _).2 (sg _).1 (sg _).2 m0 n0 m1 n1 (hide ?_) (hide ?_) (by decide) e0 e1 f0 f1 hB (hide xe) (hide ye) X0 Y0 (hide ?_) (hide ?_) (hide b2) (hide ?_) (hide ?_) (hide ?_) (hide ?_)
  · rw [b53] at m1; exact Int.lt_of_lt_of_le m1 le
  · rw [b53] at n1; exact Int.lt_of_lt_of_le n1 le
  · exact Int.lt_of_lt_of_le bX le2
  · exact Int.lt_of_lt_of_le bY le2
  · intro hs r hr
    exact sum_near (Int.add_nonneg X0 Y0) (S1 hs) hr
  · intro hs hxy
    rw [(S2 hs).1 hxy]
    exact one_not (by decide)
  · intro hs hxy r hr
    exact sum_near (Int.sub_nonneg.2 (Int.le_of_lt hxy)) ((S2 hs).2.1 hxy) hr
  · intro hs hxy r hr
    exact sum_near (Int.sub_nonneg.2 (Int.le_of_lt hxy)) ((S2 hs).2.2 hxy) hr

end Go.Proofs.Ytkaakhmncmpliaa
