/- real.Whole, real.FromWhole -/
import Derived.Test.YtkaakhmncmpliabRealB
import Derived.Test.YtkaakhmncmpliabRWhM
namespace Go.Proofs.Ytkaakhmncmpliab
open Go.RowKit
set_option linter.unusedVariables false

theorem wh_out {b : Nat} (h : nanD b ∨ rkD b < -4890909195324358656 ∨ 4890909195324358656 ≤ rkD b) : Wh b 0 false := by
  refine Or.inr ⟨rfl, rfl, fun j j0 j1 hv => ?_⟩
  obtain ⟨hf, hv⟩ := hv
  have hp := pL_pos
  have hR := uD_R
  rcases h with h | h | h
  · unfold nanD at h; omega
  · unfold rkD at h
    rcases hs : ngD b with _ | _
    · rw [hs, if_neg (by decide)] at h; omega
    · rw [hs, if_pos rfl] at h hv
      have := uD_lt (s := 4890909195324358656) (t := szD b) (by omega) (by omega)
      have h2 : -9223372036854775808 * pL ≤ j * pL := Int.mul_le_mul_of_nonneg_right j0 (by omega)
      omega
  · unfold rkD at h
    rcases hs : ngD b with _ | _
    · rw [hs, if_neg (by decide)] at h hv
      have := uD_le (s := 4890909195324358656) (t := szD b) (by omega) (by omega)
      have h2 : j * pL ≤ 9223372036854775807 * pL := Int.mul_le_mul_of_nonneg_right j1 (by omega)
      omega
    · rw [hs, if_pos rfl] at h; omega
/-- within the ends -/
theorem wh_in {b q : Nat} (hn : ¬ nanD b) (h1 : -4890909195324358656 ≤ rkD b) (h2 : rkD b < 4890909195324358656) (hq1 : (q : Int) * pL ≤ uD (szD b)) (hq2 : uD (szD b) < ((q : Int) + 1) * pL) :
    -9223372036854775808 ≤ (if ngD b = true then -(q : Int) else q) ∧ (if ngD b = true then -(q : Int) else q) ≤ 9223372036854775807 ∧
    (uD (szD b) = q * pL → Wh b (if ngD b = true then -(q : Int) else q) true) ∧ (¬ uD (szD b) = q * pL → Wh b 0 false) := by
  have hp := pL_pos
  have hR := uD_R
  unfold nanD at hn
  have bound : -9223372036854775808 ≤ (if ngD b = true then -(q : Int) else q) ∧ (if ngD b = true then -(q : Int) else q) ≤ 9223372036854775807 := by
    unfold rkD at h1 h2
    rcases hs : ngD b with _ | _
    · rw [hs, if_neg (by decide)] at h1 h2
      rw [if_neg (by decide)]
      have := uD_lt (s := szD b) (t := 4890909195324358656) (by omega) (by omega)
      rcases Int.lt_or_le 9223372036854775807 (q : Int) with c | c
      · have h2 : 9223372036854775808 * pL ≤ q * pL := Int.mul_le_mul_of_nonneg_right (by omega) (by omega)
        omega
      · omega
    · rw [hs, if_pos rfl] at h1 h2
      rw [if_pos rfl]
      have := uD_le (s := szD b) (t := 4890909195324358656) (by omega) (by omega)
      rcases Int.lt_or_le 9223372036854775808 (q : Int) with c | c
      · have h2 : (9223372036854775808 + 1) * pL ≤ q * pL := Int.mul_le_mul_of_nonneg_right (by omega) (by omega)
        rw [Int.add_mul] at h2
        omega
      · omega
  have fin : szD b < 9218868437227405312 := by
    unfold rkD at h1 h2
    rcases hs : ngD b with _ | _
    · rw [hs, if_neg (by decide)] at h1 h2; omega
    · rw [hs, if_pos rfl] at h1 h2; omega
  refine ⟨bound.1, bound.2, fun g => Or.inl ⟨rfl, ⟨fin, ?_⟩, bound.1, bound.2⟩, fun g => Or.inr ⟨rfl, rfl, fun j _ _ hv => g ?_⟩⟩
  · rw [g]
    cases ngD b <;> simp only [Bool.false_eq_true, reduceIte, Int.neg_mul]
  · obtain ⟨_, hv⟩ := hv
    obtain ⟨i, hi⟩ : ∃ i, uD (szD b) = i * pL := by
      rcases hs : ngD b with _ | _
      · rw [hs, if_neg (by decide)] at hv; exact ⟨j, hv⟩
      · rw [hs, if_pos rfl] at hv
        exact ⟨-j, by rw [Int.neg_mul]; omega⟩
    rw [hi] at hq1 hq2 ⊢
    have l1 : (q : Int) ≤ i := by
      rcases Int.lt_or_le i q with c | c
      · have : i * pL < q * pL := Int.mul_lt_mul_of_pos_right c hp
        exact absurd (Int.lt_of_lt_of_le this hq1) (Int.lt_irrefl _)
      · exact c
    have l2 : i < q + 1 := by
      rcases Int.lt_or_le i (q + 1) with c | c
      · exact c
      · have : ((q : Int) + 1) * pL ≤ i * pL := Int.mul_le_mul_of_nonneg_right c (Int.le_of_lt hp)
        exact absurd (Int.lt_of_lt_of_le hq2 this) (Int.lt_irrefl _)
    rw [show i = q by omega]

set_option maxHeartbeats 2000000 in
theorem whole_any (w : World) (b : Nat) : Calls Try.prog 17 #[.float .f64 b] w fun e w' => ∃ k ok, e = .returned (.tuple #[.int .i64 k, .bool ok]) ∧ Wh b k ok ∧ w' = w := by
  have n1 : ¬ nanD 14114281232179134464 := by decide
  have n2 : ¬ nanD 4890909195324358656 := by decide
  have r1 : rkD 14114281232179134464 = -4890909195324358656 := by decide
  have r2 : rkD 4890909195324358656 = 4890909195324358656 := by decide
  have o1 : (FloatKind.f64.format.order b 14114281232179134464 == some .gt || FloatKind.f64.format.order b 14114281232179134464 == some .eq) = (!decide (nanD b) && decide (-4890909195324358656 ≤ rkD b)) := by
    rw [order_gt, order_eq, r1, decide_eq_false n1]
    by_cases h : nanD b
    · simp [h]
    · rw [decide_eq_false h]
      simp only [Bool.not_false, Bool.true_and]
      by_cases g : -4890909195324358656 < rkD b
      · rw [decide_eq_true g, decide_eq_true (show -4890909195324358656 ≤ rkD b by omega)]; rfl
      · rw [decide_eq_false g, Bool.false_or]
        by_cases g2 : rkD b = -4890909195324358656
        · rw [decide_eq_true g2, decide_eq_true (by omega)]
        · rw [decide_eq_false g2, decide_eq_false (by omega)]
  have o2 : (FloatKind.f64.format.order b 4890909195324358656 == some .lt) = (!decide (nanD b) && decide (rkD b < 4890909195324358656)) := by
    rw [order_lt, r2, decide_eq_false n2]
    simp
  clear n1 n2 r1 r2
  by_cases h : nanD b
  · have H := hide (wh_out (Or.inl h))
    rw [decide_eq_true h, Bool.not_true, Bool.false_and] at o1 o2
    clear h
    go_enter Try.func17, Try.ntmps17
    go_wp2
    go_ret2
    exact ⟨0, false, rfl, H.out, rfl⟩
  rw [decide_eq_false h, Bool.not_false, Bool.true_and] at o1 o2
  by_cases h1 : -4890909195324358656 ≤ rkD b
  · rw [decide_eq_true h1] at o1
    by_cases h2 : rkD b < 4890909195324358656
    · rw [decide_eq_true h2] at o2
      have fin : szD b < 9218868437227405312 := by
        unfold nanD at h
        unfold rkD at h1 h2
        rcases hs : ngD b with _ | _
        · rw [hs, if_neg (by decide)] at h1 h2; omega
        · rw [hs, if_pos rfl] at h1 h2; omega
      obtain ⟨q, ht, hq1, hq2, hq3⟩ := trunc_read fin
      obtain ⟨l0, l1, H1, H2⟩ := wh_in h h1 h2 hq1 hq2
      have o3 := whole_cmp fin hq1 hq3
      generalize (if ngD b = true then -(q : Int) else q) = n at *
      have c1 : ∀ w, (convert 23 2 (.float .f64 b)).run Try.prog w = .ok (.int .i64 n) w := fun w => run_convert_float_int w _ _ _ _ _ _ (by kernel_rfl) (by kernel_rfl) (by
        unfold floatToIntVal
        rw [show (FloatKind.f64.decode b).toInt .zero = some n from ht]
        exact if_pos ⟨l0, l1⟩)
      have c2 : ∀ w, (convert 2 23 (.int .i64 n)).run Try.prog w = .ok (.float .f64 (floatOfInt .f64 n)) w := fun w => run_convert_int_float w _ _ _ .f64 _ (by kernel_rfl) (by kernel_rfl)
      by_cases g : uD (szD b) = q * pL
      · have H := hide (H1 g)
        have o4 : (FloatKind.f64.format.order (floatOfInt .f64 n) b != some .eq) = false := by rw [bne, o3, decide_eq_true g]; rfl
        generalize floatOfInt .f64 n = x at *
        clear g H1 H2 o3 hq1 hq2 hq3 ht fin h h1 h2
        go_enter Try.func17, Try.ntmps17
        go_wp2
        go_ret2
        exact ⟨n, true, rfl, H.out, rfl⟩
      · have H := hide (H2 g)
        have o4 : (FloatKind.f64.format.order (floatOfInt .f64 n) b != some .eq) = true := by rw [bne, o3, decide_eq_false g]; rfl
        generalize floatOfInt .f64 n = x at *
        clear g H1 H2 o3 hq1 hq2 hq3 ht fin h h1 h2
        go_enter Try.func17, Try.ntmps17
        go_wp2
        go_ret2
        exact ⟨0, false, rfl, H.out, rfl⟩
    · rw [decide_eq_false h2] at o2
      have H := hide (wh_out (b := b) (Or.inr (Or.inr (by omega))))
      clear h h1 h2
      go_enter Try.func17, Try.ntmps17
      go_wp2
      go_ret2
      exact ⟨0, false, rfl, H.out, rfl⟩
  · rw [decide_eq_false h1] at o1
    have H := hide (wh_out (b := b) (Or.inr (Or.inl (by omega))))
    clear h h1
    go_enter Try.func17, Try.ntmps17
    go_wp2
    go_ret2
    exact ⟨0, false, rfl, H.out, rfl⟩

set_option maxHeartbeats 1000000 in
theorem fromWhole_any (w : World) (n : Int) : Calls Try.prog 16 #[.int .i64 n] w fun e w' => ∃ k ok, e = .returned (.tuple #[.float .f64 (floatOfInt .f64 n), .bool (ok && k == n)]) ∧ Wh (floatOfInt .f64 n) k ok ∧ w' = w := by
  have c2 : ∀ w, (convert 2 23 (.int .i64 n)).run Try.prog w = .ok (.float .f64 (floatOfInt .f64 n)) w := fun w => run_convert_int_float w _ _ _ .f64 _ (by kernel_rfl) (by kernel_rfl)
  generalize floatOfInt .f64 n = x at *
  go_enter Try.func16, Try.ntmps16
  go_wp2_with fail
  with_reducible refine (whole_any _ x).mono ?_
  rintro e w1 ⟨k, ok, rfl, hk, rfl⟩
  have HK := hide hk
  clear hk
  cases ok
  · go_wp2
    go_ret2
    exact ⟨k, false, by rw [Bool.false_and]; rfl, HK.out, rfl⟩
  · rcases g : (k == n) with _ | _
    · go_wp2
      go_ret2
      exact ⟨k, true, by rw [g]; rfl, HK.out, rfl⟩
    · go_wp2
      go_ret2
      exact ⟨k, true, by rw [g]; rfl, HK.out, rfl⟩

end Go.Proofs.Ytkaakhmncmpliab
