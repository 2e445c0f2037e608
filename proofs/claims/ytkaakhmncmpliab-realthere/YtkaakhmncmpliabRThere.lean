/- real: FromHalf, Half of a half -/
import Derived.Test.YtkaakhmncmpliabRHalfB
import Derived.Test.YtkaakhmncmpliabRWhole
import Derived.Test.YtkaakhmncmpliabRLives
namespace Go.Proofs.Ytkaakhmncmpliab
open Go.RowKit
set_option linter.unusedVariables false

theorem float_small (s : Nat) : floatOfInt .f64 (s : Int) = Ieee.double.nearest false s 0 := by
  rw [float_word, decide_eq_false (by omega), word_false]
  rfl
theorem fhS_fin {s : Nat} (h : s < 31744) : HFact s (fhS s) := by
  unfold fhS
  rw [if_neg (by omega), if_neg (by omega)]
  by_cases c : s < 1024
  · rw [if_pos c]
    rcases Nat.eq_zero_or_pos s with d | d
    · subst d; exact low_zero.2.1
    · exact (half_low d c).2.1
  · rw [if_neg c]
    exact (half_high (by omega) h).1

set_option maxHeartbeats 1000000 in
theorem halfSize_any (w : World) (s : Nat) (hs : s < 32768) : Calls Try.prog 34 #[.int .u16 s] w fun e w' => e = .returned (.float .f64 (fhS s)) ∧ w' = w := by
  by_cases c1 : 31744 < s
  · have H := hide (show fhS s = 9221120237041090560 by unfold fhS; rw [if_pos c1])
    go_enter Try.func34, Try.ntmps34
    go_wp2_with (with_reducible refine (float_any _ _).mono ?_; rintro e w1 ⟨rfl, rfl⟩)
    go_ret
    exact ⟨by rw [H.out]; rfl, rfl⟩
  by_cases c2 : s = 31744
  · subst c2
    go_enter Try.func34, Try.ntmps34
    go_wp2_with (with_reducible refine (float_any _ _).mono ?_; rintro e w1 ⟨rfl, rfl⟩)
    go_ret
    exact ⟨rfl, rfl⟩
  have c2' : ((s : Int) == 31744) = false := by simp; omega
  by_cases c3 : s < 1024
  · have H := hide (show fhS s = subH s by unfold fhS; rw [if_neg c1, if_neg c2, if_pos c3])
    have d1 : ((s : Int) / 1024 == 0) = true := by simp; omega
    have hd : Ieee.double.div (Ieee.double.nearest false s 0) 4715268809856909312 = some (subH s) := by
      rcases Nat.eq_zero_or_pos s with d | d
      · subst d; exact low_zero.1
      · exact (half_low d c3).1
    rw [← float_small s] at hd
    have q1 : ∀ w, (convert 35 23 (.int .u16 (s : Int))).run Try.prog w = .ok (.float .f64 (floatOfInt .f64 (s : Int))) w := fun w => run_convert_int_float w _ _ _ .f64 _ (by kernel_rfl) (by kernel_rfl)
    have q2 : ∀ w, (binOp .quo 23 (.float .f64 (floatOfInt .f64 (s : Int))) (.float .f64 4715268809856909312)).run Try.prog w = .ok (.float .f64 (subH s)) w := fun w => run_float_arith w .quo _ .f64 _ _ _ hd
    generalize floatOfInt .f64 (s : Int) = x at *
    clear hd
    go_enter Try.func34, Try.ntmps34
    go_wp2
    go_ret
    exact ⟨by rw [H.out]; rfl, rfl⟩
  · have H := hide (show fhS s = ((s : Int) * 4398046511104 + 4539628424389459968).toNat by unfold fhS; rw [if_neg c1, if_neg c2, if_neg c3]; omega)
    have d1 : ((s : Int) / 1024 == 0) = false := by simp; omega
    go_enter Try.func34, Try.ntmps34
    go_wp2_with (with_reducible refine (float_any _ _).mono ?_; rintro e w1 ⟨rfl, rfl⟩)
    go_ret
    exact ⟨by rw [H.out]; rfl, rfl⟩

/-- the float of a pattern of 16 bits -/
def fhD (h : Nat) : Nat := if h < 32768 then fhS h else flipD (fhS (h - 32768))
set_option maxHeartbeats 1000000 in
theorem fromHalf_any (w : World) (h : Nat) (hh : h < 65536) : Calls Try.prog 14 #[.int .u16 h] w fun e w' => e = .returned (.float .f64 (fhD h)) ∧ w' = w := by
  have e1 : bits .andNot .u16 (h : Int) 32768 = ((h % 32768 : Nat) : Int) := by
    rw [u16_andNot (h : Int) 32768 (by omega) (by omega) (by decide) (by decide)]
    have h2 : (h : Int).toNat &&& (65535 - 2 ^ 15) = (h : Int).toNat % 2 ^ 15 := by
      rw [show 65535 - 2 ^ 15 = 2 ^ 15 - 1 from rfl, nat_mask0]
    rw [show (32768 : Int).toNat = 2 ^ 15 from rfl, h2]
    omega
  have e2 : bits .and .u16 (h : Int) 32768 = if h < 32768 then 0 else 32768 := by
    rw [u16_and (h : Int) 32768 (by omega) (by omega) (by decide) (by decide)]
    have := nat_mask (h : Int).toNat 15 1
    rw [show (32768 : Int).toNat = (2 ^ 1 - 1) * 2 ^ 15 from rfl, this]
    split <;> omega
  have hs : h % 32768 < 32768 := by omega
  by_cases c : h < 32768
  · rw [if_pos c] at e2
    have H := hide (show fhD h = fhS (h % 32768) by unfold fhD; rw [if_pos c, Nat.mod_eq_of_lt c])
    generalize h % 32768 = s at *
    go_enter Try.func14, Try.ntmps14
    go_wp2_with (with_reducible refine (halfSize_any _ s hs).mono ?_; rintro e w1 ⟨rfl, rfl⟩)
    go_ret
    exact ⟨by rw [H.out]; rfl, rfl⟩
  · rw [if_neg c] at e2
    have H := hide (show fhD h = flipD (fhS (h % 32768)) by unfold fhD; rw [if_neg c, show h % 32768 = h - 32768 by omega])
    generalize h % 32768 = s at *
    have hn : ∀ w, (Op.unary .neg (.float .f64 (fhS s))).run Try.prog w = .ok (.float .f64 (flipD (fhS s))) w := fun w => rfl
    go_enter Try.func14, Try.ntmps14
    go_wp2_with (with_reducible refine (halfSize_any _ s hs).mono ?_; rintro e w1 ⟨rfl, rfl⟩)
    go_ret
    exact ⟨by rw [H.out]; rfl, rfl⟩

set_option maxHeartbeats 1000000 in
theorem nearHalf_ok (w : World) {s z : Nat} (F : HFact s z) : Calls Try.prog 32 #[.float .f64 z] w fun e w' => e = .returned (.float .f64 z) ∧ w' = w := by
  have ht := F.top
  have hp := F.pow
  have q1 : ∀ w, (binOp .add 23 (.float .f64 z) (.float .f64 (hpow z))).run Try.prog w = .ok (.float .f64 (hsum z)) w := fun w => run_float_arith w .add _ .f64 _ _ _ F.add
  have q2 : ∀ w, (binOp .sub 23 (.float .f64 (hsum z)) (.float .f64 (hpow z))).run Try.prog w = .ok (.float .f64 z) w := fun w => run_float_arith w .sub _ .f64 _ _ _ F.sub
  have Hb := hide (show oneD z = z from one_not (by unfold nanD szD; omega))
  have hq : ∃ e : Int, hpow z = ((e + 42) * 4503599627370496).toNat ∧ 1009 ≤ e ∧ e ≤ 2000 ∧ (((z : Int) / 4503599627370496 < 1009 ∧ e = 1009) ∨ (1009 < (z : Int) / 4503599627370496 ∧ e = (z : Int) / 4503599627370496) ∨ ((z : Int) / 4503599627370496 = 1009 ∧ e = 1009)) := by
    refine ⟨max ((z : Int) / 4503599627370496) 1009, ?_, by omega, by omega, by omega⟩
    unfold hpow
    omega
  obtain ⟨e, hE, e0, e1, he⟩ := hq
  generalize hpow z = p at *
  generalize hsum z = y at *
  have HE := hide hE
  clear hE F
  go_enter Try.func32, Try.ntmps32
  go_wp2_with fail
  with_reducible refine (bits_any _ z).mono ?_
  rintro x w1 ⟨rfl, rfl⟩
  rw [Hb.out]
  rcases he with ⟨c, rfl⟩ | ⟨c, rfl⟩ | ⟨c, rfl⟩
  · go_wp2_with fail
    with_reducible refine (float_any _ _).mono ?_
    rintro x w2 ⟨rfl, rfl⟩
    rw [show Int.toNat 4733283208366391296 = p by rw [HE.out]; rfl]
    go_wp2
    go_ret
    exact ⟨rfl, rfl⟩
  · go_wp2_with fail
    with_reducible refine (float_any _ _).mono ?_
    rintro x w2 ⟨rfl, rfl⟩
    rw [← HE.out]
    go_wp2
    go_ret
    exact ⟨rfl, rfl⟩
  · go_wp2_with fail
    all_goals (with_reducible refine (float_any _ _).mono ?_)
    all_goals rintro x w2 ⟨rfl, rfl⟩
    all_goals (first | rw [show Int.toNat 4733283208366391296 = p by rw [HE.out]; rfl] | rw [c, show (((1009 : Int) + 42) * 4503599627370496).toNat = p from HE.out.symm])
    all_goals go_wp2
    all_goals go_ret
    all_goals exact ⟨rfl, rfl⟩

set_option maxHeartbeats 1000000 in
theorem halfOf_ok (w : World) {s z : Nat} (hs : s < 32768) (F : HFact s z) : Calls Try.prog 33 #[.float .f64 z] w fun e w' => e = .returned (.int .u16 s) ∧ w' = w := by
  have ht := F.top
  have nz : ¬ nanD z := by unfold nanD szD; omega
  have n2 : ¬ nanD 4544132024016830464 := by decide
  have r2 : rkD 4544132024016830464 = 4544132024016830464 := by decide
  have r1 : rkD z = z := by
    obtain ⟨a, b⟩ := plain_word (x := z) (by omega)
    unfold rkD
    rw [a, b, if_neg (by decide)]
  have o1 : (FloatKind.f64.format.order z 4544132024016830464 == some .lt) = decide (z < 4544132024016830464) := by
    rw [order_lt, r1, r2, decide_eq_false nz, decide_eq_false n2]
    simp only [Bool.not_false, Bool.true_and]
    by_cases c : z < 4544132024016830464
    · rw [decide_eq_true c, decide_eq_true (by omega)]
    · rw [decide_eq_false c, decide_eq_false (by omega)]
  have Hb := hide (show oneD z = z from one_not nz)
  clear nz n2 r2 r1
  by_cases c : z < 4544132024016830464
  · rw [decide_eq_true c] at o1
    obtain ⟨q, hq, hi⟩ := F.low c
    have q1 : ∀ w, (binOp .mul 23 (.float .f64 z) (.float .f64 4715268809856909312)).run Try.prog w = .ok (.float .f64 q) w := fun w => run_float_arith w .mul _ .f64 _ _ _ hq
    have q2 : ∀ w, (convert 23 35 (.float .f64 q)).run Try.prog w = .ok (.int .u16 (s : Int)) w := fun w => run_convert_float_int w _ _ _ _ _ _ (by kernel_rfl) (by kernel_rfl) (by
      unfold floatToIntVal
      rw [show (FloatKind.f64.decode q).toInt .zero = some (s : Int) from hi]
      exact if_pos ⟨by change (0 : Int) ≤ s; omega, by change (s : Int) ≤ 65535; omega⟩)
    clear F hq hi
    go_enter Try.func33, Try.ntmps33
    go_wp2
    go_ret
    exact ⟨rfl, rfl⟩
  · rw [decide_eq_false c] at o1
    have Hq := hide (show (z : Int) / 4398046511104 - 1032192 = s by have := F.high (by omega); omega)
    have h0 : 1032192 ≤ (z : Int) / 4398046511104 := by have := F.high (by omega); omega
    have h1 : (z : Int) / 4398046511104 < 1097728 := by have := F.high (by omega); omega
    clear F
    go_enter Try.func33, Try.ntmps33
    go_wp2_with fail
    with_reducible refine (bits_any _ z).mono ?_
    rintro x w1 ⟨rfl, rfl⟩
    rw [Hb.out]
    go_wp2
    go_ret
    exact ⟨by rw [← Hq.out]; rfl, rfl⟩

end Go.Proofs.Ytkaakhmncmpliab
