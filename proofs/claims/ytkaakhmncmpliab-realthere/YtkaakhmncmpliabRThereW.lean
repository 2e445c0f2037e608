/- RealThere: the walk -/
import Derived.Test.YtkaakhmncmpliabRThere
import Derived.Test.YtkaakhmncmpliabRThereM
namespace Go.Proofs.Ytkaakhmncmpliab
open Go.RowKit
set_option linter.unusedVariables false

theorem sign16 {b : Nat} (hb : b < 18446744073709551616) : bits .and .u16 ((b : Int) / 281474976710656) 32768 = if ngD b = true then 32768 else 0 := by
  rw [u16_and _ 32768 (by omega) (by omega) (by decide) (by decide)]
  have := nat_mask ((b : Int) / 281474976710656).toNat 15 1
  rw [show (32768 : Int).toNat = (2 ^ 1 - 1) * 2 ^ 15 from rfl, this]
  unfold ngD
  by_cases c : b < 9223372036854775808
  · rw [show b / 9223372036854775808 = 0 by omega]
    simp
    omega
  · rw [show b / 9223372036854775808 = 1 by omega]
    simp
    omega
theorem or16 {s : Nat} (hs : s < 32768) {y : Int} (hy : y = 0 ∨ y = 32768) : bits .or .u16 y (s : Int) = y + s := by
  rcases hy with rfl | rfl
  · rw [u16_or 0 (s : Int) (by decide) (by decide) (by omega) (by omega)]
    simp
  · rw [u16_or 32768 (s : Int) (by decide) (by decide) (by omega) (by omega)]
    have h1 := Nat.two_pow_add_eq_or_of_lt (i := 15) (b := s) hs 1
    rw [Nat.mul_one] at h1
    rw [show (32768 : Int).toNat = 2 ^ 15 from rfl, Int.toNat_natCast, ← h1]
    omega

theorem half_nan (w : World) (b : Nat) (hn : nanD b) : Calls Try.prog 13 #[.float .f64 b] w fun e w' => e = .returned (.tuple #[.int .u16 32256, .bool true]) ∧ w' = w := by
  have o1 := order_self' b
  rw [decide_eq_true hn] at o1
  go_enter Try.func13, Try.ntmps13
  go_wp2
  go_ret2
  exact ⟨rfl, rfl⟩

set_option maxHeartbeats 2000000 in
theorem half_fin (w : World) {b s z : Nat} (hb : b < 18446744073709551616) (hz : szD b = z) (hs : s < 32768) (F : HFact s z) :
    Calls Try.prog 13 #[.float .f64 b] w fun e w' => e = .returned (.tuple #[.int .u16 ((if ngD b = true then 32768 else 0) + s), .bool true]) ∧ w' = w := by
  have ht := F.top
  have hn : ¬ nanD b := by unfold nanD; omega
  have o1 := order_self' b
  rw [decide_eq_false hn] at o1
  have nz : ¬ nanD z := by unfold nanD szD; omega
  have r1 : rkD z = z := by
    obtain ⟨a, b⟩ := plain_word (x := z) (by omega)
    unfold rkD
    rw [a, b, if_neg (by decide)]
  have n2 : ¬ nanD 4679240012837945344 := by decide
  have r2 : rkD 4679240012837945344 = 4679240012837945344 := by decide
  have o2 : (FloatKind.f64.format.order z 4679240012837945344 == some .gt || FloatKind.f64.format.order z 4679240012837945344 == some .eq) = false := by
    rw [order_gt, order_eq, r1, r2, decide_eq_false nz, decide_eq_false n2]
    simp only [Bool.not_false, Bool.true_and, Bool.or_eq_false_iff, decide_eq_false_iff_not]
    omega
  have o3 : (FloatKind.f64.format.order z z == some .eq) = true := by
    rw [order_self, decide_eq_false nz]; rfl
  have Ho := hide (one_not hn)
  have e2 := sign16 hb
  have hy : (if ngD b = true then (32768 : Int) else 0) = 0 ∨ (if ngD b = true then (32768 : Int) else 0) = 32768 := by cases ngD b <;> simp
  generalize (if ngD b = true then (32768 : Int) else 0) = Y at *
  have e1 := or16 hs hy
  have q1 : ∀ (w : World), Calls Try.prog 31 #[.float .f64 b] w fun e w' => e = .returned (.float .f64 z) ∧ w' = w := fun w => by
    have := sizeOf_any w b hb hn
    rwa [hz] at this
  have HF := hide F
  clear hy F r1 r2 n2 nz
  go_enter Try.func13, Try.ntmps13
  go_wp2_with fail
  with_reducible refine (bits_any _ b).mono ?_
  rintro e w1 ⟨rfl, rfl⟩
  rw [Ho.out]
  go_wp2_with fail
  with_reducible refine (q1 _).mono ?_
  rintro e w1 ⟨rfl, rfl⟩
  clear hn hb hz
  go_wp2_with fail
  with_reducible refine (nearHalf_ok _ HF.out).mono ?_
  rintro e w1 ⟨rfl, rfl⟩
  go_wp2_with fail
  with_reducible refine (halfOf_ok _ hs HF.out).mono ?_
  rintro e w1 ⟨rfl, rfl⟩
  go_wp2
  go_ret2
  exact ⟨rfl, rfl⟩

theorem fhS_lt (s : Nat) (hs : s < 32768) : fhS s < 9223372036854775808 := by
  by_cases c : s < 31744
  · have := (fhS_fin c).top; omega
  · unfold fhS
    by_cases d : 31744 < s
    · rw [if_pos d]; decide
    · rw [if_neg d, if_pos (by omega)]; decide
/-- a half's float, and its half -/
theorem fhD_parts {h : Nat} (hh : h < 65536) : fhD h < 18446744073709551616 ∧ szD (fhD h) = fhS (h % 32768) ∧ ngD (fhD h) = decide (32768 ≤ h) := by
  have hl := fhS_lt (h % 32768) (by omega)
  obtain ⟨a, b⟩ := plain_word hl
  unfold fhD
  by_cases c : h < 32768
  · rw [if_pos c, decide_eq_false (by omega)]
    rw [Nat.mod_eq_of_lt c] at hl a b ⊢
    exact ⟨by omega, a, b⟩
  · rw [if_neg c, decide_eq_true (by omega)]
    rw [show h % 32768 = h - 32768 by omega] at hl a b ⊢
    have hf := flip_sz (b := fhS (h - 32768)) (by omega)
    rw [a, b] at hf
    exact ⟨flip_lt (by omega), hf.1, hf.2⟩
theorem half_back (w : World) (h : Nat) (hh : h < 65536) : Calls Try.prog 13 #[.float .f64 (fhD h)] w fun e w' => e = .returned (.tuple #[.int .u16 ((if 31744 < h % 32768 then 32256 else h : Nat) : Int), .bool true]) ∧ w' = w := by
  obtain ⟨hl, hs, hn⟩ := fhD_parts hh
  by_cases c : 31744 < h % 32768
  · rw [if_pos c]
    exact half_nan w _ (by unfold nanD; rw [hs]; unfold fhS; rw [if_pos c]; decide)
  · rw [if_neg c]
    have ev : ((if ngD (fhD h) = true then (32768 : Int) else 0) + ((h % 32768 : Nat) : Int)) = (h : Int) := by
      rw [hn]
      by_cases d : 32768 ≤ h
      · rw [decide_eq_true d, if_pos rfl]; omega
      · rw [decide_eq_false d, if_neg (by decide)]; omega
    by_cases e : h % 32768 = 31744
    · have := half_big w (fhD h) hl (by unfold nanD; rw [hs, e]; decide) (by rw [hs, e]; decide)
      rw [show decide (szD (fhD h) = 9218868437227405312) = true by rw [hs, e]; decide] at this
      rw [e] at ev
      rwa [show (31744 : Int) = ((31744 : Nat) : Int) from rfl, ev] at this
    · have := half_fin w (s := h % 32768) (z := fhS (h % 32768)) hl hs (by omega) (fhS_fin (by omega))
      rwa [ev] at this

set_option maxRecDepth 100000 in
set_option maxHeartbeats 4000000 in
theorem rthere_walk {W : World} {a n : Int} (ha : (Lit.int .u16 a).wf = true) (hn : (Lit.int .i64 n).wf = true) : Calls Try.prog 4 #[.int .u16 a, .int .i64 n] W fun e w' => e = .returned (.bool true) ∧ Below W.heap.size W w' := by
  have a1 : 0 ≤ a ∧ a ≤ 65535 := by simpa [Lit.wf, IntKind.min, IntKind.max, IntKind.signed, IntKind.bits] using ha
  have n1 : -9223372036854775808 ≤ n ∧ n ≤ 9223372036854775807 := by simpa [Lit.wf, IntKind.min, IntKind.max, IntKind.signed, IntKind.bits] using hn
  obtain ⟨a0, a1⟩ := a1
  obtain ⟨n0, n1⟩ := n1
  obtain ⟨h, rfl⟩ := Int.eq_ofNat_of_zero_le a0
  have hh : h < 65536 := by omega
  clear ha hn a0 a1
  obtain ⟨k, hk⟩ : ∃ k, (if 31744 < h % 32768 then 32256 else h) = k := ⟨_, rfl⟩
  have kk : k < 65536 := by rw [← hk]; split <;> omega
  have q1 := fun w => half_back w h hh
  rw [hk] at q1
  have one : oneD (fhD k) = oneD (fhD h) := by
    rw [← hk]
    by_cases c : 31744 < h % 32768
    · rw [if_pos c]
      obtain ⟨_, s1, _⟩ := fhD_parts hh
      rw [one_nan (show nanD (fhD h) by unfold nanD; rw [s1]; unfold fhS; rw [if_pos c]; decide)]
      exact one_nan (by decide)
    · rw [if_neg c]
  have em : bits .and .u16 (h : Int) 32767 = ((h % 32768 : Nat) : Int) := by
    rw [u16_and (h : Int) 32767 (by omega) (by omega) (by decide) (by decide)]
    have := nat_mask0 (h : Int).toNat 15
    rw [show (32767 : Int).toNat = 2 ^ 15 - 1 from rfl, this]
    omega
  have q2 : ∀ (w : World), Calls Try.prog 15 #[.float .f64 (fhD h)] w fun e w' => e = .returned (.int .u64 (oneD (fhD h))) ∧ w' = w := fun w => bits_any w _
  have q3 : ∀ (w : World), Calls Try.prog 15 #[.float .f64 (fhD k)] w fun e w' => e = .returned (.int .u64 (oneD (fhD h))) ∧ w' = w := fun w => by
    have := bits_any w (fhD k)
    rwa [one] at this
  have g : (((h % 32768 : Nat) : Int) ≤ 31744 ∧ ((k : Int) != (h : Int)) = false) ∨ decide (((h % 32768 : Nat) : Int) ≤ 31744) = false := by
    rw [← hk]
    by_cases c : 31744 < h % 32768
    · right; exact decide_eq_false (by omega)
    · left; rw [if_neg c]; exact ⟨by omega, by simp⟩
  generalize oneD (fhD h) = x at *
  generalize h % 32768 = s at *
  have f1 : ∀ (w : World), Calls Try.prog 14 #[.int .u16 (h : Int)] w fun e w' => e = .returned (.float .f64 (fhD h)) ∧ w' = w := fun w => fromHalf_any w h hh
  have f2 : ∀ (w : World), Calls Try.prog 14 #[.int .u16 (k : Int)] w fun e w' => e = .returned (.float .f64 (fhD k)) ∧ w' = w := fun w => fromHalf_any w k kk
  clear hk one
  go_enter Try.func4, Try.ntmps4
  rcases g with ⟨g1, g2⟩ | g1 <;> (
  go_wp2_with (first | (with_reducible refine (f1 _).mono ?_; rintro e w1 ⟨rfl, rfl⟩) | (with_reducible refine (q1 _).mono ?_; rintro e w1 ⟨rfl, rfl⟩) | (with_reducible refine (f2 _).mono ?_; rintro e w1 ⟨rfl, rfl⟩) | (with_reducible refine (q2 _).mono ?_; rintro e w1 ⟨rfl, rfl⟩) | (with_reducible refine (q3 _).mono ?_; rintro e w1 ⟨rfl, rfl⟩))
  with_reducible refine (fromWhole_any _ n).mono ?_
  rintro e w2 ⟨k1, ok1, rfl, hk1, rfl⟩
  go_wp2_with fail
  with_reducible refine (whole_any _ (floatOfInt .f64 n)).mono ?_
  rintro e w3 ⟨k2, ok2, rfl, hk2, rfl⟩
  obtain ⟨rfl, rfl⟩ := hk1.unique hk2
  have hf := fw_far n0 n1 hk1
  have kb : -9223372036854775808 ≤ k1 ∧ k1 ≤ 9223372036854775807 := by
    rcases hk1 with ⟨_, _, h1, h2⟩ | ⟨_, rfl, _⟩
    · exact ⟨h1, h2⟩
    · exact ⟨by decide, by decide⟩
  obtain ⟨kb0, kb1⟩ := kb
  clear hk1 hk2
  cases ok1
  · obtain ⟨hx, hn2⟩ := hf.1 rfl
    have o1 : (FloatKind.f64.format.order (floatOfInt .f64 n) 4890909195324358656 == some .eq) = true := by rw [hx]; decide
    generalize floatOfInt .f64 n = y at *
    rw [Bool.false_and]
    clear hf hx
    go_wp2_with (with_reducible refine (lives_ok _).mono ?_; rintro e w5 ⟨rfl, b5⟩)
    go_ret
    exact ⟨rfl, b5⟩
  · obtain ⟨d1, d2⟩ := hf.2 rfl
    generalize floatOfInt .f64 n = y at *
    rw [Bool.true_and]
    clear hf
    by_cases c : k1 = n
    · have c' : (k1 == n) = true := by simp [c]
      rw [c']
      clear c
      go_wp2_with (with_reducible refine (lives_ok _).mono ?_; rintro e w5 ⟨rfl, b5⟩)
      go_ret
      exact ⟨rfl, b5⟩
    · have c' : (k1 == n) = false := by simp [c]
      have c2 : (n - k1 != 0) = true := by simp; omega
      have c3 : (n - k1 == 0) = false := by simp; omega
      rw [c']
      clear c
      go_wp2_with (with_reducible refine (lives_ok _).mono ?_; rintro e w5 ⟨rfl, b5⟩)
      go_ret
      exact ⟨rfl, b5⟩)

end Go.Proofs.Ytkaakhmncmpliab
