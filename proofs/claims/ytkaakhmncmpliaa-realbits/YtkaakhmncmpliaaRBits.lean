/- RealBits: the walk -/
import Derived.Test.YtkaakhmncmpliaaRLives
namespace Go.Proofs.Ytkaakhmncmpliaa
open Go.RowKit

set_option maxHeartbeats 4000000 in
theorem rbits_walk {W : World} {a b : Int} (ha : (Lit.int .u64 a).wf = true) (hb : (Lit.int .u32 b).wf = true) : Calls Try.prog 3 #[.int .u64 a, .int .u32 b] W fun e w' => e = .returned (.bool true) ∧ Below W.heap.size W w' := by
  have a1 : 0 ≤ a ∧ a < 18446744073709551616 := by have : 0 ≤ a ∧ a ≤ 18446744073709551615 := by simpa [Lit.wf, IntKind.min, IntKind.max, IntKind.signed, IntKind.bits] using ha
                                                   omega
  have b1 : 0 ≤ b ∧ b < 4294967296 := by have : 0 ≤ b ∧ b ≤ 4294967295 := by simpa [Lit.wf, IntKind.min, IntKind.max, IntKind.signed, IntKind.bits] using hb
                                         omega
  obtain ⟨a0, a1⟩ := a1
  obtain ⟨b0, b1⟩ := b1
  clear ha hb
  have q1 : ∀ (w : World), Calls Try.prog 11 #[.float .f64 a.toNat] w fun e w' => e = .returned (.int .u64 (oneD a.toNat)) ∧ w' = w := fun w => bits_any w _
  have q2 : ∀ (w : World), Calls Try.prog 12 #[.int .u64 a] w fun e w' => e = .returned (.int .u64 (oneD a.toNat)) ∧ w' = w := fun w => one_any w a a0 a1
  have q3 : ∀ (w : World), Calls Try.prog 13 #[.float .f32 b.toNat] w fun e w' => e = .returned (.int .u32 (oneS b.toNat)) ∧ w' = w := fun w => bits32_any w _
  have q4 : ∀ (w : World), Calls Try.prog 14 #[.int .u32 b] w fun e w' => e = .returned (.int .u32 (oneS b.toNat)) ∧ w' = w := fun w => one32_any w b b0 b1
  have q5 : ∀ (w : World), Calls Try.prog 15 #[.int .u64 a] w fun e w' => e = .returned (.bool (decide (nanD a.toNat))) ∧ w' = w := fun w => isnan_any w a a0 a1
  have q6 : ∀ w, Calls Try.prog 11 #[.float .f64 9221120237041090560] w fun e w' => e = .returned (.int .u64 9221120237041090560) ∧ w' = w := fun w => by
    have := bits_any w 9221120237041090560
    rwa [show oneD 9221120237041090560 = 9221120237041090560 by decide] at this
  have q7 : ∀ w, Calls Try.prog 9 #[.int .u64 9221120237041090560] w fun e w' => e = .returned (.float .f64 9221120237041090560) ∧ w' = w := fun w => float_any w 9221120237041090560
  have o1 := order_self' a.toNat
  have o2 := sorder_self b.toNat
  have o3 : (oneS b.toNat == 2143289344) = decide (nanS b.toNat) := by
    unfold oneS
    by_cases c : nanS b.toNat
    · rw [if_pos c, decide_eq_true c]; rfl
    · rw [if_neg c, decide_eq_false c]
      simp only [beq_eq_false_iff_ne, ne_eq]
      intro e
      unfold nanS at c
      omega
  generalize oneD a.toNat = x at *
  generalize oneS b.toNat = y at *
  generalize decide (nanD a.toNat) = p at *
  generalize decide (nanS b.toNat) = q at *
  clear a0 a1 b0 b1
  go_enter Try.func3, Try.ntmps3
  cases p <;> cases q <;> (
    go_wp2_with (first | (with_reducible refine (q7 _).mono ?_; rintro e w3 ⟨rfl, rfl⟩) | (with_reducible refine (q6 _).mono ?_; rintro e w3 ⟨rfl, rfl⟩) | (with_reducible refine (float_any _ _).mono ?_; rintro e w3 ⟨rfl, rfl⟩) | (with_reducible refine (float32_any _ _).mono ?_; rintro e w3 ⟨rfl, rfl⟩) | (with_reducible refine (q1 _).mono ?_; rintro e w3 ⟨rfl, rfl⟩) | (with_reducible refine (q2 _).mono ?_; rintro e w3 ⟨rfl, rfl⟩) | (with_reducible refine (q3 _).mono ?_; rintro e w3 ⟨rfl, rfl⟩) | (with_reducible refine (q4 _).mono ?_; rintro e w3 ⟨rfl, rfl⟩) | (with_reducible refine (q5 _).mono ?_; rintro e w3 ⟨rfl, rfl⟩) | (with_reducible refine (lives_ok _).mono ?_; rintro e w3 ⟨rfl, K⟩))
    go_ret
    exact ⟨rfl, K⟩)

end Go.Proofs.Ytkaakhmncmpliaa
