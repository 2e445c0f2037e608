/- RealHolds, RealBits: the walks -/
import Derived.Test.YtkaakhmncmpliaaRLives
namespace Go.Proofs.Ytkaakhmncmpliaa
open Go.RowKit

set_option maxHeartbeats 4000000 in
theorem rholds_walk {W : World} {a b : Int} (ha : (Lit.int .u64 a).wf = true) (hb : (Lit.int .u64 b).wf = true) : Calls Try.prog 6 #[.int .u64 a, .int .u64 b] W fun e w' => e = .returned (.bool true) ∧ Below W.heap.size W w' := by
  have a1 : 0 ≤ a ∧ a < 18446744073709551616 := by have : 0 ≤ a ∧ a ≤ 18446744073709551615 := by simpa [Lit.wf, IntKind.min, IntKind.max, IntKind.signed, IntKind.bits] using ha
                                                   omega
  have b1 : 0 ≤ b ∧ b < 18446744073709551616 := by have : 0 ≤ b ∧ b ≤ 18446744073709551615 := by simpa [Lit.wf, IntKind.min, IntKind.max, IntKind.signed, IntKind.bits] using hb
                                                   omega
  obtain ⟨a0, a1⟩ := a1
  obtain ⟨b0, b1⟩ := b1
  clear ha hb
  go_enter Try.func6, Try.ntmps6
  go_wp2_with fail
  with_reducible refine (dcmp_any _ a b a0 a1 b0 b1).mono ?_
  rintro e w1 ⟨rfl, rfl⟩
  go_wp2_with fail
  with_reducible refine (float_any _ a).mono ?_
  rintro e w1 ⟨rfl, rfl⟩
  go_wp2_with fail
  with_reducible refine (float_any _ b).mono ?_
  rintro e w1 ⟨rfl, rfl⟩
  go_wp2_with fail
  with_reducible refine (rcmp5_any _ a.toNat b.toNat).mono ?_
  rintro e w1 ⟨rfl, rfl⟩
  have qs : ∀ (w : World), Calls Try.prog 28 #[.float .f64 a.toNat, .float .f64 b.toNat] w fun e w' => e = .returned (.bool (oneD a.toNat == oneD b.toNat)) ∧ w' = w := fun w => same_any w _ _
  have qa : ∀ (w : World), Calls Try.prog 12 #[.int .u64 a] w fun e w' => e = .returned (.int .u64 (oneD a.toNat)) ∧ w' = w := fun w => one_any w a a0 a1
  have qb : ∀ (w : World), Calls Try.prog 12 #[.int .u64 b] w fun e w' => e = .returned (.int .u64 (oneD b.toNat)) ∧ w' = w := fun w => one_any w b b0 b1
  generalize oneD a.toNat = x at *
  generalize oneD b.toNat = y at *
  generalize cmpD a.toNat b.toNat = c
  generalize (!decide (nanD a.toNat) && !decide (nanD b.toNat)) = ok
  clear a0 a1 b0 b1
  rcases h : (x == y) with _ | _
  · rw [h] at qs
    cases ok <;> (
    go_wp2_with (first | (with_reducible refine (float_any _ _).mono ?_; rintro e w3 ⟨rfl, rfl⟩) | (with_reducible refine (qs _).mono ?_; rintro e w3 ⟨rfl, rfl⟩) | (with_reducible refine (qa _).mono ?_; rintro e w3 ⟨rfl, rfl⟩) | (with_reducible refine (qb _).mono ?_; rintro e w3 ⟨rfl, rfl⟩) | (with_reducible refine (lives_ok _).mono ?_; rintro e w3 ⟨rfl, K⟩))
    go_ret
    exact ⟨rfl, K⟩)
  · rw [h] at qs
    cases ok <;> (
    go_wp2_with (first | (with_reducible refine (float_any _ _).mono ?_; rintro e w3 ⟨rfl, rfl⟩) | (with_reducible refine (qs _).mono ?_; rintro e w3 ⟨rfl, rfl⟩) | (with_reducible refine (qa _).mono ?_; rintro e w3 ⟨rfl, rfl⟩) | (with_reducible refine (qb _).mono ?_; rintro e w3 ⟨rfl, rfl⟩) | (with_reducible refine (lives_ok _).mono ?_; rintro e w3 ⟨rfl, K⟩))
    go_ret
    exact ⟨rfl, K⟩)

end Go.Proofs.Ytkaakhmncmpliaa
