/- NCa -/
import Derived.Test.YtjigofmcflmelaaGreatDoorC26
import Derived.Test.YtjigofmcflmelaaGreatDoorC19
namespace Go.Proofs.YtjigofmcflmelaaGreatDoor
open Go.RowKit
set_option linter.unusedVariables false
set_option linter.unusedSimpArgs false

set_option maxHeartbeats 4000000 in
theorem rnormal_b {w : World} {g : Bool} {m : Value} {zs : List Int} (hm : Reads .u32 w m zs) : Calls Tryz.prog 233 #[.agg #[.bool g, m]] w fun e w' => e = .returned (.bool (nrmB g zs)) ∧ Below w.heap.size w w' := by
  obtain ⟨ao, cap, rfl, hlc, hcm, hc⟩ := hm
  unfold nrmB
  by_cases hz : zs.length = 0
  · rw [if_pos hz]
    have : zs = [] := List.length_eq_zero_iff.1 hz
    subst this
    clear hc hlc hcm hz
    simp only [List.length_nil]
    cases g <;>
    · go_enter Tryz.func233, Tryz.ntmps233
      go_wp2
      go_ret
      exact ⟨rfl, bel_new _ _⟩
  · rw [if_neg hz]
    obtain ⟨b, off, rfl, hb, hcell⟩ := hc (by omega)
    have h1 := hcell (zs.length - 1) (by omega)
    generalize Nt.lb zs (zs.length - 1) = x at h1
    obtain ⟨n, hn⟩ : ∃ n, zs.length = n + 1 := ⟨zs.length - 1, by omega⟩
    rw [hn] at h1 hlc ⊢
    rw [show n + 1 - 1 = n by omega] at h1
    have hcm2 : cap ≤ 9223372036854775807 := hcm
    have h5 := (bel_new w (.cells #[.bool g, .slice (some ⟨b, off, none⟩) (n + 1) cap] 28)).cell (p := ⟨b, off + n, none⟩) hb
    rw [h1] at h5
    clear hcell hz hn h1 hcm hc
    have e0 : ((n : Int) + 1 == 0) = false := beq_eq_false_iff_ne.2 (by omega)
    have e1 : (0 : Int) < (n : Int) + 1 := by omega
    go_enter Tryz.func233, Tryz.ntmps233
    go_wp2
    go_ret
    exact ⟨rfl, bel_new _ _⟩

set_option maxHeartbeats 8000000 in
set_option maxRecDepth 20000 in
theorem rfloat_any {w : World} {b : Int} {fb : Bool} (b0 : 0 ≤ b) (b1 : b < 18446744073709551616) (hf : fb = true ↔ FOk b) : Calls Tryz.prog 234 #[.int .u64 b] w fun e w' => e = .returned (.bool fb) ∧ Below w.heap.size w w' := by
  have s0 : 0 ≤ b % 9223372036854775808 := Int.emod_nonneg _ (by decide)
  obtain ⟨c, hc⟩ : ∃ c, cls 9223372036854775808 4503599627370496 (b % 9223372036854775808) = c := ⟨_, rfl⟩
  have HC := hide hc
  by_cases c5 : c = 5
  · subst c5
    have hn : 9218868437227405312 < b % 9223372036854775808 := by
      have := (cls_nan 9223372036854775808 4503599627370496 (b % 9223372036854775808)).1 hc
      omega
    have hq : Hid ((b == 9221120237041090560) = fb) := hide (by
      cases fb with
      | true =>
        obtain ⟨-, -, -, h | h | ⟨h, -⟩⟩ := hf.1 rfl
        · rw [h]; rfl
        · omega
        · omega
      | false =>
        refine beq_eq_false_iff_ne.2 fun h => ?_
        have : false = true := hf.2 ⟨b0, b1, by rintro rfl; omega, .inl h⟩
        cases this)
    clear hc hn hf
    go_enter Tryz.func234, Tryz.ntmps234
    go_wp2_with fail
    with_reducible refine (rClass_d _ b (b % 9223372036854775808) b0 b1 rfl).mono ?_
    rintro e w1 ⟨rfl, K1⟩
    have HK := hide K1
    clear K1
    rw [HC.out]
    go_wp2_with fail
    with_reducible refine (rNaN_d _).mono ?_
    rintro e w2 ⟨rfl, K2⟩
    have HK2 := hide (below_trans HK.out K2)
    clear K2
    obtain ⟨q, hqq⟩ : ∃ q, (b == 9221120237041090560) = q := ⟨_, rfl⟩
    have HQQ := hide hqq
    go_wp2
    go_ret
    exact ⟨congrArg (fun q => Ending.returned (.bool q)) (HQQ.out.symm.trans hq.out), HK2.out⟩
  have hs1 : b % 9223372036854775808 ≤ 9218868437227405312 := by
    rcases Int.lt_or_le 9218868437227405312 (b % 9223372036854775808) with g | g
    · exact absurd (hc.symm.trans ((cls_nan 9223372036854775808 4503599627370496 (b % 9223372036854775808)).2 (by omega))) c5
    · exact g
  by_cases c4 : b % 9223372036854775808 = 9218868437227405312
  · have h4 : c = 4 := by rw [← hc, c4]; decide
    subst h4
    have hft : fb = true := hf.2 ⟨b0, b1, by rintro rfl; omega, .inr (.inl c4)⟩
    subst hft
    clear hc hf c4 hs1 c5
    go_enter Tryz.func234, Tryz.ntmps234
    go_wp2_with fail
    with_reducible refine (rClass_d _ b (b % 9223372036854775808) b0 b1 rfl).mono ?_
    rintro e w1 ⟨rfl, K1⟩
    have HK := hide K1
    clear K1
    rw [HC.out]
    go_wp2
    go_ret
    exact ⟨rfl, HK.out⟩
  · have s1 : b % 9223372036854775808 < 9218868437227405312 := by omega
    have n4 : c ≠ 4 := by
      rw [← hc]; unfold cls; intro hx
      rw [if_neg (by omega), if_neg (by omega)] at hx
      split at hx
      · omega
      · split at hx <;> omega
    have e5 : (c == 5) = false := by simp [c5]
    have e4 : (c == 4) = false := by simp [n4]
    have HF := hide (fun (n : Int) (ok : Bool) (h : IntIs 4503599627370496 (-1074) 9218868437227405312 (b % 9223372036854775808) (decide (9223372036854775808 ≤ b)) n ok) => (show (!ok) = fb from by
      cases ok with
      | false =>
        have hp := (frac_u (by decide) (by decide) s0 s1 h).1
        exact (hf.2 ⟨b0, b1, by rintro rfl; omega, .inr (.inr ⟨s1, n, h⟩)⟩).symm
      | true =>
        cases fb with
        | false => rfl
        | true =>
          obtain ⟨-, -, -, h2 | h2 | ⟨-, n2, h2⟩⟩ := hf.1 rfl
          · exfalso; rw [h2] at s1; revert s1; decide
          · exact absurd h2 c4
          · have := (IntIs.unique s0 h h2).2; cases this))
    clear hc hf c4 hs1 n4 c5
    go_enter Tryz.func234, Tryz.ntmps234
    go_wp2_with fail
    with_reducible refine (rClass_d _ b (b % 9223372036854775808) b0 b1 rfl).mono ?_
    rintro e w1 ⟨rfl, K1⟩
    have HK := hide K1
    clear K1
    rw [HC.out]
    go_wp2_with fail
    with_reducible refine (rInt_d _ b (b % 9223372036854775808) (decide (9223372036854775808 ≤ b)) b0 b1 rfl rfl).mono ?_
    rintro e w2 ⟨va, n, ok, rfl, hW, hI, K2⟩
    obtain ⟨ng2, ao2, l2, rfl⟩ := hW.told
    have HK2 := hide (below_trans HK.out K2)
    have HR := hide (HF.out n ok hI)
    clear K2 hW hI HF
    go_wp2
    go_ret
    exact ⟨congrArg (fun q => Ending.returned (.bool q)) HR.out, HK2.out.alloc (by have := HK2.out.size; omega) _⟩

end Go.Proofs.YtjigofmcflmelaaGreatDoor
