/- NDec, NRf -/
import Derived.Test.YtjigofmcflmelaaGreatDoorC25
import Derived.Test.YtjigofmcflmelaaGreatDoorC23
import Derived.Test.YtjigofmcflmelaaGreatDoorC14
namespace Go.Proofs.YtjigofmcflmelaaGreatDoor
open Go.RowKit
set_option linter.unusedVariables false

set_option maxHeartbeats 8000000 in
set_option maxRecDepth 20000 in
theorem isfloat_d (b : Int) (b0 : 0 ≤ b) (b1 : b < 18446744073709551616) : ∃ fb : Bool, (fb = true → FOk b) ∧ ∀ w : World, Lays w → Brn w → Calls Tryz.prog 228 #[.int .u64 b] w fun e w' => e = .returned (.bool fb) ∧ Below w.heap.size w w' := by
  obtain ⟨c, hc⟩ : ∃ c, cls 9223372036854775808 4503599627370496 (b % 9223372036854775808) = c := ⟨_, rfl⟩
  by_cases c5 : c = 5
  · subst c5
    refine ⟨b == 9221120237041090560, fun h => by
      obtain rfl : b = 9221120237041090560 := by simpa using h
      exact ⟨by decide, by decide, by decide, .inl rfl⟩, fun w L T => ?_⟩
    have HC := hide hc
    clear hc
    obtain ⟨q, hq⟩ : ∃ q, (b == 9221120237041090560) = q := ⟨_, rfl⟩
    rw [hq]
    go_enter Tryz.func228, Tryz.ntmps228
    go_wp2_with fail
    with_reducible refine (class_64 L b (b % 9223372036854775808) b0 b1 rfl).mono ?_
    rintro e w1 ⟨rfl, K1⟩
    have HK := hide K1
    clear K1
    rw [HC.out]
    have hq2 := hide hq
    clear hq
    go_wp2
    go_ret
    exact ⟨congrArg (fun q => Ending.returned (.bool q)) hq2.out, HK.out⟩
  by_cases c4 : c = 4
  · subst c4
    have hs : b % 9223372036854775808 = 9218868437227405312 := by
      unfold cls at hc
      split at hc
      · omega
      · split at hc
        · omega
        · split at hc
          · omega
          · split at hc <;> omega
    refine ⟨true, fun _ => ⟨b0, b1, by rintro rfl; omega, .inr (.inl hs)⟩, fun w L T => ?_⟩
    have HC := hide hc
    clear hc c5
    go_enter Tryz.func228, Tryz.ntmps228
    go_wp2_with fail
    with_reducible refine (class_64 L b (b % 9223372036854775808) b0 b1 rfl).mono ?_
    rintro e w1 ⟨rfl, K1⟩
    have HK := hide K1
    clear K1
    rw [HC.out]
    go_wp2
    go_ret
    exact ⟨rfl, HK.out⟩
  · have s0 : 0 ≤ b % 9223372036854775808 := Int.emod_nonneg _ (by decide)
    have s1 : b % 9223372036854775808 < 9218868437227405312 := by
      rcases Int.lt_or_le (b % 9223372036854775808) 9218868437227405312 with g | g
      · exact g
      · exfalso
        unfold cls at hc
        split at hc
        · omega
        · split at hc <;> omega
    obtain ⟨n0, ok0, hI0⟩ := int_ex (ng := decide (9223372036854775808 ≤ b)) wth64 (by decide) s0 s1
    obtain ⟨fb, hfo, hfb⟩ : ∃ fb : Bool, (fb = true → FOk b) ∧ ∀ n ok, IntIs 4503599627370496 (-1074) 9218868437227405312 (b % 9223372036854775808) (decide (9223372036854775808 ≤ b)) n ok → ok = !fb := by
      refine ⟨!ok0, fun h => ?_, fun n ok h => by rw [Bool.not_not]; exact (IntIs.unique s0 h hI0).2⟩
      obtain rfl : ok0 = false := by simpa using h
      have hp := (frac_u (by decide) (by decide) s0 s1 hI0).1
      exact ⟨b0, b1, by rintro rfl; omega, .inr (.inr ⟨s1, n0, hI0⟩)⟩
    clear hI0
    refine ⟨fb, hfo, fun w L T => ?_⟩
    clear hfo s0 s1
    have HC := hide hc
    have HF := hide hfb
    have e5 : (c == 5) = false := by simp [c5]
    have e4 : (c == 4) = false := by simp [c4]
    clear hc hfb c4 c5
    go_enter Tryz.func228, Tryz.ntmps228
    go_wp2_with fail
    with_reducible refine (class_64 L b (b % 9223372036854775808) b0 b1 rfl).mono ?_
    rintro e w1 ⟨rfl, K1⟩
    have HK := hide K1
    have L1 := hide (L.below K1)
    have T1 := hide (T.below K1)
    clear K1
    rw [HC.out]
    go_wp2_with fail
    with_reducible refine (int_64 L1.out T1.out b (b % 9223372036854775808) (decide (9223372036854775808 ≤ b)) b0 b1 rfl rfl).mono ?_
    rintro e w2 ⟨va, n2, ok, rfl, hW, hI, K2⟩
    have hok := hide (HF.out _ _ hI)
    obtain ⟨ng2, m2, a2, rfl, ⟨zs2, ⟨ao2, rfl, -⟩, -⟩, -, -⟩ := hW
    clear hI
    have KK := hide (below_trans HK.out K2)
    clear K2
    go_wp2
    go_ret
    refine ⟨?_, KK.out.alloc (by have := KK.out.size; omega) _⟩
    rw [hok.out]
    simp

theorem flr_3 {n1 b e : Int} {g : Bool} {ml kl : Nat} {s : ByteArray} (h : (bits .andNot .u8 (flr n1 g ml b e s kl) 2 == 0) = true) : n1 = 0 ∧ b = 0 ∧ e = 0 ∧ s = ⟨#[]⟩ ∧ kl = 0 := by
  unfold flr at h
  rw [flB_int] at h
  simp [ByteArray.toList_eq] at h
  obtain ⟨⟨⟨⟨h1, h2⟩, h3⟩, h4⟩, h5⟩ := h
  exact ⟨h1, h2, h3, by cases s; simp_all, by omega⟩
theorem flr_4 {n1 b e : Int} {g : Bool} {ml kl : Nat} {s : ByteArray} (h : (bits .andNot .u8 (flr n1 g ml b e s kl) 4 == 0) = true) : n1 = 0 ∧ g = false ∧ ml = 0 ∧ e = 0 ∧ s = ⟨#[]⟩ ∧ kl = 0 := by
  unfold flr at h
  rw [flB_flt] at h
  simp [ByteArray.toList_eq] at h
  obtain ⟨⟨⟨⟨h1, h2, h2'⟩, h3⟩, h4⟩, h5⟩ := h
  exact ⟨h1, h2, by omega, h3, by cases s; simp_all, by omega⟩
theorem nrm_c {g : Bool} {zs : List Int} (ho : Nt.Ok zs) (h : nrmB g zs = true) : Nt.Canon zs ∧ (g = true → 0 < Nt.val zs) := by
  unfold nrmB at h
  by_cases hz : zs.length = 0
  · rw [if_pos hz] at h
    have : zs = [] := List.length_eq_zero_iff.1 hz
    subst this
    refine ⟨⟨ho, fun h => absurd rfl h⟩, fun hg => ?_⟩
    rw [hg] at h
    cases h
  · rw [if_neg hz] at h
    have hc : Nt.Canon zs := ⟨ho, fun _ => by simpa using h⟩
    refine ⟨hc, fun _ => ?_⟩
    have h0 := Nt.val_nonneg ho
    rcases Int.lt_or_eq_of_le h0 with g | g
    · exact g
    · have : zs = [] := Nt.canon_unique hc ⟨fun i => by simp [Nt.lb], fun h => absurd rfl h⟩ (by rw [← g]; rfl)
      rw [this] at hz
      exact absurd rfl hz

end Go.Proofs.YtjigofmcflmelaaGreatDoor

namespace Go.Proofs.YtjigofmcflmelaaGreatDoor
open Go.RowKit
set_option linter.unusedVariables false

end Go.Proofs.YtjigofmcflmelaaGreatDoor
