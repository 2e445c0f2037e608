/- crucibleref02.Pow, and quot.Pow beside it -/
import Derived.Test.YtlfkfeedopgfjacGreatDoorQKit
import Derived.Test.YtlfkfeedopgfjacGreatDoorRefB
import Derived.Test.YtlfkfeedopgfjacGreatDoorRefD
namespace Go.Proofs.YtlfkfeedopgfjacGreatDoor
open Go.RowKit

/-- is a power in reach? -/
def InR (b : Int) (k : Nat) (n : Int) : Prop := 0 ≤ n ∧ (b < 2 ∨ n ≤ 65536 / (k : Int))
instance (b : Int) (k : Nat) (n : Int) : Decidable (InR b k n) := by unfold InR; exact inferInstance
/-- the number that is answered -/
def PV (b : Int) (k : Nat) (n : Int) : Int := if InR b k n then b ^ n.toNat else 0

theorem num_nil (B : Nat) (w : World) (k : Nat) : Num B w (.slice none 0 0) 0 k := ⟨[], ⟨none, rfl, by unfold maxLen; simp, fun h => absurd h (by simp)⟩, Nt.canon_nil, rfl, by simp⟩
theorem isLen_is {b : Int} {k : Nat} (h : IsLen b k) (hb : 2 ≤ b) : 0 < k := isLen_pos h (by omega)

theorem pow_pv {w : World} {b n : Int} {k : Nat} (hb0 : 0 ≤ b) (hb1 : b < 4294967296) (hk : IsLen b k) (hN : n ≤ 9223372036854775807) :
    Calls Tryz.prog 7 #[.int .u32 b, .int .i64 n] w fun e w' => ∃ v, e = .returned (.tuple #[v, .bool (decide (InR b k n))]) ∧ Num w.heap.size w' v (PV b k n) 2048 ∧ Below w.heap.size w w' := by
  unfold PV
  by_cases h : InR b k n
  · rw [decide_eq_true h, if_pos h]
    obtain ⟨N, rfl⟩ := Int.eq_ofNat_of_zero_le h.1
    rw [Int.toNat_natCast]
    refine (pow_ok (N := N) hb0 hb1 hk hN h.2).mono ?_
    rintro e w' ⟨v, rfl, hn, hb⟩
    exact ⟨v, rfl, hn, hb⟩
  · rw [decide_eq_false h, if_neg h]
    rcases Int.lt_or_le n 0 with hn | hn
    · refine (pow_neg hn).mono ?_
      rintro e w' ⟨rfl, rfl⟩
      exact ⟨_, rfl, num_nil _ _ _, Below.refl _ _⟩
    · have h2 : 2 ≤ b := by
        rcases Int.lt_or_le b 2 with h2 | h2
        · exact absurd ⟨hn, Or.inl h2⟩ h
        · exact h2
      have h3 : 65536 / (k : Int) < n := by
        rcases Int.lt_or_le (65536 / (k : Int)) n with h3 | h3
        · exact h3
        · exact absurd ⟨hn, Or.inr h3⟩ h
      refine (pow_big hn h2 hb1 hk (isLen_is hk h2) h3).mono ?_
      rintro e w' ⟨rfl, rfl⟩
      exact ⟨_, rfl, num_nil _ _ _, Below.refl _ _⟩

set_option maxRecDepth 20000 in
set_option maxHeartbeats 1000000 in
theorem rpower_zero {w : World} {b : Int} :
    Calls Tryz.prog 24 #[.int .u32 b, .int .i64 0] w fun e w' => ∃ v, e = .returned v ∧ Num w.heap.size w' v 1 2048 ∧ Below w.heap.size w w' := by
  have hnum := num_row1 (B := w.heap.size) (x := 1) (row_one w 1) (Nat.le_refl _) (by omega)
  have HN := hide hnum
  clear hnum
  go_enter Tryz.func24, Tryz.ntmps24
  go_wp2
  go_ret
  exact ⟨_, rfl, HN.out.mono (by omega), below_alloc _ _⟩

theorem pow_mono_le {b : Int} (hb : 1 ≤ b) {m n : Nat} (h : m ≤ n) : b ^ m ≤ b ^ n := by
  obtain ⟨d, rfl⟩ : ∃ d, n = m + d := ⟨n - m, by omega⟩
  rw [Int.pow_add]
  have h1 := pow_ge_one hb d
  have h2 : b ^ m * 1 ≤ b ^ m * b ^ d := Int.mul_le_mul_of_nonneg_left h1 (by have := pow_ge_one hb m; omega)
  omega

set_option maxRecDepth 20000 in
set_option maxHeartbeats 4000000 in
theorem rpower_any (N : Nat) : ∀ {w : World} {b : Int}, 1 ≤ b → b < 4294967296 → (N : Int) ≤ 9223372036854775807 → b ^ N < Nt.pw 2048 →
    Calls Tryz.prog 24 #[.int .u32 b, .int .i64 N] w fun e w' => ∃ v, e = .returned v ∧ Num w.heap.size w' v (b ^ N) 2048 ∧ Below w.heap.size w w' := by
  induction N using Nat.strongRecOn with
  | _ N ih =>
    intro w b hb1 hb2 hN hlt
    by_cases h0 : N = 0
    · subst h0
      refine (rpower_zero (w := w) (b := b)).mono ?_
      rintro e w' ⟨v, rfl, hn, hb⟩
      exact ⟨v, rfl, by rw [Int.pow_zero]; exact hn, hb⟩
    · obtain ⟨q, hq⟩ : ∃ q, q = N / 2 := ⟨_, rfl⟩
      have j1 : (N : Int) / 2 = (q : Int) := by omega
      have hqlt : b ^ q < Nt.pw 2048 := Int.lt_of_le_of_lt (pow_mono_le hb1 (by omega)) hlt
      have hc := ih q (by omega) (w := w) (b := b) hb1 hb2 (by omega) hqlt
      have n0 : ((N : Int) == 0) = false := by simp; omega
      have hh := pow_half (s := b) N
      have e2 : (b * b) ^ q = b ^ q * b ^ q := by rw [Int.mul_pow]
      rw [← hq, e2] at hh
      have hsq : b ^ q * b ^ q < Nt.pw 2048 := by
        have h1 : b ^ q * b ^ q = b ^ (q + q) := by rw [Int.pow_add]
        rw [h1]
        exact Int.lt_of_le_of_lt (pow_mono_le hb1 (by omega)) hlt
      have HH := hide hh
      have HL := hide hlt
      have HS := hide hsq
      clear ih hh hlt hsq hqlt hq
      go_enter Tryz.func24, Tryz.ntmps24
      go_wp2_with fail
      with_reducible refine hc.mono ?_
      clear hc
      rintro e w1 ⟨v1, rfl, h1, hb⟩
      go_wp2_with fail
      with_reducible refine (rmul_any h1.arg h1.arg (by omega) (by omega)).mono ?_
      rintro e w2 ⟨v2, rfl, h2, hB2⟩
      have h2' := h2.tight (k' := 2048) HS.out
      have hW := below_trans hb hB2
      have hbs := hb.size
      clear h1 hB2 h2
      by_cases hodd : N % 2 = 1
      · have j2 : (N : Int) % 2 = 1 := by omega
        have j3 : ((N : Int) % 2 == 1) = true := by simp [j2]
        go_wp2_with fail
        with_reducible refine (rmul_any (h2'.arg.below (below_alloc _ _)) (arg_one w2 (x := b) ⟨by omega, hb2⟩) (by omega) (by omega)).mono ?_
        rintro e w3 ⟨v3, rfl, h3, hB3⟩
        have hW3 := below_trans hW (below_trans (below_alloc w2 _) hB3)
        have hfin : Num w.heap.size w3 v3 (b ^ N) 2048 := by
          have e3 : b ^ q * b ^ q * b = b ^ N := by have h := HH.out; rw [if_pos hodd] at h; exact h.symm
          rw [e3] at h3
          exact (h3.low (by have := hW.size; simp; omega)).tight HL.out
        have HF := hide hfin
        clear h3 hfin h2' hb hB3
        go_wp2
        go_ret
        exact ⟨_, rfl, HF.out, hW3⟩
      · have j2 : (N : Int) % 2 = 0 := by omega
        have j3 : ((N : Int) % 2 == 1) = false := by simp [j2]
        have hfin : Num w.heap.size w2 v2 (b ^ N) 2048 := by
          have e3 : b ^ q * b ^ q = b ^ N := by have h := HH.out; rw [if_neg hodd] at h; simpa using h.symm
          rw [← e3]
          exact h2'.low hbs
        have HF := hide hfin
        clear hfin h2' hb
        go_wp2
        go_ret
        exact ⟨_, rfl, HF.out, hW⟩

end Go.Proofs.YtlfkfeedopgfjacGreatDoor
