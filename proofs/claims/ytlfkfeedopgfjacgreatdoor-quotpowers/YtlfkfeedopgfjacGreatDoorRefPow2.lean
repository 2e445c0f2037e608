/- crucibleref02.Pow -/
import Derived.Test.YtlfkfeedopgfjacGreatDoorRefPow
namespace Go.Proofs.YtlfkfeedopgfjacGreatDoor
open Go.RowKit

theorem isLen_exists {b : Int} (h1 : b < 4294967296) : ∃ k, IsLen b k ∧ k ≤ 32 := by
  have key : ∀ m : Nat, b < p2 m → ∃ k, IsLen b k ∧ k ≤ m := by
    intro m
    induction m with
    | zero => intro h; exact ⟨0, ⟨h, fun h => by omega⟩, Nat.le_refl _⟩
    | succ m ih =>
      intro h
      rcases Int.lt_or_le b (p2 m) with h2 | h2
      · obtain ⟨k, hk, hm⟩ := ih h2
        exact ⟨k, hk, by omega⟩
      · exact ⟨m + 1, ⟨h, fun _ => by rw [Nat.add_sub_cancel]; exact h2⟩, Nat.le_refl _⟩
  exact key 32 (by have e : p2 32 = 4294967296 := by decide
                   rw [e]; exact h1)

set_option maxRecDepth 20000 in
set_option maxHeartbeats 4000000 in
theorem rpow_pv {w : World} {b n : Int} {k : Nat} (hb0 : 0 ≤ b) (hb1 : b < 4294967296) (hk : IsLen b k) (hk2 : k ≤ 32) (hN : n ≤ 9223372036854775807) :
    Calls Tryz.prog 6 #[.int .u32 b, .int .i64 n] w fun e w' => ∃ v, e = .returned (.tuple #[v, .bool (decide (InR b k n))]) ∧ Num w.heap.size w' v (PV b k n) 2048 ∧ Below w.heap.size w w' := by
  have hlen := rlen_any (arg_one w ⟨hb0, hb1⟩) (by omega) hk
  have Hlen := hide hlen
  clear hlen
  have hB0 : Below w.heap.size w (w.alloc (.cells #[.int .u32 b] 22)) := below_alloc _ _
  by_cases h : InR b k n
  · have hlt : b ^ n.toNat < Nt.pw 2048 := by
      obtain ⟨N, rfl⟩ := Int.eq_ofNat_of_zero_le h.1
      rw [Int.toNat_natCast]
      refine pow_lt hb0 hk ?_
      rcases h.2 with h2 | h2
      · exact Or.inl h2
      · by_cases hk0 : k = 0
        · subst hk0; right; omega
        · right
          have h4 : (N : Int) * (k : Int) ≤ 65536 := Int.le_trans (Int.mul_le_mul_of_nonneg_right h2 (by omega)) (Int.ediv_mul_le _ (by omega))
          have h3 : ((k * N : Nat) : Int) = (N : Int) * (k : Int) := by rw [Int.natCast_mul, Int.mul_comm]
          omega
    have hpv : PV b k n = b ^ n.toNat := by unfold PV; rw [if_pos h]
    have HPV := hide hpv
    have HLt := hide hlt
    have hn0 : ¬ n < 0 := by have := h.1; omega
    rw [decide_eq_true h]
    by_cases hb2 : 2 ≤ b
    · have hin : ¬ 65536 / (k : Int) < n := by have := h.2; omega
      have hin2 : decide (65536 / (k : Int) < n) = false := decide_eq_false hin
      have hkp := isLen_is hk hb2
      have hkz : ¬ (k : Int) = 0 := by omega
      have z0 : (b == 0) = false := by simp; omega
      have z1 : (b == 1) = false := by simp; omega
      obtain ⟨N, rfl⟩ := Int.eq_ofNat_of_zero_le h.1
      rw [Int.toNat_natCast] at HPV HLt
      obtain ⟨Q, hQ⟩ : ∃ Q, 65536 / (k : Int) = Q := ⟨_, rfl⟩
      rw [hQ] at hin hin2
      clear hlt hpv h hk
      go_enter Tryz.func6, Tryz.ntmps6
      go_wp2_with fail
      with_reducible refine Hlen.out.mono ?_
      rintro e w1 ⟨rfl, hB1⟩
      go_wp2_with fail
      with_reducible refine (rpower_any N (by omega) hb1 hN HLt.out).mono ?_
      rintro e w2 ⟨v, rfl, hv, hB2⟩
      have hW := below_trans (below_trans hB0 hB1) hB2
      have hfin : Num w.heap.size w2 v (PV b k N) 2048 := by rw [HPV.out]; exact hv.low (below_trans hB0 hB1).size
      have HF := hide hfin
      clear hv hfin hB1 hB2
      go_wp2
      go_ret2
      exact ⟨_, rfl, HF.out, hW⟩
    · have hin : ¬ 2 ≤ b := hb2
      by_cases hb1' : b = 1
      · subst hb1'
        have hone : PV 1 k n = 1 := by rw [HPV.out, Int.one_pow]
        have HO := hide hone
        clear hlt hpv h hk HPV HLt hone
        go_enter Tryz.func6, Tryz.ntmps6
        go_wp2_with fail
        with_reducible refine Hlen.out.mono ?_
        rintro e w1 ⟨rfl, hB1⟩
        go_wp2_with fail
        with_reducible refine rpower_zero.mono ?_
        rintro e w2 ⟨v, rfl, hv, hB2⟩
        have hW := below_trans (below_trans hB0 hB1) hB2
        have hfin : Num w.heap.size w2 v (PV 1 k n) 2048 := by rw [HO.out]; exact hv.low (below_trans hB0 hB1).size
        have HF := hide hfin
        clear hv hfin hB1 hB2
        go_wp2
        go_ret2
        exact ⟨_, rfl, HF.out, hW⟩
      · have hb00 : b = 0 := by omega
        subst hb00
        by_cases hnp : 0 < n
        · have hz : PV 0 k n = 0 := by rw [HPV.out]; exact Int.zero_pow (by omega)
          have HO := hide hz
          clear hlt hpv h hk HPV HLt hz
          go_enter Tryz.func6, Tryz.ntmps6
          go_wp2_with fail
          with_reducible refine Hlen.out.mono ?_
          rintro e w1 ⟨rfl, hB1⟩
          have hW := below_trans hB0 hB1
          go_wp2
          go_ret2
          exact ⟨_, rfl, by rw [HO.out]; exact num_nil _ _ _, hW⟩
        · have hnz : n = 0 := by omega
          subst hnz
          have hz : PV 0 k 0 = 1 := by rw [HPV.out]; rfl
          have HO := hide hz
          clear hlt hpv h hk HPV HLt hz
          go_enter Tryz.func6, Tryz.ntmps6
          go_wp2_with fail
          with_reducible refine Hlen.out.mono ?_
          rintro e w1 ⟨rfl, hB1⟩
          go_wp2_with fail
          with_reducible refine rpower_zero.mono ?_
          rintro e w2 ⟨v, rfl, hv, hB2⟩
          have hW := below_trans (below_trans hB0 hB1) hB2
          have hfin : Num w.heap.size w2 v (PV 0 k 0) 2048 := by rw [HO.out]; exact hv.low (below_trans hB0 hB1).size
          have HF := hide hfin
          clear hv hfin hB1 hB2
          go_wp2
          go_ret2
          exact ⟨_, rfl, HF.out, hW⟩
  · have hpv : PV b k n = 0 := by unfold PV; rw [if_neg h]
    have HPV := hide hpv
    rw [decide_eq_false h]
    rcases Int.lt_or_le n 0 with hn | hn
    · clear hpv h hk
      go_enter Tryz.func6, Tryz.ntmps6
      go_wp2_with fail
      with_reducible refine Hlen.out.mono ?_
      rintro e w1 ⟨rfl, hB1⟩
      have hW := below_trans hB0 hB1
      go_wp2
      go_ret2
      exact ⟨_, rfl, by rw [HPV.out]; exact num_nil _ _ _, hW⟩
    · have h2 : 2 ≤ b := by
        rcases Int.lt_or_le b 2 with h2 | h2
        · exact absurd ⟨hn, Or.inl h2⟩ h
        · exact h2
      have h3 : 65536 / (k : Int) < n := by
        rcases Int.lt_or_le (65536 / (k : Int)) n with h3 | h3
        · exact h3
        · exact absurd ⟨hn, Or.inr h3⟩ h
      have hn0 : ¬ n < 0 := by omega
      have hkp := isLen_is hk h2
      have hkz : ¬ (k : Int) = 0 := by omega
      clear hpv h hk
      go_enter Tryz.func6, Tryz.ntmps6
      go_wp2_with fail
      with_reducible refine Hlen.out.mono ?_
      rintro e w1 ⟨rfl, hB1⟩
      have hW := below_trans hB0 hB1
      go_wp2
      go_ret2
      exact ⟨_, rfl, by rw [HPV.out]; exact num_nil _ _ _, hW⟩

end Go.Proofs.YtlfkfeedopgfjacGreatDoor
