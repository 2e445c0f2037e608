/- EnX, EsE, EsF, EsG, EsH, EsI, EsJ, EsK, EsL, EsM, EsN, EsO, EsP, EsQ -/
import Derived.Test.YtinfkoiifemjmaaGreatDoorS33
import Derived.Test.YtinfkoiifemjmaaGreatDoorS35
import Derived.Laws.BytesArg
import Derived.Test.YtinfkoiifemjmaaGreatDoorS32
import Derived.Test.YtinfkoiifemjmaaGreatDoorS37
namespace Go.Proofs.YtinfkoiifemjmaaGreatDoor
open Go.RowKit
set_option linter.unusedVariables false
set_option linter.unusedSimpArgs false

/-- three cells that may be written -/
structure Cf3 (w : World) (b : Nat) (v0 v1 v2 : Value) : Prop where
  c0 : w.cell? ⟨b, 0, none⟩ = some v0
  f0 : w.frozen? ⟨b, 0, none⟩ = false
  c1 : w.cell? ⟨b, 1, none⟩ = some v1
  f1 : w.frozen? ⟨b, 1, none⟩ = false
  c2 : w.cell? ⟨b, 2, none⟩ = some v2
  f2 : w.frozen? ⟨b, 2, none⟩ = false
  lt : b < w.heap.size
theorem Cf3.below {w w' : World} {b : Nat} {v0 v1 v2 : Value} (h : Cf3 w b v0 v1 v2) (hb : Below w.heap.size w w') : Cf3 w' b v0 v1 v2 :=
  ⟨(hb.cell (p := ⟨b, 0, none⟩) h.lt).trans h.c0, (hb.frozen (p := ⟨b, 0, none⟩) h.lt).trans h.f0, (hb.cell (p := ⟨b, 1, none⟩) h.lt).trans h.c1, (hb.frozen (p := ⟨b, 1, none⟩) h.lt).trans h.f1, (hb.cell (p := ⟨b, 2, none⟩) h.lt).trans h.c2, (hb.frozen (p := ⟨b, 2, none⟩) h.lt).trans h.f2, Nat.lt_of_lt_of_le h.lt hb.size⟩
theorem Cf3.set0 {w : World} {b : Nat} {v0 v1 v2 : Value} (h : Cf3 w b v0 v1 v2) (x : Value) : Cf3 (w.setCell ⟨b, 0, none⟩ x) b x v1 v2 := by
  refine ⟨?_, ?_, ?_, ?_, ?_, ?_, by simpa [World.setCell] using h.lt⟩
  · exact World.cell?_setCell_same _ _ _ h.c0
  · have := h.f0; simpa [go_sem] using this
  · rw [World.cell?_setCell_other _ _ _ _ (by intro e; injection e with _ e _; cases e)]; exact h.c1
  · have := h.f1; simpa [go_sem] using this
  · rw [World.cell?_setCell_other _ _ _ _ (by intro e; injection e with _ e _; cases e)]; exact h.c2
  · have := h.f2; simpa [go_sem] using this
theorem Cf3.set1 {w : World} {b : Nat} {v0 v1 v2 : Value} (h : Cf3 w b v0 v1 v2) (x : Value) : Cf3 (w.setCell ⟨b, 1, none⟩ x) b v0 x v2 := by
  refine ⟨?_, ?_, ?_, ?_, ?_, ?_, by simpa [World.setCell] using h.lt⟩
  · rw [World.cell?_setCell_other _ _ _ _ (by intro e; injection e with _ e _; cases e)]; exact h.c0
  · have := h.f0; simpa [go_sem] using this
  · exact World.cell?_setCell_same _ _ _ h.c1
  · have := h.f1; simpa [go_sem] using this
  · rw [World.cell?_setCell_other _ _ _ _ (by intro e; injection e with _ e _; cases e)]; exact h.c2
  · have := h.f2; simpa [go_sem] using this
theorem Cf3.set2 {w : World} {b : Nat} {v0 v1 v2 : Value} (h : Cf3 w b v0 v1 v2) (x : Value) : Cf3 (w.setCell ⟨b, 2, none⟩ x) b v0 v1 x := by
  refine ⟨?_, ?_, ?_, ?_, ?_, ?_, by simpa [World.setCell] using h.lt⟩
  · rw [World.cell?_setCell_other _ _ _ _ (by intro e; injection e with _ e _; cases e)]; exact h.c0
  · have := h.f0; simpa [go_sem] using this
  · rw [World.cell?_setCell_other _ _ _ _ (by intro e; injection e with _ e _; cases e)]; exact h.c1
  · have := h.f1; simpa [go_sem] using this
  · exact World.cell?_setCell_same _ _ _ h.c2
  · have := h.f2; simpa [go_sem] using this
theorem nat_mask8 (x n k : Nat) : x &&& ((2 ^ k - 1) * 2 ^ n) = x / 2 ^ n % 2 ^ k * 2 ^ n := by
  apply Nat.eq_of_testBit_eq
  intro i
  rw [Nat.testBit_and, Nat.testBit_mul_two_pow, Nat.testBit_mul_two_pow, Nat.testBit_two_pow_sub_one, Nat.testBit_mod_two_pow, Nat.testBit_div_two_pow]
  by_cases h : n ≤ i
  · rw [Nat.sub_add_cancel h]
    simp [h]
    rw [Bool.and_comm]
  · simp [h]
theorem nat_mask08 (x k : Nat) : x &&& (2 ^ k - 1) = x % 2 ^ k := by
  simpa only [Nat.pow_zero, Nat.mul_one, Nat.div_one] using nat_mask8 x 0 k
theorem and_size8 (x : Int) (h0 : 0 ≤ x) (h1 : x < 18446744073709551616) : bits .and .u64 x 9223372036854775807 = x % 9223372036854775808 := by
  rw [u64_and x 9223372036854775807 h0 (by omega) (by decide) (by decide)]
  have := nat_mask08 x.toNat 63
  rw [show (9223372036854775807 : Int).toNat = 2 ^ 63 - 1 from rfl, this]
  omega
theorem isinf8 {w : World} {x : Int} (h0 : 0 ≤ x) (h1 : x < 18446744073709551616) : Calls Tryz.prog 25 #[.int .u64 x] w fun e w' => e = .returned (.bool (decide (x % 9223372036854775808 = 9218868437227405312))) ∧ w' = w := by
  have e := and_size8 x h0 h1
  go_enter Tryz.func25, Tryz.ntmps25
  by_cases c : x % 9223372036854775808 = 9218868437227405312
  · have c1 : (x % 9223372036854775808 == 9218868437227405312) = true := by simp [c]
    go_wp2
    go_ret
    exact ⟨by simp [c], rfl⟩
  · have c1 : (x % 9223372036854775808 == 9218868437227405312) = false := by simp [c]
    go_wp2
    go_ret
    exact ⟨by simp [c], rfl⟩

/-- what the document's Read answers -/
def RrF (es : List Int) (e : Ending) : Prop :=
  (∃ k : Nat, e = .returned (.tuple #[.int .u64 0, .agg #[.int .i64 3, .int .i64 k, .string ⟨#[]⟩]]) ∧ (((scG es 0 0).2 = false ∧ k = (scG es 0 0).1) ∨ ((scG es 0 0).2 = true ∧ k = 0 ∧ DV 4503599627370496 (-1074) 9218868437227405312 (dg (voDs es)) (voPt es - (voDs es).length) 9218868437227405312))) ∨
  ((scG es 0 0).2 = true ∧ ∃ r, 0 ≤ r ∧ r < 9218868437227405312 ∧ DV 4503599627370496 (-1074) 9218868437227405312 (dg (voDs es)) (voPt es - (voDs es).length) r ∧ e = .returned (.tuple #[.int .u64 (r + b2i (headB es 45) * 9223372036854775808), .agg #[.int .i64 0, .int .i64 0, .string ⟨#[]⟩]]))
def RrW (es : List Int) (w : World) (e : Ending) (w' : World) : Prop := RrF es e ∧ Below w.heap.size w w'
end Go.Proofs.YtinfkoiifemjmaaGreatDoor

namespace Go.Proofs.YtinfkoiifemjmaaGreatDoor
open Go.RowKit
set_option linter.unusedVariables false
set_option linter.unusedSimpArgs false

theorem and_frac8 (x : Int) (h0 : 0 ≤ x) (h1 : x < 18446744073709551616) : bits .and .u64 x 4503599627370495 = x % 4503599627370496 := by
  rw [u64_and x 4503599627370495 h0 (by omega) (by decide) (by decide)]
  have := nat_mask08 x.toNat 52
  rw [show (4503599627370495 : Int).toNat = 2 ^ 52 - 1 from rfl, this]
  omega
theorem and_2047 (x : Int) (h0 : 0 ≤ x) (h1 : x < 18446744073709551616) : bits .and .u64 x 2047 = x % 2048 := by
  rw [u64_and x 2047 h0 (by omega) (by decide) (by decide)]
  have := nat_mask08 x.toNat 11
  rw [show (2047 : Int).toNat = 2 ^ 11 - 1 from rfl, this]
  omega

/-- all digits of a pattern: the number that they tell, and what stands behind them -/
def exN (s : Int) : Int := if 0 ≤ est 4503599627370496 (-1074) s then mst 4503599627370496 s * p2 (est 4503599627370496 (-1074) s).toNat else mst 4503599627370496 s * 5 ^ (-(est 4503599627370496 (-1074) s)).toNat
def exQ (s : Int) : Int := if 0 ≤ est 4503599627370496 (-1074) s then 0 else est 4503599627370496 (-1074) s

theorem isLen_log2 {n : Nat} (h : n ≠ 0) : IsLen (n : Int) (n.log2 + 1) := by
  have h1 := Nat.log2_self_le h
  have h2 := Nat.lt_log2_self (n := n)
  refine ⟨?_, fun _ => ?_⟩
  · rw [p2_cast]; omega
  · rw [Nat.add_sub_cancel, p2_cast]; omega
theorem ms_range {s : Int} (s0 : 0 < s) (s1 : s < 9218868437227405312) : 0 < mst 4503599627370496 s ∧ mst 4503599627370496 s < 9007199254740992 ∧ -1074 ≤ est 4503599627370496 (-1074) s ∧ est 4503599627370496 (-1074) s ≤ 971 := by
  unfold mst est
  split <;> omega
theorem p2_le_tn (n : Nat) : p2 n ≤ tn n := by
  rw [tn_p2]
  have h1 : (1 : Int) ≤ 5 ^ n := Int.pow_pos (by omega)
  have h2 := p2_pos n
  have := Int.mul_le_mul_of_nonneg_right h1 (by omega : 0 ≤ p2 n)
  omega
theorem five_le_tn (n : Nat) : (5 : Int) ^ n ≤ tn n := by
  rw [tn_p2]
  have h1 : (0 : Int) ≤ 5 ^ n := Int.le_of_lt (Int.pow_pos (by omega))
  have h2 : (1 : Int) ≤ p2 n := p2_pos n
  have := Int.mul_le_mul_of_nonneg_left h2 h1
  omega
theorem exN_lt {s : Int} (s0 : 0 < s) (s1 : s < 9218868437227405312) : 0 < exN s ∧ exN s < tn 1200 := by
  obtain ⟨m0, m1, q0, q1⟩ := ms_range s0 s1
  have key : ∀ (x : Int) (n : Nat), 0 < x → x ≤ tn n → n ≤ 1074 → 0 < mst 4503599627370496 s * x ∧ mst 4503599627370496 s * x < tn 1200 := by
    intro x n x0 x1 hn
    refine ⟨Int.mul_pos m0 x0, ?_⟩
    have a1 : mst 4503599627370496 s ≤ tn 16 := by rw [show tn 16 = 10000000000000000 by decide]; omega
    have a2 := Int.mul_le_mul a1 x1 (Int.le_of_lt x0) (Int.le_of_lt (tn_pos 16))
    rw [← tn_add] at a2
    have a3 := tn_mono (show 16 + n ≤ 1199 by omega)
    have a4 := tn_pos 1199
    have a5 : tn 1200 = 10 * tn 1199 := tn_succ 1199
    omega
  unfold exN
  split
  · exact key _ _ (p2_pos _) (p2_le_tn _) (by omega)
  · exact key _ _ (Int.pow_pos (by omega)) (five_le_tn _) (by omega)
theorem dstr_len {V : Int} {al : List Int} {k : Nat} (h : Dstr V al) (hk : V < tn k) (h0 : 0 < k) : al.length ≤ k := by
  obtain ⟨h1, h2, h3, h4⟩ := h
  rcases h3 with h3 | h3
  · have a := dgv_lead' h1 h2 h3
    have b := tn_lt (a := al.length - 1) (b := k) (by omega)
    omega
  · rw [h3]; simp; omega
theorem five_pw (n : Nat) (hn : n ≤ 1074) : (5 : Int) ^ n < Nt.pw 2048 := pow_lt (by omega) (show IsLen 5 3 by unfold IsLen; decide) (Or.inr (by omega))

theorem pow5_any {w : World} {j : Int} (N : Nat) (hj : j = N) (hN : N ≤ 1074) :
    Calls Tryz.prog 81 #[.int .u32 5, .int .i64 j] w fun e w' => ∃ v, e = .returned (.tuple #[v, .bool true]) ∧ Num w.heap.size w' v (5 ^ N) 2048 ∧ Below w.heap.size w w' := by
  subst hj
  exact rpow_in (N := N) (k := 3) (by omega) (by omega) (by unfold IsLen; decide) (by omega) (by
    have : (65536 : Int) / ((3 : Nat) : Int) = 21845 := by decide
    omega) (by omega) (five_pw _ hN)

set_option maxRecDepth 100000 in
set_option maxHeartbeats 8000000 in
theorem exact8_any {w : World} {s : Int} (s0 : 0 < s) (s1 : s < 9218868437227405312) :
    Calls Tryz.prog 48 #[.int .u64 s] w fun e w' => (∃ al, e = .returned (.tuple #[.string (strOfNums al), .int .i64 (al.length + exQ s)]) ∧ Dstr (exN s) al ∧ al.length ≤ 1200) ∧ Below w.heap.size w w' := by
  have b1 := and_frac8 s (by omega) (by omega)
  have b2 := and_2047 (s / 4503599627370496) (by omega) (by omega)
  have HR := hide (ms_range s0 s1)
  have HE := hide (exN_lt s0 s1)
  by_cases hs : s < 4503599627370496
  · have d1 : decide (0 < s / 4503599627370496 % 2048) = false := by simp; omega
    have e1 : s % 4503599627370496 = mst 4503599627370496 s := by unfold mst; rw [if_pos hs]; omega
    have e2 : (-1074 : Int) = est 4503599627370496 (-1074) s := by unfold est; rw [if_pos hs]
    have HN : Hid (exN s = mst 4503599627370496 s * 5 ^ 1074 ∧ exQ s = -1074) := hide (by
      unfold exN exQ
      rw [← e2]
      rw [if_neg (by omega), if_neg (by omega)]
      exact ⟨rfl, rfl⟩)
    obtain ⟨M, hM⟩ : ∃ M, M = mst 4503599627370496 s := ⟨_, rfl⟩
    rw [← hM] at e1 HN HR
    clear hM e2
    go_enter Tryz.func48, Tryz.ntmps48
    go_upto_region 11 with fail
    go_wp2_with fail
    with_reducible refine (pow5_any (j := 1074) 1074 rfl (by omega)).mono ?_
    rintro e w1 ⟨v1, rfl, h1, hb1⟩
    have H1 := hide h1
    clear h1
    go_upto_region 12 with fail
    go_wp2_with fail
    with_reducible refine (rfrom_any M (by have := HR.out; omega) (by have := HR.out; omega)).mono ?_
    rintro e w2 ⟨v2, rfl, h2, hb2⟩
    go_wp2_with fail
    with_reducible refine (rmul_any h2.arg (H1.out.arg.below hb2) (by omega) (by omega)).mono ?_
    rintro e w3 ⟨v3, rfl, h3, hb3⟩
    clear h2
    go_wp2_with fail
    with_reducible refine (rdigits_any h3.arg (by omega)).mono ?_
    rintro e w4 ⟨al, rfl, hd, hb4⟩
    rw [← HN.out.1] at hd
    have hl := dstr_len hd HE.out.2 (by omega)
    have HD := hide hd
    have hsz : (strOfNums al).size = al.length := strOfNums_size al
    have hB := below_trans hb1 (below_trans hb2 (below_trans hb3 hb4))
    have hq := HN.out.2
    clear h3 hd hb1 hb2 hb3 hb4
    go_wp2
    go_ret2
    exact ⟨⟨al, by rw [hq]; rfl, HD.out, hl⟩, hB⟩
  · have d1 : decide (0 < s / 4503599627370496 % 2048) = true := by simp; omega
    have e1 : s % 4503599627370496 + 4503599627370496 = mst 4503599627370496 s := by unfold mst; rw [if_neg hs]
    have e2 : s / 4503599627370496 % 2048 - 1075 = est 4503599627370496 (-1074) s := by unfold est; rw [if_neg hs]; omega
    obtain ⟨M, hM⟩ : ∃ M, M = mst 4503599627370496 s := ⟨_, rfl⟩
    obtain ⟨Q, hQ⟩ : ∃ Q, Q = est 4503599627370496 (-1074) s := ⟨_, rfl⟩
    have HX : Hid (exN s = (if 0 ≤ Q then M * p2 Q.toNat else M * 5 ^ (-Q).toNat) ∧ exQ s = if 0 ≤ Q then 0 else Q) := hide (by
      rw [hM, hQ]
      exact ⟨rfl, rfl⟩)
    rw [← hM] at e1 HR
    rw [← hQ] at e2 HR
    clear hM hQ
    have hq1 := HR.out.2.2
    have w1 : s % 4503599627370496 + 4503599627370496 < 18446744073709551616 := by omega
    by_cases hq0 : 0 ≤ Q
    · obtain ⟨N, hN⟩ : ∃ N : Nat, Q = N := ⟨Q.toNat, by omega⟩
      subst hN
      have HN : Hid (exN s = M * p2 N ∧ exQ s = 0) := hide (by
        have h := HX.out
        rw [if_pos hq0, if_pos hq0, Int.toNat_natCast] at h
        exact h)
      clear HX
      go_enter Tryz.func48, Tryz.ntmps48
      go_upto_region 8 with fail
      obtain ⟨k, hk⟩ : ∃ k, IsLen M k := ⟨M.toNat.log2 + 1, by
        have := isLen_log2 (n := M.toNat) (by have := HR.out; omega)
        rwa [Int.toNat_of_nonneg (by have := HR.out; omega)] at this⟩
      have hk53 : k ≤ 53 := isLen_le9 hk (by have := HR.out; rw [show p2 53 = 9007199254740992 by decide]; omega)
      go_wp2_with fail
      with_reducible refine (rfrom_any M (by have := HR.out; omega) (by have := HR.out; omega)).mono ?_
      rintro e w1 ⟨v1, rfl, h1, hb1⟩
      have H1 := hide h1
      have HK := hide hk
      clear h1 hk
      go_wp2_with fail
      with_reducible refine (rshl_ok (N := N) (W := N / 8) (s := N % 8) H1.out.arg (by omega) (by have := HR.out; omega) HK.out (by omega) (by omega) (by omega) (by omega)).mono ?_
      rintro e w2 ⟨v2, rfl, h2, hb2⟩
      have H2 := hide h2
      clear h2
      go_upto_region 9 with fail
      go_wp2_with fail
      with_reducible refine (rdigits_any H2.out.arg (by omega)).mono ?_
      rintro e w4 ⟨al, rfl, hd, hb4⟩
      rw [← HN.out.1] at hd
      have hl := dstr_len hd HE.out.2 (by omega)
      have HD := hide hd
      have hsz : (strOfNums al).size = al.length := strOfNums_size al
      have hB := below_trans hb1 (below_trans hb2 hb4)
      have hq := HN.out.2
      clear hd hb1 hb2 hb4
      go_wp2
      go_ret2
      exact ⟨⟨al, by rw [hq, Int.add_zero]; rfl, HD.out, hl⟩, hB⟩
    · obtain ⟨N, hN⟩ : ∃ N : Nat, -Q = N := ⟨(-Q).toNat, by omega⟩
      have hQ : Q = -(N : Int) := by omega
      subst hQ
      have HN : Hid (exN s = M * 5 ^ N ∧ exQ s = -(N : Int)) := hide (by
        have h := HX.out
        rw [if_neg hq0, if_neg hq0, hN, Int.toNat_natCast] at h
        exact h)
      clear HX hN
      go_enter Tryz.func48, Tryz.ntmps48
      go_upto_region 11 with fail
      go_wp2_with fail
      with_reducible refine (pow5_any (j := N) N rfl (by omega)).mono ?_
      rintro e w1 ⟨v1, rfl, h1, hb1⟩
      have H1 := hide h1
      clear h1
      go_upto_region 12 with fail
      go_wp2_with fail
      with_reducible refine (rfrom_any M (by have := HR.out; omega) (by have := HR.out; omega)).mono ?_
      rintro e w2 ⟨v2, rfl, h2, hb2⟩
      go_wp2_with fail
      with_reducible refine (rmul_any h2.arg (H1.out.arg.below hb2) (by omega) (by omega)).mono ?_
      rintro e w3 ⟨v3, rfl, h3, hb3⟩
      clear h2
      go_wp2_with fail
      with_reducible refine (rdigits_any h3.arg (by omega)).mono ?_
      rintro e w4 ⟨al, rfl, hd, hb4⟩
      rw [← HN.out.1] at hd
      have hl := dstr_len hd HE.out.2 (by omega)
      have HD := hide hd
      have hsz : (strOfNums al).size = al.length := strOfNums_size al
      have hB := below_trans hb1 (below_trans hb2 (below_trans hb3 hb4))
      have hq := HN.out.2
      clear h3 hd hb1 hb2 hb3 hb4
      go_wp2
      go_ret2
      exact ⟨⟨al, by rw [hq]; rfl, HD.out, hl⟩, hB⟩

end Go.Proofs.YtinfkoiifemjmaaGreatDoor

namespace Go.Proofs.YtinfkoiifemjmaaGreatDoor
open Go.RowKit
set_option linter.unusedVariables false
set_option linter.unusedSimpArgs false

theorem dgv_nought : ∀ {xs : List Int}, (∀ j, j < xs.length → Nt.lb xs j = 48) → dgv xs = 0
  | [], _ => rfl
  | a :: x, h => by
    have h0 : a = 48 := by simpa [Nt.lb] using h 0 (by simp)
    have h1 := dgv_nought (xs := x) (fun j hj => by simpa [Nt.lb] using h (j + 1) (by simpa using hj))
    rw [dgv, h1, h0]; simp
theorem dgv_some : ∀ {xs : List Int} {j : Nat}, Dq xs → j < xs.length → Nt.lb xs j ≠ 48 → 0 < dgv xs
  | [], _, _, h, _ => by simp at h
  | a :: x, 0, hq, _, h => by
    have ha : a ≠ 48 := by simpa [Nt.lb] using h
    have := dgv_lead hq ha
    have := tn_pos x.length
    omega
  | a :: x, j + 1, hq, hj, h => by
    have h1 := dgv_some (xs := x) (j := j) (fun y hy => hq y (List.mem_cons_of_mem _ hy)) (by simpa using hj) (by simpa [Nt.lb] using h)
    have ha := hq a List.mem_cons_self
    have hp := tn_pos x.length
    have := Int.mul_nonneg (show (0 : Int) ≤ a - 48 by omega) (Int.le_of_lt hp)
    rw [dgv]; omega

/-- what stands behind, against half a step -/
def Hf (ds : List Int) (h : Int) : Prop := (h = -1 ∧ 2 * dgv ds < tn ds.length) ∨ (h = 0 ∧ 2 * dgv ds = tn ds.length) ∨ (h = 1 ∧ tn ds.length < 2 * dgv ds)
theorem hf_nil : Hf [] (-1) := Or.inl ⟨rfl, by decide⟩
theorem hf_cons {ds : List Int} (hq : Dq ds) (hl : 0 < ds.length) : (Nt.lb ds 0 < 53 → Hf ds (-1)) ∧ (53 < Nt.lb ds 0 → Hf ds 1) ∧ (Nt.lb ds 0 = 53 → ((∀ j, 1 ≤ j → j < ds.length → Nt.lb ds j = 48) → Hf ds 0) ∧ ∀ j, 1 ≤ j → j < ds.length → Nt.lb ds j ≠ 48 → Hf ds 1) := by
  cases ds with
  | nil => simp at hl
  | cons a x =>
    have hx : Dq x := fun y hy => hq y (List.mem_cons_of_mem _ hy)
    have ha := hq a List.mem_cons_self
    have hp := tn_pos x.length
    obtain ⟨r0, r1⟩ := dgv_range hx
    have e0 : Nt.lb (a :: x) 0 = a := by simp [Nt.lb]
    have e1 : dgv (a :: x) = (a - 48) * tn x.length + dgv x := rfl
    have e2 : tn (a :: x).length = 10 * tn x.length := by rw [List.length_cons, tn_succ]
    refine ⟨fun h => Or.inl ⟨rfl, ?_⟩, fun h => Or.inr (Or.inr ⟨rfl, ?_⟩), fun h => ⟨fun g => Or.inr (Or.inl ⟨rfl, ?_⟩), fun j j1 j2 g => Or.inr (Or.inr ⟨rfl, ?_⟩)⟩⟩
    · have := Int.mul_le_mul_of_nonneg_right (show a - 48 ≤ 4 by omega) (Int.le_of_lt hp)
      omega
    · have := Int.mul_le_mul_of_nonneg_right (show 6 ≤ a - 48 by omega) (Int.le_of_lt hp)
      omega
    · have z := dgv_nought (xs := x) (fun j hj => by simpa [Nt.lb] using g (j + 1) (by omega) (by simpa using hj))
      have : (a - 48) * tn x.length = 5 * tn x.length := by rw [show a - 48 = 5 by omega]
      omega
    · obtain ⟨i, rfl⟩ : ∃ i, j = i + 1 := ⟨j - 1, by omega⟩
      have z := dgv_some (xs := x) (j := i) hx (by simpa using j2) (by simpa [Nt.lb] using g)
      have : (a - 48) * tn x.length = 5 * tn x.length := by rw [show a - 48 = 5 by omega]
      omega

set_option maxRecDepth 100000 in
set_option maxHeartbeats 4000000 in
theorem trimmed8_any {w : World} {s : ByteArray} {es : List Int} (hq : Dq es) (hs : s = strOfNums es) (h0 : 0 < es.length) (hl : es.length ≤ 70368744177664) :
    Calls Tryz.prog 83 #[.string s] w fun e w' => (∃ k, e = .returned (.string (strOfNums (es.take k))) ∧ 0 < k ∧ k ≤ es.length ∧ (k = 1 ∨ Nt.lb es (k - 1) ≠ 48) ∧ ∀ j, k ≤ j → j < es.length → Nt.lb es j = 48) ∧ w' = w := by
  have hb := hq.byt
  have HB := hide (show ∀ p, p < es.length → 48 ≤ Nt.lb es p ∧ Nt.lb es p ≤ 57 from fun p h => hq _ (lb_in h))
  have HEX := hide (show ∀ k m, k ≤ m → (strOfNums (es.take m)).extract 0 k = strOfNums (es.take k) from fun k m h => by rw [txt_cut, List.drop_zero, List.take_take, Nat.min_eq_left h])
  have HIX := hide (show ∀ m (t : ByteArray), t = strOfNums (es.take m) → ∀ p (h : p < t.size), p < m → (((t[p]'h).toNat : Nat) : Int) = Nt.lb es p from fun m t ht p h hp => by
    subst ht
    have hb2 : Byt (es.take m) := fun x hx => hb x (List.mem_of_mem_take hx)
    rw [txt_at h hb2, lb_take hp])
  have HSZ := hide (show ∀ m, m ≤ es.length → (strOfNums (es.take m)).size = m from fun m h => by rw [strOfNums_size, List.length_take, Nat.min_eq_left h])
  obtain ⟨N, hN⟩ : ∃ N, es.length = N := ⟨_, rfl⟩
  have HN := hide hN
  have hs2 : s = strOfNums (es.take N) := by rw [hs, ← hN, List.take_length]
  rw [hN] at h0 hl
  clear hs hb hN hq
  go_enter Tryz.func83, Tryz.ntmps83
  go_wp2
  go_loopg [0] N (fun c sv wr => ∃ (k : Nat) (t : ByteArray), 0 < k ∧ k ≤ N ∧ c = k ∧ sv = .string t ∧ Hid (t = strOfNums (es.take k)) ∧ Hid (∀ j, k ≤ j → j < N → Nt.lb es j = 48) ∧ w = wr)
  case atStart => exact ⟨N, s, h0, Nat.le_refl _, rfl, rfl, hide hs2, hide (fun j h1 h2 => absurd h2 (by omega)), rfl⟩
  case round =>
    obtain ⟨k, t, hk0, hkN, hc, rfl, HT, HZ, hw⟩ := hrel
    subst hw
    have hts : t.size = k := by rw [HT.out]; exact HSZ.out k (by rw [HN.out]; exact hkN)
    by_cases hk1 : k = 1
    · subst hk1
      go_wp2
      go_ret
      exact ⟨⟨1, by rw [← HT.out]; rfl, by omega, by rw [HN.out]; omega, Or.inl rfl, fun j h1 h2 => HZ.out j h1 (by rw [← HN.out]; exact h2)⟩, rfl⟩
    · have q1 : (1 : Int) < (k : Int) := by omega
      have hps : k - 1 < t.size := by omega
      have hx := HIX.out k t HT.out (k - 1) hps (by omega)
      have hb9 := HB.out (k - 1) (by rw [HN.out]; omega)
      obtain ⟨c, hcc⟩ : ∃ c, Nt.lb es (k - 1) = c := ⟨_, rfl⟩
      rw [hcc] at hx hb9
      have HCC := hide hcc
      have q2 : (k : Int) - 1 = ((k - 1 : Nat) : Int) := by omega
      obtain ⟨m, hm⟩ : ∃ m, k - 1 = m := ⟨_, rfl⟩
      clear hcc
      rw [hm] at q2
      simp only [hm] at hx hps
      by_cases hz : c = 48
      · have q3 : (c == 48) = true := by simp [hz]
        have x1 : t.extract 0 m = strOfNums (es.take m) := by rw [HT.out]; exact HEX.out m k (by omega)
        obtain ⟨t2, ht2⟩ : ∃ t2, t2 = strOfNums (es.take m) := ⟨_, rfl⟩
        rw [← ht2] at x1
        go_wp2
        go_roundg m
        case measure => omega
        case rel => exact ⟨m, _, by omega, by omega, rfl, rfl, hide rfl, hide (fun j h1 h2 => by
          rcases Nat.lt_or_ge j k with g | g
          · obtain rfl : j = k - 1 := by omega
            rw [HCC.out]; exact hz
          · exact HZ.out j g h2), rfl⟩
      · have q3 : (c == 48) = false := by simp [hz]
        go_wp2
        go_ret
        exact ⟨⟨k, by rw [← HT.out]; rfl, hk0, by rw [HN.out]; exact hkN, Or.inr (by rw [HCC.out]; exact hz), fun j h1 h2 => HZ.out j h1 (by rw [← HN.out]; exact h2)⟩, rfl⟩

set_option maxRecDepth 100000 in
set_option maxHeartbeats 4000000 in
theorem half8_any {w : World} {s : ByteArray} {ds : List Int} (hq : Dq ds) (hs : s = strOfNums ds) (hl : ds.length ≤ 70368744177664) :
    Calls Tryz.prog 86 #[.string s] w fun e w' => (∃ h, e = .returned (.int .i64 h) ∧ Hf ds h) ∧ w' = w := by
  have hb := hq.byt
  have hsz : s.size = ds.length := by rw [hs, strOfNums_size]
  have Hix := hide (show ∀ p (h : p < s.size), (((s[p]'h).toNat : Nat) : Int) = Nt.lb ds p from fun p h => by subst hs; exact txt_at h hb)
  have HB := hide (show ∀ p, p < ds.length → 48 ≤ Nt.lb ds p ∧ Nt.lb ds p ≤ 57 from fun p h => hq _ (lb_in h))
  by_cases hz : ds.length = 0
  · have hd : ds = [] := List.eq_nil_of_length_eq_zero hz
    rw [hz] at hsz
    clear hb hs hq
    go_enter Tryz.func86, Tryz.ntmps86
    go_wp2
    go_ret
    exact ⟨⟨_, rfl, by rw [hd]; exact hf_nil⟩, rfl⟩
  · have HH := hide (hf_cons hq (by omega))
    obtain ⟨N, hN⟩ : ∃ N, ds.length = N := ⟨_, rfl⟩
    have HN := hide hN
    rw [hN] at hsz hz hl
    have q0 : ((N : Int) == 0) = false := by simp; omega
    have hps : 0 < s.size := by omega
    have hx := Hix.out 0 hps
    have hb9 := HB.out 0 (by rw [HN.out]; omega)
    obtain ⟨c, hcc⟩ : ∃ c, Nt.lb ds 0 = c := ⟨_, rfl⟩
    rw [hcc] at hx hb9
    have HCC := hide hcc
    clear hs hb hN hq hcc
    by_cases h1 : c < 53
    · go_enter Tryz.func86, Tryz.ntmps86
      go_wp2
      go_ret
      exact ⟨⟨_, rfl, HH.out.1 (by rw [HCC.out]; exact h1)⟩, rfl⟩
    · by_cases h2 : 53 < c
      · go_enter Tryz.func86, Tryz.ntmps86
        go_wp2
        go_ret
        exact ⟨⟨_, rfl, HH.out.2.1 (by rw [HCC.out]; exact h2)⟩, rfl⟩
      · have H5 := hide (HH.out.2.2 (by rw [HCC.out]; omega))
        go_enter Tryz.func86, Tryz.ntmps86
        go_wp2
        go_loopg [3] (N - 1) (fun c iv wr => ∃ i : Nat, 1 ≤ i ∧ i ≤ N ∧ c = N - i ∧ iv = .int .i64 i ∧ Hid (∀ j, 1 ≤ j → j < i → Nt.lb ds j = 48) ∧ w = wr)
        case atStart => exact ⟨1, by omega, by omega, rfl, rfl, hide (fun j a b => absurd b (by omega)), rfl⟩
        case round =>
          obtain ⟨i, hi1, hiN, hc, rfl, HZ, hw⟩ := hrel
          subst hw
          by_cases hiL : i < N
          · have q4 : (i : Int) < (N : Int) := by omega
            have hpi : i < s.size := by omega
            have hxi := Hix.out i hpi
            have hbi := HB.out i (by rw [HN.out]; exact hiL)
            obtain ⟨d, hdd⟩ : ∃ d, Nt.lb ds i = d := ⟨_, rfl⟩
            rw [hdd] at hxi hbi
            have HDD := hide hdd
            clear hdd
            by_cases hd : d = 48
            · have q3 : (d != 48) = false := by simp [hd]
              go_wp2
              go_roundg (N - (i + 1))
              case measure => omega
              case rel => exact ⟨i + 1, by omega, by omega, rfl, by simp, hide (fun j a b => by
                rcases Nat.lt_or_ge j i with g | g
                · exact HZ.out j a g
                · obtain rfl : j = i := by omega
                  rw [HDD.out]; exact hd), rfl⟩
            · have q3 : (d != 48) = true := by simp [hd]
              go_wp2
              go_ret
              exact ⟨⟨_, rfl, H5.out.2 i hi1 (by rw [HN.out]; exact hiL) (by rw [HDD.out]; exact hd)⟩, rfl⟩
          · obtain rfl : i = N := by omega
            have q4 : ¬ (i : Int) < (i : Int) := by omega
            go_wp2
            go_ret
            exact ⟨⟨_, rfl, H5.out.1 (fun j a b => HZ.out j a (by rw [← HN.out]; exact b))⟩, rfl⟩

end Go.Proofs.YtinfkoiifemjmaaGreatDoor

namespace Go.Proofs.YtinfkoiifemjmaaGreatDoor
open Go.RowKit
set_option linter.unusedVariables false
set_option linter.unusedSimpArgs false

theorem dgv_noughts8 (m : Nat) : dgv (List.replicate m 48) = 0 := dgv_nought (fun j hj => by
  have : j < m := by simpa using hj
  simp [Nt.lb, this])
/-- bytes that lie in a block, and may be written -/
def Sgm8 (w : World) (g : Nat) (zs : List Int) : Prop := ∀ i, i < zs.length → w.cell? ⟨g, i, none⟩ = some (.int .u8 (Nt.lb zs i)) ∧ w.frozen? ⟨g, i, none⟩ = false
theorem Sgm8.set {w : World} {g : Nat} {zs : List Int} (h : Sgm8 w g zs) {i : Nat} (hi : i < zs.length) (v : Int) : Sgm8 (w.setCell ⟨g, i, none⟩ (.int .u8 v)) g (zs.set i v) := by
  intro j hj
  rw [List.length_set] at hj
  obtain ⟨h1, h2⟩ := h j hj
  refine ⟨?_, by rw [World.frozen?_setCell]; exact h2⟩
  by_cases e : i = j
  · subst e
    rw [World.cell?_setCell_same' _ _ _ (by rw [h1]; rfl)]
    simp [Nt.lb, hi]
  · have hne : (⟨g, j, none⟩ : Addr) ≠ ⟨g, i, none⟩ := fun h => e (by injection h with _ h2; exact h2.symm)
    rw [World.cell?_setCell_other _ _ _ _ hne.symm, h1]
    simp [Nt.lb, e]
theorem Sgm8.below {w w' : World} {g : Nat} {zs : List Int} (h : Sgm8 w g zs) (hb : Below w.heap.size w w') (hg : g < w.heap.size) : Sgm8 w' g zs := fun i hi => by
  obtain ⟨h1, h2⟩ := h i hi
  refine ⟨(hb.cell (p := ⟨g, i, none⟩) hg).trans h1, ?_⟩
  simp only [World.frozen?] at h2 ⊢
  rw [hb.block g hg]; exact h2
theorem sgm8_bytes {w : World} {es : List Int} (ho : Byt es) (C : Nat) (x : Nat × Nat) (hx : es.length ≤ x.1) : Sgm8 (w.drew.alloc (.cells (bytesRow (strOfNums es) C) 5 x)) w.heap.size es := by
  intro i hi
  have hb : (w.drew.alloc (.cells (bytesRow (strOfNums es) C) 5 x)).heap[w.heap.size]? = some (.cells (bytesRow (strOfNums es) C) 5 x) := by
    show (w.heap.push _)[w.heap.size]? = _
    simp
  have e : Nt.lb es i = es[i] := lb_get hi
  have hv := ho es[i] (List.getElem_mem hi)
  rw [e]
  constructor
  · simp only [World.cell?, hb]
    simp [bytesRow, strOfNums, hi, Array.getElem?_append]
    omega
  · simp only [World.frozen?, hb]
    simp
    omega
/-- the nines at the end -/
structure Nine8 (D : List Int) (k j : Nat) (Ls : List Int) : Prop where
  le : j ≤ k
  ls : Ls = D.take j ++ List.replicate (k - j) 48
  nine : D.drop j = List.replicate (k - j) 57
theorem dgv_nines (m : Nat) : dgv (List.replicate m 57) = tn m - 1 := by
  induction m with
  | zero => rfl
  | succ m ih => rw [List.replicate_succ, dgv, ih, List.length_replicate, tn_succ]; omega
theorem lb_app8 (A R : List Int) (b : Int) : Nt.lb (A ++ b :: R) A.length = b := by simp [Nt.lb]
theorem Nine8.all {D Ls : List Int} {k : Nat} (h : Nine8 D k 0 Ls) (hD : D.length = k) : Ls = List.replicate k 48 ∧ dgv (49 :: Ls) = dgv D + 1 := by
  have e1 : Ls = List.replicate k 48 := by have := h.ls; simpa using this
  have e2 : D = List.replicate k 57 := by have := h.nine; simpa using this
  refine ⟨e1, ?_⟩
  rw [e1, dgv, dgv_noughts8, e2, dgv_nines, List.length_replicate]; omega
theorem Nine8.down {D Ls : List Int} {k j : Nat} (h : Nine8 D k (j + 1) Ls) (hD : D.length = k) (h9 : Nt.lb D j = 57) : Nine8 D k j (Ls.set j 48) ∧ Nt.lb Ls j = Nt.lb D j := by
  have hl := h.le
  have hj : j < D.length := by omega
  have et : D.take (j + 1) = D.take j ++ [Nt.lb D j] := by rw [List.take_succ_eq_append_getElem hj, lb_get hj]
  have hlt : (D.take j).length = j := by rw [List.length_take]; omega
  have e1 : Ls = D.take j ++ Nt.lb D j :: List.replicate (k - (j + 1)) 48 := by rw [h.ls, et]; simp
  refine ⟨⟨by omega, ?_, ?_⟩, ?_⟩
  · rw [e1, List.set_append_right _ _ (by omega), hlt, Nat.sub_self, List.set_cons_zero, show k - j = (k - (j + 1)) + 1 by omega, List.replicate_succ]
  · rw [List.drop_eq_getElem_cons hj, h.nine, ← lb_get hj, h9, show k - j = (k - (j + 1)) + 1 by omega, List.replicate_succ]
  · have := lb_app8 (D.take j) (List.replicate (k - (j + 1)) 48) (Nt.lb D j)
    rw [hlt, ← e1] at this; exact this
theorem Nine8.at_ {D Ls : List Int} {k j : Nat} (h : Nine8 D k (j + 1) Ls) (hD : D.length = k) : Nt.lb Ls j = Nt.lb D j ∧ dgv (Ls.set j (Nt.lb D j + 1)) = dgv D + 1 := by
  have hl := h.le
  have hj : j < D.length := by omega
  have et : D.take (j + 1) = D.take j ++ [Nt.lb D j] := by rw [List.take_succ_eq_append_getElem hj, lb_get hj]
  have hlt : (D.take j).length = j := by rw [List.length_take]; omega
  have e1 : Ls = D.take j ++ Nt.lb D j :: List.replicate (k - (j + 1)) 48 := by rw [h.ls, et]; simp
  have e2 : D = D.take j ++ Nt.lb D j :: List.replicate (k - (j + 1)) 57 := by
    conv => lhs; rw [← List.take_append_drop (j + 1) D, h.nine, et]
    simp
  refine ⟨by have := lb_app8 (D.take j) (List.replicate (k - (j + 1)) 48) (Nt.lb D j); rw [hlt, ← e1] at this; exact this, ?_⟩
  rw [e1, List.set_append_right _ _ (by omega), hlt, Nat.sub_self, List.set_cons_zero]
  conv => rhs; rw [e2]
  generalize D.take j = A
  generalize Nt.lb D j = b
  rw [dgv_append, dgv_append, dgv, dgv, dgv_noughts8, dgv_nines, List.length_cons, List.length_cons, List.length_replicate, List.length_replicate]
  grind

set_option maxRecDepth 100000 in
set_option maxHeartbeats 8000000 in
theorem more8_any {w : World} {s : ByteArray} {D : List Int} (hq : Dq D) (hs : s = strOfNums D) (h0 : 0 < D.length) (hl : D.length ≤ 70368744177664) :
    Calls Tryz.prog 84 #[.string s] w fun e w' => (∃ H b, e = .returned (.tuple #[.string (strOfNums H), .bool b]) ∧ Dq H ∧ H.length = D.length + (if b then 1 else 0) ∧ dgv H = dgv D + 1 ∧ (H.length = D.length ∨ dgv H = tn D.length)) ∧ Below w.heap.size w w' := by
  have htz : s.size = D.length := by rw [hs, strOfNums_size]
  obtain ⟨k, hk⟩ : ∃ k, D.length = k := ⟨_, rfl⟩
  rw [hk] at htz h0 hl
  have hcb := run_bytes_of_string (P := Tryz.prog) w 9 35 5 s Tryz.underlying9 Tryz.underlying35 Tryz.underlying5
  obtain ⟨Cc, hC⟩ : ∃ C, C = grownCap w s.size 0 5 := ⟨_, rfl⟩
  rw [← hC, htz] at hcb
  clear hC
  have SG : Sgm8 (w.alloc (Obj.cells (bytesRow s Cc) 5 ((bytesRow s Cc).size, (bytesRow s Cc).size + 1))).drew w.heap.size D := by
    have h := sgm8_bytes (w := w) hq.byt Cc ((bytesRow s Cc).size, (bytesRow s Cc).size + 1) (by rw [hk, ← htz]; simp [bytesRow])
    rw [← hs] at h
    exact h
  have K8 : Below w.heap.size w (w.alloc (Obj.cells (bytesRow s Cc) 5 ((bytesRow s Cc).size, (bytesRow s Cc).size + 1))).drew := (below_allocq _ _).drew
  have HSG := hide SG
  have HK8 := hide K8
  have HQ := hide hq
  have HKL := hide hk
  clear SG K8 hs hq hk
  go_enter Tryz.func84, Tryz.ntmps84
  go_upto_region 3 with fail
  clear hcb
  generalize (w.alloc (Obj.cells (bytesRow s Cc) 5 ((bytesRow s Cc).size, (bytesRow s Cc).size + 1))).drew = w3 at *
  obtain ⟨g, hg⟩ : ∃ g, g = w.heap.size := ⟨_, rfl⟩
  rw [← hg] at HSG ⊢
  have HG := hide hg
  clear hg
  go_loopg [5] k (fun c i wr => ∃ (j : Nat) (v : Int) (Ls : List Int), c = j ∧ i = .int .i64 v ∧ v = (j : Int) - 1 ∧ j ≤ k ∧ Ls.length = k ∧ Hid (Nine8 D k j Ls) ∧ Hid (Sgm8 wr g Ls) ∧ Hid (Below w.heap.size w wr))
  case atStart => exact ⟨k, (k : Int) - 1, D, rfl, rfl, rfl, Nat.le_refl _, HKL.out, hide ⟨Nat.le_refl _, by rw [Nat.sub_self, List.take_of_length_le (by rw [HKL.out]; exact Nat.le_refl _)]; simp, by rw [Nat.sub_self, List.drop_of_length_le (by rw [HKL.out]; exact Nat.le_refl _)]; rfl⟩, HSG, HK8⟩
  case round =>
    clear HSG HK8
    obtain ⟨j, v, Ls, hc, rfl, hv, hj, hLl, HN, HSL, HBL⟩ := hrel
    cases j with
    | zero =>
      have q0 : ¬ (0 : Int) ≤ v := by omega
      have qd : decide ((0 : Int) ≤ v) = false := decide_eq_false q0
      clear hv
      have HALL := hide (HN.out.all HKL.out)
      have hcv := run_convert_bytes_arg (P := Tryz.prog) wr 35 5 Tryz.underlying35 Tryz.underlying5 g 0 k Cc Ls hLl (fun i hi => by rw [Nat.zero_add]; exact (HSL.out i (by rw [hLl]; exact hi)).1) 9 Tryz.underlying9
      have hadd : (⟨#[49]⟩ : ByteArray) ++ strOfNums Ls = strOfNums (49 :: Ls) := txt_join [49] Ls
      have hzL : (strOfNums Ls).size = k := by rw [strOfNums_size, hLl]
      obtain ⟨tL, htL⟩ : ∃ tL, strOfNums Ls = tL := ⟨_, rfl⟩
      obtain ⟨tM, htM⟩ : ∃ tM, strOfNums (49 :: Ls) = tM := ⟨_, rfl⟩
      rw [htL] at hcv hadd hzL
      rw [htM] at hadd
      have a1 : ¬ 9223372036854775807 < (1 : Nat) + tL.size := by omega
      have HTM := hide htM
      clear htL htM
      go_wp2
      go_ret2
      refine ⟨⟨49 :: Ls, Or.inr ⟨by rw [HTM.out]; rfl, ?_, by rw [List.length_cons, hLl, HKL.out], HALL.out.2, Or.inr (by rw [HALL.out.1, dgv, dgv_noughts8, List.length_replicate, HKL.out]; omega)⟩⟩, HBL.out⟩
      intro z hz
      rcases List.mem_cons.1 hz with rfl | hz
      · omega
      · rw [HALL.out.1] at hz; rw [List.eq_of_mem_replicate hz]; omega
    | succ j =>
      have hvj : v = (j : Int) := by omega
      subst hvj
      have q0 : (0 : Int) ≤ (j : Int) := by omega
      have jk : j < k := by omega
      have cq := (HSL.out j (by omega)).1
      have fq := (HSL.out j (by omega)).2
      obtain ⟨eq1, eq2⟩ := HN.out.at_ HKL.out
      rw [eq1] at cq
      obtain ⟨bq, hbq⟩ : ∃ bq, Nt.lb D j = bq := ⟨_, rfl⟩
      have hbr : 48 ≤ bq ∧ bq ≤ 57 := by rw [← hbq]; exact HQ.out _ (lb_in (by rw [HKL.out]; omega))
      rw [hbq] at cq eq2
      have HBQ := hide (And.intro hbq eq2)
      clear eq1 eq2 hbq hv
      by_cases h9 : bq = 57
      · subst h9
        have wj : IntKind.i64.wrap ((j : Int) - 1) = (j : Int) - 1 := by rw [IntKind.wrap_i64]; omega
        go_wp2
        go_roundg j
        case measure => omega
        case rel => exact ⟨j, (j : Int) - 1, Ls.set j 48, rfl, rfl, rfl, by omega, by rw [List.length_set]; exact hLl, hide (HN.out.down HKL.out HBQ.out.1).1, hide (HSL.out.set (by omega) 48), hide (HBL.out.setCell (p := ⟨g, j, none⟩) (by rw [← HG.out]; exact Nat.le_refl _) _)⟩
      · have e9 : bq < 57 := by omega
        have wb : IntKind.u8.wrap (bq + 1) = bq + 1 := by rw [IntKind.wrap_u8]; omega
        have hLs : (Ls.set j (bq + 1)).length = k := by rw [List.length_set]; exact hLl
        have SB := HSL.out.set (i := j) (by omega) (bq + 1)
        have hcv := run_convert_bytes_arg (P := Tryz.prog) (wr.setCell ⟨g, j, none⟩ (.int .u8 (bq + 1))) 35 5 Tryz.underlying35 Tryz.underlying5 g 0 k Cc (Ls.set j (bq + 1)) hLs (fun i hi => by rw [Nat.zero_add]; exact (SB i (by rw [hLs]; exact hi)).1) 9 Tryz.underlying9
        have HBB := hide (HBL.out.setCell (p := ⟨g, j, none⟩) (by rw [← HG.out]; exact Nat.le_refl _) (.int .u8 (bq + 1)))
        clear SB
        go_wp2
        go_ret2
        refine ⟨⟨Ls.set j (bq + 1), false, rfl, ?_, by rw [hLs, HKL.out]; rfl, HBQ.out.2, Or.inl (by rw [hLs, HKL.out])⟩, HBB.out⟩
        intro z hz
        rcases List.mem_or_eq_of_mem_set hz with h | h
        · rw [HN.out.ls] at h
          rcases List.mem_append.1 h with h | h
          · exact HQ.out z (List.mem_of_mem_take h)
          · rw [List.eq_of_mem_replicate h]; omega
        · omega

end Go.Proofs.YtinfkoiifemjmaaGreatDoor

namespace Go.Proofs.YtinfkoiifemjmaaGreatDoor
open Go.RowKit
set_option linter.unusedVariables false
set_option linter.unusedSimpArgs false

theorem dgv_dg : ∀ es : List Int, dgv es = dg es
  | [] => rfl
  | a :: x => by rw [dgv, dg, dgv_dg x]
/-- what trimmed leaves -/
structure Trm (es : List Int) (m : Nat) : Prop where
  pos : 0 < m
  le : m ≤ es.length
  top : m = 1 ∨ Nt.lb es (m - 1) ≠ 48
  rest : ∀ j, m ≤ j → j < es.length → Nt.lb es j = 48
/-- the lower one is taken -/
def Chs (es : List Int) (k : Nat) (s r1 r2 h : Int) : Prop := r1 = s ∧ (r2 ≠ s ∨ h < 0 ∨ (h = 0 ∧ Nt.lb es (k - 1) % 2 = 0))
/-- what tried tells of fewer digits than there are -/
structure Tri (es : List Int) (k : Nat) (P s r1 r2 h : Int) (T : List Int) (m : Nat) (Q : Int) (ok : Bool) : Prop where
  one : DV 4503599627370496 (-1074) 9218868437227405312 (dgv (es.take k)) (P - k) r1
  two : DV 4503599627370496 (-1074) 9218868437227405312 (dgv (es.take k) + 1) (P - k) r2
  half : Hf (es.drop k) h
  trm : Trm T m
  dq : Dq T
  low : Chs es k s r1 r2 h → T = es.take k ∧ Q = P ∧ ok = true
  high : ¬ Chs es k s r1 r2 h → dgv T = dgv (es.take k) + 1 ∧ (T.length : Int) = k + (Q - P) ∧ P ≤ Q ∧ Q ≤ P + 1 ∧ (ok = true ↔ r2 = s) ∧ (P < Q → dgv T = tn k)

set_option maxRecDepth 100000 in
set_option maxHeartbeats 16000000 in
theorem tried8_all {w : World} {x : Int} {s : ByteArray} {es : List Int} {P : Int} {k : Nat} (hq : Dq es) (hs : s = strOfNums es) (h0 : 0 < es.length) (hl : es.length ≤ 2000) (hk : es.length ≤ k) :
    Calls Tryz.prog 49 #[.int .u64 x, .string s, .int .i64 P, .int .i64 k] w fun e w' => (∃ m, e = .returned (.tuple #[.string (strOfNums (es.take m)), .int .i64 P, .bool true]) ∧ Trm es m) ∧ Below w.heap.size w w' := by
  have htz : s.size = es.length := by rw [hs, strOfNums_size]
  have HT := hide (fun (w : World) => trimmed8_any (w := w) hq hs h0 (by omega))
  have kq : (s.size : Int) ≤ (k : Int) := by omega
  clear hs hq
  go_enter Tryz.func49, Tryz.ntmps49
  go_wp2_with fail
  refine (HT.out _).mono ?_
  rintro e w2 ⟨⟨m, rfl, m1, m2, m3, m4⟩, rfl⟩
  have HM := hide (show Trm es m from ⟨m1, m2, m3, m4⟩)
  clear m1 m2 m3 m4
  go_wp2
  go_ret3
  exact ⟨⟨m, rfl, HM.out⟩, Below.refl _ _⟩

end Go.Proofs.YtinfkoiifemjmaaGreatDoor

namespace Go.Proofs.YtinfkoiifemjmaaGreatDoor
open Go.RowKit
set_option linter.unusedVariables false
set_option linter.unusedSimpArgs false

def TrE (es : List Int) (k : Nat) (P x : Int) (e : Ending) : Prop := ∃ r1 r2 h T m Q ok, e = .returned (.tuple #[.string (strOfNums (T.take m)), .int .i64 Q, .bool ok]) ∧ Tri es k P x r1 r2 h T m Q ok

set_option maxRecDepth 100000 in
set_option maxHeartbeats 16000000 in
theorem tried8_few {w : World} {x : Int} {s : ByteArray} {es : List Int} {P : Int} {k : Nat} (hq : Dq es) (hs : s = strOfNums es) (hl : es.length ≤ 2000) (k1 : 0 < k) (hk : k < es.length) (P0 : -3000 ≤ P) (P1 : P ≤ 3000) :
    Calls Tryz.prog 49 #[.int .u64 x, .string s, .int .i64 P, .int .i64 k] w fun e w' => TrE es k P x e ∧ Below w.heap.size w w' := by
  have htz : s.size = es.length := by rw [hs, strOfNums_size]
  have kq : ¬ (s.size : Int) ≤ (k : Int) := by omega
  have ks : k ≤ s.size := by omega
  have x1 : s.extract 0 k = strOfNums (es.take k) := by rw [hs, txt_cut, List.drop_zero]
  have x2 : s.extract k s.size = strOfNums (es.drop k) := by rw [htz, hs, txt_cut, List.take_length]
  have x3 : s.extract k es.length = strOfNums (es.drop k) := by rw [hs, txt_cut, List.take_length]
  have hlt : (es.take k).length = k := by rw [List.length_take]; omega
  have HC := hide (show Dq (es.take k) from hq.take k)
  have HDr := hide (show Dq (es.drop k) from hq.drop k)
  obtain ⟨t1, ht1⟩ : ∃ t1, t1 = strOfNums (es.take k) := ⟨_, rfl⟩
  obtain ⟨t2, ht2⟩ : ∃ t2, t2 = strOfNums (es.drop k) := ⟨_, rfl⟩
  rw [← ht1] at x1
  rw [← ht2] at x2 x3
  have z1 : t1.size = k := by rw [ht1, strOfNums_size, hlt]
  have hps : k - 1 < t1.size := by omega
  have hx : (((t1[k - 1]'hps).toNat : Nat) : Int) = Nt.lb es (k - 1) := by
    subst ht1
    rw [txt_at hps HC.out.byt, lb_take8 (by omega)]
  have hb9 := hq _ (lb_in (p := k - 1) (es := es) (by omega))
  obtain ⟨c, hcc⟩ : ∃ c, Nt.lb es (k - 1) = c := ⟨_, rfl⟩
  rw [hcc] at hx hb9
  have q2 : (k : Int) - 1 = ((k - 1 : Nat) : Int) := by omega
  obtain ⟨m, hm⟩ : ∃ m, k - 1 = m := ⟨_, rfl⟩
  rw [hm] at q2
  simp only [hm] at hx hps
  have HCC := hide (show Nt.lb es (k - 1) = c from hcc)
  have H1 := hide ht1
  have H2 := hide ht2
  have HL := hide (And.intro hlt (show (es.drop k).length ≤ 2000 by rw [List.length_drop]; omega))
  clear hs hq hcc ht1 ht2 hlt
  go_enter Tryz.func49, Tryz.ntmps49
  go_wp2_with fail
  with_reducible refine (more8_any HC.out H1.out (by rw [HL.out.1]; exact k1) (by rw [HL.out.1]; omega)).mono ?_
  rintro e w1 ⟨⟨U, b, rfl, uq, ul, uv⟩, K1⟩
  have HU := hide (And.intro uq (And.intro ul uv))
  have HK1 := hide K1
  clear uq ul uv K1
  cases b with
  | false =>
    go_upto_region 8 with fail
    go_wp2_with fail
    refine (rdecimal (N := k) HC.out H1.out HL.out.1 (by rw [HL.out.1]; omega) (by omega) (by omega)).mono ?_
    rintro e w2 ⟨r1, rfl, d1, K2⟩
    rw [← dgv_dg] at d1
    have D1 := hide d1
    have HK2 := hide (below_trans HK1.out K2)
    clear d1 K2
    go_upto_region 9 with fail
    go_wp2_with fail
    refine (rdecimal (N := k) (p := P) HU.out.1 rfl (by rw [HU.out.2.1, HL.out.1]; rfl) (by rw [HU.out.2.1, HL.out.1]; simp; omega) (by omega) (by omega)).mono ?_
    rintro e w3 ⟨r2, rfl, d2, K3⟩
    rw [← dgv_dg, HU.out.2.2.1, show P - ((k : Nat) : Int) = P - k by omega] at d2
    have D2 := hide d2
    have KW := hide (below_trans HK2.out K3)
    clear d2 K3 HK2
    go_upto_region 10 with fail
    obtain ⟨o1, ho1⟩ : ∃ o, (r1 == x) = o := ⟨_, rfl⟩
    obtain ⟨o2, ho2⟩ : ∃ o, (r2 == x) = o := ⟨_, rfl⟩
    rw [ho1, ho2]
    have HO := hide (And.intro ho1 ho2)
    clear ho1 ho2
    go_wp2_with fail
    refine (half8_any HDr.out H2.out (by have := HL.out.2; omega)).mono ?_
    rintro e w4 ⟨⟨h, rfl, hf⟩, rfl⟩
    have hcase : h = -1 ∨ h = 0 ∨ h = 1 := by rcases hf with h | h | h <;> omega
    have HF := hide hf
    clear hf
    go_upto_region 11 with fail
    cases o1 with
    | false =>
      have O1 := hide (show ¬ r1 = x by simpa using HO.out.1)
      cases o2 with
      | false =>
        have O2 := hide (show ¬ r2 = x by simpa using HO.out.2)
        have CHS := hide (show ¬ Chs es k x r1 r2 h from fun a => O1.out a.1)
        go_wp2_with fail
        refine (trimmed8_any HU.out.1 rfl (by rw [HU.out.2.1, HL.out.1]; simp; omega) (by rw [HU.out.2.1, HL.out.1]; simp; omega)).mono ?_
        rintro e w5 ⟨⟨mm, rfl, m1, m2, m3, m4⟩, rfl⟩
        have HM := hide (show Trm U mm from ⟨m1, m2, m3, m4⟩)
        clear m1 m2 m3 m4
        go_wp2
        go_ret3
        exact ⟨⟨r1, r2, _, U, mm, P, false, rfl, ⟨D1.out, D2.out, HF.out, HM.out, HU.out.1, fun n => absurd n CHS.out, fun _ => ⟨HU.out.2.2.1, by rw [HU.out.2.1, HL.out.1]; simp, by omega, by omega, by simp [O2.out], fun a => by omega⟩⟩⟩, KW.out⟩
      | true =>
        have O2 := hide (show r2 = x by simpa using HO.out.2)
        have CHS := hide (show ¬ Chs es k x r1 r2 h from fun a => O1.out a.1)
        go_wp2_with fail
        refine (trimmed8_any HU.out.1 rfl (by rw [HU.out.2.1, HL.out.1]; simp; omega) (by rw [HU.out.2.1, HL.out.1]; simp; omega)).mono ?_
        rintro e w5 ⟨⟨mm, rfl, m1, m2, m3, m4⟩, rfl⟩
        have HM := hide (show Trm U mm from ⟨m1, m2, m3, m4⟩)
        clear m1 m2 m3 m4
        go_wp2
        go_ret3
        exact ⟨⟨r1, r2, _, U, mm, P, true, rfl, ⟨D1.out, D2.out, HF.out, HM.out, HU.out.1, fun n => absurd n CHS.out, fun _ => ⟨HU.out.2.2.1, by rw [HU.out.2.1, HL.out.1]; simp, by omega, by omega, by simp [O2.out], fun a => by omega⟩⟩⟩, KW.out⟩
    | true =>
      have O1 := hide (show r1 = x by simpa using HO.out.1)
      cases o2 with
      | false =>
        have O2 := hide (show ¬ r2 = x by simpa using HO.out.2)
        have CHS := hide (show Chs es k x r1 r2 h from ⟨O1.out, Or.inl O2.out⟩)
        go_wp2_with fail
        refine (trimmed8_any HC.out H1.out (by rw [HL.out.1]; exact k1) (by rw [HL.out.1]; omega)).mono ?_
        rintro e w5 ⟨⟨mm, rfl, m1, m2, m3, m4⟩, rfl⟩
        have HM := hide (show Trm (es.take k) mm from ⟨m1, m2, m3, m4⟩)
        clear m1 m2 m3 m4
        go_wp2
        go_ret3
        exact ⟨⟨r1, r2, _, es.take k, mm, P, true, rfl, ⟨D1.out, D2.out, HF.out, HM.out, HC.out, fun _ => ⟨rfl, rfl, rfl⟩, fun n => absurd CHS.out n⟩⟩, KW.out⟩
      | true =>
        have O2 := hide (show r2 = x by simpa using HO.out.2)
        rcases hcase with rfl | rfl | rfl
        · skip
          have CHS := hide (show Chs es k x r1 r2 (-1) from ⟨O1.out, Or.inr (Or.inl (by omega))⟩)
          go_wp2_with fail
          refine (trimmed8_any HC.out H1.out (by rw [HL.out.1]; exact k1) (by rw [HL.out.1]; omega)).mono ?_
          rintro e w5 ⟨⟨mm, rfl, m1, m2, m3, m4⟩, rfl⟩
          have HM := hide (show Trm (es.take k) mm from ⟨m1, m2, m3, m4⟩)
          clear m1 m2 m3 m4
          go_wp2
          go_ret3
          exact ⟨⟨r1, r2, _, es.take k, mm, P, true, rfl, ⟨D1.out, D2.out, HF.out, HM.out, HC.out, fun _ => ⟨rfl, rfl, rfl⟩, fun n => absurd CHS.out n⟩⟩, KW.out⟩
        · by_cases he : c % 2 = 0
          · have e1 : (c % 2 == 0) = true := by simp [he]
            have CHS := hide (show Chs es k x r1 r2 0 from ⟨O1.out, Or.inr (Or.inr ⟨rfl, by rw [HCC.out]; exact he⟩)⟩)
            go_wp2_with fail
            refine (trimmed8_any HC.out H1.out (by rw [HL.out.1]; exact k1) (by rw [HL.out.1]; omega)).mono ?_
            rintro e w5 ⟨⟨mm, rfl, m1, m2, m3, m4⟩, rfl⟩
            have HM := hide (show Trm (es.take k) mm from ⟨m1, m2, m3, m4⟩)
            clear m1 m2 m3 m4
            go_wp2
            go_ret3
            exact ⟨⟨r1, r2, _, es.take k, mm, P, true, rfl, ⟨D1.out, D2.out, HF.out, HM.out, HC.out, fun _ => ⟨rfl, rfl, rfl⟩, fun n => absurd CHS.out n⟩⟩, KW.out⟩
          · have e1 : (c % 2 == 0) = false := by simp [he]
            have CHS := hide (show ¬ Chs es k x r1 r2 0 from by
              rintro ⟨_, a | a | ⟨_, a⟩⟩
              · exact a O2.out
              · omega
              · rw [HCC.out] at a; exact he a)
            go_wp2_with fail
            refine (trimmed8_any HU.out.1 rfl (by rw [HU.out.2.1, HL.out.1]; simp; omega) (by rw [HU.out.2.1, HL.out.1]; simp; omega)).mono ?_
            rintro e w5 ⟨⟨mm, rfl, m1, m2, m3, m4⟩, rfl⟩
            have HM := hide (show Trm U mm from ⟨m1, m2, m3, m4⟩)
            clear m1 m2 m3 m4
            go_wp2
            go_ret3
            exact ⟨⟨r1, r2, _, U, mm, P, true, rfl, ⟨D1.out, D2.out, HF.out, HM.out, HU.out.1, fun n => absurd n CHS.out, fun _ => ⟨HU.out.2.2.1, by rw [HU.out.2.1, HL.out.1]; simp, by omega, by omega, by simp [O2.out], fun a => by omega⟩⟩⟩, KW.out⟩
        · skip
          have CHS := hide (show ¬ Chs es k x r1 r2 1 from by
            rintro ⟨_, a | a | ⟨a, _⟩⟩
            · exact a O2.out
            · omega
            · omega)
          go_wp2_with fail
          refine (trimmed8_any HU.out.1 rfl (by rw [HU.out.2.1, HL.out.1]; simp; omega) (by rw [HU.out.2.1, HL.out.1]; simp; omega)).mono ?_
          rintro e w5 ⟨⟨mm, rfl, m1, m2, m3, m4⟩, rfl⟩
          have HM := hide (show Trm U mm from ⟨m1, m2, m3, m4⟩)
          clear m1 m2 m3 m4
          go_wp2
          go_ret3
          exact ⟨⟨r1, r2, _, U, mm, P, true, rfl, ⟨D1.out, D2.out, HF.out, HM.out, HU.out.1, fun n => absurd n CHS.out, fun _ => ⟨HU.out.2.2.1, by rw [HU.out.2.1, HL.out.1]; simp, by omega, by omega, by simp [O2.out], fun a => by omega⟩⟩⟩, KW.out⟩
  | true =>
    go_upto_region 8 with fail
    go_wp2_with fail
    refine (rdecimal (N := k) HC.out H1.out HL.out.1 (by rw [HL.out.1]; omega) (by omega) (by omega)).mono ?_
    rintro e w2 ⟨r1, rfl, d1, K2⟩
    rw [← dgv_dg] at d1
    have D1 := hide d1
    have HK2 := hide (below_trans HK1.out K2)
    clear d1 K2
    go_upto_region 9 with fail
    go_wp2_with fail
    refine (rdecimal (N := k + 1) (p := (P + 1)) HU.out.1 rfl (by rw [HU.out.2.1, HL.out.1]; rfl) (by rw [HU.out.2.1, HL.out.1]; simp; omega) (by omega) (by omega)).mono ?_
    rintro e w3 ⟨r2, rfl, d2, K3⟩
    rw [← dgv_dg, HU.out.2.2.1, show (P + 1) - ((k + 1 : Nat) : Int) = P - k by omega] at d2
    have D2 := hide d2
    have KW := hide (below_trans HK2.out K3)
    clear d2 K3 HK2
    go_upto_region 10 with fail
    obtain ⟨o1, ho1⟩ : ∃ o, (r1 == x) = o := ⟨_, rfl⟩
    obtain ⟨o2, ho2⟩ : ∃ o, (r2 == x) = o := ⟨_, rfl⟩
    rw [ho1, ho2]
    have HO := hide (And.intro ho1 ho2)
    clear ho1 ho2
    go_wp2_with fail
    refine (half8_any HDr.out H2.out (by have := HL.out.2; omega)).mono ?_
    rintro e w4 ⟨⟨h, rfl, hf⟩, rfl⟩
    have hcase : h = -1 ∨ h = 0 ∨ h = 1 := by rcases hf with h | h | h <;> omega
    have HF := hide hf
    clear hf
    go_upto_region 11 with fail
    cases o1 with
    | false =>
      have O1 := hide (show ¬ r1 = x by simpa using HO.out.1)
      cases o2 with
      | false =>
        have O2 := hide (show ¬ r2 = x by simpa using HO.out.2)
        have CHS := hide (show ¬ Chs es k x r1 r2 h from fun a => O1.out a.1)
        go_wp2_with fail
        refine (trimmed8_any HU.out.1 rfl (by rw [HU.out.2.1, HL.out.1]; simp; try omega) (by rw [HU.out.2.1, HL.out.1]; simp; omega)).mono ?_
        rintro e w5 ⟨⟨mm, rfl, m1, m2, m3, m4⟩, rfl⟩
        have HM := hide (show Trm U mm from ⟨m1, m2, m3, m4⟩)
        clear m1 m2 m3 m4
        go_wp2
        go_ret3
        exact ⟨⟨r1, r2, _, U, mm, (P + 1), false, rfl, ⟨D1.out, D2.out, HF.out, HM.out, HU.out.1, fun n => absurd n CHS.out, fun _ => ⟨HU.out.2.2.1, by rw [HU.out.2.1, HL.out.1]; simp <;> omega, by omega, by omega, by simp [O2.out], fun _ => by have g := HU.out.2.2.2; rw [HU.out.2.1, HL.out.1] at g; simpa using g⟩⟩⟩, KW.out⟩
      | true =>
        have O2 := hide (show r2 = x by simpa using HO.out.2)
        have CHS := hide (show ¬ Chs es k x r1 r2 h from fun a => O1.out a.1)
        go_wp2_with fail
        refine (trimmed8_any HU.out.1 rfl (by rw [HU.out.2.1, HL.out.1]; simp; try omega) (by rw [HU.out.2.1, HL.out.1]; simp; omega)).mono ?_
        rintro e w5 ⟨⟨mm, rfl, m1, m2, m3, m4⟩, rfl⟩
        have HM := hide (show Trm U mm from ⟨m1, m2, m3, m4⟩)
        clear m1 m2 m3 m4
        go_wp2
        go_ret3
        exact ⟨⟨r1, r2, _, U, mm, (P + 1), true, rfl, ⟨D1.out, D2.out, HF.out, HM.out, HU.out.1, fun n => absurd n CHS.out, fun _ => ⟨HU.out.2.2.1, by rw [HU.out.2.1, HL.out.1]; simp <;> omega, by omega, by omega, by simp [O2.out], fun _ => by have g := HU.out.2.2.2; rw [HU.out.2.1, HL.out.1] at g; simpa using g⟩⟩⟩, KW.out⟩
    | true =>
      have O1 := hide (show r1 = x by simpa using HO.out.1)
      cases o2 with
      | false =>
        have O2 := hide (show ¬ r2 = x by simpa using HO.out.2)
        have CHS := hide (show Chs es k x r1 r2 h from ⟨O1.out, Or.inl O2.out⟩)
        go_wp2_with fail
        refine (trimmed8_any HC.out H1.out (by rw [HL.out.1]; exact k1) (by rw [HL.out.1]; omega)).mono ?_
        rintro e w5 ⟨⟨mm, rfl, m1, m2, m3, m4⟩, rfl⟩
        have HM := hide (show Trm (es.take k) mm from ⟨m1, m2, m3, m4⟩)
        clear m1 m2 m3 m4
        go_wp2
        go_ret3
        exact ⟨⟨r1, r2, _, es.take k, mm, P, true, rfl, ⟨D1.out, D2.out, HF.out, HM.out, HC.out, fun _ => ⟨rfl, rfl, rfl⟩, fun n => absurd CHS.out n⟩⟩, KW.out⟩
      | true =>
        have O2 := hide (show r2 = x by simpa using HO.out.2)
        rcases hcase with rfl | rfl | rfl
        · skip
          have CHS := hide (show Chs es k x r1 r2 (-1) from ⟨O1.out, Or.inr (Or.inl (by omega))⟩)
          go_wp2_with fail
          refine (trimmed8_any HC.out H1.out (by rw [HL.out.1]; exact k1) (by rw [HL.out.1]; omega)).mono ?_
          rintro e w5 ⟨⟨mm, rfl, m1, m2, m3, m4⟩, rfl⟩
          have HM := hide (show Trm (es.take k) mm from ⟨m1, m2, m3, m4⟩)
          clear m1 m2 m3 m4
          go_wp2
          go_ret3
          exact ⟨⟨r1, r2, _, es.take k, mm, P, true, rfl, ⟨D1.out, D2.out, HF.out, HM.out, HC.out, fun _ => ⟨rfl, rfl, rfl⟩, fun n => absurd CHS.out n⟩⟩, KW.out⟩
        · by_cases he : c % 2 = 0
          · have e1 : (c % 2 == 0) = true := by simp [he]
            have CHS := hide (show Chs es k x r1 r2 0 from ⟨O1.out, Or.inr (Or.inr ⟨rfl, by rw [HCC.out]; exact he⟩)⟩)
            go_wp2_with fail
            refine (trimmed8_any HC.out H1.out (by rw [HL.out.1]; exact k1) (by rw [HL.out.1]; omega)).mono ?_
            rintro e w5 ⟨⟨mm, rfl, m1, m2, m3, m4⟩, rfl⟩
            have HM := hide (show Trm (es.take k) mm from ⟨m1, m2, m3, m4⟩)
            clear m1 m2 m3 m4
            go_wp2
            go_ret3
            exact ⟨⟨r1, r2, _, es.take k, mm, P, true, rfl, ⟨D1.out, D2.out, HF.out, HM.out, HC.out, fun _ => ⟨rfl, rfl, rfl⟩, fun n => absurd CHS.out n⟩⟩, KW.out⟩
          · have e1 : (c % 2 == 0) = false := by simp [he]
            have CHS := hide (show ¬ Chs es k x r1 r2 0 from by
              rintro ⟨_, a | a | ⟨_, a⟩⟩
              · exact a O2.out
              · omega
              · rw [HCC.out] at a; exact he a)
            go_wp2_with fail
            refine (trimmed8_any HU.out.1 rfl (by rw [HU.out.2.1, HL.out.1]; simp; try omega) (by rw [HU.out.2.1, HL.out.1]; simp; omega)).mono ?_
            rintro e w5 ⟨⟨mm, rfl, m1, m2, m3, m4⟩, rfl⟩
            have HM := hide (show Trm U mm from ⟨m1, m2, m3, m4⟩)
            clear m1 m2 m3 m4
            go_wp2
            go_ret3
            exact ⟨⟨r1, r2, _, U, mm, (P + 1), true, rfl, ⟨D1.out, D2.out, HF.out, HM.out, HU.out.1, fun n => absurd n CHS.out, fun _ => ⟨HU.out.2.2.1, by rw [HU.out.2.1, HL.out.1]; simp <;> omega, by omega, by omega, by simp [O2.out], fun _ => by have g := HU.out.2.2.2; rw [HU.out.2.1, HL.out.1] at g; simpa using g⟩⟩⟩, KW.out⟩
        · skip
          have CHS := hide (show ¬ Chs es k x r1 r2 1 from by
            rintro ⟨_, a | a | ⟨a, _⟩⟩
            · exact a O2.out
            · omega
            · omega)
          go_wp2_with fail
          refine (trimmed8_any HU.out.1 rfl (by rw [HU.out.2.1, HL.out.1]; simp; try omega) (by rw [HU.out.2.1, HL.out.1]; simp; omega)).mono ?_
          rintro e w5 ⟨⟨mm, rfl, m1, m2, m3, m4⟩, rfl⟩
          have HM := hide (show Trm U mm from ⟨m1, m2, m3, m4⟩)
          clear m1 m2 m3 m4
          go_wp2
          go_ret3
          exact ⟨⟨r1, r2, _, U, mm, (P + 1), true, rfl, ⟨D1.out, D2.out, HF.out, HM.out, HU.out.1, fun n => absurd n CHS.out, fun _ => ⟨HU.out.2.2.1, by rw [HU.out.2.1, HL.out.1]; simp <;> omega, by omega, by omega, by simp [O2.out], fun _ => by have g := HU.out.2.2.2; rw [HU.out.2.1, HL.out.1] at g; simpa using g⟩⟩⟩, KW.out⟩

end Go.Proofs.YtinfkoiifemjmaaGreatDoor

namespace Go.Proofs.YtinfkoiifemjmaaGreatDoor
open Go.RowKit
set_option linter.unusedVariables false

theorem inn_low {V Lo Hi x y : Int} {ends : Prop} (h : Inn Lo Hi ends x) (hy : x ≤ y) (hv : y ≤ V) (hH : V < Hi) : Inn Lo Hi ends y := by
  rcases h with ⟨a, b⟩ | ⟨e, a | a⟩
  · exact Or.inl ⟨by omega, by omega⟩
  · rcases (show Lo < y ∨ y ≤ Lo by omega) with g | g
    · exact Or.inl ⟨g, by omega⟩
    · exact Or.inr ⟨e, Or.inl (by omega)⟩
  · omega
theorem inn_high {V Lo Hi x y : Int} {ends : Prop} (h : Inn Lo Hi ends x) (hy : y ≤ x) (hv : V ≤ y) (hL : Lo < V) : Inn Lo Hi ends y := by
  rcases h with ⟨a, b⟩ | ⟨e, a | a⟩
  · exact Or.inl ⟨by omega, by omega⟩
  · omega
  · rcases (show y < Hi ∨ Hi ≤ y by omega) with g | g
    · exact Or.inl ⟨by omega, g⟩
    · exact Or.inr ⟨e, Or.inr (by omega)⟩
/-- what steps of t do not reach ten of them do not -/
theorem out_ten {V Lo Hi t : Int} {ends : Prop} (t0 : 0 < t) (hL : Lo < V) (hH : V < Hi) (h : Out V Lo Hi ends t) : Out V Lo Hi ends (10 * t) := by
  have e := Int.mul_ediv_add_emod V t
  have r0 := Int.emod_nonneg V (b := t) (by omega)
  have r1 := Int.emod_lt_of_pos V t0
  have e2 : V / (10 * t) = V / t / 10 := by rw [Int.mul_comm 10 t, Int.ediv_ediv_of_nonneg (Int.le_of_lt t0)]
  obtain ⟨q, hq⟩ : ∃ q, V / t = q := ⟨_, rfl⟩
  rw [hq] at e e2
  obtain ⟨d, hd⟩ : ∃ d, q / 10 = d := ⟨_, rfl⟩
  have d1 : 10 * d ≤ q := by omega
  have d2 : q + 1 ≤ 10 * (d + 1) := by omega
  have m1 := Int.mul_le_mul_of_nonneg_right d1 (Int.le_of_lt t0)
  have m2 := Int.mul_le_mul_of_nonneg_right d2 (Int.le_of_lt t0)
  have n1 : d * (10 * t) = 10 * d * t := by rw [← Int.mul_assoc, Int.mul_comm d 10]
  have n2 : (d + 1) * (10 * t) = 10 * (d + 1) * t := by rw [← Int.mul_assoc, Int.mul_comm (d + 1) 10]
  have n3 : t * q = q * t := Int.mul_comm _ _
  have n4 : (q + 1) * t = q * t + t := by rw [Int.add_mul, Int.one_mul]
  unfold Out at h ⊢
  rw [e2, hd]
  rw [hq] at h
  refine ⟨fun g => h.1 (inn_low (V := V) g (by omega) (by omega) hH), fun g => h.2 (inn_high (V := V) g (by omega) (by omega) hL)⟩

/-- all digits are the number itself -/
theorem ex_v (s : Int) : 0 < s → s < 9218868437227405312 → exN s * tn 500 * p2 1075 = tn (-exQ s).toNat * vV 4503599627370496 (-1074) s := by
  intro s0 s1
  obtain ⟨m0, m1, q0, q1⟩ := ms_range s0 s1
  have e5 : E5 = tn 500 := rfl
  unfold vV exN exQ
  rw [um_at, e5]
  obtain ⟨q, hq⟩ : ∃ q, est 4503599627370496 (-1074) s = q := ⟨_, rfl⟩
  obtain ⟨M, hM⟩ : ∃ M, mst 4503599627370496 s = M := ⟨_, rfl⟩
  rw [hq] at q0 q1
  rw [hq, hM]
  obtain ⟨X, hX⟩ : ∃ X, tn 500 = X := ⟨_, rfl⟩
  rw [hX]
  by_cases h : 0 ≤ q
  · rw [if_pos h, if_pos h]
    have a : p2 (q - -1074).toNat = p2 q.toNat * p2 1074 := by rw [← p2_add, show (q - -1074).toNat = q.toNat + 1074 by omega]
    have b : p2 1075 = 2 * p2 1074 := rfl
    rw [a, b, show (-(0 : Int)).toNat = 0 by rfl, tn_zero]
    generalize p2 1074 = Y
    generalize p2 q.toNat = Z
    grind
  · rw [if_neg h, if_neg h]
    obtain ⟨N, hN⟩ : ∃ N, (-q).toNat = N := ⟨_, rfl⟩
    have b : p2 1075 = 2 * (p2 N * p2 (q - -1074).toNat) := by rw [← p2_add, show N + (q - -1074).toNat = 1074 by omega]; rfl
    rw [hN, b, tn_p2]
    generalize p2 (q - -1074).toNat = Y
    generalize p2 N = Z
    generalize (5 : Int) ^ N = W
    grind

end Go.Proofs.YtinfkoiifemjmaaGreatDoor

namespace Go.Proofs.YtinfkoiifemjmaaGreatDoor
open Go.RowKit
set_option linter.unusedVariables false

theorem same_sgn {D X Y K : Int} (D0 : 0 < D) (K0 : 0 < K) (h : D * X = Y * K) : (Y < 0 ↔ X < 0) ∧ (Y = 0 ↔ X = 0) := by
  rcases Int.lt_trichotomy X 0 with a | a | a
  · have h1 := Int.mul_neg_of_pos_of_neg D0 a
    rcases Int.lt_trichotomy Y 0 with b | b | b
    · omega
    · subst b; simp at h; omega
    · have := Int.mul_pos b K0; omega
  · subst a
    rcases Int.lt_trichotomy Y 0 with b | b | b
    · have := Int.mul_neg_of_neg_of_pos b K0; simp at h; omega
    · omega
    · have := Int.mul_pos b K0; simp at h; omega
  · have h1 := Int.mul_pos D0 a
    rcases Int.lt_trichotomy Y 0 with b | b | b
    · have := Int.mul_neg_of_neg_of_pos b K0; omega
    · subst b; simp at h; omega
    · omega
/-- a number V, told by C whole steps of t and R of the H parts of one more -/
theorem cut_steps {V t D Kc H C R : Int} (D0 : 0 < D) (K0 : 0 < Kc) (hV : D * V = (C * H + R) * Kc) (ht : D * t = H * Kc) (R0 : 0 ≤ R) (R1 : R < H) (t0 : 0 < t) :
    V / t = C ∧ (2 * R < H ↔ 2 * V < (2 * C + 1) * t) ∧ (2 * R = H ↔ (2 * C + 1) * t = 2 * V) := by
  have e0 : D * (V - C * t) = R * Kc := by
    have : D * (C * t) = C * (D * t) := by grind
    grind
  have e1 : D * ((C + 1) * t - V) = (H - R) * Kc := by grind
  have e2 : D * (2 * V - (2 * C + 1) * t) = (2 * R - H) * Kc := by grind
  have f0 : 0 ≤ V - C * t := by
    have : 0 ≤ D * (V - C * t) := by rw [e0]; exact Int.mul_nonneg R0 (Int.le_of_lt K0)
    exact Int.nonneg_of_mul_nonneg_right this D0
  have f1 : 0 < (C + 1) * t - V := by
    have : 0 < D * ((C + 1) * t - V) := by rw [e1]; exact Int.mul_pos (by omega) K0
    exact Int.pos_of_mul_pos_right this D0
  refine ⟨?_, ?_, ?_⟩
  · have h1 : C ≤ V / t := (Int.le_ediv_iff_mul_le t0).2 (by omega)
    have h2 : V / t < C + 1 := (Int.ediv_lt_iff_lt_mul t0).2 (by omega)
    omega
  · have := (same_sgn D0 K0 e2).1; omega
  · have := (same_sgn D0 K0 e2).2; omega

/-- all digits cut behind k of them: the whole steps, and what stands behind against half of one -/
theorem cut_v {s P : Int} {al : List Int} {k : Nat} (s0 : 0 < s) (s1 : s < 9218868437227405312) (hd : Dstr (exN s) al) (hP : P = al.length + exQ s) (hk : k ≤ al.length) (hlow : -500 ≤ P - k) :
    vV 4503599627370496 (-1074) s / TT (gG (-1074)) (P - k) = dgv (al.take k) ∧
    (2 * dgv (al.drop k) < tn (al.drop k).length ↔ 2 * vV 4503599627370496 (-1074) s < (2 * dgv (al.take k) + 1) * TT (gG (-1074)) (P - k)) ∧
    (2 * dgv (al.drop k) = tn (al.drop k).length ↔ (2 * dgv (al.take k) + 1) * TT (gG (-1074)) (P - k) = 2 * vV 4503599627370496 (-1074) s) := by
  obtain ⟨h1, -, -, h4⟩ := hd
  have hq0 : exQ s ≤ 0 := by unfold exQ; split <;> omega
  have hl : (al.drop k).length = al.length - k := List.length_drop
  have hs : exN s = dgv (al.take k) * tn (al.drop k).length + dgv (al.drop k) := by rw [← h4, ← dgv_append, List.take_append_drop]
  obtain ⟨r0, r1⟩ := dgv_range (h1.drop k)
  have hv := ex_v s s0 s1
  have ht : tn (-exQ s).toNat * TT (gG (-1074)) (P - k) = tn (al.drop k).length * (tn 500 * p2 1075) := by
    have e : (-exQ s).toNat + (P - k + 500).toNat = (al.drop k).length + 500 := by omega
    have g : gG (-1074) = p2 1075 := rfl
    unfold TT
    rw [g, ← tn_ten, ← Int.mul_assoc, ← tn_add, e, tn_add, Int.mul_assoc]
  have hV : tn (-exQ s).toNat * vV 4503599627370496 (-1074) s = (dgv (al.take k) * tn (al.drop k).length + dgv (al.drop k)) * (tn 500 * p2 1075) := by
    rw [← hv, hs, Int.mul_assoc]
  exact cut_steps (tn_pos _) (Int.mul_pos (tn_pos _) (p2_pos _)) hV ht r0 r1 (TT_pos (gG_pos _) _)

end Go.Proofs.YtinfkoiifemjmaaGreatDoor

namespace Go.Proofs.YtinfkoiifemjmaaGreatDoor
open Go.RowKit
set_option linter.unusedVariables false

theorem lb_par {al : List Int} {k : Nat} (k1 : 0 < k) (hk : k ≤ al.length) : Nt.lb al (k - 1) % 2 = dgv (al.take k) % 2 := by
  obtain ⟨m, rfl⟩ : ∃ m, k = m + 1 := ⟨k - 1, by omega⟩
  have hj : m < al.length := by omega
  rw [List.take_succ_eq_append_getElem hj, dgv_snoc, Nat.add_sub_cancel, lb_getq hj]
  omega
theorem inn_dv {s x q r : Int} (s0 : 0 < s) (s1 : s < 9218868437227405312) (hq : -500 ≤ q) (h : DV 4503599627370496 (-1074) 9218868437227405312 x q r) :
    r = s ↔ Inn (vLo 4503599627370496 (-1074) s) (vHi 4503599627370496 (-1074) s) (s % 2 = 0) (x * TT (gG (-1074)) q) := by
  constructor
  · rintro rfl
    rwa [dv_nx (by decide) hq, nx_inn (by decide) s0 s1] at h
  · intro g
    have h2 : DV 4503599627370496 (-1074) 9218868437227405312 x q s := by rw [dv_nx (by decide) hq, nx_inn (by decide) s0 s1]; exact g
    exact dv_same (by decide) h h2 (dle_refl _ _) (dle_refl _ _)
/-- fewer digits than there are: the choice, or none -/
theorem tri_pick {s P r1 r2 h Q : Int} {al T : List Int} {k m : Nat} {ok : Bool} (s0 : 0 < s) (s1 : s < 9218868437227405312) (hd : Dstr (exN s) al) (hP : P = al.length + exQ s) (k1 : 0 < k) (hk : k < al.length) (hlow : -500 ≤ P - k)
    (t : Tri al k P s r1 r2 h T m Q ok) :
    (ok = true → Pick (vV 4503599627370496 (-1074) s) (vLo 4503599627370496 (-1074) s) (vHi 4503599627370496 (-1074) s) (s % 2 = 0) (TT (gG (-1074)) (P - k)) (dgv T)) ∧
    (ok = false → Out (vV 4503599627370496 (-1074) s) (vLo 4503599627370496 (-1074) s) (vHi 4503599627370496 (-1074) s) (s % 2 = 0) (TT (gG (-1074)) (P - k))) := by
  obtain ⟨c1, c2, c3⟩ := cut_v s0 s1 hd hP (Nat.le_of_lt hk) hlow
  have i1 := inn_dv s0 s1 hlow t.one
  have i2 := inn_dv s0 s1 hlow t.two
  have par := lb_par k1 (Nat.le_of_lt hk)
  have hf := t.half
  have hlo := t.low
  have hhi := t.high
  unfold Pick Out Cls
  rw [c1]
  generalize vV 4503599627370496 (-1074) s = V at *
  generalize vLo 4503599627370496 (-1074) s = Lo at *
  generalize vHi 4503599627370496 (-1074) s = Hi at *
  generalize TT (gG (-1074)) (P - k) = u at *
  unfold Chs at hlo hhi
  rw [par] at hlo hhi
  clear t hd
  generalize hC : dgv (al.take k) = C at *
  unfold Hf at hf
  rw [← i1, ← i2]
  by_cases ch : r1 = s ∧ (r2 ≠ s ∨ h < 0 ∨ (h = 0 ∧ C % 2 = 0))
  · obtain ⟨rfl, -, rfl⟩ := hlo ch
    refine ⟨fun _ => Or.inl ⟨hC, ch.1, ?_⟩, fun a => by cases a⟩
    rintro ⟨a, b⟩
    rcases ch.2 with g | g | ⟨g, g2⟩
    · exact g a
    · have : 2 * dgv (al.drop k) < tn (al.drop k).length := by omega
      have := c2.1 this
      omega
    · have : 2 * dgv (al.drop k) = tn (al.drop k).length := by omega
      have := c3.1 this
      omega
  · obtain ⟨e1, -, -, -, e5, -⟩ := hhi ch
    refine ⟨fun a => Or.inr ⟨e1, e5.1 a, ?_⟩, fun a => ?_⟩
    · by_cases g : r1 = s
      · right
        have n1 : ¬ h < 0 := fun a => ch ⟨g, Or.inr (Or.inl a)⟩
        have n2 : ¬ (h = 0 ∧ C % 2 = 0) := fun a => ch ⟨g, Or.inr (Or.inr a)⟩
        rcases hf with ⟨a, b⟩ | ⟨a, b⟩ | ⟨a, b⟩
        · omega
        · right
          exact ⟨c3.1 b, by omega⟩
        · left
          have n3 : ¬ 2 * V < (2 * C + 1) * u := fun x => by have := c2.2 x; omega
          have n4 : ¬ (2 * C + 1) * u = 2 * V := fun x => by have := c3.2 x; omega
          omega
      · exact Or.inl g
    · have n2 : ¬ r2 = s := fun x => by rw [e5.2 x] at a; cases a
      exact ⟨fun x => ch ⟨x, Or.inl n2⟩, n2⟩

end Go.Proofs.YtinfkoiifemjmaaGreatDoor

namespace Go.Proofs.YtinfkoiifemjmaaGreatDoor
open Go.RowKit
set_option linter.unusedVariables false

/-- with k digits neither is within reach; the one that is taken -/
def OutK (s P : Int) (k : Nat) : Prop := Out (vV 4503599627370496 (-1074) s) (vLo 4503599627370496 (-1074) s) (vHi 4503599627370496 (-1074) s) (s % 2 = 0) (TT (gG (-1074)) (P - k))
def PickK (s P : Int) (k : Nat) (c : Int) : Prop := Pick (vV 4503599627370496 (-1074) s) (vLo 4503599627370496 (-1074) s) (vHi 4503599627370496 (-1074) s) (s % 2 = 0) (TT (gG (-1074)) (P - k)) c

theorem tn_big : p2 1075 < tn 400 := by rw [p2_pow, tn_ten]; decide +kernel
theorem ex_place {s P : Int} {al : List Int} (s0 : 0 < s) (s1 : s < 9218868437227405312) (hd : Dstr (exN s) al) (hP : P = al.length + exQ s) : -400 < P := by
  rcases Int.lt_or_le (-400) P with g | g
  · exact g
  exfalso
  obtain ⟨h1, -, -, h4⟩ := hd
  obtain ⟨-, r1⟩ := dgv_range h1
  rw [h4] at r1
  have hv := ex_v s s0 s1
  have u0 : 1 ≤ um 4503599627370496 (-1074) (-1074) s := by
    rw [um_at]
    have a := mst_pos (F := 4503599627370496) (by decide) s0
    have b := p2_pos (est 4503599627370496 (-1074) s - -1074).toNat
    have := Int.mul_pos a b
    omega
  have hV : E5 ≤ vV 4503599627370496 (-1074) s := by
    unfold vV
    have e0 := E5_pos
    have : 1 * E5 ≤ 2 * um 4503599627370496 (-1074) (-1074) s * E5 := Int.mul_le_mul_of_nonneg_right (by omega) (by omega)
    omega
  have e5 : E5 = tn 500 := rfl
  rw [e5] at hV
  have hn : tn al.length * tn 400 ≤ tn (-exQ s).toNat := by
    rw [← tn_add]
    exact tn_mono (by omega)
  have a1 := tn_pos al.length
  have a2 := tn_pos 500
  have a3 := tn_big
  have a4 := p2_pos 1075
  have a5 := tn_pos (-exQ s).toNat
  have b1 : tn (-exQ s).toNat * tn 500 ≤ tn (-exQ s).toNat * vV 4503599627370496 (-1074) s := Int.mul_le_mul_of_nonneg_left hV (by omega)
  rw [← hv] at b1
  have b2 : exN s * p2 1075 < tn al.length * tn 400 := by
    have c1 : exN s * p2 1075 ≤ tn al.length * p2 1075 := Int.mul_le_mul_of_nonneg_right (by omega) (by omega)
    have c2 : tn al.length * p2 1075 < tn al.length * tn 400 := Int.mul_lt_mul_of_pos_left a3 a1
    omega
  have b3 : exN s * p2 1075 * tn 500 < tn (-exQ s).toNat * tn 500 := Int.mul_lt_mul_of_pos_right (by omega) a2
  have b4 : exN s * tn 500 * p2 1075 = exN s * p2 1075 * tn 500 := by grind
  omega
/-- where a number's first digit stands -/
theorem ex_ends {s P : Int} {al : List Int} (s0 : 0 < s) (s1 : s < 9218868437227405312) (hd : Dstr (exN s) al) (hP : P = al.length + exQ s) :
    TT (gG (-1074)) (P - 1) ≤ vV 4503599627370496 (-1074) s ∧ vV 4503599627370496 (-1074) s < TT (gG (-1074)) P ∧ -324 < P ∧ P ≤ 310 := by
  have p0 := ex_place s0 s1 hd hP
  obtain ⟨n0, -⟩ := exN_lt s0 s1
  have hl := hd.2.1
  have c0 := (cut_v (k := 0) s0 s1 hd hP (by omega) (by omega)).1
  have c1 := (cut_v (k := 1) s0 s1 hd hP (by omega) (by omega)).1
  have t0 := TT_pos (gG_pos (-1074)) P
  have t1 := TT_pos (gG_pos (-1074)) (P - 1)
  have hi : vV 4503599627370496 (-1074) s < TT (gG (-1074)) P := by
    rw [show P - ((0 : Nat) : Int) = P by omega, List.take_zero] at c0
    have := Int.ediv_lt_iff_lt_mul (a := vV 4503599627370496 (-1074) s) (b := 1) t0
    rw [c0] at this
    have h := this.1 (by show (0 : Int) < 1; decide)
    omega
  have lo : TT (gG (-1074)) (P - 1) ≤ vV 4503599627370496 (-1074) s := by
    rw [show P - ((1 : Nat) : Int) = P - 1 by omega] at c1
    have e : dgv (al.take 1) = Nt.lb al 0 - 48 := by
      obtain ⟨h1, h2, h3, h4⟩ := hd
      cases al with
      | nil => simp at hl
      | cons a x => simp [dgv, Nt.lb, tn_zero]
    have f : 1 ≤ Nt.lb al 0 - 48 := by
      obtain ⟨h1, h2, h3, h4⟩ := hd
      have r := h1 _ (lb_in (p := 0) (es := al) (by omega))
      rcases h3 with h3 | h3
      · omega
      · rw [h3] at h4; simp [dgv] at h4; omega
    have := (Int.le_ediv_iff_mul_le (a := 1) (b := vV 4503599627370496 (-1074) s) t1).1 (by rw [c1, e]; exact f)
    omega
  have pl := point_low (by decide) s0 (by decide) hi
  have ph := point_high fr_d (by omega) (by decide) (by have := (ms_range s0 s1).2.2.2; omega) lo
  exact ⟨lo, hi, pl, ph⟩
theorem outk_up {s P : Int} {k : Nat} (s0 : 0 < s) (hP : -500 ≤ P - k) (h : OutK s P k) : ∀ d j : Nat, k = j + d → OutK s P j
  | 0, j, e => by rw [Nat.add_zero] at e; rwa [e] at h
  | d + 1, j, e => by
    have ih := outk_up s0 hP h d (j + 1) (by omega)
    unfold OutK at ih ⊢
    have e2 : TT (gG (-1074)) (P - (j : Int)) = 10 * TT (gG (-1074)) (P - ((j + 1 : Nat) : Int)) := by
      rw [show P - (j : Int) = (P - ((j + 1 : Nat) : Int)) + 1 by omega, TT_succ (by omega)]
    rw [e2]
    exact out_ten (TT_pos (gG_pos _) _) (vLo_lt (by decide) s0) (vHi_gt (by decide) (by omega)) ih
theorem outk_17 {s P : Int} (s0 : 0 < s) (hP : -324 < P) (lo : TT (gG (-1074)) (P - 1) ≤ vV 4503599627370496 (-1074) s) : ¬ OutK s P 17 :=
  v_most (M := 16) (by decide) s0 (by decide) (by omega) lo
/-- as many digits as there are: the number itself -/
theorem all_pick {s P : Int} {al : List Int} {k : Nat} (s0 : 0 < s) (s1 : s < 9218868437227405312) (hd : Dstr (exN s) al) (hP : P = al.length + exQ s) (hk : al.length ≤ k) (hlow : -500 ≤ P - k) :
    PickK s P k (exN s * tn (k - al.length)) := by
  have hq0 : exQ s ≤ 0 := by unfold exQ; split <;> omega
  have hv := ex_v s s0 s1
  have t0 := TT_pos (gG_pos (-1074)) (P - k)
  have ht : tn (-exQ s).toNat * (tn (k - al.length) * TT (gG (-1074)) (P - k)) = tn 500 * p2 1075 := by
    have e : (-exQ s).toNat + (k - al.length) + (P - k + 500).toNat = 500 := by omega
    have g : gG (-1074) = p2 1075 := rfl
    unfold TT
    rw [g, ← tn_ten, ← Int.mul_assoc, ← Int.mul_assoc, ← tn_add, ← tn_add, e]
  have eV : vV 4503599627370496 (-1074) s = exN s * tn (k - al.length) * TT (gG (-1074)) (P - k) := by
    have a := tn_pos (-exQ s).toNat
    refine Int.eq_of_mul_eq_mul_left (a := tn (-exQ s).toNat) (by omega) ?_
    rw [← hv, Int.mul_assoc (exN s) (tn 500), ← ht]
    grind
  unfold PickK
  have l := vLo_lt (F := 4503599627370496) (L := -1074) (s := s) (by decide) s0
  have h := vHi_gt (F := 4503599627370496) (L := -1074) (s := s) (by decide) (by omega)
  obtain ⟨c, hc⟩ : ∃ c, exN s * tn (k - al.length) = c := ⟨_, rfl⟩
  rw [hc] at eV ⊢
  generalize TT (gG (-1074)) (P - k) = t at *
  generalize vV 4503599627370496 (-1074) s = V at *
  have d : V / t = c := by rw [eV]; exact Int.mul_ediv_cancel c (by omega)
  refine Or.inl ⟨d.symm, ?_, ?_⟩
  · rw [d, ← eV]; exact Or.inl ⟨l, h⟩
  · rintro ⟨-, g⟩
    rw [d] at g
    have e : (2 * c + 1) * t = 2 * V + t := by rw [eV]; grind
    unfold Cls at g
    omega

theorem bv_dgv (ds : List Int) : bv ds = dgv ds := by rw [bv_dg, dgv_dg]
theorem dl_digits (k : Nat) (c : Int) : Dq (dl k c) := dl_byte k c
/-- the text of the digits that are taken -/
theorem txt_few {s P c Q : Int} {T : List Int} {k m : Nat} (sh : ShP 4503599627370496 (-1074) s P k c) (hp : -500 ≤ P - k) (hT : Dq T) (ht : Trm T m) (hc : dgv T = c) (hl : (T.length : Int) = k + (Q - P)) (q0 : P ≤ Q) (q1 : Q ≤ P + 1) (hn : P < Q → dgv T = tn k) :
    T.take m = txt k c ∧ Q = pt k c P := by
  have h := Sh.cases sh (gG_pos _) hp
  have k1 := Sh.k1 sh
  unfold txt pt
  rcases h with ⟨e1, e2, e3, e4⟩ | ⟨e1, e2, e3, e4, e5⟩
  · subst e2
    rw [if_pos e1, if_pos e1]
    have hq : Q = P + 1 := by
      rcases Int.lt_or_le P Q with g | g
      · omega
      · have r := (dgv_range hT).2
        rw [show T.length = 1 by omega] at r
        have : tn 1 = 10 := rfl
        omega
    have hl2 : T.length = 2 := by omega
    obtain ⟨a, b, rfl⟩ : ∃ a b, T = [a, b] := by
      match T, hl2 with
      | [a, b], _ => exact ⟨a, b, rfl⟩
    have ha := hT a (by simp)
    have hb := hT b (by simp)
    simp [dgv, show tn 1 = 10 from rfl, tn_zero] at hc
    have a1 : a = 49 := by omega
    have b1 : b = 48 := by omega
    have m0 := ht.pos
    have ml : m ≤ 2 := ht.le
    have mt := ht.top
    have m1 : m = 1 := by
      rcases mt with g | g
      · exact g
      · rcases (show m = 1 ∨ m = 2 by omega) with e | e
        · exact e
        · subst e; exfalso; apply g; simp [Nt.lb, b1]
    subst m1 a1
    exact ⟨rfl, hq⟩
  · rw [if_neg e1, if_neg e1]
    have hq : Q = P := by
      rcases Int.lt_or_le P Q with g | g
      · exact absurd ((hc ▸ hn g : c = tn k)) e1
      · omega
    have hk : T.length = k := by omega
    have c0 : 0 ≤ c := by have := ten_pos (k - 1); omega
    have e : T = dl k c := dg_inj (by rw [hk, dl_len]) hT (dl_digits k c) (by rw [hc, ← bv_dgv, bv_dl k c c0 e3])
    have last : Nt.lb T (k - 1) ≠ 48 := by
      obtain ⟨j, rfl⟩ : ∃ j, k = j + 1 := ⟨k - 1, by omega⟩
      rw [e, Nat.add_sub_cancel, dl_last]; omega
    have hm : m = k := by
      rcases Nat.lt_or_ge m k with g | g
      · exact absurd (ht.rest (k - 1) (by omega) (by omega)) last
      · have := ht.le; omega
    refine ⟨?_, hq⟩
    rw [List.take_of_length_le (by omega)]; exact e
theorem txt_all {s P c : Int} {T : List Int} {k m : Nat} (sh : ShP 4503599627370496 (-1074) s P k c) (hp : -500 ≤ P - k) (hT : Dq T) (l0 : 0 < T.length) (ht : Trm T m) (hk : T.length ≤ k) (hc : dgv T * tn (k - T.length) = c) :
    T.take m = txt k c ∧ P = pt k c P := by
  have h := Sh.cases sh (gG_pos _) hp
  rcases h with ⟨e1, e2, e3, e4⟩ | ⟨e1, e2, e3, e4, e5⟩
  · exfalso
    have hl : T.length = 1 := by omega
    have r := (dgv_range hT).2
    rw [hl, e2] at hc
    rw [hl, show tn 1 = 10 from rfl] at r
    rw [show 1 - 1 = 0 from rfl, tn_zero] at hc
    omega
  · have hl : T.length = k := by
      rcases Nat.lt_or_ge T.length k with g | g
      · exfalso
        obtain ⟨d, hd⟩ : ∃ d, k - T.length = d + 1 := ⟨k - T.length - 1, by omega⟩
        rw [hd, tn_succ] at hc
        have : c = 10 * (dgv T * tn d) := by rw [← hc]; grind
        omega
      · omega
    rw [hl, Nat.sub_self, tn_zero, Int.mul_one] at hc
    exact txt_few sh hp hT ht hc (by omega) (by omega) (by omega) (fun g => by omega)

end Go.Proofs.YtinfkoiifemjmaaGreatDoor

namespace Go.Proofs.YtinfkoiifemjmaaGreatDoor
open Go.RowKit
set_option linter.unusedVariables false
set_option linter.unusedSimpArgs false

theorem and_exp8 (x : Int) (h0 : 0 ≤ x) (h1 : x < 18446744073709551616) : bits .and .u64 x 9218868437227405312 = x / 4503599627370496 % 2048 * 4503599627370496 := by
  rw [u64_and x 9218868437227405312 h0 (by omega) (by decide) (by decide)]
  have := nat_mask8 x.toNat 52 11
  rw [show (9218868437227405312 : Int).toNat = (2 ^ 11 - 1) * 2 ^ 52 from rfl, this]
  omega
set_option maxHeartbeats 1000000 in
theorem isnan8 {w : World} {b : Int} (h0 : 0 ≤ b) (h1 : b < 18446744073709551616) : Calls Tryz.prog 24 #[.int .u64 b] w fun e w' => e = .returned (.bool (decide (9218868437227405312 < b % 9223372036854775808))) ∧ w' = w := by
  have e1 := and_exp8 b h0 h1
  have e2 := and_frac8 b h0 h1
  have key : 9218868437227405312 < b % 9223372036854775808 ↔ (b / 4503599627370496 % 2048 * 4503599627370496 = 9218868437227405312 ∧ b % 4503599627370496 ≠ 0) := by omega
  obtain ⟨p, hp⟩ : ∃ p, decide (9218868437227405312 < b % 9223372036854775808) = p := ⟨_, rfl⟩
  have hp2 : p = decide (b / 4503599627370496 % 2048 * 4503599627370496 = 9218868437227405312 ∧ b % 4503599627370496 ≠ 0) := by rw [← hp]; exact decide_eq_decide.2 key
  rw [hp]
  clear key hp
  generalize b / 4503599627370496 % 2048 * 4503599627370496 = X at *
  generalize b % 4503599627370496 = Y at *
  by_cases c : X = 9218868437227405312
  · have c' : (X == 9218868437227405312) = true := by simp [c]
    by_cases d : Y = 0
    · have d' : (Y == 0) = true := by simp [d]
      have d2 : (Y != 0) = false := by simp [d]
      have Hc := hide (show p = false by rw [hp2]; exact decide_eq_false (by omega))
      clear hp2 c d h0 h1
      go_enter Tryz.func24, Tryz.ntmps24
      go_wp2
      go_ret
      exact ⟨by rw [Hc.out]; rfl, rfl⟩
    · have d' : (Y == 0) = false := by simp [d]
      have d2 : (Y != 0) = true := by simp [d]
      have Hc := hide (show p = true by rw [hp2]; exact decide_eq_true ⟨c, d⟩)
      clear hp2 c d h0 h1
      go_enter Tryz.func24, Tryz.ntmps24
      go_wp2
      go_ret
      exact ⟨by rw [Hc.out]; rfl, rfl⟩
  · have c' : (X == 9218868437227405312) = false := by simp [c]
    have Hc := hide (show p = false by rw [hp2]; exact decide_eq_false (fun h => c h.1))
    clear hp2 c h0 h1
    go_enter Tryz.func24, Tryz.ntmps24
    go_wp2
    go_ret
    exact ⟨by rw [Hc.out]; rfl, rfl⟩

/-- what tried tells of k digits -/
def TrU (s P : Int) (k : Nat) (e : Ending) : Prop := ∃ t Q ok, e = .returned (.tuple #[.string t, .int .i64 Q, .bool ok]) ∧ (ok = true → ∃ c, PickK s P k c ∧ (ShP 4503599627370496 (-1074) s P k c → t = strOfNums (txt k c) ∧ Q = pt k c P)) ∧ (ok = false → OutK s P k)
theorem tried8_u {w : World} {s P : Int} {al : List Int} {tx : ByteArray} {k : Nat} (s0 : 0 < s) (s1 : s < 9218868437227405312) (hd : Dstr (exN s) al) (hl : al.length ≤ 1200) (hs : tx = strOfNums al) (hP : P = al.length + exQ s) (k1 : 0 < k) (k17 : k ≤ 17) :
    Calls Tryz.prog 49 #[.int .u64 s, .string tx, .int .i64 P, .int .i64 k] w fun e w' => TrU s P k e ∧ Below w.heap.size w w' := by
  obtain ⟨lo, hi, p0, p1⟩ := ex_ends s0 s1 hd hP
  have hlow : -500 ≤ P - k := by omega
  by_cases hk : al.length ≤ k
  · refine (tried8_all (x := s) (P := P) hd.1 hs hd.2.1 (by omega) hk).mono ?_
    rintro e w' ⟨⟨m, rfl, ht⟩, K⟩
    refine ⟨⟨_, P, true, rfl, fun _ => ⟨exN s * tn (k - al.length), all_pick s0 s1 hd hP hk hlow, fun sh => ?_⟩, fun h => by cases h⟩, K⟩
    obtain ⟨a, b⟩ := txt_all sh hlow hd.1 hd.2.1 ht hk (by rw [hd.2.2.2])
    exact ⟨by rw [a], b⟩
  · refine (tried8_few (x := s) hd.1 hs (by omega) k1 (by omega) (by omega) (by omega)).mono ?_
    rintro e w' ⟨⟨r1, r2, h, T, m, Q, ok, rfl, t⟩, K⟩
    obtain ⟨p1, p2⟩ := tri_pick s0 s1 hd hP k1 (by omega) hlow t
    refine ⟨⟨_, Q, ok, rfl, fun g => ⟨dgv T, p1 g, fun sh => ?_⟩, p2⟩, K⟩
    have hh : (T.length : Int) = k + (Q - P) ∧ P ≤ Q ∧ Q ≤ P + 1 ∧ (P < Q → dgv T = tn k) := by
      by_cases c : Chs al k s r1 r2 h
      · obtain ⟨rfl, rfl, -⟩ := t.low c
        exact ⟨by rw [List.length_take]; omega, by omega, by omega, fun a => by omega⟩
      · obtain ⟨-, a, b, c, -, d⟩ := t.high c
        exact ⟨a, b, c, d⟩
    obtain ⟨a, b⟩ := txt_few sh hlow t.dq t.trm rfl hh.1 hh.2.1 hh.2.2.1 hh.2.2.2
    exact ⟨by rw [a], b⟩

end Go.Proofs.YtinfkoiifemjmaaGreatDoor

namespace Go.Proofs.YtinfkoiifemjmaaGreatDoor
open Go.RowKit
set_option linter.unusedVariables false
set_option linter.unusedSimpArgs false

def FwE (s : Int) (e : Ending) : Prop := ∃ p k c, ShP 4503599627370496 (-1074) s p k c ∧ k ≤ 17 ∧ -324 < p ∧ p ≤ 310 ∧ e = .returned (.tuple #[.string (strOfNums (txt k c)), .int .i64 (pt k c p)])
def Srch (s P : Int) (l h : Nat) : Prop := (∀ j, 1 ≤ j → j < l → OutK s P j) ∧ ¬ OutK s P h

set_option maxRecDepth 100000 in
set_option maxHeartbeats 8000000 in
theorem fewest8_any {w : World} {x s : Int} (x0 : 0 ≤ x) (x1 : x < 18446744073709551616) (hs : x % 9223372036854775808 = s) (s0 : 0 < s) (s1 : s < 9218868437227405312) :
    Calls Tryz.prog 26 #[.int .u64 x] w fun e w' => FwE s e ∧ Below w.heap.size w w' := by
  have ea := and_size8 x x0 x1
  rw [hs] at ea
  go_enter Tryz.func26, Tryz.ntmps26
  go_wp2_with fail
  with_reducible refine (exact8_any s0 s1).mono ?_
  rintro e w1 ⟨⟨al, rfl, hd, hl⟩, K⟩
  obtain ⟨P, hP⟩ : ∃ P, P = al.length + exQ s := ⟨_, rfl⟩
  obtain ⟨tx, htx⟩ : ∃ tx, tx = strOfNums al := ⟨_, rfl⟩
  rw [← hP, ← htx]
  have HT := hide (fun (u : World) (k : Nat) (k1 : 0 < k) (k17 : k ≤ 17) => tried8_u (w := u) s0 s1 hd hl htx hP k1 k17)
  obtain ⟨lo, hi, p0, p1⟩ := ex_ends s0 s1 hd hP
  have HE := hide (And.intro lo hi)
  have H17 := hide (outk_17 s0 p0 lo)
  have HUP := hide (fun (k : Nat) (h17 : k ≤ 17) (h : OutK s P k) => outk_up s0 (show -500 ≤ P - (k : Int) by omega) h)
  have HK := hide K
  clear hd hl hP htx lo hi K
  go_wp2
  go_loopg [6, 7] 16 (fun c lo hi wr => ∃ l h : Nat, c = h - l ∧ lo = .int .i64 l ∧ hi = .int .i64 h ∧ 1 ≤ l ∧ l ≤ h ∧ h ≤ 17 ∧ Hid (Srch s P l h) ∧ Hid (Below w.heap.size w wr))
  case atStart => exact ⟨1, 17, by omega, rfl, rfl, by omega, by omega, by omega, hide ⟨fun j a b => by omega, H17.out⟩, HK⟩
  case round =>
    clear HK H17
    obtain ⟨l, h, hc, rfl, rfl, l1, lh, h17, HS, HB⟩ := hrel
    by_cases q : l < h
    · have q1 : (l : Int) < (h : Int) := by omega
      obtain ⟨k, hk⟩ : ∃ k, (l + h) / 2 = k := ⟨_, rfl⟩
      have y1 : IntKind.i64.wrap ((l : Int) + (h : Int)) = (l : Int) + h := by rw [IntKind.wrap_i64]; omega
      have y2 : ((l : Int) + (h : Int)).tdiv 2 = k := by rw [Int.tdiv_eq_ediv_of_nonneg (by omega)]; omega
      have y3 : IntKind.i64.wrap ((k : Int)) = (k : Int) := by rw [IntKind.wrap_i64]; omega
      have y4 : IntKind.i64.wrap ((k : Int) + 1) = ((k + 1 : Nat) : Int) := by rw [IntKind.wrap_i64]; omega
      go_wp2_with fail
      with_reducible refine (HT.out _ k (by omega) (by omega)).mono ?_
      rintro e w2 ⟨⟨t, Q, ok, rfl, g1, g2⟩, K2⟩
      have HG := hide (And.intro g1 g2)
      have HB2 := hide (below_trans HB.out K2)
      clear g1 g2 K2
      cases ok with
      | false =>
        have HN := hide (HUP.out k (by omega) (HG.out.2 rfl))
        go_wp2
        go_roundg (h - (k + 1))
        case measure => omega
        case rel => exact ⟨k + 1, h, rfl, rfl, rfl, by omega, by omega, h17, hide ⟨fun j a b => HN.out (k - j) j (by omega), HS.out.2⟩, HB2⟩
      | true =>
        have HN := hide (show ¬ OutK s P k from by obtain ⟨c, g, -⟩ := HG.out.1 rfl; exact g.not_out)
        go_wp2
        go_roundg (k - l)
        case measure => omega
        case rel => exact ⟨l, k, rfl, rfl, rfl, l1, by omega, by omega, hide ⟨HS.out.1, HN.out⟩, HB2⟩
    · have q1 : ¬ (l : Int) < (h : Int) := by omega
      obtain rfl : l = h := by omega
      go_wp2_with fail
      with_reducible refine (HT.out _ l (by omega) (by omega)).mono ?_
      rintro e w2 ⟨⟨t, Q, ok, rfl, g1, g2⟩, K2⟩
      have HB2 := hide (below_trans HB.out K2)
      have hok : ok = true := by
        cases ok with
        | false => exact absurd (g2 rfl) HS.out.2
        | true => rfl
      obtain ⟨c, pk, tq⟩ := g1 hok
      have sh : ShP 4503599627370496 (-1074) s P l c := ⟨HE.out.1, HE.out.2, l1, fun j a b => HS.out.1 j a b, pk⟩
      obtain ⟨e1, e2⟩ := tq sh
      have HF := hide (show FwE s (.returned (.tuple #[.string t, .int .i64 Q])) from ⟨P, l, c, sh, h17, p0, p1, by rw [e1, e2]⟩)
      clear g1 g2 K2 tq e1 e2 pk sh hok
      go_wp2
      go_ret2
      exact ⟨HF.out, HB2.out⟩

end Go.Proofs.YtinfkoiifemjmaaGreatDoor

namespace Go.Proofs.YtinfkoiifemjmaaGreatDoor
open Go.RowKit
set_option linter.unusedVariables false
set_option linter.unusedSimpArgs false

/-- what is shown of a finite pattern that is no nought -/
def ShE (s : Int) (ng : Bool) (e : Ending) : Prop := ∃ p k c, ShP 4503599627370496 (-1074) s p k c ∧ k ≤ 17 ∧ e = .returned (.string (strOfNums (layoutT ng (txt k c) (pt k c p))))

set_option maxRecDepth 100000 in
set_option maxHeartbeats 8000000 in
theorem rshow_fin {w : World} {x s : Int} {ng : Bool} (x0 : 0 ≤ x) (x1 : x < 18446744073709551616) (hs : x % 9223372036854775808 = s) (hng : ng = decide (9223372036854775808 ≤ x)) (s0 : 0 < s) (s1 : s < 9218868437227405312) :
    Calls Tryz.prog 10 #[.int .u64 x] w fun e w' => ShE s ng e ∧ Below w.heap.size w w' := by
  have ea := and_size8 x x0 x1
  rw [hs] at ea
  have n1 : decide (9218868437227405312 < x % 9223372036854775808) = false := decide_eq_false (by omega)
  have n2 : decide (x % 9223372036854775808 = 9218868437227405312) = false := decide_eq_false (by omega)
  have z0 : (s == 0) = false := beq_eq_false_iff_ne.2 (by omega)
  have HN := hide (fun u : World => isnan8 (w := u) x0 x1)
  have HI := hide (fun u : World => isinf8 (w := u) x0 x1)
  have HF := hide (fun u : World => fewest8_any (w := u) x0 x1 hs s0 s1)
  have HS := hide (And.intro s0 s1)
  rw [n1] at HN
  rw [n2] at HI
  clear n1 n2 hs s0 s1 x0 x1
  go_enter Tryz.func10, Tryz.ntmps10
  go_wp2_with fail
  rw [← hng]
  clear hng
  with_reducible refine (HN.out _).mono ?_
  rintro e w1 ⟨rfl, rfl⟩
  clear HN
  go_wp2_with fail
  with_reducible refine (HI.out _).mono ?_
  rintro e w2 ⟨rfl, rfl⟩
  go_wp2_with fail
  with_reducible refine (HI.out _).mono ?_
  rintro e w3 ⟨rfl, rfl⟩
  clear HI
  go_wp2_with fail
  with_reducible refine (HF.out _).mono ?_
  rintro e w4 ⟨⟨p, k, c, sh, h17, -, -, rfl⟩, K⟩
  clear HF ea z0
  obtain ⟨N, td⟩ := td_64 HS.out.1 HS.out.2 sh h17
  have HSH := hide (And.intro sh h17)
  obtain ⟨P, hP⟩ : ∃ P, pt k c p = P := ⟨_, rfl⟩
  have HP := hide hP
  rw [hP] at td ⊢
  obtain ⟨tx, htx⟩ : ∃ tx, strOfNums (txt k c) = tx := ⟨_, rfl⟩
  have HL := hide (fun u : World => rlayout_any (w := u) (ng := ng) (s := tx) (es := txt k c) (n := P) (by have := td.p0; omega) (by have := td.p1; omega) (txt_dig k c).byt htx.symm (by have := td.len; have := td.n2; omega))
  have HB := hide (td_bare td)
  have HK := hide K
  rw [htx]
  clear td sh h17 hP htx HS K
  go_wp2_with fail
  with_reducible refine (HL.out _).mono ?_
  rintro e w5 ⟨l8, K5⟩
  obtain rfl := l8.2 HB.out
  have HKK := hide (below_trans HK.out K5)
  have HR := hide (show ShE _ ng (.returned (.string (strOfNums (layoutT ng (txt k c) P)))) from ⟨p, k, c, HSH.out.1, HSH.out.2, by rw [HP.out]⟩)
  clear l8 K5 HK HL HB HP HSH
  go_wp2
  go_ret
  exact ⟨HR.out, HKK.out⟩

theorem rshow_nan {w : World} {x : Int} (x0 : 0 ≤ x) (x1 : x < 18446744073709551616) (hs : 9218868437227405312 < x % 9223372036854775808) :
    Calls Tryz.prog 10 #[.int .u64 x] w fun e w' => e = .returned (.string ⟨#[78, 97, 78]⟩) ∧ Below w.heap.size w w' := by
  have n1 : decide (9218868437227405312 < x % 9223372036854775808) = true := decide_eq_true (by omega)
  have HN := hide (fun u : World => isnan8 (w := u) x0 x1)
  rw [n1] at HN
  clear n1 hs
  go_enter Tryz.func10, Tryz.ntmps10
  go_wp2_with fail
  with_reducible refine (HN.out _).mono ?_
  rintro e w1 ⟨rfl, rfl⟩
  clear HN
  go_wp2
  go_ret
  exact ⟨rfl, Below.refl _ _⟩
theorem rshow_inf {w : World} : Calls Tryz.prog 10 #[.int .u64 9218868437227405312] w fun e w' => e = .returned (.string ⟨#[73, 110, 102, 105, 110, 105, 116, 121]⟩) ∧ Below w.heap.size w w' := by
  have HN := hide (fun u : World => isnan8 (w := u) (b := 9218868437227405312) (by decide) (by decide))
  have HI := hide (fun u : World => isinf8 (w := u) (x := 9218868437227405312) (by decide) (by decide))
  rw [show decide ((9218868437227405312 : Int) < 9218868437227405312 % 9223372036854775808) = false by decide] at HN
  rw [show decide ((9218868437227405312 : Int) % 9223372036854775808 = 9218868437227405312) = true by decide] at HI
  go_enter Tryz.func10, Tryz.ntmps10
  go_wp2_with fail
  with_reducible refine (HN.out _).mono ?_
  rintro e w1 ⟨rfl, rfl⟩
  clear HN
  go_wp2_with fail
  with_reducible refine (HI.out _).mono ?_
  rintro e w2 ⟨rfl, rfl⟩
  go_wp2_with fail
  with_reducible refine (HI.out _).mono ?_
  rintro e w3 ⟨rfl, rfl⟩
  go_wp2
  go_ret
  exact ⟨rfl, Below.refl _ _⟩
theorem rshow_ninf {w : World} : Calls Tryz.prog 10 #[.int .u64 18442240474082181120] w fun e w' => e = .returned (.string ⟨#[45, 73, 110, 102, 105, 110, 105, 116, 121]⟩) ∧ Below w.heap.size w w' := by
  have HN := hide (fun u : World => isnan8 (w := u) (b := 18442240474082181120) (by decide) (by decide))
  have HI := hide (fun u : World => isinf8 (w := u) (x := 18442240474082181120) (by decide) (by decide))
  rw [show decide ((9218868437227405312 : Int) < 18442240474082181120 % 9223372036854775808) = false by decide] at HN
  rw [show decide ((18442240474082181120 : Int) % 9223372036854775808 = 9218868437227405312) = true by decide] at HI
  go_enter Tryz.func10, Tryz.ntmps10
  go_wp2_with fail
  with_reducible refine (HN.out _).mono ?_
  rintro e w1 ⟨rfl, rfl⟩
  clear HN
  go_wp2_with fail
  with_reducible refine (HI.out _).mono ?_
  rintro e w2 ⟨rfl, rfl⟩
  go_wp2
  go_ret
  exact ⟨rfl, Below.refl _ _⟩
theorem rshow_zero {w : World} {x : Int} (x0 : 0 ≤ x) (x1 : x < 18446744073709551616) (hs : x % 9223372036854775808 = 0) :
    Calls Tryz.prog 10 #[.int .u64 x] w fun e w' => e = .returned (.string ⟨#[48]⟩) ∧ Below w.heap.size w w' := by
  have ea := and_size8 x x0 x1
  rw [hs] at ea
  have n1 : decide (9218868437227405312 < x % 9223372036854775808) = false := decide_eq_false (by omega)
  have n2 : decide (x % 9223372036854775808 = 9218868437227405312) = false := decide_eq_false (by omega)
  have HN := hide (fun u : World => isnan8 (w := u) x0 x1)
  have HI := hide (fun u : World => isinf8 (w := u) x0 x1)
  rw [n1] at HN
  rw [n2] at HI
  clear n1 n2 hs
  go_enter Tryz.func10, Tryz.ntmps10
  go_wp2_with fail
  with_reducible refine (HN.out _).mono ?_
  rintro e w1 ⟨rfl, rfl⟩
  clear HN
  go_wp2_with fail
  with_reducible refine (HI.out _).mono ?_
  rintro e w2 ⟨rfl, rfl⟩
  go_wp2_with fail
  with_reducible refine (HI.out _).mono ?_
  rintro e w3 ⟨rfl, rfl⟩
  clear HI
  go_wp2
  go_ret
  exact ⟨rfl, Below.refl _ _⟩

end Go.Proofs.YtinfkoiifemjmaaGreatDoor

namespace Go.Proofs.YtinfkoiifemjmaaGreatDoor
open Go.RowKit
set_option linter.unusedVariables false
set_option linter.unusedSimpArgs false

/-- both show the same text -/
theorem shown8 {w : World} {a : Nat → Addr} {x : Int} {t : ByteArray} (h : Ew w a) (hp : Hid (∀ u, Ew u a → Calls Tryz.prog 9 #[.int .u64 x] u fun e w' => e = .returned (.string t) ∧ Below u.heap.size u w')) (hr : Hid (∀ u, Calls Tryz.prog 10 #[.int .u64 x] u fun e w' => e = .returned (.string t) ∧ Below u.heap.size u w')) :
    Calls Tryz.prog 4 #[.int .u64 x] w fun e w' => e = .returned (.bool true) ∧ Below w.heap.size w w' := by
  have HE := hide h
  clear h
  go_enter Tryz.func4, Tryz.ntmps4
  go_wp2_with fail
  with_reducible refine (hp.out _ HE.out).mono ?_
  rintro e w1 ⟨rfl, K1⟩
  replace HE := hide (HE.out.below K1)
  have HK := hide K1
  clear K1 hp
  go_wp2_with fail
  with_reducible refine (hr.out _).mono ?_
  rintro e w2 ⟨rfl, K2⟩
  replace HE := hide (HE.out.below K2)
  replace HK := hide (below_trans HK.out K2)
  clear K2 hr
  go_wp2_with fail
  with_reducible refine (lives8_any HE.out).mono ?_
  rintro e w3 ⟨rfl, K3⟩
  replace HK := hide (below_trans HK.out K3)
  clear K3 HE
  go_wp2
  go_ret
  exact ⟨rfl, HK.out⟩

set_option maxRecDepth 100000 in
set_option maxHeartbeats 8000000 in
theorem shown8_fin {w : World} {a : Nat → Addr} {x s : Int} (h : Ew w a) (x0 : 0 ≤ x) (x1 : x < 18446744073709551616) (hs : x % 9223372036854775808 = s) (s0 : 0 < s) (s1 : s < 9218868437227405312) :
    Calls Tryz.prog 4 #[.int .u64 x] w fun e w' => e = .returned (.bool true) ∧ Below w.heap.size w w' := by
  obtain ⟨ng, hng⟩ : ∃ ng, ng = decide (9223372036854775808 ≤ x) := ⟨_, rfl⟩
  have HE := hide h
  have HP := hide (fun (u : World) (k : Ew u a) => show_sh (w := u) k.T k.U k.P k.g x0 x1 hs hng s0 s1)
  have HR := hide (fun (u : World) => rshow_fin (w := u) x0 x1 hs hng s0 s1)
  clear h x0 x1 hs hng s0 s1
  go_enter Tryz.func4, Tryz.ntmps4
  go_wp2_with fail
  with_reducible refine (HP.out _ HE.out).mono ?_
  rintro e w1 ⟨p, k, c, sh, -, rfl, K1⟩
  replace HE := hide (HE.out.below K1)
  have HK := hide K1
  have HSH := hide sh
  obtain ⟨tx, htx⟩ : ∃ tx, tx = strOfNums (layoutT ng (txt k c) (pt k c p)) := ⟨_, rfl⟩
  have HT := hide htx
  rw [← htx]
  clear K1 HP sh htx
  go_wp2_with fail
  with_reducible refine (HR.out _).mono ?_
  rintro e w2 ⟨⟨p', k', c', sh', -, rfl⟩, K2⟩
  obtain ⟨rfl, rfl, rfl⟩ := Sh.unique (gG_pos _) HSH.out sh'
  rw [← HT.out]
  replace HE := hide (HE.out.below K2)
  replace HK := hide (below_trans HK.out K2)
  clear K2 HR sh' HSH HT
  go_wp2_with fail
  with_reducible refine (lives8_any HE.out).mono ?_
  rintro e w3 ⟨rfl, K3⟩
  replace HK := hide (below_trans HK.out K3)
  clear K3 HE
  go_wp2
  go_ret
  exact ⟨rfl, HK.out⟩

theorem eshows_walk {w : World} {a : Nat → Addr} {x : Int} (h : Ew w a) (x0 : 0 ≤ x) (x1 : x < 18446744073709551616) :
    Calls Tryz.prog 4 #[.int .u64 x] w fun e w' => e = .returned (.bool true) ∧ Below w.heap.size w w' := by
  rcases Int.lt_trichotomy (x % 9223372036854775808) 9218868437227405312 with g | g | g
  · by_cases z : x % 9223372036854775808 = 0
    · exact shown8 h (hide (fun u k => show_zero k.T x0 x1 z)) (hide (fun u => rshow_zero x0 x1 z))
    · exact shown8_fin h x0 x1 rfl (by omega) g
  · rcases (show x = 9218868437227405312 ∨ x = 18442240474082181120 by omega) with rfl | rfl
    · exact shown8 h (hide (fun u k => show_inf k.T)) (hide (fun u => rshow_inf))
    · exact shown8 h (hide (fun u k => show_ninf k.T)) (hide (fun u => rshow_ninf))
  · exact shown8 h (hide (fun u k => show_nan k.T x0 x1 g)) (hide (fun u => rshow_nan x0 x1 g))

end Go.Proofs.YtinfkoiifemjmaaGreatDoor
