/- ecma: a sign more or less turns the sign bit alone -/
import Derived.Test.YtfnfnkakaggmbabGreatDoorQ27
namespace Go.Proofs.YtfnfnkakaggmbabGreatDoor
open Go.RowKit
set_option linter.unusedVariables false

theorem pwF_min {lim : Int} (l0 : 0 ≤ lim) : ∀ (ds : List Int) (z : Int), Dgt ds → 0 ≤ z → pwF lim ds (min z lim) = min (z * tn ds.length + dg ds) lim
  | [], z, _, h0 => by simp [pwF, dg, tn_zero]
  | c :: r, z, h, h0 => by
    have hc := h c List.mem_cons_self
    have ih := pwF_min l0 r (10 * z + (c - 48)) (fun x hx => h x (List.mem_cons_of_mem _ hx)) (by omega)
    have hr := dg_range (xs := r) (fun x hx => h x (List.mem_cons_of_mem _ hx))
    rw [pwF, List.length_cons, tn_succ, dg]
    have e1 : min (10 * min z lim + (c - 48)) lim = min (10 * z + (c - 48)) lim := by omega
    rw [e1, ih]
    have e2 : (10 * z + (c - 48)) * tn r.length + dg r = z * (10 * tn r.length) + ((c - 48) * tn r.length + dg r) := by grind
    rw [e2]
theorem pwF_zero {lim : Int} (l0 : 0 ≤ lim) {ds : List Int} (h : Dgt ds) : pwF lim ds 0 = min (dg ds) lim := by
  have := pwF_min l0 ds 0 h (by omega)
  rw [Int.zero_mul, Int.zero_add, show min 0 lim = 0 by omega] at this
  exact this
/-- what a text and its like with another sign tell -/
theorem voB_cut {es es' : List Int} (h : cutB es 45 = cutB es' 45) : voB es = voB es' ∧ voDs es = voDs es' ∧ ∀ lim, voP lim es = voP lim es' := by
  have e1 : voB es = voB es' := by unfold voB; rw [h]
  have e2 : voT es = voT es' := by unfold voT; rw [h]
  refine ⟨e1, by unfold voDs; rw [e1], fun lim => ?_⟩
  unfold voP; rw [h, e2]
theorem voPt_r {es es' : List Int} {r r' : Int} (h : cutB es 45 = cutB es' 45) (hok : (scG es 0 0).2 = true)
    (hv : DV 4503599627370496 (-1074) 9218868437227405312 (dg (voDs es)) (voPt es - (voDs es).length) r) (hv' : DV 4503599627370496 (-1074) 9218868437227405312 (dg (voDs es')) (voPt es' - (voDs es').length) r') : r' = r := by
  obtain ⟨e1, e2, e3⟩ := voB_cut h
  obtain ⟨h1, h2, h3⟩ := scan_value hok
  rw [← e2] at hv'
  have hD : Dgt (voDs es) := h3
  have hr := dg_range hD
  have hcl := cutB_len es 45
  have hcl' := cutB_len es' 45
  have hbl : (voB es).length ≤ (cutB es 45).length := by
    unfold voB; split
    · exact Nat.le_refl _
    · rw [List.length_take]; omega
  have hwl := voWF_len (voB es)
  have hW1 : (voDs es).length = (voW (voB es)).length + (voF (voB es)).length := by unfold voDs; rw [List.length_append]
  have hws : (voW (voB es)).length + (voF (voB es)).length ≤ (voB es).length := by
    unfold voW voF
    have := ixB_range 46 (voB es)
    split
    · simp
    · rw [List.length_take, List.length_drop]; omega
  unfold voPt at hv hv'
  rw [← e1, ← e3] at hv'
  rw [← h] at hcl'
  obtain ⟨A, hA⟩ : ∃ A : Int, ((es.length : Int) + 400) = A := ⟨_, rfl⟩
  obtain ⟨A', hA'⟩ : ∃ A : Int, ((es'.length : Int) + 400) = A := ⟨_, rfl⟩
  obtain ⟨M, hM⟩ : ∃ M, (cutB es 45).length = M := ⟨_, rfl⟩
  have a1 : (M : Int) + 400 ≤ A := by omega
  have a2 : (M : Int) + 400 ≤ A' := by omega
  rw [hA] at hv
  rw [hA'] at hv'
  by_cases hm : ixE (cutB es 45) = -1
  · have z1 : ∀ lim, voP lim es = 0 := fun lim => by unfold voP; rw [if_pos hm]
    rw [z1] at hv hv'
    exact dv_same (by decide) hv' hv (dle_refl _ _) (dle_refl _ _)
  · have hp := h2 hm
    obtain ⟨v, hvv⟩ : ∃ v, dg (cutB (cutB (voT es) 45) 43) = v := ⟨_, rfl⟩
    have v0 : 0 ≤ v := by rw [← hvv]; exact (dg_range hp).1
    have z1 : ∀ lim, 0 ≤ lim → voP lim es = if headB (voT es) 45 then -(min v lim) else min v lim := fun lim l0 => by
      unfold voP; rw [if_neg hm, pwF_zero l0 hp, hvv]
    rw [z1 A (by omega)] at hv
    rw [z1 A' (by omega)] at hv'
    by_cases hs : v ≤ (M : Int) + 400
    · rw [show min v A = v by omega] at hv
      rw [show min v A' = v by omega] at hv'
      exact dv_same (by decide) hv' hv (dle_refl _ _) (dle_refl _ _)
    · have b1 : (M : Int) + 400 ≤ min v A := by omega
      have b2 : (M : Int) + 400 ≤ min v A' := by omega
      generalize min v A = B at hv b1
      generalize min v A' = B' at hv' b2
      by_cases hg : headB (voT es) 45 = true
      · rw [if_pos hg] at hv hv'
        have c1 := dv_small wide_d (q := ((voW (voB es)).length : Int) + -B - (voDs es).length) hr.1 hr.2 (by omega)
        have c2 := dv_small wide_d (q := ((voW (voB es)).length : Int) + -B' - (voDs es).length) hr.1 hr.2 (by omega)
        rw [dv_same (by decide) hv c1 (dle_refl _ _) (dle_refl _ _), dv_same (by decide) hv' c2 (dle_refl _ _) (dle_refl _ _)]
      · rw [if_neg hg] at hv hv'
        by_cases hz : dg (voDs es) = 0
        · rw [hz] at hv hv'
          rw [dv_same (by decide) hv (dv_zero wide_d) (dle_refl _ _) (dle_refl _ _), dv_same (by decide) hv' (dv_zero wide_d) (dle_refl _ _) (dle_refl _ _)]
        · have hN : tn 0 ≤ dg (voDs es) := by rw [tn_zero]; omega
          have c1 := dv_large wide_d (q := ((voW (voB es)).length : Int) + B - (voDs es).length) hN (by omega)
          have c2 := dv_large wide_d (q := ((voW (voB es)).length : Int) + B' - (voDs es).length) hN (by omega)
          rw [dv_same (by decide) hv c1 (dle_refl _ _) (dle_refl _ _), dv_same (by decide) hv' c2 (dle_refl _ _) (dle_refl _ _)]
/-- the text with the other sign: it is taken, and bears the other sign -/
def flipE (es : List Int) : List Int := if headB es 45 then es.drop 1 else 45 :: es
theorem flipE_ok {es : List Int} (hok : (scG es 0 0).2 = true) : (scG (flipE es) 0 0).2 = true ∧ headB (flipE es) 45 = !headB es 45 ∧ cutB es 45 = cutB (flipE es) 45 := by
  have ha := acc_of hok
  have h1 := acc_sign ha
  have hnd : headB (cutB es 45) 45 = false := by
    cases hc : cutB es 45 with
    | nil => rfl
    | cons c r =>
      rw [hc] at h1
      rw [acc] at h1
      simp at h1
      have : c ≠ 45 := fun e => by subst e; exact absurd h1.1 (by decide)
      simp [headB, this]
  unfold flipE
  cases hh : headB es 45 with
  | true =>
    have e : cutB es 45 = es.drop 1 := by unfold cutB; rw [hh]; rfl
    rw [if_pos rfl]
    rw [e] at hnd h1
    refine ⟨?_, by rw [hnd]; rfl, ?_⟩
    · have := acc_sign0 (U := es.drop 1) false hnd h1
      exact acc_scan (by simpa using this)
    · rw [e]; unfold cutB; rw [hnd]; rfl
  | false =>
    have e : cutB es 45 = es := by unfold cutB; rw [hh]; rfl
    rw [if_neg (by simp)]
    rw [e] at hnd h1
    refine ⟨?_, rfl, ?_⟩
    · have := acc_sign0 (U := es) true hnd h1
      exact acc_scan (by simpa using this)
    · rw [e]; unfold cutB headB; simp
theorem xor_top {x : Int} (h0 : 0 ≤ x) (h1 : x < 18446744073709551616) : bits .xor .u64 x 9223372036854775808 = if x < 9223372036854775808 then x + 9223372036854775808 else x - 9223372036854775808 := by
  rw [u64_xor x 9223372036854775808 h0 (by omega) (by decide) (by decide)]
  obtain ⟨b, rfl⟩ : ∃ b : Nat, x = (b : Int) := ⟨x.toNat, by omega⟩
  rw [Int.toNat_natCast, show (9223372036854775808 : Int).toNat = 2 ^ 63 by decide]
  by_cases c : b < 2 ^ 63
  · rw [if_pos (by omega)]
    have h1 := Nat.two_pow_add_eq_or_of_lt (i := 63) (b := b) c 1
    rw [Nat.mul_one] at h1
    have h2 : b ^^^ 2 ^ 63 = 2 ^ 63 ||| b := by
      apply Nat.eq_of_testBit_eq
      intro i
      rw [Nat.testBit_xor, Nat.testBit_or, Nat.testBit_two_pow]
      by_cases d : 63 = i
      · subst d
        rw [Nat.testBit_lt_two_pow c]; rfl
      · simp [d]
    rw [h2, ← h1]; omega
  · rw [if_neg (by omega)]
    obtain ⟨d, rfl⟩ : ∃ d, b = 2 ^ 63 + d := ⟨b - 2 ^ 63, by omega⟩
    have hd : d < 2 ^ 63 := by omega
    have h1 := Nat.two_pow_add_eq_or_of_lt (i := 63) (b := d) hd 1
    rw [Nat.mul_one] at h1
    have h2 : (2 ^ 63 + d) ^^^ 2 ^ 63 = d := by
      rw [h1]
      apply Nat.eq_of_testBit_eq
      intro i
      rw [Nat.testBit_xor, Nat.testBit_or, Nat.testBit_two_pow]
      by_cases e : 63 = i
      · subst e
        rw [Nat.testBit_lt_two_pow hd]; rfl
      · simp [e]
    rw [h2]; omega

end Go.Proofs.YtfnfnkakaggmbabGreatDoor
