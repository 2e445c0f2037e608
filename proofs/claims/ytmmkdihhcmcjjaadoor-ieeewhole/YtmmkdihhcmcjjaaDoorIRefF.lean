/- crucibleref04.From (mk_iwhole.py) -/
import Derived.Test.YtmmkdihhcmcjjaaDoorIFrom
import Derived.Test.YtmmkdihhcmcjjaaDoorIRefRS
import Derived.Test.YtmmkdihhcmcjjaaDoorIRefRD
namespace Go.Proofs.YtmmkdihhcmcjjaaDoor
open Go.RowKit
set_option linter.unusedVariables false

theorem canon_len {zs : List Int} {a : Int} (hc : Nt.Canon zs) (hv : Nt.val zs = a) : 0 < zs.length ↔ 0 < a := by
  have h1 := Nt.val_nonneg hc.1
  constructor
  · intro h0
    rcases Int.lt_or_eq_of_le h1 with h2 | h2
    · omega
    · have h3 := Nt.canon_unique hc Nt.canon_nil (by rw [← h2]; rfl)
      rw [h3] at h0; simp at h0
  · intro h0
    rcases Nat.eq_zero_or_pos zs.length with h1 | h1
    · rw [List.eq_nil_of_length_eq_zero h1] at hv
      have : Nt.val [] = 0 := rfl
      omega
    · exact h1
theorem int_sign {F L I S s n : Int} {ng ok : Bool} (hF : 0 < F) (hS : 2 * F ≤ S) (hL : -1100 ≤ L) (s0 : 0 ≤ s) (s1 : s < S) (hq : est F L s ≤ 2100) (hS2 : S ≤ 9223372036854775808) (h : IntIs F L I s ng n ok) : (ng = true → n ≤ 0) ∧ (ng = false → 0 ≤ n) := by
  obtain ⟨a, m, E, k, hP, h1⟩ := h
  obtain ⟨m0, -⟩ := part_bounds hF hS hL s0 s1 hq hS2 hP
  rcases h1 with ⟨rfl, c2, rfl, rfl⟩ | ⟨c1, rfl, rfl⟩
  · have hv : 0 ≤ m * p2 E.toNat := Int.mul_nonneg m0 (Int.le_of_lt (p2_pos _))
    have ha : a = ng := by
      rcases Int.lt_or_le s I with c | c
      · exact (hP.2 c).2.1
      · have := (hP.1 c).2.2.2; cases this
    subst ha
    unfold wn
    cases a <;> simp <;> omega
  · exact ⟨fun _ => by omega, fun _ => by omega⟩
theorem mag_same {n n2 : Int} {ng : Bool} (hng : ng = decide (n < 0)) (h : (ng = true → n2 ≤ 0) ∧ (ng = false → 0 ≤ n2)) : decide (mag n2 = mag n) = decide (n2 = n) := by
  rw [hng] at h
  refine decide_eq_decide.2 ?_
  unfold mag
  by_cases c : n < 0
  · have := h.1 (decide_eq_true c)
    rw [if_pos c]
    split <;> omega
  · have := h.2 (decide_eq_false c)
    rw [if_neg c]
    split <;> omega

set_option maxRecDepth 20000 in
set_option maxHeartbeats 8000000 in
theorem rFrom_h {w : World} {vx : Value} {n : Int} {k : Nat} (hx : WArg w vx n k) (hk : k ≤ 1048576) : Calls Tryd.prog 20 #[.int .i64 16, vx] w fun e w' => ∃ y ok, e = .returned (.tuple #[.int .u64 y, .bool ok]) ∧ FromR 32768 1024 (-24) 31744 n y ok ∧ Below w.heap.size w w' := by
  obtain ⟨xg, xm, xa, rfl, ha, hn⟩ := hx
  have A0 := ha.nonneg
  have hmn : mag n = xa := by unfold mag; rw [hn]; unfold wn; cases xg <;> simp <;> omega
  have Hmn := hide (show 0 ≤ mag n by omega)
  have ha' := ha
  obtain ⟨zs, ⟨xo, xc, rfl, -⟩, -⟩ := ha'
  go_enter Tryd.func20, Tryd.ntmps20
  go_upto_region 1 with fail
  have D := cell2_new w (.bool xg) (.slice xo zs.length xc) 38
  have K := bel_new w (.cells #[.bool xg, .slice xo zs.length xc] 38)
  replace ha := ha.below K
  generalize w.alloc (.cells #[.bool xg, .slice xo zs.length xc] 38) = w1 at *
  obtain ⟨c0, c1, -, -⟩ := D.told
  go_wp2_with fail
  with_reducible refine (rnorm_any ha (by omega)).mono ?_
  rintro x' w2 ⟨vm, rfl, hM, kb⟩
  clear c0 c1 ha
  obtain ⟨c0, c1, -, -⟩ := (D.below kb).told
  replace K := below_trans K kb
  clear kb D
  rw [← hmn] at hM
  have HM := hide hM
  obtain ⟨ys, ⟨yo, rfl, -, -⟩, hcan, hval, -⟩ := hM
  have hlen := canon_len hcan hval
  have Hn := hide hn
  have Hmx := hide hmn
  clear hcan hval hn hmn
  have Hlen := hide hlen
  clear hlen
  cases xg
  · skip
    have hng : false = decide (n < 0) := by have h := Hn.out; unfold wn at h; simp at h; rw [decide_eq_false]; omega
    have Hng := hide hng
    clear hng
    go_wp2_with fail
    with_reducible refine (rRound_h (neg := false) (more := false) (e := 0) HM.out.arg (by omega) (by decide) (by decide)).mono ?_
    rintro x' w4 ⟨⟨r, A', e', mb', rfl, hN, hS⟩, kb⟩
    replace K := below_trans K kb
    have HM2 := hide (HM.out.below kb)
    clear kb HM
    have r0 := hN.1
    have r1 := hN.2.1
    have HN := hide (show ∀ r', Near 1024 (-24) 31744 (2 * mag n + b2i false) (0 - 1) r' → r' = r from fun r' h => stick_same (fr := 10) (by decide) (by decide) Hmn.out h hN hS)
    clear hN hS
    obtain ⟨y1, y2, y3, y4⟩ := sgn_split (S := 32768) false r0 (by omega)
    generalize hy : r + b2i false * 32768 = y at *
    have HY := hide hy
    clear hy
    go_wp2_with fail
    with_reducible refine (rInt_h _ y r false y3 (by omega) y1 y2).mono ?_
    rintro x' w5 ⟨vb, n2, ok, rfl, hQ, hI, kb⟩
    replace K := below_trans K kb
    have HM3 := hide (HM2.out.below kb)
    clear kb HM2
    have hsn := int_sign (F := 1024) (L := (-24)) (S := 32768) (by decide) (by decide) (by decide) r0 (by omega) (by unfold est; split <;> omega) (by decide) hI
    have hms := mag_same Hng.out hsn
    have HF : ∀ b, b = (ok && decide (n2 = n)) → Hid (FromR 32768 1024 (-24) 31744 n y b) := by
      intro b hb
      refine hide ⟨r, n2, ok, r0, HN.out, ?_, ?_, hb⟩
      · rw [← Hng.out]; exact HY.out.symm
      · rw [← Hng.out]; exact hI
    clear hI y1 y2 HN HY Hng hsn
    obtain ⟨qg, qo, ql, rfl⟩ := hQ.told
    go_upto_region 4 with fail
    have D2 := cell2_new w5 (.bool qg) (.slice qo ql ql) 38
    have k2 := bel_new w5 (.cells #[.bool qg, .slice qo ql ql] 38)
    replace K := below_trans K k2
    have HM4 := hide (HM3.out.below k2)
    replace hQ := hQ.below k2
    clear k2 HM3
    generalize w5.heap.size = b2 at *
    generalize w5.alloc (.cells #[.bool qg, .slice qo ql ql] 38) = w6 at *
    obtain ⟨d0, d1, -, -⟩ := D2.told
    cases ok
    · have H1 := HF false (by simp)
      clear HF
      go_wp2
      go_ret2
      exact ⟨y, _, rfl, H1.out, K⟩
    go_wp2_with fail
    with_reducible refine (rcmp_any (wnum_sign hQ).2.arg HM4.out.arg (by omega) (by omega)).mono ?_
    rintro x' w7 ⟨rfl, kb⟩
    replace K := below_trans K kb
    have hz := sgn_zero (x := mag n2) (y := mag n)
    rw [hms] at hz
    generalize sgn (mag n2) (mag n) = c at *
    clear d0 d1 kb hQ HM4 D2 hms
    by_cases en : n2 = n
    · have hc : (c == 0) = true := by rw [hz, decide_eq_true en]
      have H1 := HF true (by rw [decide_eq_true en]; rfl)
      clear HF hz en
      go_wp2
      go_ret2
      exact ⟨y, _, rfl, H1.out, K⟩
    · have hc : (c == 0) = false := by rw [hz, decide_eq_false en]
      have H1 := HF false (by rw [decide_eq_false en]; rfl)
      clear HF hz en
      go_wp2
      go_ret2
      exact ⟨y, _, rfl, H1.out, K⟩
  by_cases pos : 0 < ys.length
  · have hp := Hlen.out.1 pos
    have pos' : (0 : Int) < (ys.length : Int) := by omega
    have hng : true = decide (n < 0) := by have h := Hn.out; have h2 := Hmx.out; unfold wn at h; simp at h; rw [decide_eq_true]; omega
    have Hng := hide hng
    clear hng
    go_wp2_with fail
    with_reducible refine (rRound_h (neg := true) (more := false) (e := 0) HM.out.arg (by omega) (by decide) (by decide)).mono ?_
    rintro x' w4 ⟨⟨r, A', e', mb', rfl, hN, hS⟩, kb⟩
    replace K := below_trans K kb
    have HM2 := hide (HM.out.below kb)
    clear kb HM
    have r0 := hN.1
    have r1 := hN.2.1
    have HN := hide (show ∀ r', Near 1024 (-24) 31744 (2 * mag n + b2i false) (0 - 1) r' → r' = r from fun r' h => stick_same (fr := 10) (by decide) (by decide) Hmn.out h hN hS)
    clear hN hS
    obtain ⟨y1, y2, y3, y4⟩ := sgn_split (S := 32768) true r0 (by omega)
    generalize hy : r + b2i true * 32768 = y at *
    have HY := hide hy
    clear hy
    go_wp2_with fail
    with_reducible refine (rInt_h _ y r true y3 (by omega) y1 y2).mono ?_
    rintro x' w5 ⟨vb, n2, ok, rfl, hQ, hI, kb⟩
    replace K := below_trans K kb
    have HM3 := hide (HM2.out.below kb)
    clear kb HM2
    have hsn := int_sign (F := 1024) (L := (-24)) (S := 32768) (by decide) (by decide) (by decide) r0 (by omega) (by unfold est; split <;> omega) (by decide) hI
    have hms := mag_same Hng.out hsn
    have HF : ∀ b, b = (ok && decide (n2 = n)) → Hid (FromR 32768 1024 (-24) 31744 n y b) := by
      intro b hb
      refine hide ⟨r, n2, ok, r0, HN.out, ?_, ?_, hb⟩
      · rw [← Hng.out]; exact HY.out.symm
      · rw [← Hng.out]; exact hI
    clear hI y1 y2 HN HY Hng hsn
    obtain ⟨qg, qo, ql, rfl⟩ := hQ.told
    go_upto_region 4 with fail
    have D2 := cell2_new w5 (.bool qg) (.slice qo ql ql) 38
    have k2 := bel_new w5 (.cells #[.bool qg, .slice qo ql ql] 38)
    replace K := below_trans K k2
    have HM4 := hide (HM3.out.below k2)
    replace hQ := hQ.below k2
    clear k2 HM3
    generalize w5.heap.size = b2 at *
    generalize w5.alloc (.cells #[.bool qg, .slice qo ql ql] 38) = w6 at *
    obtain ⟨d0, d1, -, -⟩ := D2.told
    cases ok
    · have H1 := HF false (by simp)
      clear HF
      go_wp2
      go_ret2
      exact ⟨y, _, rfl, H1.out, K⟩
    go_wp2_with fail
    with_reducible refine (rcmp_any (wnum_sign hQ).2.arg HM4.out.arg (by omega) (by omega)).mono ?_
    rintro x' w7 ⟨rfl, kb⟩
    replace K := below_trans K kb
    have hz := sgn_zero (x := mag n2) (y := mag n)
    rw [hms] at hz
    generalize sgn (mag n2) (mag n) = c at *
    clear d0 d1 kb hQ HM4 D2 hms
    by_cases en : n2 = n
    · have hc : (c == 0) = true := by rw [hz, decide_eq_true en]
      have H1 := HF true (by rw [decide_eq_true en]; rfl)
      clear HF hz en
      go_wp2
      go_ret2
      exact ⟨y, _, rfl, H1.out, K⟩
    · have hc : (c == 0) = false := by rw [hz, decide_eq_false en]
      have H1 := HF false (by rw [decide_eq_false en]; rfl)
      clear HF hz en
      go_wp2
      go_ret2
      exact ⟨y, _, rfl, H1.out, K⟩
  · have hp : ¬ 0 < mag n := fun h => pos (Hlen.out.2 h)
    have pos' : ¬ (0 : Int) < (ys.length : Int) := by omega
    have pos2 : decide ((0 : Int) < (ys.length : Int)) = false := decide_eq_false pos'
    have hng : false = decide (n < 0) := by have h := Hn.out; have h2 := Hmx.out; unfold wn at h; simp at h; rw [decide_eq_false]; omega
    have Hng := hide hng
    clear hng
    go_wp2_with fail
    with_reducible refine (rRound_h (neg := false) (more := false) (e := 0) HM.out.arg (by omega) (by decide) (by decide)).mono ?_
    rintro x' w4 ⟨⟨r, A', e', mb', rfl, hN, hS⟩, kb⟩
    replace K := below_trans K kb
    have HM2 := hide (HM.out.below kb)
    clear kb HM
    have r0 := hN.1
    have r1 := hN.2.1
    have HN := hide (show ∀ r', Near 1024 (-24) 31744 (2 * mag n + b2i false) (0 - 1) r' → r' = r from fun r' h => stick_same (fr := 10) (by decide) (by decide) Hmn.out h hN hS)
    clear hN hS
    obtain ⟨y1, y2, y3, y4⟩ := sgn_split (S := 32768) false r0 (by omega)
    generalize hy : r + b2i false * 32768 = y at *
    have HY := hide hy
    clear hy
    go_wp2_with fail
    with_reducible refine (rInt_h _ y r false y3 (by omega) y1 y2).mono ?_
    rintro x' w5 ⟨vb, n2, ok, rfl, hQ, hI, kb⟩
    replace K := below_trans K kb
    have HM3 := hide (HM2.out.below kb)
    clear kb HM2
    have hsn := int_sign (F := 1024) (L := (-24)) (S := 32768) (by decide) (by decide) (by decide) r0 (by omega) (by unfold est; split <;> omega) (by decide) hI
    have hms := mag_same Hng.out hsn
    have HF : ∀ b, b = (ok && decide (n2 = n)) → Hid (FromR 32768 1024 (-24) 31744 n y b) := by
      intro b hb
      refine hide ⟨r, n2, ok, r0, HN.out, ?_, ?_, hb⟩
      · rw [← Hng.out]; exact HY.out.symm
      · rw [← Hng.out]; exact hI
    clear hI y1 y2 HN HY Hng hsn
    obtain ⟨qg, qo, ql, rfl⟩ := hQ.told
    go_upto_region 4 with fail
    have D2 := cell2_new w5 (.bool qg) (.slice qo ql ql) 38
    have k2 := bel_new w5 (.cells #[.bool qg, .slice qo ql ql] 38)
    replace K := below_trans K k2
    have HM4 := hide (HM3.out.below k2)
    replace hQ := hQ.below k2
    clear k2 HM3
    generalize w5.heap.size = b2 at *
    generalize w5.alloc (.cells #[.bool qg, .slice qo ql ql] 38) = w6 at *
    obtain ⟨d0, d1, -, -⟩ := D2.told
    cases ok
    · have H1 := HF false (by simp)
      clear HF
      go_wp2
      go_ret2
      exact ⟨y, _, rfl, H1.out, K⟩
    go_wp2_with fail
    with_reducible refine (rcmp_any (wnum_sign hQ).2.arg HM4.out.arg (by omega) (by omega)).mono ?_
    rintro x' w7 ⟨rfl, kb⟩
    replace K := below_trans K kb
    have hz := sgn_zero (x := mag n2) (y := mag n)
    rw [hms] at hz
    generalize sgn (mag n2) (mag n) = c at *
    clear d0 d1 kb hQ HM4 D2 hms
    by_cases en : n2 = n
    · have hc : (c == 0) = true := by rw [hz, decide_eq_true en]
      have H1 := HF true (by rw [decide_eq_true en]; rfl)
      clear HF hz en
      go_wp2
      go_ret2
      exact ⟨y, _, rfl, H1.out, K⟩
    · have hc : (c == 0) = false := by rw [hz, decide_eq_false en]
      have H1 := HF false (by rw [decide_eq_false en]; rfl)
      clear HF hz en
      go_wp2
      go_ret2
      exact ⟨y, _, rfl, H1.out, K⟩

set_option maxRecDepth 20000 in
set_option maxHeartbeats 8000000 in
theorem rFrom_s {w : World} {vx : Value} {n : Int} {k : Nat} (hx : WArg w vx n k) (hk : k ≤ 1048576) : Calls Tryd.prog 20 #[.int .i64 32, vx] w fun e w' => ∃ y ok, e = .returned (.tuple #[.int .u64 y, .bool ok]) ∧ FromR 2147483648 8388608 (-149) 2139095040 n y ok ∧ Below w.heap.size w w' := by
  obtain ⟨xg, xm, xa, rfl, ha, hn⟩ := hx
  have A0 := ha.nonneg
  have hmn : mag n = xa := by unfold mag; rw [hn]; unfold wn; cases xg <;> simp <;> omega
  have Hmn := hide (show 0 ≤ mag n by omega)
  have ha' := ha
  obtain ⟨zs, ⟨xo, xc, rfl, -⟩, -⟩ := ha'
  go_enter Tryd.func20, Tryd.ntmps20
  go_upto_region 1 with fail
  have D := cell2_new w (.bool xg) (.slice xo zs.length xc) 38
  have K := bel_new w (.cells #[.bool xg, .slice xo zs.length xc] 38)
  replace ha := ha.below K
  generalize w.alloc (.cells #[.bool xg, .slice xo zs.length xc] 38) = w1 at *
  obtain ⟨c0, c1, -, -⟩ := D.told
  go_wp2_with fail
  with_reducible refine (rnorm_any ha (by omega)).mono ?_
  rintro x' w2 ⟨vm, rfl, hM, kb⟩
  clear c0 c1 ha
  obtain ⟨c0, c1, -, -⟩ := (D.below kb).told
  replace K := below_trans K kb
  clear kb D
  rw [← hmn] at hM
  have HM := hide hM
  obtain ⟨ys, ⟨yo, rfl, -, -⟩, hcan, hval, -⟩ := hM
  have hlen := canon_len hcan hval
  have Hn := hide hn
  have Hmx := hide hmn
  clear hcan hval hn hmn
  have Hlen := hide hlen
  clear hlen
  cases xg
  · skip
    have hng : false = decide (n < 0) := by have h := Hn.out; unfold wn at h; simp at h; rw [decide_eq_false]; omega
    have Hng := hide hng
    clear hng
    go_wp2_with fail
    with_reducible refine (rRound_s (neg := false) (more := false) (e := 0) HM.out.arg (by omega) (by decide) (by decide)).mono ?_
    rintro x' w4 ⟨⟨r, A', e', mb', rfl, hN, hS⟩, kb⟩
    replace K := below_trans K kb
    have HM2 := hide (HM.out.below kb)
    clear kb HM
    have r0 := hN.1
    have r1 := hN.2.1
    have HN := hide (show ∀ r', Near 8388608 (-149) 2139095040 (2 * mag n + b2i false) (0 - 1) r' → r' = r from fun r' h => stick_same (fr := 23) (by decide) (by decide) Hmn.out h hN hS)
    clear hN hS
    obtain ⟨y1, y2, y3, y4⟩ := sgn_split (S := 2147483648) false r0 (by omega)
    generalize hy : r + b2i false * 2147483648 = y at *
    have HY := hide hy
    clear hy
    go_wp2_with fail
    with_reducible refine (rInt_s _ y r false y3 (by omega) y1 y2).mono ?_
    rintro x' w5 ⟨vb, n2, ok, rfl, hQ, hI, kb⟩
    replace K := below_trans K kb
    have HM3 := hide (HM2.out.below kb)
    clear kb HM2
    have hsn := int_sign (F := 8388608) (L := (-149)) (S := 2147483648) (by decide) (by decide) (by decide) r0 (by omega) (by unfold est; split <;> omega) (by decide) hI
    have hms := mag_same Hng.out hsn
    have HF : ∀ b, b = (ok && decide (n2 = n)) → Hid (FromR 2147483648 8388608 (-149) 2139095040 n y b) := by
      intro b hb
      refine hide ⟨r, n2, ok, r0, HN.out, ?_, ?_, hb⟩
      · rw [← Hng.out]; exact HY.out.symm
      · rw [← Hng.out]; exact hI
    clear hI y1 y2 HN HY Hng hsn
    obtain ⟨qg, qo, ql, rfl⟩ := hQ.told
    go_upto_region 4 with fail
    have D2 := cell2_new w5 (.bool qg) (.slice qo ql ql) 38
    have k2 := bel_new w5 (.cells #[.bool qg, .slice qo ql ql] 38)
    replace K := below_trans K k2
    have HM4 := hide (HM3.out.below k2)
    replace hQ := hQ.below k2
    clear k2 HM3
    generalize w5.heap.size = b2 at *
    generalize w5.alloc (.cells #[.bool qg, .slice qo ql ql] 38) = w6 at *
    obtain ⟨d0, d1, -, -⟩ := D2.told
    cases ok
    · have H1 := HF false (by simp)
      clear HF
      go_wp2
      go_ret2
      exact ⟨y, _, rfl, H1.out, K⟩
    go_wp2_with fail
    with_reducible refine (rcmp_any (wnum_sign hQ).2.arg HM4.out.arg (by omega) (by omega)).mono ?_
    rintro x' w7 ⟨rfl, kb⟩
    replace K := below_trans K kb
    have hz := sgn_zero (x := mag n2) (y := mag n)
    rw [hms] at hz
    generalize sgn (mag n2) (mag n) = c at *
    clear d0 d1 kb hQ HM4 D2 hms
    by_cases en : n2 = n
    · have hc : (c == 0) = true := by rw [hz, decide_eq_true en]
      have H1 := HF true (by rw [decide_eq_true en]; rfl)
      clear HF hz en
      go_wp2
      go_ret2
      exact ⟨y, _, rfl, H1.out, K⟩
    · have hc : (c == 0) = false := by rw [hz, decide_eq_false en]
      have H1 := HF false (by rw [decide_eq_false en]; rfl)
      clear HF hz en
      go_wp2
      go_ret2
      exact ⟨y, _, rfl, H1.out, K⟩
  by_cases pos : 0 < ys.length
  · have hp := Hlen.out.1 pos
    have pos' : (0 : Int) < (ys.length : Int) := by omega
    have hng : true = decide (n < 0) := by have h := Hn.out; have h2 := Hmx.out; unfold wn at h; simp at h; rw [decide_eq_true]; omega
    have Hng := hide hng
    clear hng
    go_wp2_with fail
    with_reducible refine (rRound_s (neg := true) (more := false) (e := 0) HM.out.arg (by omega) (by decide) (by decide)).mono ?_
    rintro x' w4 ⟨⟨r, A', e', mb', rfl, hN, hS⟩, kb⟩
    replace K := below_trans K kb
    have HM2 := hide (HM.out.below kb)
    clear kb HM
    have r0 := hN.1
    have r1 := hN.2.1
    have HN := hide (show ∀ r', Near 8388608 (-149) 2139095040 (2 * mag n + b2i false) (0 - 1) r' → r' = r from fun r' h => stick_same (fr := 23) (by decide) (by decide) Hmn.out h hN hS)
    clear hN hS
    obtain ⟨y1, y2, y3, y4⟩ := sgn_split (S := 2147483648) true r0 (by omega)
    generalize hy : r + b2i true * 2147483648 = y at *
    have HY := hide hy
    clear hy
    go_wp2_with fail
    with_reducible refine (rInt_s _ y r true y3 (by omega) y1 y2).mono ?_
    rintro x' w5 ⟨vb, n2, ok, rfl, hQ, hI, kb⟩
    replace K := below_trans K kb
    have HM3 := hide (HM2.out.below kb)
    clear kb HM2
    have hsn := int_sign (F := 8388608) (L := (-149)) (S := 2147483648) (by decide) (by decide) (by decide) r0 (by omega) (by unfold est; split <;> omega) (by decide) hI
    have hms := mag_same Hng.out hsn
    have HF : ∀ b, b = (ok && decide (n2 = n)) → Hid (FromR 2147483648 8388608 (-149) 2139095040 n y b) := by
      intro b hb
      refine hide ⟨r, n2, ok, r0, HN.out, ?_, ?_, hb⟩
      · rw [← Hng.out]; exact HY.out.symm
      · rw [← Hng.out]; exact hI
    clear hI y1 y2 HN HY Hng hsn
    obtain ⟨qg, qo, ql, rfl⟩ := hQ.told
    go_upto_region 4 with fail
    have D2 := cell2_new w5 (.bool qg) (.slice qo ql ql) 38
    have k2 := bel_new w5 (.cells #[.bool qg, .slice qo ql ql] 38)
    replace K := below_trans K k2
    have HM4 := hide (HM3.out.below k2)
    replace hQ := hQ.below k2
    clear k2 HM3
    generalize w5.heap.size = b2 at *
    generalize w5.alloc (.cells #[.bool qg, .slice qo ql ql] 38) = w6 at *
    obtain ⟨d0, d1, -, -⟩ := D2.told
    cases ok
    · have H1 := HF false (by simp)
      clear HF
      go_wp2
      go_ret2
      exact ⟨y, _, rfl, H1.out, K⟩
    go_wp2_with fail
    with_reducible refine (rcmp_any (wnum_sign hQ).2.arg HM4.out.arg (by omega) (by omega)).mono ?_
    rintro x' w7 ⟨rfl, kb⟩
    replace K := below_trans K kb
    have hz := sgn_zero (x := mag n2) (y := mag n)
    rw [hms] at hz
    generalize sgn (mag n2) (mag n) = c at *
    clear d0 d1 kb hQ HM4 D2 hms
    by_cases en : n2 = n
    · have hc : (c == 0) = true := by rw [hz, decide_eq_true en]
      have H1 := HF true (by rw [decide_eq_true en]; rfl)
      clear HF hz en
      go_wp2
      go_ret2
      exact ⟨y, _, rfl, H1.out, K⟩
    · have hc : (c == 0) = false := by rw [hz, decide_eq_false en]
      have H1 := HF false (by rw [decide_eq_false en]; rfl)
      clear HF hz en
      go_wp2
      go_ret2
      exact ⟨y, _, rfl, H1.out, K⟩
  · have hp : ¬ 0 < mag n := fun h => pos (Hlen.out.2 h)
    have pos' : ¬ (0 : Int) < (ys.length : Int) := by omega
    have pos2 : decide ((0 : Int) < (ys.length : Int)) = false := decide_eq_false pos'
    have hng : false = decide (n < 0) := by have h := Hn.out; have h2 := Hmx.out; unfold wn at h; simp at h; rw [decide_eq_false]; omega
    have Hng := hide hng
    clear hng
    go_wp2_with fail
    with_reducible refine (rRound_s (neg := false) (more := false) (e := 0) HM.out.arg (by omega) (by decide) (by decide)).mono ?_
    rintro x' w4 ⟨⟨r, A', e', mb', rfl, hN, hS⟩, kb⟩
    replace K := below_trans K kb
    have HM2 := hide (HM.out.below kb)
    clear kb HM
    have r0 := hN.1
    have r1 := hN.2.1
    have HN := hide (show ∀ r', Near 8388608 (-149) 2139095040 (2 * mag n + b2i false) (0 - 1) r' → r' = r from fun r' h => stick_same (fr := 23) (by decide) (by decide) Hmn.out h hN hS)
    clear hN hS
    obtain ⟨y1, y2, y3, y4⟩ := sgn_split (S := 2147483648) false r0 (by omega)
    generalize hy : r + b2i false * 2147483648 = y at *
    have HY := hide hy
    clear hy
    go_wp2_with fail
    with_reducible refine (rInt_s _ y r false y3 (by omega) y1 y2).mono ?_
    rintro x' w5 ⟨vb, n2, ok, rfl, hQ, hI, kb⟩
    replace K := below_trans K kb
    have HM3 := hide (HM2.out.below kb)
    clear kb HM2
    have hsn := int_sign (F := 8388608) (L := (-149)) (S := 2147483648) (by decide) (by decide) (by decide) r0 (by omega) (by unfold est; split <;> omega) (by decide) hI
    have hms := mag_same Hng.out hsn
    have HF : ∀ b, b = (ok && decide (n2 = n)) → Hid (FromR 2147483648 8388608 (-149) 2139095040 n y b) := by
      intro b hb
      refine hide ⟨r, n2, ok, r0, HN.out, ?_, ?_, hb⟩
      · rw [← Hng.out]; exact HY.out.symm
      · rw [← Hng.out]; exact hI
    clear hI y1 y2 HN HY Hng hsn
    obtain ⟨qg, qo, ql, rfl⟩ := hQ.told
    go_upto_region 4 with fail
    have D2 := cell2_new w5 (.bool qg) (.slice qo ql ql) 38
    have k2 := bel_new w5 (.cells #[.bool qg, .slice qo ql ql] 38)
    replace K := below_trans K k2
    have HM4 := hide (HM3.out.below k2)
    replace hQ := hQ.below k2
    clear k2 HM3
    generalize w5.heap.size = b2 at *
    generalize w5.alloc (.cells #[.bool qg, .slice qo ql ql] 38) = w6 at *
    obtain ⟨d0, d1, -, -⟩ := D2.told
    cases ok
    · have H1 := HF false (by simp)
      clear HF
      go_wp2
      go_ret2
      exact ⟨y, _, rfl, H1.out, K⟩
    go_wp2_with fail
    with_reducible refine (rcmp_any (wnum_sign hQ).2.arg HM4.out.arg (by omega) (by omega)).mono ?_
    rintro x' w7 ⟨rfl, kb⟩
    replace K := below_trans K kb
    have hz := sgn_zero (x := mag n2) (y := mag n)
    rw [hms] at hz
    generalize sgn (mag n2) (mag n) = c at *
    clear d0 d1 kb hQ HM4 D2 hms
    by_cases en : n2 = n
    · have hc : (c == 0) = true := by rw [hz, decide_eq_true en]
      have H1 := HF true (by rw [decide_eq_true en]; rfl)
      clear HF hz en
      go_wp2
      go_ret2
      exact ⟨y, _, rfl, H1.out, K⟩
    · have hc : (c == 0) = false := by rw [hz, decide_eq_false en]
      have H1 := HF false (by rw [decide_eq_false en]; rfl)
      clear HF hz en
      go_wp2
      go_ret2
      exact ⟨y, _, rfl, H1.out, K⟩

set_option maxRecDepth 20000 in
set_option maxHeartbeats 8000000 in
theorem rFrom_d {w : World} {vx : Value} {n : Int} {k : Nat} (hx : WArg w vx n k) (hk : k ≤ 1048576) : Calls Tryd.prog 20 #[.int .i64 64, vx] w fun e w' => ∃ y ok, e = .returned (.tuple #[.int .u64 y, .bool ok]) ∧ FromR 9223372036854775808 4503599627370496 (-1074) 9218868437227405312 n y ok ∧ Below w.heap.size w w' := by
  obtain ⟨xg, xm, xa, rfl, ha, hn⟩ := hx
  have A0 := ha.nonneg
  have hmn : mag n = xa := by unfold mag; rw [hn]; unfold wn; cases xg <;> simp <;> omega
  have Hmn := hide (show 0 ≤ mag n by omega)
  have ha' := ha
  obtain ⟨zs, ⟨xo, xc, rfl, -⟩, -⟩ := ha'
  go_enter Tryd.func20, Tryd.ntmps20
  go_upto_region 1 with fail
  have D := cell2_new w (.bool xg) (.slice xo zs.length xc) 38
  have K := bel_new w (.cells #[.bool xg, .slice xo zs.length xc] 38)
  replace ha := ha.below K
  generalize w.alloc (.cells #[.bool xg, .slice xo zs.length xc] 38) = w1 at *
  obtain ⟨c0, c1, -, -⟩ := D.told
  go_wp2_with fail
  with_reducible refine (rnorm_any ha (by omega)).mono ?_
  rintro x' w2 ⟨vm, rfl, hM, kb⟩
  clear c0 c1 ha
  obtain ⟨c0, c1, -, -⟩ := (D.below kb).told
  replace K := below_trans K kb
  clear kb D
  rw [← hmn] at hM
  have HM := hide hM
  obtain ⟨ys, ⟨yo, rfl, -, -⟩, hcan, hval, -⟩ := hM
  have hlen := canon_len hcan hval
  have Hn := hide hn
  have Hmx := hide hmn
  clear hcan hval hn hmn
  have Hlen := hide hlen
  clear hlen
  cases xg
  · skip
    have hng : false = decide (n < 0) := by have h := Hn.out; unfold wn at h; simp at h; rw [decide_eq_false]; omega
    have Hng := hide hng
    clear hng
    go_wp2_with fail
    with_reducible refine (rRound_d (neg := false) (more := false) (e := 0) HM.out.arg (by omega) (by decide) (by decide)).mono ?_
    rintro x' w4 ⟨⟨r, A', e', mb', rfl, hN, hS⟩, kb⟩
    replace K := below_trans K kb
    have HM2 := hide (HM.out.below kb)
    clear kb HM
    have r0 := hN.1
    have r1 := hN.2.1
    have HN := hide (show ∀ r', Near 4503599627370496 (-1074) 9218868437227405312 (2 * mag n + b2i false) (0 - 1) r' → r' = r from fun r' h => stick_same (fr := 52) (by decide) (by decide) Hmn.out h hN hS)
    clear hN hS
    obtain ⟨y1, y2, y3, y4⟩ := sgn_split (S := 9223372036854775808) false r0 (by omega)
    generalize hy : r + b2i false * 9223372036854775808 = y at *
    have HY := hide hy
    clear hy
    go_wp2_with fail
    with_reducible refine (rInt_d _ y r false y3 (by omega) y1 y2).mono ?_
    rintro x' w5 ⟨vb, n2, ok, rfl, hQ, hI, kb⟩
    replace K := below_trans K kb
    have HM3 := hide (HM2.out.below kb)
    clear kb HM2
    have hsn := int_sign (F := 4503599627370496) (L := (-1074)) (S := 9223372036854775808) (by decide) (by decide) (by decide) r0 (by omega) (by unfold est; split <;> omega) (by decide) hI
    have hms := mag_same Hng.out hsn
    have HF : ∀ b, b = (ok && decide (n2 = n)) → Hid (FromR 9223372036854775808 4503599627370496 (-1074) 9218868437227405312 n y b) := by
      intro b hb
      refine hide ⟨r, n2, ok, r0, HN.out, ?_, ?_, hb⟩
      · rw [← Hng.out]; exact HY.out.symm
      · rw [← Hng.out]; exact hI
    clear hI y1 y2 HN HY Hng hsn
    obtain ⟨qg, qo, ql, rfl⟩ := hQ.told
    go_upto_region 4 with fail
    have D2 := cell2_new w5 (.bool qg) (.slice qo ql ql) 38
    have k2 := bel_new w5 (.cells #[.bool qg, .slice qo ql ql] 38)
    replace K := below_trans K k2
    have HM4 := hide (HM3.out.below k2)
    replace hQ := hQ.below k2
    clear k2 HM3
    generalize w5.heap.size = b2 at *
    generalize w5.alloc (.cells #[.bool qg, .slice qo ql ql] 38) = w6 at *
    obtain ⟨d0, d1, -, -⟩ := D2.told
    cases ok
    · have H1 := HF false (by simp)
      clear HF
      go_wp2
      go_ret2
      exact ⟨y, _, rfl, H1.out, K⟩
    go_wp2_with fail
    with_reducible refine (rcmp_any (wnum_sign hQ).2.arg HM4.out.arg (by omega) (by omega)).mono ?_
    rintro x' w7 ⟨rfl, kb⟩
    replace K := below_trans K kb
    have hz := sgn_zero (x := mag n2) (y := mag n)
    rw [hms] at hz
    generalize sgn (mag n2) (mag n) = c at *
    clear d0 d1 kb hQ HM4 D2 hms
    by_cases en : n2 = n
    · have hc : (c == 0) = true := by rw [hz, decide_eq_true en]
      have H1 := HF true (by rw [decide_eq_true en]; rfl)
      clear HF hz en
      go_wp2
      go_ret2
      exact ⟨y, _, rfl, H1.out, K⟩
    · have hc : (c == 0) = false := by rw [hz, decide_eq_false en]
      have H1 := HF false (by rw [decide_eq_false en]; rfl)
      clear HF hz en
      go_wp2
      go_ret2
      exact ⟨y, _, rfl, H1.out, K⟩
  by_cases pos : 0 < ys.length
  · have hp := Hlen.out.1 pos
    have pos' : (0 : Int) < (ys.length : Int) := by omega
    have hng : true = decide (n < 0) := by have h := Hn.out; have h2 := Hmx.out; unfold wn at h; simp at h; rw [decide_eq_true]; omega
    have Hng := hide hng
    clear hng
    go_wp2_with fail
    with_reducible refine (rRound_d (neg := true) (more := false) (e := 0) HM.out.arg (by omega) (by decide) (by decide)).mono ?_
    rintro x' w4 ⟨⟨r, A', e', mb', rfl, hN, hS⟩, kb⟩
    replace K := below_trans K kb
    have HM2 := hide (HM.out.below kb)
    clear kb HM
    have r0 := hN.1
    have r1 := hN.2.1
    have HN := hide (show ∀ r', Near 4503599627370496 (-1074) 9218868437227405312 (2 * mag n + b2i false) (0 - 1) r' → r' = r from fun r' h => stick_same (fr := 52) (by decide) (by decide) Hmn.out h hN hS)
    clear hN hS
    obtain ⟨y1, y2, y3, y4⟩ := sgn_split (S := 9223372036854775808) true r0 (by omega)
    generalize hy : r + b2i true * 9223372036854775808 = y at *
    have HY := hide hy
    clear hy
    go_wp2_with fail
    with_reducible refine (rInt_d _ y r true y3 (by omega) y1 y2).mono ?_
    rintro x' w5 ⟨vb, n2, ok, rfl, hQ, hI, kb⟩
    replace K := below_trans K kb
    have HM3 := hide (HM2.out.below kb)
    clear kb HM2
    have hsn := int_sign (F := 4503599627370496) (L := (-1074)) (S := 9223372036854775808) (by decide) (by decide) (by decide) r0 (by omega) (by unfold est; split <;> omega) (by decide) hI
    have hms := mag_same Hng.out hsn
    have HF : ∀ b, b = (ok && decide (n2 = n)) → Hid (FromR 9223372036854775808 4503599627370496 (-1074) 9218868437227405312 n y b) := by
      intro b hb
      refine hide ⟨r, n2, ok, r0, HN.out, ?_, ?_, hb⟩
      · rw [← Hng.out]; exact HY.out.symm
      · rw [← Hng.out]; exact hI
    clear hI y1 y2 HN HY Hng hsn
    obtain ⟨qg, qo, ql, rfl⟩ := hQ.told
    go_upto_region 4 with fail
    have D2 := cell2_new w5 (.bool qg) (.slice qo ql ql) 38
    have k2 := bel_new w5 (.cells #[.bool qg, .slice qo ql ql] 38)
    replace K := below_trans K k2
    have HM4 := hide (HM3.out.below k2)
    replace hQ := hQ.below k2
    clear k2 HM3
    generalize w5.heap.size = b2 at *
    generalize w5.alloc (.cells #[.bool qg, .slice qo ql ql] 38) = w6 at *
    obtain ⟨d0, d1, -, -⟩ := D2.told
    cases ok
    · have H1 := HF false (by simp)
      clear HF
      go_wp2
      go_ret2
      exact ⟨y, _, rfl, H1.out, K⟩
    go_wp2_with fail
    with_reducible refine (rcmp_any (wnum_sign hQ).2.arg HM4.out.arg (by omega) (by omega)).mono ?_
    rintro x' w7 ⟨rfl, kb⟩
    replace K := below_trans K kb
    have hz := sgn_zero (x := mag n2) (y := mag n)
    rw [hms] at hz
    generalize sgn (mag n2) (mag n) = c at *
    clear d0 d1 kb hQ HM4 D2 hms
    by_cases en : n2 = n
    · have hc : (c == 0) = true := by rw [hz, decide_eq_true en]
      have H1 := HF true (by rw [decide_eq_true en]; rfl)
      clear HF hz en
      go_wp2
      go_ret2
      exact ⟨y, _, rfl, H1.out, K⟩
    · have hc : (c == 0) = false := by rw [hz, decide_eq_false en]
      have H1 := HF false (by rw [decide_eq_false en]; rfl)
      clear HF hz en
      go_wp2
      go_ret2
      exact ⟨y, _, rfl, H1.out, K⟩
  · have hp : ¬ 0 < mag n := fun h => pos (Hlen.out.2 h)
    have pos' : ¬ (0 : Int) < (ys.length : Int) := by omega
    have pos2 : decide ((0 : Int) < (ys.length : Int)) = false := decide_eq_false pos'
    have hng : false = decide (n < 0) := by have h := Hn.out; have h2 := Hmx.out; unfold wn at h; simp at h; rw [decide_eq_false]; omega
    have Hng := hide hng
    clear hng
    go_wp2_with fail
    with_reducible refine (rRound_d (neg := false) (more := false) (e := 0) HM.out.arg (by omega) (by decide) (by decide)).mono ?_
    rintro x' w4 ⟨⟨r, A', e', mb', rfl, hN, hS⟩, kb⟩
    replace K := below_trans K kb
    have HM2 := hide (HM.out.below kb)
    clear kb HM
    have r0 := hN.1
    have r1 := hN.2.1
    have HN := hide (show ∀ r', Near 4503599627370496 (-1074) 9218868437227405312 (2 * mag n + b2i false) (0 - 1) r' → r' = r from fun r' h => stick_same (fr := 52) (by decide) (by decide) Hmn.out h hN hS)
    clear hN hS
    obtain ⟨y1, y2, y3, y4⟩ := sgn_split (S := 9223372036854775808) false r0 (by omega)
    generalize hy : r + b2i false * 9223372036854775808 = y at *
    have HY := hide hy
    clear hy
    go_wp2_with fail
    with_reducible refine (rInt_d _ y r false y3 (by omega) y1 y2).mono ?_
    rintro x' w5 ⟨vb, n2, ok, rfl, hQ, hI, kb⟩
    replace K := below_trans K kb
    have HM3 := hide (HM2.out.below kb)
    clear kb HM2
    have hsn := int_sign (F := 4503599627370496) (L := (-1074)) (S := 9223372036854775808) (by decide) (by decide) (by decide) r0 (by omega) (by unfold est; split <;> omega) (by decide) hI
    have hms := mag_same Hng.out hsn
    have HF : ∀ b, b = (ok && decide (n2 = n)) → Hid (FromR 9223372036854775808 4503599627370496 (-1074) 9218868437227405312 n y b) := by
      intro b hb
      refine hide ⟨r, n2, ok, r0, HN.out, ?_, ?_, hb⟩
      · rw [← Hng.out]; exact HY.out.symm
      · rw [← Hng.out]; exact hI
    clear hI y1 y2 HN HY Hng hsn
    obtain ⟨qg, qo, ql, rfl⟩ := hQ.told
    go_upto_region 4 with fail
    have D2 := cell2_new w5 (.bool qg) (.slice qo ql ql) 38
    have k2 := bel_new w5 (.cells #[.bool qg, .slice qo ql ql] 38)
    replace K := below_trans K k2
    have HM4 := hide (HM3.out.below k2)
    replace hQ := hQ.below k2
    clear k2 HM3
    generalize w5.heap.size = b2 at *
    generalize w5.alloc (.cells #[.bool qg, .slice qo ql ql] 38) = w6 at *
    obtain ⟨d0, d1, -, -⟩ := D2.told
    cases ok
    · have H1 := HF false (by simp)
      clear HF
      go_wp2
      go_ret2
      exact ⟨y, _, rfl, H1.out, K⟩
    go_wp2_with fail
    with_reducible refine (rcmp_any (wnum_sign hQ).2.arg HM4.out.arg (by omega) (by omega)).mono ?_
    rintro x' w7 ⟨rfl, kb⟩
    replace K := below_trans K kb
    have hz := sgn_zero (x := mag n2) (y := mag n)
    rw [hms] at hz
    generalize sgn (mag n2) (mag n) = c at *
    clear d0 d1 kb hQ HM4 D2 hms
    by_cases en : n2 = n
    · have hc : (c == 0) = true := by rw [hz, decide_eq_true en]
      have H1 := HF true (by rw [decide_eq_true en]; rfl)
      clear HF hz en
      go_wp2
      go_ret2
      exact ⟨y, _, rfl, H1.out, K⟩
    · have hc : (c == 0) = false := by rw [hz, decide_eq_false en]
      have H1 := HF false (by rw [decide_eq_false en]; rfl)
      clear HF hz en
      go_wp2
      go_ret2
      exact ⟨y, _, rfl, H1.out, K⟩

end Go.Proofs.YtmmkdihhcmcjjaaDoor
