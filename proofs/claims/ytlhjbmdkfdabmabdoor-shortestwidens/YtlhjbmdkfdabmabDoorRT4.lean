/- IRefTw -/
import Derived.Test.YtlhjbmdkfdabmabDoorWC
import Derived.Test.YtlhjbmdkfdabmabDoorRR4
namespace Go.Proofs.YtlhjbmdkfdabmabDoor
open Go.RowKit
set_option linter.unusedVariables false

theorem rtwo1_h (w : World) : Calls Tryd.prog 16 #[.int .i64 9] w fun e w' => e = .returned (.int .u64 512) ∧ w' = w := by
  have := rtwo_any w 9 (by decide)
  rwa [show p2 9 = 512 from by decide] at this
theorem rNaN_h (w : World) : Calls Tryd.prog 21 #[.int .i64 16] w fun e w' => e = .returned (.int .u64 32256) ∧ Below w.heap.size w w' := by
  have hf := shape_field0_h
  go_enter Tryd.func21, Tryd.ntmps21
  go_wp2_with fail
  with_reducible refine (rInf_h _).mono ?_
  rintro x w1 ⟨rfl, K⟩
  go_wp2_with fail
  with_reducible refine (rOf_h _).mono ?_
  rintro x w2 ⟨rfl, kb⟩
  go_wp2_with fail
  with_reducible refine (rtwo1_h _).mono ?_
  rintro x w3 ⟨rfl, rfl⟩
  go_wp2
  go_ret
  exact ⟨rfl, below_trans K kb⟩

theorem rtwo1_s (w : World) : Calls Tryd.prog 16 #[.int .i64 22] w fun e w' => e = .returned (.int .u64 4194304) ∧ w' = w := by
  have := rtwo_any w 22 (by decide)
  rwa [show p2 22 = 4194304 from by decide] at this
theorem rNaN_s (w : World) : Calls Tryd.prog 21 #[.int .i64 32] w fun e w' => e = .returned (.int .u64 2143289344) ∧ Below w.heap.size w w' := by
  have hf := shape_field0_s
  go_enter Tryd.func21, Tryd.ntmps21
  go_wp2_with fail
  with_reducible refine (rInf_s _).mono ?_
  rintro x w1 ⟨rfl, K⟩
  go_wp2_with fail
  with_reducible refine (rOf_s _).mono ?_
  rintro x w2 ⟨rfl, kb⟩
  go_wp2_with fail
  with_reducible refine (rtwo1_s _).mono ?_
  rintro x w3 ⟨rfl, rfl⟩
  go_wp2
  go_ret
  exact ⟨rfl, below_trans K kb⟩

theorem rtwo1_d (w : World) : Calls Tryd.prog 16 #[.int .i64 51] w fun e w' => e = .returned (.int .u64 2251799813685248) ∧ w' = w := by
  have := rtwo_any w 51 (by decide)
  rwa [show p2 51 = 2251799813685248 from by decide] at this
theorem rNaN_d (w : World) : Calls Tryd.prog 21 #[.int .i64 64] w fun e w' => e = .returned (.int .u64 9221120237041090560) ∧ Below w.heap.size w w' := by
  have hf := shape_field0_d
  go_enter Tryd.func21, Tryd.ntmps21
  go_wp2_with fail
  with_reducible refine (rInf_d _).mono ?_
  rintro x w1 ⟨rfl, K⟩
  go_wp2_with fail
  with_reducible refine (rOf_d _).mono ?_
  rintro x w2 ⟨rfl, kb⟩
  go_wp2_with fail
  with_reducible refine (rtwo1_d _).mono ?_
  rintro x w3 ⟨rfl, rfl⟩
  go_wp2
  go_ret
  exact ⟨rfl, below_trans K kb⟩

set_option maxRecDepth 20000 in
set_option maxHeartbeats 8000000 in
theorem rTo_s_h (w : World) (x s : Int) (ng : Bool) (h0 : 0 ≤ x) (h1 : x < 65536) (hs : x % 32768 = s) (hng : ng = decide (32768 ≤ x)) : Calls Tryd.prog 12 #[.int .i64 32, .int .i64 16, .int .u64 x] w fun e w' => ∃ y ok, e = .returned (.tuple #[.int .u64 y, .bool ok]) ∧ ToR 2147483648 8388608 (-149) 2139095040 1024 (-24) 31744 s ng y ok ∧ Below w.heap.size w w' := by
  have s0 : 0 ≤ s := by omega
  have s1 : s < 32768 := by omega
  have Hs := hide hs
  have Hng := hide hng
  clear hs hng
  go_enter Tryd.func12, Tryd.ntmps12
  go_wp2_with fail
  with_reducible refine (rClass_h _ x s h0 h1 Hs.out).mono ?_
  rintro x' w1 ⟨rfl, K⟩
  have HCN := hide (cls_nan 32768 1024 s)
  have HCI := hide (show cls 32768 1024 s = 4 ↔ s = 31744 from by
    unfold cls
    constructor
    · intro h
      by_cases a : s = 31744
      · exact a
      · repeat' split at h
        all_goals omega
    · intro h; rw [if_neg (by omega), if_pos (by omega)])
  generalize cls 32768 1024 s = cl at *
  by_cases nan : 31744 < s
  · have ec : cl = 5 := HCN.out.2 (by omega)
    have ec' : (cl == 5) = true := by simp [ec]
    have HT := hide (show ToR 2147483648 8388608 (-149) 2139095040 1024 (-24) 31744 s ng 2143289344 true from Or.inl ⟨nan, by decide, rfl⟩)
    clear ec HCN HCI
    go_wp2_with fail
    with_reducible refine (rNaN_s _).mono ?_
    rintro x' w2 ⟨rfl, kb⟩
    go_wp2
    go_ret2
    exact ⟨_, _, rfl, HT.out, below_trans K kb⟩
  have ec : ¬ cl = 5 := fun h => nan (by have := HCN.out.1 h; omega)
  have ec' : (cl == 5) = false := by simp [ec]
  clear ec HCN
  by_cases es : s = 31744
  · have ei : cl = 4 := HCI.out.2 es
    have ei' : (cl == 4) = true := by simp [ei]
    clear ei HCI
    go_wp2_with fail
    with_reducible refine (rNeg_h _ x).mono ?_
    rintro x' w2 ⟨rfl, rfl⟩
    rw [← Hng.out]
    cases ng
    · have HT := hide (show ToR 2147483648 8388608 (-149) 2139095040 1024 (-24) 31744 s false 2139095040 true from Or.inr (Or.inl ⟨es, by decide, rfl⟩))
      clear es
      go_wp2_with fail
      with_reducible refine (rInf_s _).mono ?_
      rintro x' w3 ⟨rfl, kb⟩
      go_wp2
      go_ret2
      exact ⟨_, _, rfl, HT.out, below_trans K kb⟩
    · have HT := hide (show ToR 2147483648 8388608 (-149) 2139095040 1024 (-24) 31744 s true 4286578688 true from Or.inr (Or.inl ⟨es, by decide, rfl⟩))
      clear es
      go_wp2_with fail
      with_reducible refine (rSign_s _).mono ?_
      rintro x' w3 ⟨rfl, rfl⟩
      go_wp2_with fail
      with_reducible refine (rInf_s _).mono ?_
      rintro x' w4 ⟨rfl, kb⟩
      go_wp2
      go_ret2
      exact ⟨_, _, rfl, HT.out, below_trans K kb⟩
  have ei : ¬ cl = 4 := fun h => es (HCI.out.1 h)
  have ei' : (cl == 4) = false := by simp [ei]
  have fin : s < 31744 := by omega
  clear ei HCI
  go_wp2_with fail
  with_reducible refine (rParts_h _ x s ng h0 h1 Hs.out Hng.out).mono ?_
  rintro x' w2 ⟨a, m, E, ok, rfl, hP, kb⟩
  replace K := below_trans K kb
  clear kb
  obtain ⟨m0, m1, E0, E1⟩ := part_bounds (F := 1024) (L := (-24)) (S := 32768) (by decide) (by decide) (by decide) s0 s1 (by unfold est; split <;> omega) (by decide) hP
  obtain ⟨rfl, rfl, -, -⟩ := hP.2 fin
  have HP := hide hP
  clear hP es
  go_wp2_with fail
  with_reducible refine (rfrom_any m m0 (by omega)).mono ?_
  rintro x' w3 ⟨vm, rfl, hM, kb⟩
  replace K := below_trans K kb
  clear kb
  go_wp2_with fail
  with_reducible refine (rRound_s (neg := a) (more := false) hM.arg (by decide) (by omega) (by omega)).mono ?_
  rintro x' w4 ⟨⟨r, A', e', mb', rfl, hN, hS⟩, kb⟩
  replace K := below_trans K kb
  clear kb hM
  have r0 := hN.1
  have r1 := hN.2.1
  have HN := hide (show ∀ r', Near 8388608 (-149) 2139095040 (2 * m + b2i false) (E - 1) r' → r' = r from fun r' h => stick_same (fr := 23) (by decide) (by decide) m0 h hN hS)
  obtain ⟨y1, y2, y3, y4⟩ := sgn_part (S := 2147483648) a r0 (by omega)
  clear hN hS
  generalize hy : r + b2i a * 2147483648 = y at *
  have HY := hide hy
  clear hy
  go_wp2_with fail
  with_reducible refine (rParts_s _ y r a y3 (by omega) y1 y2).mono ?_
  rintro x' w5 ⟨p, n, g, k, rfl, hP2, kb⟩
  replace K := below_trans K kb
  clear kb
  have HT := hide (show ToR 2147483648 8388608 (-149) 2139095040 1024 (-24) 31744 s a y (k && (n == m) && (g == E)) from Or.inr (Or.inr ⟨fin, m, E, r, p, n, g, k, HP.out, HN.out, HY.out.symm, hP2, rfl⟩))
  clear hP2 y1 y2 HN HY HP
  cases k
  · go_wp2
    go_ret2
    exact ⟨y, _, rfl, HT.out, K⟩
  by_cases en : n = m
  · have en' : (n == m) = true := by simp [en]
    by_cases ef : g = E
    · have ef' : (g == E) = true := by simp [ef]
      have HT2 := hide (show ToR 2147483648 8388608 (-149) 2139095040 1024 (-24) 31744 s a y true by have h := HT.out; rw [en', ef'] at h; exact h)
      clear en ef HT
      go_wp2
      go_ret2
      exact ⟨y, _, rfl, HT2.out, K⟩
    · have ef' : (g == E) = false := by simp [ef]
      have HT2 := hide (show ToR 2147483648 8388608 (-149) 2139095040 1024 (-24) 31744 s a y false by have h := HT.out; rw [en', ef'] at h; exact h)
      clear en ef HT
      go_wp2
      go_ret2
      exact ⟨y, _, rfl, HT2.out, K⟩
  · have en' : (n == m) = false := by simp [en]
    have HT2 := hide (show ToR 2147483648 8388608 (-149) 2139095040 1024 (-24) 31744 s a y false by have h := HT.out; rw [en'] at h; simpa using h)
    clear en HT
    go_wp2
    go_ret2
    exact ⟨y, _, rfl, HT2.out, K⟩

set_option maxRecDepth 20000 in
set_option maxHeartbeats 8000000 in
theorem rTo_d_h (w : World) (x s : Int) (ng : Bool) (h0 : 0 ≤ x) (h1 : x < 65536) (hs : x % 32768 = s) (hng : ng = decide (32768 ≤ x)) : Calls Tryd.prog 12 #[.int .i64 64, .int .i64 16, .int .u64 x] w fun e w' => ∃ y ok, e = .returned (.tuple #[.int .u64 y, .bool ok]) ∧ ToR 9223372036854775808 4503599627370496 (-1074) 9218868437227405312 1024 (-24) 31744 s ng y ok ∧ Below w.heap.size w w' := by
  have s0 : 0 ≤ s := by omega
  have s1 : s < 32768 := by omega
  have Hs := hide hs
  have Hng := hide hng
  clear hs hng
  go_enter Tryd.func12, Tryd.ntmps12
  go_wp2_with fail
  with_reducible refine (rClass_h _ x s h0 h1 Hs.out).mono ?_
  rintro x' w1 ⟨rfl, K⟩
  have HCN := hide (cls_nan 32768 1024 s)
  have HCI := hide (show cls 32768 1024 s = 4 ↔ s = 31744 from by
    unfold cls
    constructor
    · intro h
      by_cases a : s = 31744
      · exact a
      · repeat' split at h
        all_goals omega
    · intro h; rw [if_neg (by omega), if_pos (by omega)])
  generalize cls 32768 1024 s = cl at *
  by_cases nan : 31744 < s
  · have ec : cl = 5 := HCN.out.2 (by omega)
    have ec' : (cl == 5) = true := by simp [ec]
    have HT := hide (show ToR 9223372036854775808 4503599627370496 (-1074) 9218868437227405312 1024 (-24) 31744 s ng 9221120237041090560 true from Or.inl ⟨nan, by decide, rfl⟩)
    clear ec HCN HCI
    go_wp2_with fail
    with_reducible refine (rNaN_d _).mono ?_
    rintro x' w2 ⟨rfl, kb⟩
    go_wp2
    go_ret2
    exact ⟨_, _, rfl, HT.out, below_trans K kb⟩
  have ec : ¬ cl = 5 := fun h => nan (by have := HCN.out.1 h; omega)
  have ec' : (cl == 5) = false := by simp [ec]
  clear ec HCN
  by_cases es : s = 31744
  · have ei : cl = 4 := HCI.out.2 es
    have ei' : (cl == 4) = true := by simp [ei]
    clear ei HCI
    go_wp2_with fail
    with_reducible refine (rNeg_h _ x).mono ?_
    rintro x' w2 ⟨rfl, rfl⟩
    rw [← Hng.out]
    cases ng
    · have HT := hide (show ToR 9223372036854775808 4503599627370496 (-1074) 9218868437227405312 1024 (-24) 31744 s false 9218868437227405312 true from Or.inr (Or.inl ⟨es, by decide, rfl⟩))
      clear es
      go_wp2_with fail
      with_reducible refine (rInf_d _).mono ?_
      rintro x' w3 ⟨rfl, kb⟩
      go_wp2
      go_ret2
      exact ⟨_, _, rfl, HT.out, below_trans K kb⟩
    · have HT := hide (show ToR 9223372036854775808 4503599627370496 (-1074) 9218868437227405312 1024 (-24) 31744 s true 18442240474082181120 true from Or.inr (Or.inl ⟨es, by decide, rfl⟩))
      clear es
      go_wp2_with fail
      with_reducible refine (rSign_d _).mono ?_
      rintro x' w3 ⟨rfl, rfl⟩
      go_wp2_with fail
      with_reducible refine (rInf_d _).mono ?_
      rintro x' w4 ⟨rfl, kb⟩
      go_wp2
      go_ret2
      exact ⟨_, _, rfl, HT.out, below_trans K kb⟩
  have ei : ¬ cl = 4 := fun h => es (HCI.out.1 h)
  have ei' : (cl == 4) = false := by simp [ei]
  have fin : s < 31744 := by omega
  clear ei HCI
  go_wp2_with fail
  with_reducible refine (rParts_h _ x s ng h0 h1 Hs.out Hng.out).mono ?_
  rintro x' w2 ⟨a, m, E, ok, rfl, hP, kb⟩
  replace K := below_trans K kb
  clear kb
  obtain ⟨m0, m1, E0, E1⟩ := part_bounds (F := 1024) (L := (-24)) (S := 32768) (by decide) (by decide) (by decide) s0 s1 (by unfold est; split <;> omega) (by decide) hP
  obtain ⟨rfl, rfl, -, -⟩ := hP.2 fin
  have HP := hide hP
  clear hP es
  go_wp2_with fail
  with_reducible refine (rfrom_any m m0 (by omega)).mono ?_
  rintro x' w3 ⟨vm, rfl, hM, kb⟩
  replace K := below_trans K kb
  clear kb
  go_wp2_with fail
  with_reducible refine (rRound_d (neg := a) (more := false) hM.arg (by decide) (by omega) (by omega)).mono ?_
  rintro x' w4 ⟨⟨r, A', e', mb', rfl, hN, hS⟩, kb⟩
  replace K := below_trans K kb
  clear kb hM
  have r0 := hN.1
  have r1 := hN.2.1
  have HN := hide (show ∀ r', Near 4503599627370496 (-1074) 9218868437227405312 (2 * m + b2i false) (E - 1) r' → r' = r from fun r' h => stick_same (fr := 52) (by decide) (by decide) m0 h hN hS)
  obtain ⟨y1, y2, y3, y4⟩ := sgn_part (S := 9223372036854775808) a r0 (by omega)
  clear hN hS
  generalize hy : r + b2i a * 9223372036854775808 = y at *
  have HY := hide hy
  clear hy
  go_wp2_with fail
  with_reducible refine (rParts_d _ y r a y3 (by omega) y1 y2).mono ?_
  rintro x' w5 ⟨p, n, g, k, rfl, hP2, kb⟩
  replace K := below_trans K kb
  clear kb
  have HT := hide (show ToR 9223372036854775808 4503599627370496 (-1074) 9218868437227405312 1024 (-24) 31744 s a y (k && (n == m) && (g == E)) from Or.inr (Or.inr ⟨fin, m, E, r, p, n, g, k, HP.out, HN.out, HY.out.symm, hP2, rfl⟩))
  clear hP2 y1 y2 HN HY HP
  cases k
  · go_wp2
    go_ret2
    exact ⟨y, _, rfl, HT.out, K⟩
  by_cases en : n = m
  · have en' : (n == m) = true := by simp [en]
    by_cases ef : g = E
    · have ef' : (g == E) = true := by simp [ef]
      have HT2 := hide (show ToR 9223372036854775808 4503599627370496 (-1074) 9218868437227405312 1024 (-24) 31744 s a y true by have h := HT.out; rw [en', ef'] at h; exact h)
      clear en ef HT
      go_wp2
      go_ret2
      exact ⟨y, _, rfl, HT2.out, K⟩
    · have ef' : (g == E) = false := by simp [ef]
      have HT2 := hide (show ToR 9223372036854775808 4503599627370496 (-1074) 9218868437227405312 1024 (-24) 31744 s a y false by have h := HT.out; rw [en', ef'] at h; exact h)
      clear en ef HT
      go_wp2
      go_ret2
      exact ⟨y, _, rfl, HT2.out, K⟩
  · have en' : (n == m) = false := by simp [en]
    have HT2 := hide (show ToR 9223372036854775808 4503599627370496 (-1074) 9218868437227405312 1024 (-24) 31744 s a y false by have h := HT.out; rw [en'] at h; simpa using h)
    clear en HT
    go_wp2
    go_ret2
    exact ⟨y, _, rfl, HT2.out, K⟩

set_option maxRecDepth 20000 in
set_option maxHeartbeats 8000000 in
theorem rTo_d_s (w : World) (x s : Int) (ng : Bool) (h0 : 0 ≤ x) (h1 : x < 4294967296) (hs : x % 2147483648 = s) (hng : ng = decide (2147483648 ≤ x)) : Calls Tryd.prog 12 #[.int .i64 64, .int .i64 32, .int .u64 x] w fun e w' => ∃ y ok, e = .returned (.tuple #[.int .u64 y, .bool ok]) ∧ ToR 9223372036854775808 4503599627370496 (-1074) 9218868437227405312 8388608 (-149) 2139095040 s ng y ok ∧ Below w.heap.size w w' := by
  have s0 : 0 ≤ s := by omega
  have s1 : s < 2147483648 := by omega
  have Hs := hide hs
  have Hng := hide hng
  clear hs hng
  go_enter Tryd.func12, Tryd.ntmps12
  go_wp2_with fail
  with_reducible refine (rClass_s _ x s h0 h1 Hs.out).mono ?_
  rintro x' w1 ⟨rfl, K⟩
  have HCN := hide (cls_nan 2147483648 8388608 s)
  have HCI := hide (show cls 2147483648 8388608 s = 4 ↔ s = 2139095040 from by
    unfold cls
    constructor
    · intro h
      by_cases a : s = 2139095040
      · exact a
      · repeat' split at h
        all_goals omega
    · intro h; rw [if_neg (by omega), if_pos (by omega)])
  generalize cls 2147483648 8388608 s = cl at *
  by_cases nan : 2139095040 < s
  · have ec : cl = 5 := HCN.out.2 (by omega)
    have ec' : (cl == 5) = true := by simp [ec]
    have HT := hide (show ToR 9223372036854775808 4503599627370496 (-1074) 9218868437227405312 8388608 (-149) 2139095040 s ng 9221120237041090560 true from Or.inl ⟨nan, by decide, rfl⟩)
    clear ec HCN HCI
    go_wp2_with fail
    with_reducible refine (rNaN_d _).mono ?_
    rintro x' w2 ⟨rfl, kb⟩
    go_wp2
    go_ret2
    exact ⟨_, _, rfl, HT.out, below_trans K kb⟩
  have ec : ¬ cl = 5 := fun h => nan (by have := HCN.out.1 h; omega)
  have ec' : (cl == 5) = false := by simp [ec]
  clear ec HCN
  by_cases es : s = 2139095040
  · have ei : cl = 4 := HCI.out.2 es
    have ei' : (cl == 4) = true := by simp [ei]
    clear ei HCI
    go_wp2_with fail
    with_reducible refine (rNeg_s _ x).mono ?_
    rintro x' w2 ⟨rfl, rfl⟩
    rw [← Hng.out]
    cases ng
    · have HT := hide (show ToR 9223372036854775808 4503599627370496 (-1074) 9218868437227405312 8388608 (-149) 2139095040 s false 9218868437227405312 true from Or.inr (Or.inl ⟨es, by decide, rfl⟩))
      clear es
      go_wp2_with fail
      with_reducible refine (rInf_d _).mono ?_
      rintro x' w3 ⟨rfl, kb⟩
      go_wp2
      go_ret2
      exact ⟨_, _, rfl, HT.out, below_trans K kb⟩
    · have HT := hide (show ToR 9223372036854775808 4503599627370496 (-1074) 9218868437227405312 8388608 (-149) 2139095040 s true 18442240474082181120 true from Or.inr (Or.inl ⟨es, by decide, rfl⟩))
      clear es
      go_wp2_with fail
      with_reducible refine (rSign_d _).mono ?_
      rintro x' w3 ⟨rfl, rfl⟩
      go_wp2_with fail
      with_reducible refine (rInf_d _).mono ?_
      rintro x' w4 ⟨rfl, kb⟩
      go_wp2
      go_ret2
      exact ⟨_, _, rfl, HT.out, below_trans K kb⟩
  have ei : ¬ cl = 4 := fun h => es (HCI.out.1 h)
  have ei' : (cl == 4) = false := by simp [ei]
  have fin : s < 2139095040 := by omega
  clear ei HCI
  go_wp2_with fail
  with_reducible refine (rParts_s _ x s ng h0 h1 Hs.out Hng.out).mono ?_
  rintro x' w2 ⟨a, m, E, ok, rfl, hP, kb⟩
  replace K := below_trans K kb
  clear kb
  obtain ⟨m0, m1, E0, E1⟩ := part_bounds (F := 8388608) (L := (-149)) (S := 2147483648) (by decide) (by decide) (by decide) s0 s1 (by unfold est; split <;> omega) (by decide) hP
  obtain ⟨rfl, rfl, -, -⟩ := hP.2 fin
  have HP := hide hP
  clear hP es
  go_wp2_with fail
  with_reducible refine (rfrom_any m m0 (by omega)).mono ?_
  rintro x' w3 ⟨vm, rfl, hM, kb⟩
  replace K := below_trans K kb
  clear kb
  go_wp2_with fail
  with_reducible refine (rRound_d (neg := a) (more := false) hM.arg (by decide) (by omega) (by omega)).mono ?_
  rintro x' w4 ⟨⟨r, A', e', mb', rfl, hN, hS⟩, kb⟩
  replace K := below_trans K kb
  clear kb hM
  have r0 := hN.1
  have r1 := hN.2.1
  have HN := hide (show ∀ r', Near 4503599627370496 (-1074) 9218868437227405312 (2 * m + b2i false) (E - 1) r' → r' = r from fun r' h => stick_same (fr := 52) (by decide) (by decide) m0 h hN hS)
  obtain ⟨y1, y2, y3, y4⟩ := sgn_part (S := 9223372036854775808) a r0 (by omega)
  clear hN hS
  generalize hy : r + b2i a * 9223372036854775808 = y at *
  have HY := hide hy
  clear hy
  go_wp2_with fail
  with_reducible refine (rParts_d _ y r a y3 (by omega) y1 y2).mono ?_
  rintro x' w5 ⟨p, n, g, k, rfl, hP2, kb⟩
  replace K := below_trans K kb
  clear kb
  have HT := hide (show ToR 9223372036854775808 4503599627370496 (-1074) 9218868437227405312 8388608 (-149) 2139095040 s a y (k && (n == m) && (g == E)) from Or.inr (Or.inr ⟨fin, m, E, r, p, n, g, k, HP.out, HN.out, HY.out.symm, hP2, rfl⟩))
  clear hP2 y1 y2 HN HY HP
  cases k
  · go_wp2
    go_ret2
    exact ⟨y, _, rfl, HT.out, K⟩
  by_cases en : n = m
  · have en' : (n == m) = true := by simp [en]
    by_cases ef : g = E
    · have ef' : (g == E) = true := by simp [ef]
      have HT2 := hide (show ToR 9223372036854775808 4503599627370496 (-1074) 9218868437227405312 8388608 (-149) 2139095040 s a y true by have h := HT.out; rw [en', ef'] at h; exact h)
      clear en ef HT
      go_wp2
      go_ret2
      exact ⟨y, _, rfl, HT2.out, K⟩
    · have ef' : (g == E) = false := by simp [ef]
      have HT2 := hide (show ToR 9223372036854775808 4503599627370496 (-1074) 9218868437227405312 8388608 (-149) 2139095040 s a y false by have h := HT.out; rw [en', ef'] at h; exact h)
      clear en ef HT
      go_wp2
      go_ret2
      exact ⟨y, _, rfl, HT2.out, K⟩
  · have en' : (n == m) = false := by simp [en]
    have HT2 := hide (show ToR 9223372036854775808 4503599627370496 (-1074) 9218868437227405312 8388608 (-149) 2139095040 s a y false by have h := HT.out; rw [en'] at h; simpa using h)
    clear en HT
    go_wp2
    go_ret2
    exact ⟨y, _, rfl, HT2.out, K⟩

end Go.Proofs.YtlhjbmdkfdabmabDoor
