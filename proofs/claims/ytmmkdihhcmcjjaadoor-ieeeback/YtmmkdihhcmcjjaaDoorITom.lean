/- ieee.To to one width (mk_iwid.py) -/
import Derived.Test.YtmmkdihhcmcjjaaDoorITo
namespace Go.Proofs.YtmmkdihhcmcjjaaDoor
open Go.RowKit
set_option linter.unusedVariables false

set_option maxRecDepth 20000 in
set_option maxHeartbeats 8000000 in
theorem to_m_16 {w : World} (L : Lays w) (T : Brn w) (x s : Int) (ng : Bool) (h0 : 0 ≤ x) (h1 : x < 65536) (hs : x % 32768 = s) (hng : ng = decide (32768 ≤ x)) : Calls Tryd.prog 99 #[.int .u16 x] w fun e w' => ∃ y ok, e = .returned (.tuple #[.int .u32 y, .bool ok]) ∧ 0 ≤ y ∧ y < 4294967296 ∧ ToP 2147483648 8388608 (-149) 2139095040 1024 (-24) 31744 s ng y ok ∧ Below w.heap.size w w' := by
  have s0 : 0 ≤ s := by omega
  have s1 : s < 32768 := by omega
  have hxs : x = s + b2i ng * 32768 := by
    subst hng
    by_cases c : 32768 ≤ x
    · rw [decide_eq_true c, show b2i true = 1 from rfl]; omega
    · rw [decide_eq_false c, show b2i false = 0 from rfl]; omega
  have Hxs := hide hxs
  have Hs := hide hs
  clear hxs hs
  go_enter Tryd.func99, Tryd.ntmps99
  go_wp2_with fail
  with_reducible refine (layoutOf_m L).mono ?_
  rintro e w1 ⟨rfl, K1⟩
  go_upto_region 2 with fail
  have C := cell3_new w1 (.int .i64 32) (.int .i64 23) (.int .i64 (-149)) 106
  have K := below_trans K1 (bel_new w1 (.cells #[.int .i64 32, .int .i64 23, .int .i64 (-149)] 106))
  generalize w1.alloc (.cells #[.int .i64 32, .int .i64 23, .int .i64 (-149)] 106) = w2 at *
  go_wp2_with fail
  with_reducible refine (parts_16 (L.below K) (T.below K) x s ng h0 h1 Hs.out hng).mono ?_
  rintro x' w3 ⟨a, m, E, ok, rfl, hP, kb⟩
  replace C := C.below kb
  replace K := below_trans K kb
  clear kb
  obtain ⟨m0, m1, E0, E1⟩ := part_bounds (F := 1024) (L := (-24)) (S := 32768) (by decide) (by decide) (by decide) s0 s1 (by unfold est; split <;> omega) (by decide) hP
  have Hng := hide hng
  clear hng
  by_cases fin : s < 31744
  · obtain ⟨rfl, rfl, -, -⟩ := hP.2 fin
    have HP := hide hP
    clear hP
    go_wp2_with fail
    with_reducible refine (from_any m m0 (by omega)).mono ?_
    rintro x' w4 ⟨vm, rfl, hM, kb⟩
    replace K := below_trans K kb
    clear kb
    go_wp2_with fail
    with_reducible refine (round_m (L.below K) (neg := a) (more := false) hM.arg (by decide) (by omega) (by omega)).mono ?_
    rintro x' w5 ⟨r, rfl, hN, kb⟩
    replace K := below_trans K kb
    clear kb hM
    have r0 := hN.1
    have r1 := hN.2.1
    obtain ⟨y1, y2, y3, y4⟩ := sgn_part (S := 2147483648) a r0 (by omega)
    have HN := hide hN
    clear hN
    generalize hy : r + b2i a * 2147483648 = y at *
    have HY := hide hy
    clear hy
    go_wp2_with fail
    with_reducible refine (parts_m (L.below K) (T.below K) y r a y3 (by omega) y1 y2).mono ?_
    rintro x' w6 ⟨p, n, g, k, rfl, hP2, kb⟩
    replace K := below_trans K kb
    clear kb
    have HT := hide (show ToP 2147483648 8388608 (-149) 2139095040 1024 (-24) 31744 s a y (k && (n == m) && (g == E)) from Or.inr (Or.inr ⟨fin, m, E, r, p, n, g, k, HP.out, HN.out, HY.out.symm, hP2, rfl⟩))
    clear hP2 y1 y2 HN HY HP
    cases k
    · go_wp2
      go_ret2
      exact ⟨y, _, rfl, y3, by omega, HT.out, K⟩
    by_cases en : n = m
    · have en' : (n == m) = true := by simp [en]
      by_cases ef : g = E
      · have ef' : (g == E) = true := by simp [ef]
        have HT2 := hide (show ToP 2147483648 8388608 (-149) 2139095040 1024 (-24) 31744 s a y true by have h := HT.out; rw [en', ef'] at h; exact h)
        clear en ef HT
        go_wp2
        go_ret2
        exact ⟨y, _, rfl, y3, by omega, HT2.out, K⟩
      · have ef' : (g == E) = false := by simp [ef]
        have HT2 := hide (show ToP 2147483648 8388608 (-149) 2139095040 1024 (-24) 31744 s a y false by have h := HT.out; rw [en', ef'] at h; exact h)
        clear en ef HT
        go_wp2
        go_ret2
        exact ⟨y, _, rfl, y3, by omega, HT2.out, K⟩
    · have en' : (n == m) = false := by simp [en]
      have HT2 := hide (show ToP 2147483648 8388608 (-149) 2139095040 1024 (-24) 31744 s a y false by have h := HT.out; rw [en'] at h; simpa using h)
      clear en HT
      go_wp2
      go_ret2
      exact ⟨y, _, rfl, y3, by omega, HT2.out, K⟩
  obtain ⟨rfl, rfl, rfl, rfl⟩ := hP.1 (by omega)
  clear hP
  go_wp2_with fail
  with_reducible refine (class_16 (L.below K) x s h0 h1 Hs.out).mono ?_
  rintro x' w4 ⟨rfl, kb⟩
  replace C := C.below kb
  replace K := below_trans K kb
  clear kb
  have HCN := hide (cls_nan 32768 1024 s)
  generalize cls 32768 1024 s = cl at *
  have c0 := C.c0; have c1 := C.c1; have c2 := C.c2
  by_cases nan : 31744 < s
  · have ec : cl = 5 := HCN.out.2 (by omega)
    have ec' : (cl == 5) = true := by simp [ec]
    have HT := hide (show ToP 2147483648 8388608 (-149) 2139095040 1024 (-24) 31744 s ng 2143289344 true from Or.inl ⟨nan, by decide, rfl⟩)
    clear ec HCN
    go_wp2_with fail
    with_reducible refine (noNumber_s _).mono ?_
    rintro x' w5 ⟨rfl, kb⟩
    go_wp2
    go_ret2
    exact ⟨_, _, rfl, by decide, by decide, HT.out, below_trans K kb⟩
  have ec : ¬ cl = 5 := fun h => nan (by have := HCN.out.1 h; omega)
  have ec' : (cl == 5) = false := by simp [ec]
  have es : s = 31744 := by omega
  clear ec HCN c0 c1 c2
  go_wp2_with fail
  with_reducible refine (layoutOf_16 (L.below K)).mono ?_
  rintro x' w5 ⟨rfl, kb⟩
  replace C := C.below kb
  replace K := below_trans K kb
  clear kb
  go_wp2_with fail
  with_reducible refine (infinite_h _).mono ?_
  rintro x' w6 ⟨rfl, kb⟩
  replace C := C.below kb
  replace K := below_trans K kb
  clear kb
  have c0 := C.c0; have c1 := C.c1; have c2 := C.c2
  cases ng
  · have ex : x = 31744 := by have h := Hxs.out; rw [show b2i false = 0 from rfl] at h; omega
    have ex' : (x == 31744) = true := by simp [ex]
    have HT := hide (show ToP 2147483648 8388608 (-149) 2139095040 1024 (-24) 31744 s false 2139095040 true from Or.inr (Or.inl ⟨es, by decide, rfl⟩))
    clear ex es Hxs Hs
    go_wp2_with fail
    with_reducible refine (infinite_s _).mono ?_
    rintro x' w7 ⟨rfl, kb⟩
    go_wp2
    go_ret2
    exact ⟨_, _, rfl, by decide, by decide, HT.out, below_trans K kb⟩
  · have ex : ¬ x = 31744 := by have h := Hxs.out; rw [show b2i true = 1 from rfl] at h; omega
    have ex' : (x == 31744) = false := by simp [ex]
    have HT := hide (show ToP 2147483648 8388608 (-149) 2139095040 1024 (-24) 31744 s true 4286578688 true from Or.inr (Or.inl ⟨es, by decide, rfl⟩))
    have ho : bits .or .u64 2139095040 2147483648 = 4286578688 := by decide
    clear ex es Hxs Hs
    go_upto_region 11 with fail
    have KK : Below w6.heap.size w6 w6.drew := (Below.refl _ _).drew
    go_region_held3 (fun w' => w'.cell? ⟨w1.heap.size, 0, none⟩ = some (.int .i64 32) ∧ w'.cell? ⟨w1.heap.size, 1, none⟩ = some (.int .i64 23) ∧ w'.cell? ⟨w1.heap.size, 2, none⟩ = some (.int .i64 (-149)))
      (first
        | with_reducible exact ⟨(C.below KK).c0, (C.below KK).c1, (C.below KK).c2⟩
        | go_keep)
      (first
        | (go_at_call 111; (with_reducible refine (infinite_s _).mono ?_); rintro e w7 ⟨rfl, hb⟩; replace KK := below_trans KK hb; clear hb)
        | (go_at_call 80; (with_reducible refine (sign_s _).mono ?_); rintro e w7 ⟨rfl, hb⟩; replace KK := below_trans KK hb; clear hb))
    all_goals go_wp2
    all_goals go_ret2
    all_goals exact ⟨_, _, rfl, by decide, by decide, HT.out, below_trans K KK⟩

set_option maxRecDepth 20000 in
set_option maxHeartbeats 8000000 in
theorem to_m_32 {w : World} (L : Lays w) (T : Brn w) (x s : Int) (ng : Bool) (h0 : 0 ≤ x) (h1 : x < 4294967296) (hs : x % 2147483648 = s) (hng : ng = decide (2147483648 ≤ x)) : Calls Tryd.prog 102 #[.int .u32 x] w fun e w' => ∃ y ok, e = .returned (.tuple #[.int .u32 y, .bool ok]) ∧ 0 ≤ y ∧ y < 4294967296 ∧ ToP 2147483648 8388608 (-149) 2139095040 8388608 (-149) 2139095040 s ng y ok ∧ Below w.heap.size w w' := by
  have s0 : 0 ≤ s := by omega
  have s1 : s < 2147483648 := by omega
  have hxs : x = s + b2i ng * 2147483648 := by
    subst hng
    by_cases c : 2147483648 ≤ x
    · rw [decide_eq_true c, show b2i true = 1 from rfl]; omega
    · rw [decide_eq_false c, show b2i false = 0 from rfl]; omega
  have Hxs := hide hxs
  have Hs := hide hs
  clear hxs hs
  go_enter Tryd.func102, Tryd.ntmps102
  go_wp2_with fail
  with_reducible refine (layoutOf_m L).mono ?_
  rintro e w1 ⟨rfl, K1⟩
  go_upto_region 2 with fail
  have C := cell3_new w1 (.int .i64 32) (.int .i64 23) (.int .i64 (-149)) 106
  have K := below_trans K1 (bel_new w1 (.cells #[.int .i64 32, .int .i64 23, .int .i64 (-149)] 106))
  generalize w1.alloc (.cells #[.int .i64 32, .int .i64 23, .int .i64 (-149)] 106) = w2 at *
  go_wp2_with fail
  with_reducible refine (parts_32 (L.below K) (T.below K) x s ng h0 h1 Hs.out hng).mono ?_
  rintro x' w3 ⟨a, m, E, ok, rfl, hP, kb⟩
  replace C := C.below kb
  replace K := below_trans K kb
  clear kb
  obtain ⟨m0, m1, E0, E1⟩ := part_bounds (F := 8388608) (L := (-149)) (S := 2147483648) (by decide) (by decide) (by decide) s0 s1 (by unfold est; split <;> omega) (by decide) hP
  have Hng := hide hng
  clear hng
  by_cases fin : s < 2139095040
  · obtain ⟨rfl, rfl, -, -⟩ := hP.2 fin
    have HP := hide hP
    clear hP
    go_wp2_with fail
    with_reducible refine (from_any m m0 (by omega)).mono ?_
    rintro x' w4 ⟨vm, rfl, hM, kb⟩
    replace K := below_trans K kb
    clear kb
    go_wp2_with fail
    with_reducible refine (round_m (L.below K) (neg := a) (more := false) hM.arg (by decide) (by omega) (by omega)).mono ?_
    rintro x' w5 ⟨r, rfl, hN, kb⟩
    replace K := below_trans K kb
    clear kb hM
    have r0 := hN.1
    have r1 := hN.2.1
    obtain ⟨y1, y2, y3, y4⟩ := sgn_part (S := 2147483648) a r0 (by omega)
    have HN := hide hN
    clear hN
    generalize hy : r + b2i a * 2147483648 = y at *
    have HY := hide hy
    clear hy
    go_wp2_with fail
    with_reducible refine (parts_m (L.below K) (T.below K) y r a y3 (by omega) y1 y2).mono ?_
    rintro x' w6 ⟨p, n, g, k, rfl, hP2, kb⟩
    replace K := below_trans K kb
    clear kb
    have HT := hide (show ToP 2147483648 8388608 (-149) 2139095040 8388608 (-149) 2139095040 s a y (k && (n == m) && (g == E)) from Or.inr (Or.inr ⟨fin, m, E, r, p, n, g, k, HP.out, HN.out, HY.out.symm, hP2, rfl⟩))
    clear hP2 y1 y2 HN HY HP
    cases k
    · go_wp2
      go_ret2
      exact ⟨y, _, rfl, y3, by omega, HT.out, K⟩
    by_cases en : n = m
    · have en' : (n == m) = true := by simp [en]
      by_cases ef : g = E
      · have ef' : (g == E) = true := by simp [ef]
        have HT2 := hide (show ToP 2147483648 8388608 (-149) 2139095040 8388608 (-149) 2139095040 s a y true by have h := HT.out; rw [en', ef'] at h; exact h)
        clear en ef HT
        go_wp2
        go_ret2
        exact ⟨y, _, rfl, y3, by omega, HT2.out, K⟩
      · have ef' : (g == E) = false := by simp [ef]
        have HT2 := hide (show ToP 2147483648 8388608 (-149) 2139095040 8388608 (-149) 2139095040 s a y false by have h := HT.out; rw [en', ef'] at h; exact h)
        clear en ef HT
        go_wp2
        go_ret2
        exact ⟨y, _, rfl, y3, by omega, HT2.out, K⟩
    · have en' : (n == m) = false := by simp [en]
      have HT2 := hide (show ToP 2147483648 8388608 (-149) 2139095040 8388608 (-149) 2139095040 s a y false by have h := HT.out; rw [en'] at h; simpa using h)
      clear en HT
      go_wp2
      go_ret2
      exact ⟨y, _, rfl, y3, by omega, HT2.out, K⟩
  obtain ⟨rfl, rfl, rfl, rfl⟩ := hP.1 (by omega)
  clear hP
  go_wp2_with fail
  with_reducible refine (class_32 (L.below K) x s h0 h1 Hs.out).mono ?_
  rintro x' w4 ⟨rfl, kb⟩
  replace C := C.below kb
  replace K := below_trans K kb
  clear kb
  have HCN := hide (cls_nan 2147483648 8388608 s)
  generalize cls 2147483648 8388608 s = cl at *
  have c0 := C.c0; have c1 := C.c1; have c2 := C.c2
  by_cases nan : 2139095040 < s
  · have ec : cl = 5 := HCN.out.2 (by omega)
    have ec' : (cl == 5) = true := by simp [ec]
    have HT := hide (show ToP 2147483648 8388608 (-149) 2139095040 8388608 (-149) 2139095040 s ng 2143289344 true from Or.inl ⟨nan, by decide, rfl⟩)
    clear ec HCN
    go_wp2_with fail
    with_reducible refine (noNumber_s _).mono ?_
    rintro x' w5 ⟨rfl, kb⟩
    go_wp2
    go_ret2
    exact ⟨_, _, rfl, by decide, by decide, HT.out, below_trans K kb⟩
  have ec : ¬ cl = 5 := fun h => nan (by have := HCN.out.1 h; omega)
  have ec' : (cl == 5) = false := by simp [ec]
  have es : s = 2139095040 := by omega
  clear ec HCN c0 c1 c2
  go_wp2_with fail
  with_reducible refine (layoutOf_32 (L.below K)).mono ?_
  rintro x' w5 ⟨rfl, kb⟩
  replace C := C.below kb
  replace K := below_trans K kb
  clear kb
  go_wp2_with fail
  with_reducible refine (infinite_s _).mono ?_
  rintro x' w6 ⟨rfl, kb⟩
  replace C := C.below kb
  replace K := below_trans K kb
  clear kb
  have c0 := C.c0; have c1 := C.c1; have c2 := C.c2
  cases ng
  · have ex : x = 2139095040 := by have h := Hxs.out; rw [show b2i false = 0 from rfl] at h; omega
    have ex' : (x == 2139095040) = true := by simp [ex]
    have HT := hide (show ToP 2147483648 8388608 (-149) 2139095040 8388608 (-149) 2139095040 s false 2139095040 true from Or.inr (Or.inl ⟨es, by decide, rfl⟩))
    clear ex es Hxs Hs
    go_wp2_with fail
    with_reducible refine (infinite_s _).mono ?_
    rintro x' w7 ⟨rfl, kb⟩
    go_wp2
    go_ret2
    exact ⟨_, _, rfl, by decide, by decide, HT.out, below_trans K kb⟩
  · have ex : ¬ x = 2139095040 := by have h := Hxs.out; rw [show b2i true = 1 from rfl] at h; omega
    have ex' : (x == 2139095040) = false := by simp [ex]
    have HT := hide (show ToP 2147483648 8388608 (-149) 2139095040 8388608 (-149) 2139095040 s true 4286578688 true from Or.inr (Or.inl ⟨es, by decide, rfl⟩))
    have ho : bits .or .u64 2139095040 2147483648 = 4286578688 := by decide
    clear ex es Hxs Hs
    go_upto_region 11 with fail
    have KK : Below w6.heap.size w6 w6.drew := (Below.refl _ _).drew
    go_region_held3 (fun w' => w'.cell? ⟨w1.heap.size, 0, none⟩ = some (.int .i64 32) ∧ w'.cell? ⟨w1.heap.size, 1, none⟩ = some (.int .i64 23) ∧ w'.cell? ⟨w1.heap.size, 2, none⟩ = some (.int .i64 (-149)))
      (first
        | with_reducible exact ⟨(C.below KK).c0, (C.below KK).c1, (C.below KK).c2⟩
        | go_keep)
      (first
        | (go_at_call 111; (with_reducible refine (infinite_s _).mono ?_); rintro e w7 ⟨rfl, hb⟩; replace KK := below_trans KK hb; clear hb)
        | (go_at_call 80; (with_reducible refine (sign_s _).mono ?_); rintro e w7 ⟨rfl, hb⟩; replace KK := below_trans KK hb; clear hb))
    all_goals go_wp2
    all_goals go_ret2
    all_goals exact ⟨_, _, rfl, by decide, by decide, HT.out, below_trans K KK⟩

set_option maxRecDepth 20000 in
set_option maxHeartbeats 8000000 in
theorem to_m_64 {w : World} (L : Lays w) (T : Brn w) (x s : Int) (ng : Bool) (h0 : 0 ≤ x) (h1 : x < 18446744073709551616) (hs : x % 9223372036854775808 = s) (hng : ng = decide (9223372036854775808 ≤ x)) : Calls Tryd.prog 100 #[.int .u64 x] w fun e w' => ∃ y ok, e = .returned (.tuple #[.int .u32 y, .bool ok]) ∧ 0 ≤ y ∧ y < 4294967296 ∧ ToP 2147483648 8388608 (-149) 2139095040 4503599627370496 (-1074) 9218868437227405312 s ng y ok ∧ Below w.heap.size w w' := by
  have s0 : 0 ≤ s := by omega
  have s1 : s < 9223372036854775808 := by omega
  have hxs : x = s + b2i ng * 9223372036854775808 := by
    subst hng
    by_cases c : 9223372036854775808 ≤ x
    · rw [decide_eq_true c, show b2i true = 1 from rfl]; omega
    · rw [decide_eq_false c, show b2i false = 0 from rfl]; omega
  have Hxs := hide hxs
  have Hs := hide hs
  clear hxs hs
  go_enter Tryd.func100, Tryd.ntmps100
  go_wp2_with fail
  with_reducible refine (layoutOf_m L).mono ?_
  rintro e w1 ⟨rfl, K1⟩
  go_upto_region 2 with fail
  have C := cell3_new w1 (.int .i64 32) (.int .i64 23) (.int .i64 (-149)) 106
  have K := below_trans K1 (bel_new w1 (.cells #[.int .i64 32, .int .i64 23, .int .i64 (-149)] 106))
  generalize w1.alloc (.cells #[.int .i64 32, .int .i64 23, .int .i64 (-149)] 106) = w2 at *
  go_wp2_with fail
  with_reducible refine (parts_64 (L.below K) (T.below K) x s ng h0 h1 Hs.out hng).mono ?_
  rintro x' w3 ⟨a, m, E, ok, rfl, hP, kb⟩
  replace C := C.below kb
  replace K := below_trans K kb
  clear kb
  obtain ⟨m0, m1, E0, E1⟩ := part_bounds (F := 4503599627370496) (L := (-1074)) (S := 9223372036854775808) (by decide) (by decide) (by decide) s0 s1 (by unfold est; split <;> omega) (by decide) hP
  have Hng := hide hng
  clear hng
  by_cases fin : s < 9218868437227405312
  · obtain ⟨rfl, rfl, -, -⟩ := hP.2 fin
    have HP := hide hP
    clear hP
    go_wp2_with fail
    with_reducible refine (from_any m m0 (by omega)).mono ?_
    rintro x' w4 ⟨vm, rfl, hM, kb⟩
    replace K := below_trans K kb
    clear kb
    go_wp2_with fail
    with_reducible refine (round_m (L.below K) (neg := a) (more := false) hM.arg (by decide) (by omega) (by omega)).mono ?_
    rintro x' w5 ⟨r, rfl, hN, kb⟩
    replace K := below_trans K kb
    clear kb hM
    have r0 := hN.1
    have r1 := hN.2.1
    obtain ⟨y1, y2, y3, y4⟩ := sgn_part (S := 2147483648) a r0 (by omega)
    have HN := hide hN
    clear hN
    generalize hy : r + b2i a * 2147483648 = y at *
    have HY := hide hy
    clear hy
    go_wp2_with fail
    with_reducible refine (parts_m (L.below K) (T.below K) y r a y3 (by omega) y1 y2).mono ?_
    rintro x' w6 ⟨p, n, g, k, rfl, hP2, kb⟩
    replace K := below_trans K kb
    clear kb
    have HT := hide (show ToP 2147483648 8388608 (-149) 2139095040 4503599627370496 (-1074) 9218868437227405312 s a y (k && (n == m) && (g == E)) from Or.inr (Or.inr ⟨fin, m, E, r, p, n, g, k, HP.out, HN.out, HY.out.symm, hP2, rfl⟩))
    clear hP2 y1 y2 HN HY HP
    cases k
    · go_wp2
      go_ret2
      exact ⟨y, _, rfl, y3, by omega, HT.out, K⟩
    by_cases en : n = m
    · have en' : (n == m) = true := by simp [en]
      by_cases ef : g = E
      · have ef' : (g == E) = true := by simp [ef]
        have HT2 := hide (show ToP 2147483648 8388608 (-149) 2139095040 4503599627370496 (-1074) 9218868437227405312 s a y true by have h := HT.out; rw [en', ef'] at h; exact h)
        clear en ef HT
        go_wp2
        go_ret2
        exact ⟨y, _, rfl, y3, by omega, HT2.out, K⟩
      · have ef' : (g == E) = false := by simp [ef]
        have HT2 := hide (show ToP 2147483648 8388608 (-149) 2139095040 4503599627370496 (-1074) 9218868437227405312 s a y false by have h := HT.out; rw [en', ef'] at h; exact h)
        clear en ef HT
        go_wp2
        go_ret2
        exact ⟨y, _, rfl, y3, by omega, HT2.out, K⟩
    · have en' : (n == m) = false := by simp [en]
      have HT2 := hide (show ToP 2147483648 8388608 (-149) 2139095040 4503599627370496 (-1074) 9218868437227405312 s a y false by have h := HT.out; rw [en'] at h; simpa using h)
      clear en HT
      go_wp2
      go_ret2
      exact ⟨y, _, rfl, y3, by omega, HT2.out, K⟩
  obtain ⟨rfl, rfl, rfl, rfl⟩ := hP.1 (by omega)
  clear hP
  go_wp2_with fail
  with_reducible refine (class_64 (L.below K) x s h0 h1 Hs.out).mono ?_
  rintro x' w4 ⟨rfl, kb⟩
  replace C := C.below kb
  replace K := below_trans K kb
  clear kb
  have HCN := hide (cls_nan 9223372036854775808 4503599627370496 s)
  generalize cls 9223372036854775808 4503599627370496 s = cl at *
  have c0 := C.c0; have c1 := C.c1; have c2 := C.c2
  by_cases nan : 9218868437227405312 < s
  · have ec : cl = 5 := HCN.out.2 (by omega)
    have ec' : (cl == 5) = true := by simp [ec]
    have HT := hide (show ToP 2147483648 8388608 (-149) 2139095040 4503599627370496 (-1074) 9218868437227405312 s ng 2143289344 true from Or.inl ⟨nan, by decide, rfl⟩)
    clear ec HCN
    go_wp2_with fail
    with_reducible refine (noNumber_s _).mono ?_
    rintro x' w5 ⟨rfl, kb⟩
    go_wp2
    go_ret2
    exact ⟨_, _, rfl, by decide, by decide, HT.out, below_trans K kb⟩
  have ec : ¬ cl = 5 := fun h => nan (by have := HCN.out.1 h; omega)
  have ec' : (cl == 5) = false := by simp [ec]
  have es : s = 9218868437227405312 := by omega
  clear ec HCN c0 c1 c2
  go_wp2_with fail
  with_reducible refine (layoutOf_64 (L.below K)).mono ?_
  rintro x' w5 ⟨rfl, kb⟩
  replace C := C.below kb
  replace K := below_trans K kb
  clear kb
  go_wp2_with fail
  with_reducible refine (infinite_d _).mono ?_
  rintro x' w6 ⟨rfl, kb⟩
  replace C := C.below kb
  replace K := below_trans K kb
  clear kb
  have c0 := C.c0; have c1 := C.c1; have c2 := C.c2
  cases ng
  · have ex : x = 9218868437227405312 := by have h := Hxs.out; rw [show b2i false = 0 from rfl] at h; omega
    have ex' : (x == 9218868437227405312) = true := by simp [ex]
    have HT := hide (show ToP 2147483648 8388608 (-149) 2139095040 4503599627370496 (-1074) 9218868437227405312 s false 2139095040 true from Or.inr (Or.inl ⟨es, by decide, rfl⟩))
    clear ex es Hxs Hs
    go_wp2_with fail
    with_reducible refine (infinite_s _).mono ?_
    rintro x' w7 ⟨rfl, kb⟩
    go_wp2
    go_ret2
    exact ⟨_, _, rfl, by decide, by decide, HT.out, below_trans K kb⟩
  · have ex : ¬ x = 9218868437227405312 := by have h := Hxs.out; rw [show b2i true = 1 from rfl] at h; omega
    have ex' : (x == 9218868437227405312) = false := by simp [ex]
    have HT := hide (show ToP 2147483648 8388608 (-149) 2139095040 4503599627370496 (-1074) 9218868437227405312 s true 4286578688 true from Or.inr (Or.inl ⟨es, by decide, rfl⟩))
    have ho : bits .or .u64 2139095040 2147483648 = 4286578688 := by decide
    clear ex es Hxs Hs
    go_upto_region 11 with fail
    have KK : Below w6.heap.size w6 w6.drew := (Below.refl _ _).drew
    go_region_held3 (fun w' => w'.cell? ⟨w1.heap.size, 0, none⟩ = some (.int .i64 32) ∧ w'.cell? ⟨w1.heap.size, 1, none⟩ = some (.int .i64 23) ∧ w'.cell? ⟨w1.heap.size, 2, none⟩ = some (.int .i64 (-149)))
      (first
        | with_reducible exact ⟨(C.below KK).c0, (C.below KK).c1, (C.below KK).c2⟩
        | go_keep)
      (first
        | (go_at_call 111; (with_reducible refine (infinite_s _).mono ?_); rintro e w7 ⟨rfl, hb⟩; replace KK := below_trans KK hb; clear hb)
        | (go_at_call 80; (with_reducible refine (sign_s _).mono ?_); rintro e w7 ⟨rfl, hb⟩; replace KK := below_trans KK hb; clear hb))
    all_goals go_wp2
    all_goals go_ret2
    all_goals exact ⟨_, _, rfl, by decide, by decide, HT.out, below_trans K KK⟩

set_option maxRecDepth 20000 in
set_option maxHeartbeats 8000000 in
theorem to_m_m {w : World} (L : Lays w) (T : Brn w) (x s : Int) (ng : Bool) (h0 : 0 ≤ x) (h1 : x < 4294967296) (hs : x % 2147483648 = s) (hng : ng = decide (2147483648 ≤ x)) : Calls Tryd.prog 101 #[.int .u32 x] w fun e w' => ∃ y ok, e = .returned (.tuple #[.int .u32 y, .bool ok]) ∧ 0 ≤ y ∧ y < 4294967296 ∧ ToP 2147483648 8388608 (-149) 2139095040 8388608 (-149) 2139095040 s ng y ok ∧ Below w.heap.size w w' := by
  have s0 : 0 ≤ s := by omega
  have s1 : s < 2147483648 := by omega
  have hxs : x = s + b2i ng * 2147483648 := by
    subst hng
    by_cases c : 2147483648 ≤ x
    · rw [decide_eq_true c, show b2i true = 1 from rfl]; omega
    · rw [decide_eq_false c, show b2i false = 0 from rfl]; omega
  have Hxs := hide hxs
  have Hs := hide hs
  clear hxs hs
  go_enter Tryd.func101, Tryd.ntmps101
  go_wp2_with fail
  with_reducible refine (layoutOf_m L).mono ?_
  rintro e w1 ⟨rfl, K1⟩
  go_upto_region 2 with fail
  have C := cell3_new w1 (.int .i64 32) (.int .i64 23) (.int .i64 (-149)) 106
  have K := below_trans K1 (bel_new w1 (.cells #[.int .i64 32, .int .i64 23, .int .i64 (-149)] 106))
  generalize w1.alloc (.cells #[.int .i64 32, .int .i64 23, .int .i64 (-149)] 106) = w2 at *
  go_wp2_with fail
  with_reducible refine (parts_m (L.below K) (T.below K) x s ng h0 h1 Hs.out hng).mono ?_
  rintro x' w3 ⟨a, m, E, ok, rfl, hP, kb⟩
  replace C := C.below kb
  replace K := below_trans K kb
  clear kb
  obtain ⟨m0, m1, E0, E1⟩ := part_bounds (F := 8388608) (L := (-149)) (S := 2147483648) (by decide) (by decide) (by decide) s0 s1 (by unfold est; split <;> omega) (by decide) hP
  have Hng := hide hng
  clear hng
  by_cases fin : s < 2139095040
  · obtain ⟨rfl, rfl, -, -⟩ := hP.2 fin
    have HP := hide hP
    clear hP
    go_wp2_with fail
    with_reducible refine (from_any m m0 (by omega)).mono ?_
    rintro x' w4 ⟨vm, rfl, hM, kb⟩
    replace K := below_trans K kb
    clear kb
    go_wp2_with fail
    with_reducible refine (round_m (L.below K) (neg := a) (more := false) hM.arg (by decide) (by omega) (by omega)).mono ?_
    rintro x' w5 ⟨r, rfl, hN, kb⟩
    replace K := below_trans K kb
    clear kb hM
    have r0 := hN.1
    have r1 := hN.2.1
    obtain ⟨y1, y2, y3, y4⟩ := sgn_part (S := 2147483648) a r0 (by omega)
    have HN := hide hN
    clear hN
    generalize hy : r + b2i a * 2147483648 = y at *
    have HY := hide hy
    clear hy
    go_wp2_with fail
    with_reducible refine (parts_m (L.below K) (T.below K) y r a y3 (by omega) y1 y2).mono ?_
    rintro x' w6 ⟨p, n, g, k, rfl, hP2, kb⟩
    replace K := below_trans K kb
    clear kb
    have HT := hide (show ToP 2147483648 8388608 (-149) 2139095040 8388608 (-149) 2139095040 s a y (k && (n == m) && (g == E)) from Or.inr (Or.inr ⟨fin, m, E, r, p, n, g, k, HP.out, HN.out, HY.out.symm, hP2, rfl⟩))
    clear hP2 y1 y2 HN HY HP
    cases k
    · go_wp2
      go_ret2
      exact ⟨y, _, rfl, y3, by omega, HT.out, K⟩
    by_cases en : n = m
    · have en' : (n == m) = true := by simp [en]
      by_cases ef : g = E
      · have ef' : (g == E) = true := by simp [ef]
        have HT2 := hide (show ToP 2147483648 8388608 (-149) 2139095040 8388608 (-149) 2139095040 s a y true by have h := HT.out; rw [en', ef'] at h; exact h)
        clear en ef HT
        go_wp2
        go_ret2
        exact ⟨y, _, rfl, y3, by omega, HT2.out, K⟩
      · have ef' : (g == E) = false := by simp [ef]
        have HT2 := hide (show ToP 2147483648 8388608 (-149) 2139095040 8388608 (-149) 2139095040 s a y false by have h := HT.out; rw [en', ef'] at h; exact h)
        clear en ef HT
        go_wp2
        go_ret2
        exact ⟨y, _, rfl, y3, by omega, HT2.out, K⟩
    · have en' : (n == m) = false := by simp [en]
      have HT2 := hide (show ToP 2147483648 8388608 (-149) 2139095040 8388608 (-149) 2139095040 s a y false by have h := HT.out; rw [en'] at h; simpa using h)
      clear en HT
      go_wp2
      go_ret2
      exact ⟨y, _, rfl, y3, by omega, HT2.out, K⟩
  obtain ⟨rfl, rfl, rfl, rfl⟩ := hP.1 (by omega)
  clear hP
  go_wp2_with fail
  with_reducible refine (class_m (L.below K) x s h0 h1 Hs.out).mono ?_
  rintro x' w4 ⟨rfl, kb⟩
  replace C := C.below kb
  replace K := below_trans K kb
  clear kb
  have HCN := hide (cls_nan 2147483648 8388608 s)
  generalize cls 2147483648 8388608 s = cl at *
  have c0 := C.c0; have c1 := C.c1; have c2 := C.c2
  by_cases nan : 2139095040 < s
  · have ec : cl = 5 := HCN.out.2 (by omega)
    have ec' : (cl == 5) = true := by simp [ec]
    have HT := hide (show ToP 2147483648 8388608 (-149) 2139095040 8388608 (-149) 2139095040 s ng 2143289344 true from Or.inl ⟨nan, by decide, rfl⟩)
    clear ec HCN
    go_wp2_with fail
    with_reducible refine (noNumber_s _).mono ?_
    rintro x' w5 ⟨rfl, kb⟩
    go_wp2
    go_ret2
    exact ⟨_, _, rfl, by decide, by decide, HT.out, below_trans K kb⟩
  have ec : ¬ cl = 5 := fun h => nan (by have := HCN.out.1 h; omega)
  have ec' : (cl == 5) = false := by simp [ec]
  have es : s = 2139095040 := by omega
  clear ec HCN c0 c1 c2
  go_wp2_with fail
  with_reducible refine (layoutOf_m (L.below K)).mono ?_
  rintro x' w5 ⟨rfl, kb⟩
  replace C := C.below kb
  replace K := below_trans K kb
  clear kb
  go_wp2_with fail
  with_reducible refine (infinite_s _).mono ?_
  rintro x' w6 ⟨rfl, kb⟩
  replace C := C.below kb
  replace K := below_trans K kb
  clear kb
  have c0 := C.c0; have c1 := C.c1; have c2 := C.c2
  cases ng
  · have ex : x = 2139095040 := by have h := Hxs.out; rw [show b2i false = 0 from rfl] at h; omega
    have ex' : (x == 2139095040) = true := by simp [ex]
    have HT := hide (show ToP 2147483648 8388608 (-149) 2139095040 8388608 (-149) 2139095040 s false 2139095040 true from Or.inr (Or.inl ⟨es, by decide, rfl⟩))
    clear ex es Hxs Hs
    go_wp2_with fail
    with_reducible refine (infinite_s _).mono ?_
    rintro x' w7 ⟨rfl, kb⟩
    go_wp2
    go_ret2
    exact ⟨_, _, rfl, by decide, by decide, HT.out, below_trans K kb⟩
  · have ex : ¬ x = 2139095040 := by have h := Hxs.out; rw [show b2i true = 1 from rfl] at h; omega
    have ex' : (x == 2139095040) = false := by simp [ex]
    have HT := hide (show ToP 2147483648 8388608 (-149) 2139095040 8388608 (-149) 2139095040 s true 4286578688 true from Or.inr (Or.inl ⟨es, by decide, rfl⟩))
    have ho : bits .or .u64 2139095040 2147483648 = 4286578688 := by decide
    clear ex es Hxs Hs
    go_upto_region 11 with fail
    have KK : Below w6.heap.size w6 w6.drew := (Below.refl _ _).drew
    go_region_held3 (fun w' => w'.cell? ⟨w1.heap.size, 0, none⟩ = some (.int .i64 32) ∧ w'.cell? ⟨w1.heap.size, 1, none⟩ = some (.int .i64 23) ∧ w'.cell? ⟨w1.heap.size, 2, none⟩ = some (.int .i64 (-149)))
      (first
        | with_reducible exact ⟨(C.below KK).c0, (C.below KK).c1, (C.below KK).c2⟩
        | go_keep)
      (first
        | (go_at_call 111; (with_reducible refine (infinite_s _).mono ?_); rintro e w7 ⟨rfl, hb⟩; replace KK := below_trans KK hb; clear hb)
        | (go_at_call 80; (with_reducible refine (sign_s _).mono ?_); rintro e w7 ⟨rfl, hb⟩; replace KK := below_trans KK hb; clear hb))
    all_goals go_wp2
    all_goals go_ret2
    all_goals exact ⟨_, _, rfl, by decide, by decide, HT.out, below_trans K KK⟩

end Go.Proofs.YtmmkdihhcmcjjaaDoor
