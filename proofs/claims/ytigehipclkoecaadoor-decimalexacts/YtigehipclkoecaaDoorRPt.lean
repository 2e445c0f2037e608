/- crucibleref04.Parts (out of IRefP) -/
import Derived.Test.YtigehipclkoecaaDoorRNm
import Derived.Test.YtigehipclkoecaaDoorIeeeP
namespace Go.Proofs.YtigehipclkoecaaDoor
open Go.RowKit
set_option linter.unusedVariables false

set_option maxRecDepth 20000 in
set_option maxHeartbeats 4000000 in
theorem rParts_h (w : World) (x s : Int) (ng : Bool) (h0 : 0 ≤ x) (h1 : x < 65536) (hs : x % 32768 = s) (hng : ng = decide (32768 ≤ x)) : Calls Tryd.prog 12 #[.int .i64 16, .int .u64 x] w fun e w' => ∃ a m E ok, e = .returned (.tuple #[.bool a, .int .u64 m, .int .i64 E, .bool ok]) ∧ PartIs 1024 (-24) 31744 s ng a m E ok ∧ Below w.heap.size w w' := by
  have s0 : 0 ≤ s := by omega
  have s1 : s < 32768 := by omega
  go_enter Tryd.func12, Tryd.ntmps12
  go_wp2_with fail
  with_reducible refine (rSize_h _ x s h0 h1 hs).mono ?_
  rintro x' w1 ⟨rfl, rfl⟩
  go_wp2_with fail
  with_reducible refine (rInf_h _).mono ?_
  rintro x' w2 ⟨rfl, K⟩
  by_cases a1 : 31744 ≤ s
  · have HP : PartIs 1024 (-24) 31744 s ng false 0 0 false := ⟨fun _ => ⟨rfl, rfl, rfl, rfl⟩, fun h => by omega⟩
    go_wp2
    (try simp only [Exit.inBlock, Exit.then])
    exact bodyPost_ret (v := .tuple #[.bool false, .int .u64 0, .int .i64 0, .bool false]) (by simp [results, Tryd.results12, go_sem]) rfl ⟨_, _, _, _, rfl, HP, K⟩
  go_wp2_with fail
  with_reducible refine (rSize_h _ x s h0 h1 hs).mono ?_
  rintro x' w3 ⟨rfl, rfl⟩
  go_wp2_with fail
  with_reducible refine (rNumber_h _ s s0 s1).mono ?_
  rintro x' w4 ⟨rfl, kb⟩
  replace K := below_trans K kb
  clear kb
  by_cases a2 : s = 0
  · have HP : PartIs 1024 (-24) 31744 s ng ng 0 0 true := ⟨fun h => by omega, fun _ => ⟨rfl, rfl, fun _ => ⟨rfl, rfl⟩, fun h => by omega⟩⟩
    have HPP := hide HP
    rw [a2, show mst 1024 0 = 0 by decide]
    have Hng := hide hng
    clear a2 HP hng hs
    go_wp2_with fail
    with_reducible refine (rNeg_h _ x).mono ?_
    rintro x' w5 ⟨rfl, rfl⟩
    rw [← Hng.out]
    go_wp2
    (try simp only [Exit.inBlock, Exit.then])
    exact bodyPost_ret (v := .tuple #[.bool ng, .int .u64 0, .int .i64 0, .bool true]) (by simp [results, Tryd.results12, go_sem]) rfl ⟨_, _, _, _, rfl, HPP.out, K⟩
  obtain ⟨m0, m1⟩ := mst_range (F := 1024) (s := s) (S := 32768) (by decide) (by omega) (by decide) s1
  obtain ⟨g0, g1⟩ : -1074 ≤ est 1024 (-24) s ∧ est 1024 (-24) s < 65536 := by unfold est; split <;> omega
  generalize hM : mst 1024 s = mm at *
  generalize hE : est 1024 (-24) s = ee at *
  have HM := hide hM
  have HE := hide hE
  have Hng := hide hng
  clear hM hE hng hs
  have z' : (mm == 0) = false := by simp; omega
  go_wp2
  go_loopw [8, 9] (fun p q wr => ∃ (j : Nat) (m : Int), p = .int .u64 m ∧ q = .int .i64 (ee + j) ∧ 0 < m ∧ m ≤ mm ∧ mm = m * p2 j ∧ j < 64 ∧ wr = w4) (fun p _ _ => (intOf p).toNat)
  case atStart => exact ⟨0, mm, rfl, by simp, m0, Int.le_refl _, by simp [p2], by omega, rfl⟩
  case round =>
    obtain ⟨j, m, rfl, rfl, p0, p1, hm, j64, rfl⟩ := hrel
    have Hm := hide hm
    clear hm
    by_cases ev : m % 2 = 0
    · have ev' : (m % 2 == 0) = true := by simp [ev]
      have hj : j + 1 < 64 := by
        rcases Nat.lt_or_ge (j + 1) 64 with h | h
        · exact h
        · exfalso
          have e1 : j = 63 := by omega
          have h2 := Hm.out
          rw [e1, show p2 63 = 9223372036854775808 from by decide] at h2
          omega
      have Hn := hide (show mm = m / 2 * p2 (j + 1) by
        rw [Hm.out, p2, ← Int.mul_assoc, show m / 2 * 2 = m by omega])
      have Hev := hide ev
      clear ev
      go_wp2
      go_roundw
      case rel => exact ⟨j + 1, m / 2, rfl, by go_num, by have := Hev.out; omega, by omega, Hn.out, hj, by first | rfl | trivial⟩
      case measure => have := Hev.out; simp [intOf]; omega
    · have ev' : (m % 2 == 0) = false := by simp; omega
      have HP : PartIs 1024 (-24) 31744 s ng ng m (ee + j) true := ⟨fun h => by omega, fun _ => ⟨rfl, rfl, fun h => by omega, fun _ => ⟨by omega, j, j64, by rw [HM.out]; exact Hm.out, by rw [HE.out]⟩⟩⟩
      have HPP := hide HP
      clear HP ev
      go_wp2_with fail
      with_reducible refine (rNeg_h _ x).mono ?_
      rintro x' w5 ⟨rfl, rfl⟩
      rw [← Hng.out]
      go_wp2
      (try simp only [Exit.inBlock, Exit.then])
      exact bodyPost_ret (v := .tuple #[.bool ng, .int .u64 m, .int .i64 (ee + j), .bool true]) (by simp [results, Tryd.results12, go_sem]) rfl ⟨_, _, _, _, rfl, HPP.out, K⟩

set_option maxRecDepth 20000 in
set_option maxHeartbeats 4000000 in
theorem rParts_s (w : World) (x s : Int) (ng : Bool) (h0 : 0 ≤ x) (h1 : x < 4294967296) (hs : x % 2147483648 = s) (hng : ng = decide (2147483648 ≤ x)) : Calls Tryd.prog 12 #[.int .i64 32, .int .u64 x] w fun e w' => ∃ a m E ok, e = .returned (.tuple #[.bool a, .int .u64 m, .int .i64 E, .bool ok]) ∧ PartIs 8388608 (-149) 2139095040 s ng a m E ok ∧ Below w.heap.size w w' := by
  have s0 : 0 ≤ s := by omega
  have s1 : s < 2147483648 := by omega
  go_enter Tryd.func12, Tryd.ntmps12
  go_wp2_with fail
  with_reducible refine (rSize_s _ x s h0 h1 hs).mono ?_
  rintro x' w1 ⟨rfl, rfl⟩
  go_wp2_with fail
  with_reducible refine (rInf_s _).mono ?_
  rintro x' w2 ⟨rfl, K⟩
  by_cases a1 : 2139095040 ≤ s
  · have HP : PartIs 8388608 (-149) 2139095040 s ng false 0 0 false := ⟨fun _ => ⟨rfl, rfl, rfl, rfl⟩, fun h => by omega⟩
    go_wp2
    (try simp only [Exit.inBlock, Exit.then])
    exact bodyPost_ret (v := .tuple #[.bool false, .int .u64 0, .int .i64 0, .bool false]) (by simp [results, Tryd.results12, go_sem]) rfl ⟨_, _, _, _, rfl, HP, K⟩
  go_wp2_with fail
  with_reducible refine (rSize_s _ x s h0 h1 hs).mono ?_
  rintro x' w3 ⟨rfl, rfl⟩
  go_wp2_with fail
  with_reducible refine (rNumber_s _ s s0 s1).mono ?_
  rintro x' w4 ⟨rfl, kb⟩
  replace K := below_trans K kb
  clear kb
  by_cases a2 : s = 0
  · have HP : PartIs 8388608 (-149) 2139095040 s ng ng 0 0 true := ⟨fun h => by omega, fun _ => ⟨rfl, rfl, fun _ => ⟨rfl, rfl⟩, fun h => by omega⟩⟩
    have HPP := hide HP
    rw [a2, show mst 8388608 0 = 0 by decide]
    have Hng := hide hng
    clear a2 HP hng hs
    go_wp2_with fail
    with_reducible refine (rNeg_s _ x).mono ?_
    rintro x' w5 ⟨rfl, rfl⟩
    rw [← Hng.out]
    go_wp2
    (try simp only [Exit.inBlock, Exit.then])
    exact bodyPost_ret (v := .tuple #[.bool ng, .int .u64 0, .int .i64 0, .bool true]) (by simp [results, Tryd.results12, go_sem]) rfl ⟨_, _, _, _, rfl, HPP.out, K⟩
  obtain ⟨m0, m1⟩ := mst_range (F := 8388608) (s := s) (S := 2147483648) (by decide) (by omega) (by decide) s1
  obtain ⟨g0, g1⟩ : -1074 ≤ est 8388608 (-149) s ∧ est 8388608 (-149) s < 65536 := by unfold est; split <;> omega
  generalize hM : mst 8388608 s = mm at *
  generalize hE : est 8388608 (-149) s = ee at *
  have HM := hide hM
  have HE := hide hE
  have Hng := hide hng
  clear hM hE hng hs
  have z' : (mm == 0) = false := by simp; omega
  go_wp2
  go_loopw [8, 9] (fun p q wr => ∃ (j : Nat) (m : Int), p = .int .u64 m ∧ q = .int .i64 (ee + j) ∧ 0 < m ∧ m ≤ mm ∧ mm = m * p2 j ∧ j < 64 ∧ wr = w4) (fun p _ _ => (intOf p).toNat)
  case atStart => exact ⟨0, mm, rfl, by simp, m0, Int.le_refl _, by simp [p2], by omega, rfl⟩
  case round =>
    obtain ⟨j, m, rfl, rfl, p0, p1, hm, j64, rfl⟩ := hrel
    have Hm := hide hm
    clear hm
    by_cases ev : m % 2 = 0
    · have ev' : (m % 2 == 0) = true := by simp [ev]
      have hj : j + 1 < 64 := by
        rcases Nat.lt_or_ge (j + 1) 64 with h | h
        · exact h
        · exfalso
          have e1 : j = 63 := by omega
          have h2 := Hm.out
          rw [e1, show p2 63 = 9223372036854775808 from by decide] at h2
          omega
      have Hn := hide (show mm = m / 2 * p2 (j + 1) by
        rw [Hm.out, p2, ← Int.mul_assoc, show m / 2 * 2 = m by omega])
      have Hev := hide ev
      clear ev
      go_wp2
      go_roundw
      case rel => exact ⟨j + 1, m / 2, rfl, by go_num, by have := Hev.out; omega, by omega, Hn.out, hj, by first | rfl | trivial⟩
      case measure => have := Hev.out; simp [intOf]; omega
    · have ev' : (m % 2 == 0) = false := by simp; omega
      have HP : PartIs 8388608 (-149) 2139095040 s ng ng m (ee + j) true := ⟨fun h => by omega, fun _ => ⟨rfl, rfl, fun h => by omega, fun _ => ⟨by omega, j, j64, by rw [HM.out]; exact Hm.out, by rw [HE.out]⟩⟩⟩
      have HPP := hide HP
      clear HP ev
      go_wp2_with fail
      with_reducible refine (rNeg_s _ x).mono ?_
      rintro x' w5 ⟨rfl, rfl⟩
      rw [← Hng.out]
      go_wp2
      (try simp only [Exit.inBlock, Exit.then])
      exact bodyPost_ret (v := .tuple #[.bool ng, .int .u64 m, .int .i64 (ee + j), .bool true]) (by simp [results, Tryd.results12, go_sem]) rfl ⟨_, _, _, _, rfl, HPP.out, K⟩

set_option maxRecDepth 20000 in
set_option maxHeartbeats 4000000 in
theorem rParts_d (w : World) (x s : Int) (ng : Bool) (h0 : 0 ≤ x) (h1 : x < 18446744073709551616) (hs : x % 9223372036854775808 = s) (hng : ng = decide (9223372036854775808 ≤ x)) : Calls Tryd.prog 12 #[.int .i64 64, .int .u64 x] w fun e w' => ∃ a m E ok, e = .returned (.tuple #[.bool a, .int .u64 m, .int .i64 E, .bool ok]) ∧ PartIs 4503599627370496 (-1074) 9218868437227405312 s ng a m E ok ∧ Below w.heap.size w w' := by
  have s0 : 0 ≤ s := by omega
  have s1 : s < 9223372036854775808 := by omega
  go_enter Tryd.func12, Tryd.ntmps12
  go_wp2_with fail
  with_reducible refine (rSize_d _ x s h0 h1 hs).mono ?_
  rintro x' w1 ⟨rfl, rfl⟩
  go_wp2_with fail
  with_reducible refine (rInf_d _).mono ?_
  rintro x' w2 ⟨rfl, K⟩
  by_cases a1 : 9218868437227405312 ≤ s
  · have HP : PartIs 4503599627370496 (-1074) 9218868437227405312 s ng false 0 0 false := ⟨fun _ => ⟨rfl, rfl, rfl, rfl⟩, fun h => by omega⟩
    go_wp2
    (try simp only [Exit.inBlock, Exit.then])
    exact bodyPost_ret (v := .tuple #[.bool false, .int .u64 0, .int .i64 0, .bool false]) (by simp [results, Tryd.results12, go_sem]) rfl ⟨_, _, _, _, rfl, HP, K⟩
  go_wp2_with fail
  with_reducible refine (rSize_d _ x s h0 h1 hs).mono ?_
  rintro x' w3 ⟨rfl, rfl⟩
  go_wp2_with fail
  with_reducible refine (rNumber_d _ s s0 s1).mono ?_
  rintro x' w4 ⟨rfl, kb⟩
  replace K := below_trans K kb
  clear kb
  by_cases a2 : s = 0
  · have HP : PartIs 4503599627370496 (-1074) 9218868437227405312 s ng ng 0 0 true := ⟨fun h => by omega, fun _ => ⟨rfl, rfl, fun _ => ⟨rfl, rfl⟩, fun h => by omega⟩⟩
    have HPP := hide HP
    rw [a2, show mst 4503599627370496 0 = 0 by decide]
    have Hng := hide hng
    clear a2 HP hng hs
    go_wp2_with fail
    with_reducible refine (rNeg_d _ x).mono ?_
    rintro x' w5 ⟨rfl, rfl⟩
    rw [← Hng.out]
    go_wp2
    (try simp only [Exit.inBlock, Exit.then])
    exact bodyPost_ret (v := .tuple #[.bool ng, .int .u64 0, .int .i64 0, .bool true]) (by simp [results, Tryd.results12, go_sem]) rfl ⟨_, _, _, _, rfl, HPP.out, K⟩
  obtain ⟨m0, m1⟩ := mst_range (F := 4503599627370496) (s := s) (S := 9223372036854775808) (by decide) (by omega) (by decide) s1
  obtain ⟨g0, g1⟩ : -1074 ≤ est 4503599627370496 (-1074) s ∧ est 4503599627370496 (-1074) s < 65536 := by unfold est; split <;> omega
  generalize hM : mst 4503599627370496 s = mm at *
  generalize hE : est 4503599627370496 (-1074) s = ee at *
  have HM := hide hM
  have HE := hide hE
  have Hng := hide hng
  clear hM hE hng hs
  have z' : (mm == 0) = false := by simp; omega
  go_wp2
  go_loopw [8, 9] (fun p q wr => ∃ (j : Nat) (m : Int), p = .int .u64 m ∧ q = .int .i64 (ee + j) ∧ 0 < m ∧ m ≤ mm ∧ mm = m * p2 j ∧ j < 64 ∧ wr = w4) (fun p _ _ => (intOf p).toNat)
  case atStart => exact ⟨0, mm, rfl, by simp, m0, Int.le_refl _, by simp [p2], by omega, rfl⟩
  case round =>
    obtain ⟨j, m, rfl, rfl, p0, p1, hm, j64, rfl⟩ := hrel
    have Hm := hide hm
    clear hm
    by_cases ev : m % 2 = 0
    · have ev' : (m % 2 == 0) = true := by simp [ev]
      have hj : j + 1 < 64 := by
        rcases Nat.lt_or_ge (j + 1) 64 with h | h
        · exact h
        · exfalso
          have e1 : j = 63 := by omega
          have h2 := Hm.out
          rw [e1, show p2 63 = 9223372036854775808 from by decide] at h2
          omega
      have Hn := hide (show mm = m / 2 * p2 (j + 1) by
        rw [Hm.out, p2, ← Int.mul_assoc, show m / 2 * 2 = m by omega])
      have Hev := hide ev
      clear ev
      go_wp2
      go_roundw
      case rel => exact ⟨j + 1, m / 2, rfl, by go_num, by have := Hev.out; omega, by omega, Hn.out, hj, by first | rfl | trivial⟩
      case measure => have := Hev.out; simp [intOf]; omega
    · have ev' : (m % 2 == 0) = false := by simp; omega
      have HP : PartIs 4503599627370496 (-1074) 9218868437227405312 s ng ng m (ee + j) true := ⟨fun h => by omega, fun _ => ⟨rfl, rfl, fun h => by omega, fun _ => ⟨by omega, j, j64, by rw [HM.out]; exact Hm.out, by rw [HE.out]⟩⟩⟩
      have HPP := hide HP
      clear HP ev
      go_wp2_with fail
      with_reducible refine (rNeg_d _ x).mono ?_
      rintro x' w5 ⟨rfl, rfl⟩
      rw [← Hng.out]
      go_wp2
      (try simp only [Exit.inBlock, Exit.then])
      exact bodyPost_ret (v := .tuple #[.bool ng, .int .u64 m, .int .i64 (ee + j), .bool true]) (by simp [results, Tryd.results12, go_sem]) rfl ⟨_, _, _, _, rfl, HPP.out, K⟩

end Go.Proofs.YtigehipclkoecaaDoor
