import Derived.Test.YticmlelalbaalaaGreatDoorB04
import Derived.Test.YticmlelalbaalaaGreatDoorB09
import Derived.Test.YticmlelalbaalaaGreatDoorB41
namespace Go.Proofs.YticmlelalbaalaaGreatDoor
open Go.RowKit
set_option linter.unusedVariables false
theorem ret_tup22 {k k' : IntKind} {x y x' y' : Int} (h : x = x') (g : y = y') : Ending.returned (.tuple #[.int k x, .int k' y]) = .returned (.tuple #[.int k x', .int k' y']) := by rw [h, g]
theorem rshl_int {w : World} {va : Value} {A n : Int} {ka : Nat} (ha : Arg w va A ka) (hka : ka ≤ 10) (h0 : 0 ≤ n) (hN : n ≤ 2500) :
    Calls Tryz.prog 182 #[va, .int .i64 n] w fun e w' => ∃ v, e = .returned (.tuple #[v, .bool true]) ∧ Num w.heap.size w' v (A * p2 n.toNat) 400 ∧ Below w.heap.size w w' := by
  obtain ⟨N, rfl⟩ := Int.eq_ofNat_of_zero_le h0
  rw [Int.toNat_natCast]
  rcases Int.lt_or_eq_of_le ha.nonneg with c | c
  · obtain ⟨k, hk, hk2⟩ := len_of ha
    refine (rshl_ok (W := N / 8) (s := N % 8) ha (by omega) c hk hk2 (by omega) (by omega) (by omega)).mono ?_
    rintro x w1 ⟨vs, rfl, hv, K⟩
    exact ⟨vs, rfl, hv.mono (by omega), K⟩
  · subst c
    refine (rshl_zero ha (by omega) (n := (N : Int)) (by omega)).mono ?_
    rintro e w' ⟨rfl, K⟩
    refine ⟨.slice none 0 0, rfl, ?_, K⟩
    rw [Int.zero_mul]
    exact ⟨[], ⟨none, rfl, by simp [maxLen], fun h => by simp at h⟩, Nt.canon_nil, by simp [Nt.val, Nt.vt], by simp⟩
set_option maxHeartbeats 4000000 in
theorem rNumber_d (w : World) (s : Int) (s0 : 0 ≤ s) (s1 : s < 9223372036854775808) : Calls Tryz.prog 200 #[.int .i64 64, .int .u64 s] w fun e w' => e = .returned (.tuple #[.int .u64 (mst 4503599627370496 s), .int .i64 (est 4503599627370496 (-1074) s)]) ∧ Below w.heap.size w w' := by
  go_enter Tryz.func200, Tryz.ntmps200
  go_wp2_with fail
  with_reducible refine (rOf_d _).mono ?_
  rintro x w1 ⟨rfl, K1⟩
  go_upto_region 2 with fail
  have C := cell3_new w1 (.int .i64 52) (.int .i64 (-1074)) (.int .i64 2047) 231
  have K2 := below_trans K1 (bel_new w1 (.cells #[.int .i64 52, .int .i64 (-1074), .int .i64 2047] 231))
  generalize w1.alloc (.cells #[.int .i64 52, .int .i64 (-1074), .int .i64 2047] 231) = w2 at *
  have c0 := C.c0; have c1 := C.c1; have c2 := C.c2
  go_wp2_with fail
  with_reducible refine (rtwo_d _).mono ?_
  rintro x w3 ⟨rfl, rfl⟩
  by_cases a : s < 4503599627370496
  · have Hm := hide (show mst 4503599627370496 s = s by unfold mst; rw [if_pos a])
    have He := hide (show est 4503599627370496 (-1074) s = (-1074) by unfold est; rw [if_pos a])
    go_upto_region 4 with fail
    have K : Below w3.heap.size w3 w3.drew := (Below.refl _ _).drew
    go_region_held3 (fun w' => w'.cell? ⟨w1.heap.size, 0, none⟩ = some (.int .i64 52) ∧ w'.cell? ⟨w1.heap.size, 1, none⟩ = some (.int .i64 (-1074)) ∧ w'.cell? ⟨w1.heap.size, 2, none⟩ = some (.int .i64 2047))
      (first
      | with_reducible exact ⟨(C.below K).c0, (C.below K).c1, (C.below K).c2⟩
      | go_keep)
      (fail)
    all_goals go_wp2
    all_goals go_ret2
    all_goals exact ⟨by rw [Hm.out, He.out]; rfl, below_trans K2 K⟩
  · have Hm := hide (show mst 4503599627370496 s = s % 4503599627370496 + 4503599627370496 by unfold mst; rw [if_neg a])
    have He := hide (show est 4503599627370496 (-1074) s = (-1074) - 1 + s / 4503599627370496 by unfold est; rw [if_neg a])
    obtain ⟨p, hp⟩ : ∃ p, s / 4503599627370496 = p := ⟨_, rfl⟩
    obtain ⟨f, hf⟩ : ∃ f, s % 4503599627370496 = f := ⟨_, rfl⟩
    have p0 : 0 ≤ p := by omega
    have p1 : p < 65536 := by omega
    have f0 : 0 ≤ f := by omega
    have f1 : f < 4503599627370496 := by omega
    rw [hp] at He
    rw [hf] at Hm
    go_upto_region 5 with fail
    have K : Below w3.heap.size w3 w3.drew := (Below.refl _ _).drew
    go_region_held3 (fun w' => w'.cell? ⟨w1.heap.size, 0, none⟩ = some (.int .i64 52) ∧ w'.cell? ⟨w1.heap.size, 1, none⟩ = some (.int .i64 (-1074)) ∧ w'.cell? ⟨w1.heap.size, 2, none⟩ = some (.int .i64 2047))
      (first
      | with_reducible exact ⟨(C.below K).c0, (C.below K).c1, (C.below K).c2⟩
      | go_keep)
      (fail)
    all_goals go_wp2
    all_goals go_ret2
    all_goals exact ⟨by rw [Hm.out, He.out]; exact ret_tup22 (by rw [Int.tmod_eq_emod_of_nonneg s0, hf, IntKind.wrap_u64]; omega) (by rw [Int.tdiv_eq_ediv_of_nonneg s0, hp]; simp only [IntKind.wrap_i64, IntKind.wrap_u64]; omega), below_trans K2 K⟩
set_option maxRecDepth 20000 in
set_option maxHeartbeats 4000000 in
theorem rParts_d (w : World) (x s : Int) (ng : Bool) (h0 : 0 ≤ x) (h1 : x < 18446744073709551616) (hs : x % 9223372036854775808 = s) (hng : ng = decide (9223372036854775808 ≤ x)) : Calls Tryz.prog 181 #[.int .i64 64, .int .u64 x] w fun e w' => ∃ a m E ok, e = .returned (.tuple #[.bool a, .int .u64 m, .int .i64 E, .bool ok]) ∧ PartIs 4503599627370496 (-1074) 9218868437227405312 s ng a m E ok ∧ Below w.heap.size w w' := by
  have s0 : 0 ≤ s := by omega
  have s1 : s < 9223372036854775808 := by omega
  go_enter Tryz.func181, Tryz.ntmps181
  go_wp2_with fail
  with_reducible refine (rSize_d _ x s h0 h1 hs).mono ?_
  rintro x' w1 ⟨rfl, rfl⟩
  go_wp2_with fail
  with_reducible refine (rInf_d _).mono ?_
  rintro x' w2 ⟨rfl, K⟩
  by_cases a1 : 9218868437227405312 ≤ s
  · have HP : PartIs 4503599627370496 (-1074) 9218868437227405312 s ng false 0 0 false := ⟨fun _ => ⟨rfl, rfl, rfl, rfl⟩, fun h => by omega⟩
    go_wp2
    (try simp only [Exit.inBlock, Exit.then])
    exact bodyPost_ret (v := .tuple #[.bool false, .int .u64 0, .int .i64 0, .bool false]) (by simp [results, Tryz.results181, go_sem]) rfl ⟨_, _, _, _, rfl, HP, K⟩
  go_wp2_with fail
  with_reducible refine (rSize_d _ x s h0 h1 hs).mono ?_
  rintro x' w3 ⟨rfl, rfl⟩
  go_wp2_with fail
  with_reducible refine (rNumber_d _ s s0 s1).mono ?_
  rintro x' w4 ⟨rfl, kb⟩
  replace K := below_trans K kb
  clear kb
  by_cases a2 : s = 0
  · have HP : PartIs 4503599627370496 (-1074) 9218868437227405312 s ng ng 0 0 true := ⟨fun h => by omega, fun _ => ⟨rfl, rfl, fun _ => ⟨rfl, rfl⟩, fun h => by omega⟩⟩
    have HPP := hide HP
    rw [a2, show mst 4503599627370496 0 = 0 by decide]
    have Hng := hide hng
    clear a2 HP hng hs
    go_wp2_with fail
    with_reducible refine (rNeg_d _ x).mono ?_
    rintro x' w5 ⟨rfl, rfl⟩
    rw [← Hng.out]
    go_wp2
    (try simp only [Exit.inBlock, Exit.then])
    exact bodyPost_ret (v := .tuple #[.bool ng, .int .u64 0, .int .i64 0, .bool true]) (by simp [results, Tryz.results181, go_sem]) rfl ⟨_, _, _, _, rfl, HPP.out, K⟩
  obtain ⟨m0, m1⟩ := mst_range (F := 4503599627370496) (s := s) (S := 9223372036854775808) (by decide) (by omega) (by decide) s1
  obtain ⟨g0, g1⟩ : -1074 ≤ est 4503599627370496 (-1074) s ∧ est 4503599627370496 (-1074) s < 65536 := by unfold est; split <;> omega
  generalize hM : mst 4503599627370496 s = mm at *
  generalize hE : est 4503599627370496 (-1074) s = ee at *
  have HM := hide hM
  have HE := hide hE
  have Hng := hide hng
  clear hM hE hng hs
  have z' : (mm == 0) = false := by simp; omega
  go_wp2
  go_loopw [8, 9] (fun p q wr => ∃ (j : Nat) (m : Int), p = .int .u64 m ∧ q = .int .i64 (ee + j) ∧ 0 < m ∧ m ≤ mm ∧ mm = m * p2 j ∧ j < 64 ∧ wr = w4) (fun p _ _ => (intOf p).toNat)
  case atStart => exact ⟨0, mm, rfl, by simp, m0, Int.le_refl _, by simp [p2], by omega, rfl⟩
  case round =>
    obtain ⟨j, m, rfl, rfl, p0, p1, hm, j64, rfl⟩ := hrel
    have Hm := hide hm
    clear hm
    by_cases ev : m % 2 = 0
    · have ev' : (m % 2 == 0) = true := by simp [ev]
      have hj : j + 1 < 64 := by
        rcases Nat.lt_or_ge (j + 1) 64 with h | h
        · exact h
        · exfalso
          have e1 : j = 63 := by omega
          have h2 := Hm.out
          rw [e1, show p2 63 = 9223372036854775808 from by decide] at h2
          omega
      have Hn := hide (show mm = m / 2 * p2 (j + 1) by
        rw [Hm.out, p2, ← Int.mul_assoc, show m / 2 * 2 = m by omega])
      have Hev := hide ev
      clear ev
      go_wp2
      go_roundw
      case rel => exact ⟨j + 1, m / 2, rfl, by go_num, by have := Hev.out; omega, by omega, Hn.out, hj, by first | rfl | trivial⟩
      case measure => have := Hev.out; simp [intOf]; omega
    · have ev' : (m % 2 == 0) = false := by simp; omega
      have HP : PartIs 4503599627370496 (-1074) 9218868437227405312 s ng ng m (ee + j) true := ⟨fun h => by omega, fun _ => ⟨rfl, rfl, fun h => by omega, fun _ => ⟨by omega, j, j64, by rw [HM.out]; exact Hm.out, by rw [HE.out]⟩⟩⟩
      have HPP := hide HP
      clear HP ev
      go_wp2_with fail
      with_reducible refine (rNeg_d _ x).mono ?_
      rintro x' w5 ⟨rfl, rfl⟩
      rw [← Hng.out]
      go_wp2
      (try simp only [Exit.inBlock, Exit.then])
      exact bodyPost_ret (v := .tuple #[.bool ng, .int .u64 m, .int .i64 (ee + j), .bool true]) (by simp [results, Tryz.results181, go_sem]) rfl ⟨_, _, _, _, rfl, HPP.out, K⟩
set_option maxRecDepth 20000 in
set_option maxHeartbeats 4000000 in
theorem rInt_d (w : World) (x s : Int) (ng : Bool) (h0 : 0 ≤ x) (h1 : x < 18446744073709551616) (hs : x % 9223372036854775808 = s) (hng : ng = decide (9223372036854775808 ≤ x)) : Calls Tryz.prog 150 #[.int .i64 64, .int .u64 x] w fun e w' => ∃ va n ok, e = .returned (.tuple #[va, .bool ok]) ∧ WNum w.heap.size w' va n 400 ∧ IntIs 4503599627370496 (-1074) 9218868437227405312 s ng n ok ∧ Below w.heap.size w w' := by
  have s0 : 0 ≤ s := by omega
  have s1 : s < 9223372036854775808 := by omega
  go_enter Tryz.func150, Tryz.ntmps150
  go_upto_region 1 with fail
  have D := cell2_new w (.bool false) (.slice none 0 0) 28
  have K1 := bel_new w (.cells #[.bool false, .slice none 0 0] 28)
  generalize w.alloc (.cells #[.bool false, .slice none 0 0] 28) = w1 at *
  go_wp2_with fail
  with_reducible refine (rParts_d _ x s ng h0 h1 hs hng).mono ?_
  rintro x' w2 ⟨a, m, E, ok, rfl, hP, K⟩
  obtain ⟨m0, m1, E0, E1⟩ := part_bounds (F := 4503599627370496) (L := (-1074)) (S := 9223372036854775808) (by decide) (by decide) (by decide) s0 s1 (by unfold est; split <;> omega) (by decide) hP
  have HP := hide hP
  clear hP hs hng
  by_cases no : ok = false ∨ E < 0
  · have HI := hide (show IntIs 4503599627370496 (-1074) 9218868437227405312 s ng 0 false from ⟨a, m, E, ok, HP.out, Or.inr ⟨by rcases no with h | h <;> simp_all <;> omega, rfl, rfl⟩⟩)
    cases ok
    · skip
      have d0 := (D.below K).c0; have d1 := (D.below K).c1; have g0 := (D.below K).f0; have g1 := (D.below K).f1
      go_wp2
      have PD := (D.below K).put (.bool false) (.slice none 0 0)
      have KB := below_put2 (b := w.heap.size) (below_trans K1 K) (Nat.le_refl _) (.bool false) (.slice none 0 0)
      (try simp only [Exit.inBlock, Exit.then])
      first
        | exact bodyPost_ret (v := .tuple #[.agg #[.bool false, .slice none 0 0], .bool false]) (by simp [results, Tryz.results150, go_sem, PD.c0, PD.c1]) rfl ⟨_, _, _, rfl, wnum_zero _ _ _, HI.out, KB⟩
        | exact bodyPost_ret (v := .tuple #[.agg #[.bool false, .slice none 0 0], .bool false]) (by simp [results, Tryz.results150, go_sem, d0, d1]) rfl ⟨_, _, _, rfl, wnum_zero _ _ _, HI.out, below_trans K1 K⟩
    · have hE : E < 0 := by rcases no with h | h; cases h; exact h
      have d0 := (D.below K).c0; have d1 := (D.below K).c1; have g0 := (D.below K).f0; have g1 := (D.below K).f1
      go_wp2
      have PD := (D.below K).put (.bool false) (.slice none 0 0)
      have KB := below_put2 (b := w.heap.size) (below_trans K1 K) (Nat.le_refl _) (.bool false) (.slice none 0 0)
      (try simp only [Exit.inBlock, Exit.then])
      first
        | exact bodyPost_ret (v := .tuple #[.agg #[.bool false, .slice none 0 0], .bool false]) (by simp [results, Tryz.results150, go_sem, PD.c0, PD.c1]) rfl ⟨_, _, _, rfl, wnum_zero _ _ _, HI.out, KB⟩
        | exact bodyPost_ret (v := .tuple #[.agg #[.bool false, .slice none 0 0], .bool false]) (by simp [results, Tryz.results150, go_sem, d0, d1]) rfl ⟨_, _, _, rfl, wnum_zero _ _ _, HI.out, below_trans K1 K⟩
  have ok1 : ok = true := by cases ok; exact (no (Or.inl rfl)).elim; rfl
  subst ok1
  have hE : 0 ≤ E := by omega
  have HI := hide (show IntIs 4503599627370496 (-1074) 9218868437227405312 s ng (wn a (m * p2 E.toNat)) true from ⟨a, m, E, true, HP.out, Or.inl ⟨rfl, hE, rfl, rfl⟩⟩)
  clear no HP
  go_wp2_with fail
  with_reducible refine (rfrom_any m m0 (by omega)).mono ?_
  rintro x' w3 ⟨vm, rfl, hM, kb⟩
  replace K := below_trans K kb
  clear kb
  go_wp2_with fail
  with_reducible refine (rshl_int hM.arg (by decide) hE (by omega)).mono ?_
  rintro x' w4 ⟨vs, rfl, hS, kb⟩
  have szK := K.size
  have ltb : w.heap.size < w3.heap.size := by have h1 := D.lt; omega
  have hp := p2_pos E.toNat
  have hV : m = 0 → m * p2 E.toNat = 0 := fun h => by rw [h, Int.zero_mul]
  have hV2 : 0 < m → 0 < m * p2 E.toNat := fun h => Int.mul_pos h hp
  replace K := below_trans K kb
  clear kb hM hp
  generalize m * p2 E.toNat = V at *
  have HV := hide hV
  have HV2 := hide hV2
  clear hV hV2
  by_cases mz : 0 < m
  · cases a
    · skip
      have d0 := (D.below K).c0; have d1 := (D.below K).c1; have g0 := (D.below K).f0; have g1 := (D.below K).f1
      have hS2 := hS
      obtain ⟨zs, ⟨so, rfl, -⟩, -⟩ := hS
      go_wp2
      have PD := (D.below K).put (.bool false) (.slice so zs.length zs.length)
      have KB := below_put2 (b := w.heap.size) (below_trans K1 K) (Nat.le_refl _) (.bool false) (.slice so zs.length zs.length)
      have NN := ((hS2.put ltb 0 (.bool false)).put ltb 1 (.slice so zs.length zs.length))
      clear d0 d1 g0 g1 hS2
      generalize (w4.setCell ⟨w.heap.size, 0, none⟩ (.bool false)).setCell ⟨w.heap.size, 1, none⟩ (.slice so zs.length zs.length) = w9 at *
      (try simp only [Exit.inBlock, Exit.then])
      exact bodyPost_ret (v := .tuple #[.agg #[.bool false, .slice so zs.length zs.length], .bool true]) (by simp [results, Tryz.results150, go_sem, PD.c0, PD.c1]) rfl ⟨_, _, _, rfl, ⟨false, _, V, rfl, num_low NN (by omega), by simp [wn], fun h => by cases h⟩, HI.out, KB⟩
    · skip
      have d0 := (D.below K).c0; have d1 := (D.below K).c1; have g0 := (D.below K).f0; have g1 := (D.below K).f1
      have hS2 := hS
      obtain ⟨zs, ⟨so, rfl, -⟩, -⟩ := hS
      go_wp2
      have PD := (D.below K).put (.bool true) (.slice so zs.length zs.length)
      have KB := below_put2 (b := w.heap.size) (below_trans K1 K) (Nat.le_refl _) (.bool true) (.slice so zs.length zs.length)
      have NN := ((hS2.put ltb 0 (.bool true)).put ltb 1 (.slice so zs.length zs.length))
      clear d0 d1 g0 g1 hS2
      generalize (w4.setCell ⟨w.heap.size, 0, none⟩ (.bool true)).setCell ⟨w.heap.size, 1, none⟩ (.slice so zs.length zs.length) = w9 at *
      (try simp only [Exit.inBlock, Exit.then])
      exact bodyPost_ret (v := .tuple #[.agg #[.bool true, .slice so zs.length zs.length], .bool true]) (by simp [results, Tryz.results150, go_sem, PD.c0, PD.c1]) rfl ⟨_, _, _, rfl, ⟨true, _, V, rfl, num_low NN (by omega), by simp [wn], fun h => HV2.out mz⟩, HI.out, KB⟩
  · have v0 := HV.out (by omega)
    have mzd : decide (0 < m) = false := decide_eq_false mz
    subst v0
    cases a
    · skip
      have d0 := (D.below K).c0; have d1 := (D.below K).c1; have g0 := (D.below K).f0; have g1 := (D.below K).f1
      have hS2 := hS
      obtain ⟨zs, ⟨so, rfl, -⟩, -⟩ := hS
      go_wp2
      have PD := (D.below K).put (.bool false) (.slice so zs.length zs.length)
      have KB := below_put2 (b := w.heap.size) (below_trans K1 K) (Nat.le_refl _) (.bool false) (.slice so zs.length zs.length)
      have NN := ((hS2.put ltb 0 (.bool false)).put ltb 1 (.slice so zs.length zs.length))
      clear d0 d1 g0 g1 hS2
      generalize (w4.setCell ⟨w.heap.size, 0, none⟩ (.bool false)).setCell ⟨w.heap.size, 1, none⟩ (.slice so zs.length zs.length) = w9 at *
      (try simp only [Exit.inBlock, Exit.then])
      exact bodyPost_ret (v := .tuple #[.agg #[.bool false, .slice so zs.length zs.length], .bool true]) (by simp [results, Tryz.results150, go_sem, PD.c0, PD.c1]) rfl ⟨_, _, _, rfl, ⟨false, _, 0, rfl, num_low NN (by omega), by simp [wn], fun h => by cases h⟩, HI.out, KB⟩
    · skip
      have d0 := (D.below K).c0; have d1 := (D.below K).c1; have g0 := (D.below K).f0; have g1 := (D.below K).f1
      have hS2 := hS
      obtain ⟨zs, ⟨so, rfl, -⟩, -⟩ := hS
      go_wp2
      have PD := (D.below K).put (.bool false) (.slice so zs.length zs.length)
      have KB := below_put2 (b := w.heap.size) (below_trans K1 K) (Nat.le_refl _) (.bool false) (.slice so zs.length zs.length)
      have NN := ((hS2.put ltb 0 (.bool false)).put ltb 1 (.slice so zs.length zs.length))
      clear d0 d1 g0 g1 hS2
      generalize (w4.setCell ⟨w.heap.size, 0, none⟩ (.bool false)).setCell ⟨w.heap.size, 1, none⟩ (.slice so zs.length zs.length) = w9 at *
      (try simp only [Exit.inBlock, Exit.then])
      exact bodyPost_ret (v := .tuple #[.agg #[.bool false, .slice so zs.length zs.length], .bool true]) (by simp [results, Tryz.results150, go_sem, PD.c0, PD.c1]) rfl ⟨_, _, _, rfl, ⟨false, _, 0, rfl, num_low NN (by omega), by simp [wn], fun h => by cases h⟩, HI.out, KB⟩
end Go.Proofs.YticmlelalbaalaaGreatDoor
