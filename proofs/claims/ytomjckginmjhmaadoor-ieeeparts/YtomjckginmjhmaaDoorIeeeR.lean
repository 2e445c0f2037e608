/- crucibleref04: patterns (mk_ieeer.py) -/
import Derived.Test.YtomjckginmjhmaaDoorIeee
namespace Go.Proofs.YtomjckginmjhmaaDoor
open Go.RowKit

theorem p2_range {n : Nat} (h : n ≤ 62) : 0 < p2 n ∧ p2 n ≤ 4611686018427387904 := ⟨p2_pos n, by
  have := p2_mono h
  rw [show p2 62 = 4611686018427387904 from by decide] at this
  exact this⟩
set_option maxHeartbeats 1000000 in
theorem rSign_any (w : World) (N : Nat) (h1 : 1 ≤ N) (h2 : N ≤ 64) : Calls Tryd.prog 67 #[.int .i64 N] w fun e w' => e = .returned (.int .u64 (p2 (N - 1))) ∧ w' = w := by
  go_enter Tryd.func67, Tryd.ntmps67
  go_wp2
  go_loopw [3, 4] (fun x i wr => ∃ j : Nat, 1 ≤ j ∧ j ≤ N ∧ i = .int .i64 j ∧ x = .int .u64 (p2 (j - 1)) ∧ wr = w) (fun _ i _ => N - (intOf i).toNat)
  case atStart => exact ⟨1, by omega, by omega, rfl, rfl, rfl⟩
  case round =>
    obtain ⟨j, hj1, hjN, rfl, rfl, rfl⟩ := hrel
    by_cases a : j < N
    · obtain ⟨q0, q1⟩ := p2_range (n := j - 1) (by omega)
      have hq : p2 j = 2 * p2 (j - 1) := by
        obtain ⟨m, rfl⟩ : ∃ m, j = m + 1 := ⟨j - 1, by omega⟩
        rw [Nat.add_sub_cancel]; rfl
      have Hq := hide hq
      clear hq
      generalize p2 (j - 1) = P at *
      go_wp2
      go_roundw
      case rel => exact ⟨j + 1, by omega, by omega, rfl, by rw [Nat.add_sub_cancel, Hq.out], by first | rfl | trivial⟩
      case measure => simp [intOf]; omega
    · obtain rfl : j = N := by omega
      go_wp2
      go_ret
      exact ⟨rfl, rfl⟩
set_option maxHeartbeats 1000000 in
theorem rtwo_any (w : World) (N : Nat) (h2 : N ≤ 63) : Calls Tryd.prog 37 #[.int .i64 N] w fun e w' => e = .returned (.int .u64 (p2 N)) ∧ w' = w := by
  go_enter Tryd.func37, Tryd.ntmps37
  go_wp2
  go_loopw [3, 4] (fun x i wr => ∃ j : Nat, j ≤ N ∧ i = .int .i64 j ∧ x = .int .u64 (p2 j) ∧ wr = w) (fun _ i _ => N - (intOf i).toNat)
  case atStart => exact ⟨0, by omega, rfl, rfl, rfl⟩
  case round =>
    obtain ⟨j, hjN, rfl, rfl, rfl⟩ := hrel
    by_cases a : j < N
    · obtain ⟨q0, q1⟩ := p2_range (n := j) (by omega)
      have Hq := hide (show p2 (j + 1) = 2 * p2 j from rfl)
      generalize p2 j = P at *
      go_wp2
      go_roundw
      case rel => exact ⟨j + 1, by omega, rfl, by rw [Hq.out], by first | rfl | trivial⟩
      case measure => simp [intOf]; omega
    · obtain rfl : j = N := by omega
      go_wp2
      go_ret
      exact ⟨rfl, rfl⟩

theorem rSign_h (w : World) : Calls Tryd.prog 67 #[.int .i64 16] w fun e w' => e = .returned (.int .u64 32768) ∧ w' = w := by
  have := rSign_any w 16 (by decide) (by decide)
  rwa [show p2 (16 - 1) = 32768 from by decide] at this
theorem rtwo_h (w : World) : Calls Tryd.prog 37 #[.int .i64 10] w fun e w' => e = .returned (.int .u64 1024) ∧ w' = w := by
  have := rtwo_any w 10 (by decide)
  rwa [show p2 10 = 1024 from by decide] at this

theorem shape_field0_h (w : World) : (Instr.field 67 (.agg #[.int .i64 10, .int .i64 (-24), .int .i64 31]) 0).run Tryd.prog w = .ok (.int .i64 10) w := by kernel_rfl
theorem shape_field1_h (w : World) : (Instr.field 67 (.agg #[.int .i64 10, .int .i64 (-24), .int .i64 31]) 1).run Tryd.prog w = .ok (.int .i64 (-24)) w := by kernel_rfl
theorem shape_field2_h (w : World) : (Instr.field 67 (.agg #[.int .i64 10, .int .i64 (-24), .int .i64 31]) 2).run Tryd.prog w = .ok (.int .i64 31) w := by kernel_rfl
theorem rOf_h (w : World) : Calls Tryd.prog 38 #[.int .i64 16] w fun e w' => e = .returned (.agg #[.int .i64 10, .int .i64 (-24), .int .i64 31]) ∧ Below w.heap.size w w' := by
  go_enter Tryd.func38, Tryd.ntmps38
  go_wp2
  go_returns
  exact ⟨rfl, bel_new _ _⟩

theorem rNeg_h (w : World) (x : Int) : Calls Tryd.prog 32 #[.int .i64 16, .int .u64 x] w fun e w' => e = .returned (.bool (decide (32768 ≤ x))) ∧ w' = w := by
  go_enter Tryd.func32, Tryd.ntmps32
  go_wp2_with fail
  with_reducible refine (rSign_h _).mono ?_
  rintro e v1 ⟨rfl, rfl⟩
  go_wp2
  go_ret
  exact ⟨rfl, rfl⟩

theorem rSize_h (w : World) (x s : Int) (h0 : 0 ≤ x) (h1 : x < 65536) (hs : x % 32768 = s) : Calls Tryd.prog 29 #[.int .i64 16, .int .u64 x] w fun e w' => e = .returned (.int .u64 s) ∧ w' = w := by
  by_cases a : 32768 ≤ x
  · have hx : x = s + 32768 := by omega
    have s0 : 0 ≤ s := by omega
    have s1 : s < 32768 := by omega
    clear hs h0 h1
    subst hx
    go_enter Tryd.func29, Tryd.ntmps29
    go_wp2_with fail
    with_reducible refine (rNeg_h _ _).mono ?_
    rintro e v2 ⟨rfl, rfl⟩
    go_wp2_with fail
    with_reducible refine (rSign_h _).mono ?_
    rintro e v3 ⟨rfl, rfl⟩
    go_wp2
    go_ret
    exact ⟨ret_int (by omega), rfl⟩
  · obtain rfl : x = s := by omega
    clear hs
    go_enter Tryd.func29, Tryd.ntmps29
    go_wp2_with fail
    with_reducible refine (rNeg_h _ _).mono ?_
    rintro e v4 ⟨rfl, rfl⟩
    go_wp2
    go_ret
    exact ⟨rfl, rfl⟩

theorem rInf_h (w : World) : Calls Tryd.prog 30 #[.int .i64 16] w fun e w' => e = .returned (.int .u64 31744) ∧ Below w.heap.size w w' := by
  have K := Below.refl w.heap.size w
  have hf := shape_field0_h
  have hg := shape_field2_h
  go_enter Tryd.func30, Tryd.ntmps30
  go_wp2_with fail
  with_reducible refine (rOf_h _).mono ?_
  rintro e v5 ⟨rfl, kb⟩
  replace K := below_trans K kb; clear kb
  go_wp2_with fail
  with_reducible refine (rOf_h _).mono ?_
  rintro e v6 ⟨rfl, kb⟩
  replace K := below_trans K kb; clear kb
  go_wp2_with fail
  with_reducible refine (rtwo_h _).mono ?_
  rintro e v7 ⟨rfl, rfl⟩
  go_wp2
  go_ret
  exact ⟨rfl, K⟩

set_option maxHeartbeats 2000000 in
theorem rClass_h (w : World) (x s : Int) (h0 : 0 ≤ x) (h1 : x < 65536) (hs : x % 32768 = s) : Calls Tryd.prog 12 #[.int .i64 16, .int .u64 x] w fun e w' => e = .returned (.int .i8 (cls 32768 1024 s)) ∧ Below w.heap.size w w' := by
  have s0 : 0 ≤ s := by omega
  have s1 : s < 32768 := by omega
  have K := Below.refl w.heap.size w
  have hf := shape_field0_h
  go_enter Tryd.func12, Tryd.ntmps12
  go_wp2_with fail
  with_reducible refine (rSize_h _ x s h0 h1 hs).mono ?_
  rintro e v8 ⟨rfl, rfl⟩
  go_wp2_with fail
  with_reducible refine (rInf_h _).mono ?_
  rintro e v9 ⟨rfl, kb⟩
  replace K := below_trans K kb; clear kb
  clear h0 h1 hs
  by_cases a1 : 31744 < s
  · have Hc := hide (show cls 32768 1024 s = 5 by unfold cls; rw [if_pos (by omega)])
    go_wp2
    go_ret
    exact ⟨by rw [Hc.out]; rfl, K⟩
  go_wp2_with fail
  with_reducible refine (rInf_h _).mono ?_
  rintro e v10 ⟨rfl, kb⟩
  replace K := below_trans K kb; clear kb
  by_cases a2 : s = 31744
  · have Hc := hide (show cls 32768 1024 s = 4 by unfold cls; rw [if_neg (by omega), if_pos (by omega)])
    have a2' : (s == 31744) = true := by simp [a2]
    clear a2 a1
    go_wp2
    go_ret
    exact ⟨by rw [Hc.out]; rfl, K⟩
  have a2' : (s == 31744) = false := by simp [a2]
  by_cases a3 : s = 0
  · have Hc := hide (show cls 32768 1024 s = 1 by unfold cls; rw [if_neg (by omega), if_neg (by omega), if_pos (by omega)])
    have a3' : (s == 0) = true := by simp [a3]
    clear a2 a1 a3
    go_wp2
    go_ret
    exact ⟨by rw [Hc.out]; rfl, K⟩
  have a3' : (s == 0) = false := by simp [a3]
  go_wp2_with fail
  with_reducible refine (rOf_h _).mono ?_
  rintro e v11 ⟨rfl, kb⟩
  replace K := below_trans K kb; clear kb
  go_wp2_with fail
  with_reducible refine (rtwo_h _).mono ?_
  rintro e v12 ⟨rfl, rfl⟩
  by_cases a4 : s < 1024
  · have Hc := hide (show cls 32768 1024 s = 2 by unfold cls; rw [if_neg (by omega), if_neg (by omega), if_neg (by omega), if_pos (by omega)])
    go_wp2
    go_ret
    exact ⟨by rw [Hc.out]; rfl, K⟩
  · have Hc := hide (show cls 32768 1024 s = 3 by unfold cls; rw [if_neg (by omega), if_neg (by omega), if_neg (by omega), if_neg (by omega)])
    go_wp2
    go_ret
    exact ⟨by rw [Hc.out]; rfl, K⟩

set_option maxHeartbeats 4000000 in
theorem rTotal_h (w : World) (x y : Int) (h0 : 0 ≤ x) (h1 : x < 65536) (g0 : 0 ≤ y) (g1 : y < 65536) : Calls Tryd.prog 19 #[.int .i64 16, .int .u64 x, .int .u64 y] w fun e w' => e = .returned (.int .i64 (tri (rk 32768 x) (rk 32768 y))) ∧ w' = w := by
  go_enter Tryd.func19, Tryd.ntmps19
  go_wp2_with fail
  with_reducible refine (rNeg_h _ x).mono ?_
  rintro e v13 ⟨rfl, rfl⟩
  go_wp2_with fail
  with_reducible refine (rNeg_h _ y).mono ?_
  rintro e v14 ⟨rfl, rfl⟩
  by_cases a : 32768 ≤ x
  · have a' : decide (32768 ≤ x) = true := decide_eq_true a
    by_cases b : 32768 ≤ y
    · have b' : decide (32768 ≤ y) = true := decide_eq_true b
      by_cases c : x < y
      · have c1 : ¬ y < x := by omega
        go_wp2_with fail
        with_reducible refine (rNeg_h _ x).mono ?_
        rintro e v15 ⟨rfl, rfl⟩
        have Hc := hide (show tri (rk 32768 x) (rk 32768 y) = 1 by unfold tri rk; rw [if_neg (by omega : ¬ x < 32768), if_neg (by omega : ¬ y < 32768)]; rw [if_neg (by omega), if_pos (by omega)])
        go_wp2
        go_ret
        exact ⟨by rw [Hc.out]; rfl, rfl⟩
      by_cases c1 : y < x
      · skip
        go_wp2_with fail
        with_reducible refine (rNeg_h _ x).mono ?_
        rintro e v16 ⟨rfl, rfl⟩
        have Hc := hide (show tri (rk 32768 x) (rk 32768 y) = -1 by unfold tri rk; rw [if_neg (by omega : ¬ x < 32768), if_neg (by omega : ¬ y < 32768)]; rw [if_pos (by omega)])
        go_wp2
        go_ret
        exact ⟨by rw [Hc.out]; rfl, rfl⟩
      go_wp2_with fail
      with_reducible refine (rNeg_h _ x).mono ?_
      rintro e v17 ⟨rfl, rfl⟩
      have Hc := hide (show tri (rk 32768 x) (rk 32768 y) = 0 by unfold tri rk; rw [if_neg (by omega : ¬ x < 32768), if_neg (by omega : ¬ y < 32768)]; rw [if_neg (by omega), if_neg (by omega)])
      go_wp2
      go_ret
      exact ⟨by rw [Hc.out]; rfl, rfl⟩
    · have b' : decide (32768 ≤ y) = false := decide_eq_false b
      go_wp2_with fail
      with_reducible refine (rNeg_h _ x).mono ?_
      rintro e v18 ⟨rfl, rfl⟩
      have Hc := hide (show tri (rk 32768 x) (rk 32768 y) = -1 by unfold tri rk; rw [if_neg (by omega : ¬ x < 32768), if_pos (by omega : y < 32768)]; rw [if_pos (by omega)])
      go_wp2
      go_ret
      exact ⟨by rw [Hc.out]; rfl, rfl⟩
  · have a' : decide (32768 ≤ x) = false := decide_eq_false a
    by_cases b : 32768 ≤ y
    · have b' : decide (32768 ≤ y) = true := decide_eq_true b
      go_wp2_with fail
      with_reducible refine (rNeg_h _ x).mono ?_
      rintro e v19 ⟨rfl, rfl⟩
      have Hc := hide (show tri (rk 32768 x) (rk 32768 y) = 1 by unfold tri rk; rw [if_pos (by omega : x < 32768), if_neg (by omega : ¬ y < 32768)]; rw [if_neg (by omega), if_pos (by omega)])
      go_wp2
      go_ret
      exact ⟨by rw [Hc.out]; rfl, rfl⟩
    · have b' : decide (32768 ≤ y) = false := decide_eq_false b
      by_cases c : x < y
      · have c1 : ¬ y < x := by omega
        go_wp2_with fail
        with_reducible refine (rNeg_h _ x).mono ?_
        rintro e v20 ⟨rfl, rfl⟩
        have Hc := hide (show tri (rk 32768 x) (rk 32768 y) = -1 by unfold tri rk; rw [if_pos (by omega : x < 32768), if_pos (by omega : y < 32768)]; rw [if_pos (by omega)])
        go_wp2
        go_ret
        exact ⟨by rw [Hc.out]; rfl, rfl⟩
      by_cases c1 : y < x
      · skip
        go_wp2_with fail
        with_reducible refine (rNeg_h _ x).mono ?_
        rintro e v21 ⟨rfl, rfl⟩
        have Hc := hide (show tri (rk 32768 x) (rk 32768 y) = 1 by unfold tri rk; rw [if_pos (by omega : x < 32768), if_pos (by omega : y < 32768)]; rw [if_neg (by omega), if_pos (by omega)])
        go_wp2
        go_ret
        exact ⟨by rw [Hc.out]; rfl, rfl⟩
      go_wp2_with fail
      with_reducible refine (rNeg_h _ x).mono ?_
      rintro e v22 ⟨rfl, rfl⟩
      have Hc := hide (show tri (rk 32768 x) (rk 32768 y) = 0 by unfold tri rk; rw [if_pos (by omega : x < 32768), if_pos (by omega : y < 32768)]; rw [if_neg (by omega), if_neg (by omega)])
      go_wp2
      go_ret
      exact ⟨by rw [Hc.out]; rfl, rfl⟩

set_option maxHeartbeats 2000000 in
theorem rNext_h (w : World) (x : Int) (h0 : 0 ≤ x) (h1 : x < 65536) : Calls Tryd.prog 21 #[.int .i64 16, .int .u64 x] w fun e w' => e = .returned (.int .u64 (nxt 32768 1024 x)) ∧ Below w.heap.size w w' := by
  obtain ⟨s, hs⟩ : ∃ s, x % 32768 = s := ⟨_, rfl⟩
  have s0 : 0 ≤ s := by omega
  have s1 : s < 32768 := by omega
  have H1 := hide (next_1 32768 1024 x s hs)
  have H2 := hide (next_2 32768 1024 x s hs)
  have H3 := hide (next_3 32768 1024 x s hs)
  have H4 := hide (next_4 32768 1024 x s hs)
  have K := Below.refl w.heap.size w
  go_enter Tryd.func21, Tryd.ntmps21
  go_wp2_with fail
  with_reducible refine (rSize_h _ x s h0 h1 hs).mono ?_
  rintro e v23 ⟨rfl, rfl⟩
  go_wp2_with fail
  with_reducible refine (rInf_h _).mono ?_
  rintro e v24 ⟨rfl, kb⟩
  replace K := below_trans K kb; clear kb
  by_cases a1 : 31744 < s
  · have Hc := hide (H1.out (Or.inl (by omega)))
    clear hs
    go_wp2
    go_ret
    exact ⟨by rw [Hc.out]; rfl, K⟩
  go_wp2_with fail
  with_reducible refine (rInf_h _).mono ?_
  rintro e v25 ⟨rfl, kb⟩
  replace K := below_trans K kb; clear kb
  by_cases a2 : x = 31744
  · have Hc := hide (H1.out (Or.inr (by omega)))
    have a2' : (x == 31744) = true := by simp [a2]
    clear hs a2
    go_wp2
    go_ret
    exact ⟨by rw [Hc.out]; rfl, K⟩
  have a2' : (x == 31744) = false := by simp [a2]
  by_cases a3 : s = 0
  · have Hc := hide (H2.out (by omega) (by omega) (by omega))
    have a3' : (s == 0) = true := by simp [a3]
    clear hs a2 a3
    go_wp2
    go_ret
    exact ⟨by rw [Hc.out]; rfl, K⟩
  have a3' : (s == 0) = false := by simp [a3]
  go_wp2_with fail
  with_reducible refine (rNeg_h _ x).mono ?_
  rintro e v26 ⟨rfl, rfl⟩
  by_cases a4 : 32768 ≤ x
  · have Hc := hide (H3.out (by omega) (by omega) (by omega) (by omega))
    have a4' : decide (32768 ≤ x) = true := decide_eq_true a4
    clear hs a2 a3
    go_wp2
    go_ret
    exact ⟨by rw [Hc.out]; rfl, K⟩
  · have Hc := hide (H4.out (by omega) (by omega) (by omega) (by omega))
    have a4' : decide (32768 ≤ x) = false := decide_eq_false a4
    clear hs a2 a3
    go_wp2
    go_ret
    exact ⟨by rw [Hc.out]; rfl, K⟩

set_option maxHeartbeats 4000000 in
theorem rCmp_h (w : World) (x y : Int) (h0 : 0 ≤ x) (h1 : x < 65536) (g0 : 0 ≤ y) (g1 : y < 65536) : Calls Tryd.prog 17 #[.int .i64 16, .int .u64 x, .int .u64 y] w fun e w' => e = .returned (.tuple #[.int .i64 (cmpC 32768 1024 x y), .bool (cmpOk 32768 1024 x y)]) ∧ Below w.heap.size w w' := by
  obtain ⟨s, hs⟩ : ∃ s, x % 32768 = s := ⟨_, rfl⟩
  obtain ⟨r, hr⟩ : ∃ r, y % 32768 = r := ⟨_, rfl⟩
  have HC := hide (cmp_cases 32768 1024 x y s r (by decide) hs hr)
  have HZ1 := hide (cls_zero (S := 32768) (F := 1024) (s := s) (by decide))
  have HZ2 := hide (cls_zero (S := 32768) (F := 1024) (s := r) (by decide))
  have K := Below.refl w.heap.size w
  go_enter Tryd.func17, Tryd.ntmps17
  go_wp2_with fail
  with_reducible refine (rClass_h _ x s h0 h1 hs).mono ?_
  rintro e v27 ⟨rfl, kb⟩
  replace K := below_trans K kb; clear kb
  have H := HC.out
  have z1 := HZ1.out
  have z2 := HZ2.out
  clear HC HZ1 HZ2
  generalize hA : cls 32768 1024 s = a at *
  by_cases p : a = 5
  · have p' : (a == 5) = true := by simp [p]
    have Hc := hide (H.1 (Or.inl p))
    clear H p z1 z2 hA hs hr
    go_wp2
    go_ret2
    exact ⟨by rw [Hc.out.1, Hc.out.2]; rfl, K⟩
  have p' : (a == 5) = false := by simp [p]
  have HH := hide H
  have Z1 := hide z1
  have Z2 := hide z2
  clear H z1 z2 hA
  go_wp2_with fail
  with_reducible refine (rClass_h _ y r g0 g1 hr).mono ?_
  rintro e v28 ⟨rfl, kb⟩
  replace K := below_trans K kb; clear kb
  have H := HH.out
  have z1 := Z1.out
  have z2 := Z2.out
  clear HH Z1 Z2
  generalize hB : cls 32768 1024 r = b at *
  by_cases q : b = 5
  · have q' : (b == 5) = true := by simp [q]
    have Hc := hide (H.1 (Or.inr q))
    clear H p q z1 z2 hB hs hr
    go_wp2
    go_ret2
    exact ⟨by rw [Hc.out.1, Hc.out.2]; rfl, K⟩
  have q' : (b == 5) = false := by simp [q]
  have H2 := hide (H.2.1 p q)
  have H3 := hide (H.2.2 p q)
  rw [z1, z2] at H2 H3
  clear H z1 z2 hB p q
  go_wp2_with fail
  with_reducible refine (rNeg_h _ x).mono ?_
  rintro e v29 ⟨rfl, rfl⟩
  go_wp2_with fail
  with_reducible refine (rNeg_h _ y).mono ?_
  rintro e v30 ⟨rfl, rfl⟩
  by_cases a : 32768 ≤ x
  · have a' : decide (32768 ≤ x) = true := decide_eq_true a
    by_cases b : 32768 ≤ y
    · have b' : decide (32768 ≤ y) = true := decide_eq_true b
      go_wp2_with fail
      with_reducible refine (rTotal_h _ x y h0 h1 g0 g1).mono ?_
      rintro e v31 ⟨rfl, rfl⟩
      by_cases zz : s = 0 ∧ r = 0
      · have Hc := hide (H2.out zz)
        have HT := hide (show tri (rk 32768 x) (rk 32768 y) = 0 by rw [show x = y by omega]; exact tri_self _)
        rw [HT.out]
        clear H2 H3 hs hr zz
        go_wp2
        go_ret2
        exact ⟨by rw [Hc.out.1, Hc.out.2]; rfl, K⟩
      · have Hc := hide (H3.out zz)
        clear H2 H3 hs hr zz
        generalize hT : tri (rk 32768 x) (rk 32768 y) = T at *
        have HT := hide hT
        clear hT
        go_wp2
        go_ret2
        exact ⟨by rw [Hc.out.1, Hc.out.2]; rfl, K⟩
    · have b' : decide (32768 ≤ y) = false := decide_eq_false b
      have HT := hide (show tri (rk 32768 x) (rk 32768 y) = -1 by unfold tri rk; rw [if_neg (by omega : ¬ x < 32768), if_pos (by omega : y < 32768)]; rw [if_pos (by omega)])
      go_wp2_with fail
      with_reducible refine (rSize_h _ x s h0 h1 hs).mono ?_
      rintro e v32 ⟨rfl, rfl⟩
      by_cases c : s = 0
      · have c' : (s == 0) = true := by simp [c]
        go_wp2_with fail
        with_reducible refine (rSize_h _ y r g0 g1 hr).mono ?_
        rintro e v33 ⟨rfl, rfl⟩
        by_cases c2 : r = 0
        · have c2' : (r == 0) = true := by simp [c2]
          have Hc := hide (H2.out ⟨c, c2⟩)
          clear H2 H3 hs hr c c2
          go_wp2
          go_ret2
          exact ⟨by rw [Hc.out.1, Hc.out.2]; rfl, K⟩
        · have c2' : (r == 0) = false := by simp [c2]
          go_wp2_with fail
          with_reducible refine (rNeg_h _ x).mono ?_
          rintro e v34 ⟨rfl, rfl⟩
          have Hc := hide (H3.out (by omega))
          clear H2 H3 hs hr
          go_wp2
          go_ret2
          exact ⟨by rw [Hc.out.1, Hc.out.2, HT.out]; rfl, K⟩
      · have c' : (s == 0) = false := by simp [c]
        go_wp2_with fail
        with_reducible refine (rNeg_h _ x).mono ?_
        rintro e v35 ⟨rfl, rfl⟩
        have Hc := hide (H3.out (by omega))
        clear H2 H3 hs hr
        go_wp2
        go_ret2
        exact ⟨by rw [Hc.out.1, Hc.out.2, HT.out]; rfl, K⟩
  · have a' : decide (32768 ≤ x) = false := decide_eq_false a
    by_cases b : 32768 ≤ y
    · have b' : decide (32768 ≤ y) = true := decide_eq_true b
      have HT := hide (show tri (rk 32768 x) (rk 32768 y) = 1 by unfold tri rk; rw [if_pos (by omega : x < 32768), if_neg (by omega : ¬ y < 32768)]; rw [if_neg (by omega), if_pos (by omega)])
      go_wp2_with fail
      with_reducible refine (rSize_h _ x s h0 h1 hs).mono ?_
      rintro e v36 ⟨rfl, rfl⟩
      by_cases c : s = 0
      · have c' : (s == 0) = true := by simp [c]
        go_wp2_with fail
        with_reducible refine (rSize_h _ y r g0 g1 hr).mono ?_
        rintro e v37 ⟨rfl, rfl⟩
        by_cases c2 : r = 0
        · have c2' : (r == 0) = true := by simp [c2]
          have Hc := hide (H2.out ⟨c, c2⟩)
          clear H2 H3 hs hr c c2
          go_wp2
          go_ret2
          exact ⟨by rw [Hc.out.1, Hc.out.2]; rfl, K⟩
        · have c2' : (r == 0) = false := by simp [c2]
          go_wp2_with fail
          with_reducible refine (rNeg_h _ x).mono ?_
          rintro e v38 ⟨rfl, rfl⟩
          have Hc := hide (H3.out (by omega))
          clear H2 H3 hs hr
          go_wp2
          go_ret2
          exact ⟨by rw [Hc.out.1, Hc.out.2, HT.out]; rfl, K⟩
      · have c' : (s == 0) = false := by simp [c]
        go_wp2_with fail
        with_reducible refine (rNeg_h _ x).mono ?_
        rintro e v39 ⟨rfl, rfl⟩
        have Hc := hide (H3.out (by omega))
        clear H2 H3 hs hr
        go_wp2
        go_ret2
        exact ⟨by rw [Hc.out.1, Hc.out.2, HT.out]; rfl, K⟩
    · have b' : decide (32768 ≤ y) = false := decide_eq_false b
      go_wp2_with fail
      with_reducible refine (rTotal_h _ x y h0 h1 g0 g1).mono ?_
      rintro e v40 ⟨rfl, rfl⟩
      by_cases zz : s = 0 ∧ r = 0
      · have Hc := hide (H2.out zz)
        have HT := hide (show tri (rk 32768 x) (rk 32768 y) = 0 by rw [show x = y by omega]; exact tri_self _)
        rw [HT.out]
        clear H2 H3 hs hr zz
        go_wp2
        go_ret2
        exact ⟨by rw [Hc.out.1, Hc.out.2]; rfl, K⟩
      · have Hc := hide (H3.out zz)
        clear H2 H3 hs hr zz
        generalize hT : tri (rk 32768 x) (rk 32768 y) = T at *
        have HT := hide hT
        clear hT
        go_wp2
        go_ret2
        exact ⟨by rw [Hc.out.1, Hc.out.2]; rfl, K⟩

theorem rSign_s (w : World) : Calls Tryd.prog 67 #[.int .i64 32] w fun e w' => e = .returned (.int .u64 2147483648) ∧ w' = w := by
  have := rSign_any w 32 (by decide) (by decide)
  rwa [show p2 (32 - 1) = 2147483648 from by decide] at this
theorem rtwo_s (w : World) : Calls Tryd.prog 37 #[.int .i64 23] w fun e w' => e = .returned (.int .u64 8388608) ∧ w' = w := by
  have := rtwo_any w 23 (by decide)
  rwa [show p2 23 = 8388608 from by decide] at this

theorem shape_field0_s (w : World) : (Instr.field 67 (.agg #[.int .i64 23, .int .i64 (-149), .int .i64 255]) 0).run Tryd.prog w = .ok (.int .i64 23) w := by kernel_rfl
theorem shape_field1_s (w : World) : (Instr.field 67 (.agg #[.int .i64 23, .int .i64 (-149), .int .i64 255]) 1).run Tryd.prog w = .ok (.int .i64 (-149)) w := by kernel_rfl
theorem shape_field2_s (w : World) : (Instr.field 67 (.agg #[.int .i64 23, .int .i64 (-149), .int .i64 255]) 2).run Tryd.prog w = .ok (.int .i64 255) w := by kernel_rfl
theorem rOf_s (w : World) : Calls Tryd.prog 38 #[.int .i64 32] w fun e w' => e = .returned (.agg #[.int .i64 23, .int .i64 (-149), .int .i64 255]) ∧ Below w.heap.size w w' := by
  go_enter Tryd.func38, Tryd.ntmps38
  go_wp2
  go_returns
  exact ⟨rfl, bel_new _ _⟩

theorem rNeg_s (w : World) (x : Int) : Calls Tryd.prog 32 #[.int .i64 32, .int .u64 x] w fun e w' => e = .returned (.bool (decide (2147483648 ≤ x))) ∧ w' = w := by
  go_enter Tryd.func32, Tryd.ntmps32
  go_wp2_with fail
  with_reducible refine (rSign_s _).mono ?_
  rintro e v41 ⟨rfl, rfl⟩
  go_wp2
  go_ret
  exact ⟨rfl, rfl⟩

theorem rSize_s (w : World) (x s : Int) (h0 : 0 ≤ x) (h1 : x < 4294967296) (hs : x % 2147483648 = s) : Calls Tryd.prog 29 #[.int .i64 32, .int .u64 x] w fun e w' => e = .returned (.int .u64 s) ∧ w' = w := by
  by_cases a : 2147483648 ≤ x
  · have hx : x = s + 2147483648 := by omega
    have s0 : 0 ≤ s := by omega
    have s1 : s < 2147483648 := by omega
    clear hs h0 h1
    subst hx
    go_enter Tryd.func29, Tryd.ntmps29
    go_wp2_with fail
    with_reducible refine (rNeg_s _ _).mono ?_
    rintro e v42 ⟨rfl, rfl⟩
    go_wp2_with fail
    with_reducible refine (rSign_s _).mono ?_
    rintro e v43 ⟨rfl, rfl⟩
    go_wp2
    go_ret
    exact ⟨ret_int (by omega), rfl⟩
  · obtain rfl : x = s := by omega
    clear hs
    go_enter Tryd.func29, Tryd.ntmps29
    go_wp2_with fail
    with_reducible refine (rNeg_s _ _).mono ?_
    rintro e v44 ⟨rfl, rfl⟩
    go_wp2
    go_ret
    exact ⟨rfl, rfl⟩

theorem rInf_s (w : World) : Calls Tryd.prog 30 #[.int .i64 32] w fun e w' => e = .returned (.int .u64 2139095040) ∧ Below w.heap.size w w' := by
  have K := Below.refl w.heap.size w
  have hf := shape_field0_s
  have hg := shape_field2_s
  go_enter Tryd.func30, Tryd.ntmps30
  go_wp2_with fail
  with_reducible refine (rOf_s _).mono ?_
  rintro e v45 ⟨rfl, kb⟩
  replace K := below_trans K kb; clear kb
  go_wp2_with fail
  with_reducible refine (rOf_s _).mono ?_
  rintro e v46 ⟨rfl, kb⟩
  replace K := below_trans K kb; clear kb
  go_wp2_with fail
  with_reducible refine (rtwo_s _).mono ?_
  rintro e v47 ⟨rfl, rfl⟩
  go_wp2
  go_ret
  exact ⟨rfl, K⟩

set_option maxHeartbeats 2000000 in
theorem rClass_s (w : World) (x s : Int) (h0 : 0 ≤ x) (h1 : x < 4294967296) (hs : x % 2147483648 = s) : Calls Tryd.prog 12 #[.int .i64 32, .int .u64 x] w fun e w' => e = .returned (.int .i8 (cls 2147483648 8388608 s)) ∧ Below w.heap.size w w' := by
  have s0 : 0 ≤ s := by omega
  have s1 : s < 2147483648 := by omega
  have K := Below.refl w.heap.size w
  have hf := shape_field0_s
  go_enter Tryd.func12, Tryd.ntmps12
  go_wp2_with fail
  with_reducible refine (rSize_s _ x s h0 h1 hs).mono ?_
  rintro e v48 ⟨rfl, rfl⟩
  go_wp2_with fail
  with_reducible refine (rInf_s _).mono ?_
  rintro e v49 ⟨rfl, kb⟩
  replace K := below_trans K kb; clear kb
  clear h0 h1 hs
  by_cases a1 : 2139095040 < s
  · have Hc := hide (show cls 2147483648 8388608 s = 5 by unfold cls; rw [if_pos (by omega)])
    go_wp2
    go_ret
    exact ⟨by rw [Hc.out]; rfl, K⟩
  go_wp2_with fail
  with_reducible refine (rInf_s _).mono ?_
  rintro e v50 ⟨rfl, kb⟩
  replace K := below_trans K kb; clear kb
  by_cases a2 : s = 2139095040
  · have Hc := hide (show cls 2147483648 8388608 s = 4 by unfold cls; rw [if_neg (by omega), if_pos (by omega)])
    have a2' : (s == 2139095040) = true := by simp [a2]
    clear a2 a1
    go_wp2
    go_ret
    exact ⟨by rw [Hc.out]; rfl, K⟩
  have a2' : (s == 2139095040) = false := by simp [a2]
  by_cases a3 : s = 0
  · have Hc := hide (show cls 2147483648 8388608 s = 1 by unfold cls; rw [if_neg (by omega), if_neg (by omega), if_pos (by omega)])
    have a3' : (s == 0) = true := by simp [a3]
    clear a2 a1 a3
    go_wp2
    go_ret
    exact ⟨by rw [Hc.out]; rfl, K⟩
  have a3' : (s == 0) = false := by simp [a3]
  go_wp2_with fail
  with_reducible refine (rOf_s _).mono ?_
  rintro e v51 ⟨rfl, kb⟩
  replace K := below_trans K kb; clear kb
  go_wp2_with fail
  with_reducible refine (rtwo_s _).mono ?_
  rintro e v52 ⟨rfl, rfl⟩
  by_cases a4 : s < 8388608
  · have Hc := hide (show cls 2147483648 8388608 s = 2 by unfold cls; rw [if_neg (by omega), if_neg (by omega), if_neg (by omega), if_pos (by omega)])
    go_wp2
    go_ret
    exact ⟨by rw [Hc.out]; rfl, K⟩
  · have Hc := hide (show cls 2147483648 8388608 s = 3 by unfold cls; rw [if_neg (by omega), if_neg (by omega), if_neg (by omega), if_neg (by omega)])
    go_wp2
    go_ret
    exact ⟨by rw [Hc.out]; rfl, K⟩

set_option maxHeartbeats 4000000 in
theorem rTotal_s (w : World) (x y : Int) (h0 : 0 ≤ x) (h1 : x < 4294967296) (g0 : 0 ≤ y) (g1 : y < 4294967296) : Calls Tryd.prog 19 #[.int .i64 32, .int .u64 x, .int .u64 y] w fun e w' => e = .returned (.int .i64 (tri (rk 2147483648 x) (rk 2147483648 y))) ∧ w' = w := by
  go_enter Tryd.func19, Tryd.ntmps19
  go_wp2_with fail
  with_reducible refine (rNeg_s _ x).mono ?_
  rintro e v53 ⟨rfl, rfl⟩
  go_wp2_with fail
  with_reducible refine (rNeg_s _ y).mono ?_
  rintro e v54 ⟨rfl, rfl⟩
  by_cases a : 2147483648 ≤ x
  · have a' : decide (2147483648 ≤ x) = true := decide_eq_true a
    by_cases b : 2147483648 ≤ y
    · have b' : decide (2147483648 ≤ y) = true := decide_eq_true b
      by_cases c : x < y
      · have c1 : ¬ y < x := by omega
        go_wp2_with fail
        with_reducible refine (rNeg_s _ x).mono ?_
        rintro e v55 ⟨rfl, rfl⟩
        have Hc := hide (show tri (rk 2147483648 x) (rk 2147483648 y) = 1 by unfold tri rk; rw [if_neg (by omega : ¬ x < 2147483648), if_neg (by omega : ¬ y < 2147483648)]; rw [if_neg (by omega), if_pos (by omega)])
        go_wp2
        go_ret
        exact ⟨by rw [Hc.out]; rfl, rfl⟩
      by_cases c1 : y < x
      · skip
        go_wp2_with fail
        with_reducible refine (rNeg_s _ x).mono ?_
        rintro e v56 ⟨rfl, rfl⟩
        have Hc := hide (show tri (rk 2147483648 x) (rk 2147483648 y) = -1 by unfold tri rk; rw [if_neg (by omega : ¬ x < 2147483648), if_neg (by omega : ¬ y < 2147483648)]; rw [if_pos (by omega)])
        go_wp2
        go_ret
        exact ⟨by rw [Hc.out]; rfl, rfl⟩
      go_wp2_with fail
      with_reducible refine (rNeg_s _ x).mono ?_
      rintro e v57 ⟨rfl, rfl⟩
      have Hc := hide (show tri (rk 2147483648 x) (rk 2147483648 y) = 0 by unfold tri rk; rw [if_neg (by omega : ¬ x < 2147483648), if_neg (by omega : ¬ y < 2147483648)]; rw [if_neg (by omega), if_neg (by omega)])
      go_wp2
      go_ret
      exact ⟨by rw [Hc.out]; rfl, rfl⟩
    · have b' : decide (2147483648 ≤ y) = false := decide_eq_false b
      go_wp2_with fail
      with_reducible refine (rNeg_s _ x).mono ?_
      rintro e v58 ⟨rfl, rfl⟩
      have Hc := hide (show tri (rk 2147483648 x) (rk 2147483648 y) = -1 by unfold tri rk; rw [if_neg (by omega : ¬ x < 2147483648), if_pos (by omega : y < 2147483648)]; rw [if_pos (by omega)])
      go_wp2
      go_ret
      exact ⟨by rw [Hc.out]; rfl, rfl⟩
  · have a' : decide (2147483648 ≤ x) = false := decide_eq_false a
    by_cases b : 2147483648 ≤ y
    · have b' : decide (2147483648 ≤ y) = true := decide_eq_true b
      go_wp2_with fail
      with_reducible refine (rNeg_s _ x).mono ?_
      rintro e v59 ⟨rfl, rfl⟩
      have Hc := hide (show tri (rk 2147483648 x) (rk 2147483648 y) = 1 by unfold tri rk; rw [if_pos (by omega : x < 2147483648), if_neg (by omega : ¬ y < 2147483648)]; rw [if_neg (by omega), if_pos (by omega)])
      go_wp2
      go_ret
      exact ⟨by rw [Hc.out]; rfl, rfl⟩
    · have b' : decide (2147483648 ≤ y) = false := decide_eq_false b
      by_cases c : x < y
      · have c1 : ¬ y < x := by omega
        go_wp2_with fail
        with_reducible refine (rNeg_s _ x).mono ?_
        rintro e v60 ⟨rfl, rfl⟩
        have Hc := hide (show tri (rk 2147483648 x) (rk 2147483648 y) = -1 by unfold tri rk; rw [if_pos (by omega : x < 2147483648), if_pos (by omega : y < 2147483648)]; rw [if_pos (by omega)])
        go_wp2
        go_ret
        exact ⟨by rw [Hc.out]; rfl, rfl⟩
      by_cases c1 : y < x
      · skip
        go_wp2_with fail
        with_reducible refine (rNeg_s _ x).mono ?_
        rintro e v61 ⟨rfl, rfl⟩
        have Hc := hide (show tri (rk 2147483648 x) (rk 2147483648 y) = 1 by unfold tri rk; rw [if_pos (by omega : x < 2147483648), if_pos (by omega : y < 2147483648)]; rw [if_neg (by omega), if_pos (by omega)])
        go_wp2
        go_ret
        exact ⟨by rw [Hc.out]; rfl, rfl⟩
      go_wp2_with fail
      with_reducible refine (rNeg_s _ x).mono ?_
      rintro e v62 ⟨rfl, rfl⟩
      have Hc := hide (show tri (rk 2147483648 x) (rk 2147483648 y) = 0 by unfold tri rk; rw [if_pos (by omega : x < 2147483648), if_pos (by omega : y < 2147483648)]; rw [if_neg (by omega), if_neg (by omega)])
      go_wp2
      go_ret
      exact ⟨by rw [Hc.out]; rfl, rfl⟩

set_option maxHeartbeats 2000000 in
theorem rNext_s (w : World) (x : Int) (h0 : 0 ≤ x) (h1 : x < 4294967296) : Calls Tryd.prog 21 #[.int .i64 32, .int .u64 x] w fun e w' => e = .returned (.int .u64 (nxt 2147483648 8388608 x)) ∧ Below w.heap.size w w' := by
  obtain ⟨s, hs⟩ : ∃ s, x % 2147483648 = s := ⟨_, rfl⟩
  have s0 : 0 ≤ s := by omega
  have s1 : s < 2147483648 := by omega
  have H1 := hide (next_1 2147483648 8388608 x s hs)
  have H2 := hide (next_2 2147483648 8388608 x s hs)
  have H3 := hide (next_3 2147483648 8388608 x s hs)
  have H4 := hide (next_4 2147483648 8388608 x s hs)
  have K := Below.refl w.heap.size w
  go_enter Tryd.func21, Tryd.ntmps21
  go_wp2_with fail
  with_reducible refine (rSize_s _ x s h0 h1 hs).mono ?_
  rintro e v63 ⟨rfl, rfl⟩
  go_wp2_with fail
  with_reducible refine (rInf_s _).mono ?_
  rintro e v64 ⟨rfl, kb⟩
  replace K := below_trans K kb; clear kb
  by_cases a1 : 2139095040 < s
  · have Hc := hide (H1.out (Or.inl (by omega)))
    clear hs
    go_wp2
    go_ret
    exact ⟨by rw [Hc.out]; rfl, K⟩
  go_wp2_with fail
  with_reducible refine (rInf_s _).mono ?_
  rintro e v65 ⟨rfl, kb⟩
  replace K := below_trans K kb; clear kb
  by_cases a2 : x = 2139095040
  · have Hc := hide (H1.out (Or.inr (by omega)))
    have a2' : (x == 2139095040) = true := by simp [a2]
    clear hs a2
    go_wp2
    go_ret
    exact ⟨by rw [Hc.out]; rfl, K⟩
  have a2' : (x == 2139095040) = false := by simp [a2]
  by_cases a3 : s = 0
  · have Hc := hide (H2.out (by omega) (by omega) (by omega))
    have a3' : (s == 0) = true := by simp [a3]
    clear hs a2 a3
    go_wp2
    go_ret
    exact ⟨by rw [Hc.out]; rfl, K⟩
  have a3' : (s == 0) = false := by simp [a3]
  go_wp2_with fail
  with_reducible refine (rNeg_s _ x).mono ?_
  rintro e v66 ⟨rfl, rfl⟩
  by_cases a4 : 2147483648 ≤ x
  · have Hc := hide (H3.out (by omega) (by omega) (by omega) (by omega))
    have a4' : decide (2147483648 ≤ x) = true := decide_eq_true a4
    clear hs a2 a3
    go_wp2
    go_ret
    exact ⟨by rw [Hc.out]; rfl, K⟩
  · have Hc := hide (H4.out (by omega) (by omega) (by omega) (by omega))
    have a4' : decide (2147483648 ≤ x) = false := decide_eq_false a4
    clear hs a2 a3
    go_wp2
    go_ret
    exact ⟨by rw [Hc.out]; rfl, K⟩

set_option maxHeartbeats 4000000 in
theorem rCmp_s (w : World) (x y : Int) (h0 : 0 ≤ x) (h1 : x < 4294967296) (g0 : 0 ≤ y) (g1 : y < 4294967296) : Calls Tryd.prog 17 #[.int .i64 32, .int .u64 x, .int .u64 y] w fun e w' => e = .returned (.tuple #[.int .i64 (cmpC 2147483648 8388608 x y), .bool (cmpOk 2147483648 8388608 x y)]) ∧ Below w.heap.size w w' := by
  obtain ⟨s, hs⟩ : ∃ s, x % 2147483648 = s := ⟨_, rfl⟩
  obtain ⟨r, hr⟩ : ∃ r, y % 2147483648 = r := ⟨_, rfl⟩
  have HC := hide (cmp_cases 2147483648 8388608 x y s r (by decide) hs hr)
  have HZ1 := hide (cls_zero (S := 2147483648) (F := 8388608) (s := s) (by decide))
  have HZ2 := hide (cls_zero (S := 2147483648) (F := 8388608) (s := r) (by decide))
  have K := Below.refl w.heap.size w
  go_enter Tryd.func17, Tryd.ntmps17
  go_wp2_with fail
  with_reducible refine (rClass_s _ x s h0 h1 hs).mono ?_
  rintro e v67 ⟨rfl, kb⟩
  replace K := below_trans K kb; clear kb
  have H := HC.out
  have z1 := HZ1.out
  have z2 := HZ2.out
  clear HC HZ1 HZ2
  generalize hA : cls 2147483648 8388608 s = a at *
  by_cases p : a = 5
  · have p' : (a == 5) = true := by simp [p]
    have Hc := hide (H.1 (Or.inl p))
    clear H p z1 z2 hA hs hr
    go_wp2
    go_ret2
    exact ⟨by rw [Hc.out.1, Hc.out.2]; rfl, K⟩
  have p' : (a == 5) = false := by simp [p]
  have HH := hide H
  have Z1 := hide z1
  have Z2 := hide z2
  clear H z1 z2 hA
  go_wp2_with fail
  with_reducible refine (rClass_s _ y r g0 g1 hr).mono ?_
  rintro e v68 ⟨rfl, kb⟩
  replace K := below_trans K kb; clear kb
  have H := HH.out
  have z1 := Z1.out
  have z2 := Z2.out
  clear HH Z1 Z2
  generalize hB : cls 2147483648 8388608 r = b at *
  by_cases q : b = 5
  · have q' : (b == 5) = true := by simp [q]
    have Hc := hide (H.1 (Or.inr q))
    clear H p q z1 z2 hB hs hr
    go_wp2
    go_ret2
    exact ⟨by rw [Hc.out.1, Hc.out.2]; rfl, K⟩
  have q' : (b == 5) = false := by simp [q]
  have H2 := hide (H.2.1 p q)
  have H3 := hide (H.2.2 p q)
  rw [z1, z2] at H2 H3
  clear H z1 z2 hB p q
  go_wp2_with fail
  with_reducible refine (rNeg_s _ x).mono ?_
  rintro e v69 ⟨rfl, rfl⟩
  go_wp2_with fail
  with_reducible refine (rNeg_s _ y).mono ?_
  rintro e v70 ⟨rfl, rfl⟩
  by_cases a : 2147483648 ≤ x
  · have a' : decide (2147483648 ≤ x) = true := decide_eq_true a
    by_cases b : 2147483648 ≤ y
    · have b' : decide (2147483648 ≤ y) = true := decide_eq_true b
      go_wp2_with fail
      with_reducible refine (rTotal_s _ x y h0 h1 g0 g1).mono ?_
      rintro e v71 ⟨rfl, rfl⟩
      by_cases zz : s = 0 ∧ r = 0
      · have Hc := hide (H2.out zz)
        have HT := hide (show tri (rk 2147483648 x) (rk 2147483648 y) = 0 by rw [show x = y by omega]; exact tri_self _)
        rw [HT.out]
        clear H2 H3 hs hr zz
        go_wp2
        go_ret2
        exact ⟨by rw [Hc.out.1, Hc.out.2]; rfl, K⟩
      · have Hc := hide (H3.out zz)
        clear H2 H3 hs hr zz
        generalize hT : tri (rk 2147483648 x) (rk 2147483648 y) = T at *
        have HT := hide hT
        clear hT
        go_wp2
        go_ret2
        exact ⟨by rw [Hc.out.1, Hc.out.2]; rfl, K⟩
    · have b' : decide (2147483648 ≤ y) = false := decide_eq_false b
      have HT := hide (show tri (rk 2147483648 x) (rk 2147483648 y) = -1 by unfold tri rk; rw [if_neg (by omega : ¬ x < 2147483648), if_pos (by omega : y < 2147483648)]; rw [if_pos (by omega)])
      go_wp2_with fail
      with_reducible refine (rSize_s _ x s h0 h1 hs).mono ?_
      rintro e v72 ⟨rfl, rfl⟩
      by_cases c : s = 0
      · have c' : (s == 0) = true := by simp [c]
        go_wp2_with fail
        with_reducible refine (rSize_s _ y r g0 g1 hr).mono ?_
        rintro e v73 ⟨rfl, rfl⟩
        by_cases c2 : r = 0
        · have c2' : (r == 0) = true := by simp [c2]
          have Hc := hide (H2.out ⟨c, c2⟩)
          clear H2 H3 hs hr c c2
          go_wp2
          go_ret2
          exact ⟨by rw [Hc.out.1, Hc.out.2]; rfl, K⟩
        · have c2' : (r == 0) = false := by simp [c2]
          go_wp2_with fail
          with_reducible refine (rNeg_s _ x).mono ?_
          rintro e v74 ⟨rfl, rfl⟩
          have Hc := hide (H3.out (by omega))
          clear H2 H3 hs hr
          go_wp2
          go_ret2
          exact ⟨by rw [Hc.out.1, Hc.out.2, HT.out]; rfl, K⟩
      · have c' : (s == 0) = false := by simp [c]
        go_wp2_with fail
        with_reducible refine (rNeg_s _ x).mono ?_
        rintro e v75 ⟨rfl, rfl⟩
        have Hc := hide (H3.out (by omega))
        clear H2 H3 hs hr
        go_wp2
        go_ret2
        exact ⟨by rw [Hc.out.1, Hc.out.2, HT.out]; rfl, K⟩
  · have a' : decide (2147483648 ≤ x) = false := decide_eq_false a
    by_cases b : 2147483648 ≤ y
    · have b' : decide (2147483648 ≤ y) = true := decide_eq_true b
      have HT := hide (show tri (rk 2147483648 x) (rk 2147483648 y) = 1 by unfold tri rk; rw [if_pos (by omega : x < 2147483648), if_neg (by omega : ¬ y < 2147483648)]; rw [if_neg (by omega), if_pos (by omega)])
      go_wp2_with fail
      with_reducible refine (rSize_s _ x s h0 h1 hs).mono ?_
      rintro e v76 ⟨rfl, rfl⟩
      by_cases c : s = 0
      · have c' : (s == 0) = true := by simp [c]
        go_wp2_with fail
        with_reducible refine (rSize_s _ y r g0 g1 hr).mono ?_
        rintro e v77 ⟨rfl, rfl⟩
        by_cases c2 : r = 0
        · have c2' : (r == 0) = true := by simp [c2]
          have Hc := hide (H2.out ⟨c, c2⟩)
          clear H2 H3 hs hr c c2
          go_wp2
          go_ret2
          exact ⟨by rw [Hc.out.1, Hc.out.2]; rfl, K⟩
        · have c2' : (r == 0) = false := by simp [c2]
          go_wp2_with fail
          with_reducible refine (rNeg_s _ x).mono ?_
          rintro e v78 ⟨rfl, rfl⟩
          have Hc := hide (H3.out (by omega))
          clear H2 H3 hs hr
          go_wp2
          go_ret2
          exact ⟨by rw [Hc.out.1, Hc.out.2, HT.out]; rfl, K⟩
      · have c' : (s == 0) = false := by simp [c]
        go_wp2_with fail
        with_reducible refine (rNeg_s _ x).mono ?_
        rintro e v79 ⟨rfl, rfl⟩
        have Hc := hide (H3.out (by omega))
        clear H2 H3 hs hr
        go_wp2
        go_ret2
        exact ⟨by rw [Hc.out.1, Hc.out.2, HT.out]; rfl, K⟩
    · have b' : decide (2147483648 ≤ y) = false := decide_eq_false b
      go_wp2_with fail
      with_reducible refine (rTotal_s _ x y h0 h1 g0 g1).mono ?_
      rintro e v80 ⟨rfl, rfl⟩
      by_cases zz : s = 0 ∧ r = 0
      · have Hc := hide (H2.out zz)
        have HT := hide (show tri (rk 2147483648 x) (rk 2147483648 y) = 0 by rw [show x = y by omega]; exact tri_self _)
        rw [HT.out]
        clear H2 H3 hs hr zz
        go_wp2
        go_ret2
        exact ⟨by rw [Hc.out.1, Hc.out.2]; rfl, K⟩
      · have Hc := hide (H3.out zz)
        clear H2 H3 hs hr zz
        generalize hT : tri (rk 2147483648 x) (rk 2147483648 y) = T at *
        have HT := hide hT
        clear hT
        go_wp2
        go_ret2
        exact ⟨by rw [Hc.out.1, Hc.out.2]; rfl, K⟩

theorem rSign_d (w : World) : Calls Tryd.prog 67 #[.int .i64 64] w fun e w' => e = .returned (.int .u64 9223372036854775808) ∧ w' = w := by
  have := rSign_any w 64 (by decide) (by decide)
  rwa [show p2 (64 - 1) = 9223372036854775808 from by decide] at this
theorem rtwo_d (w : World) : Calls Tryd.prog 37 #[.int .i64 52] w fun e w' => e = .returned (.int .u64 4503599627370496) ∧ w' = w := by
  have := rtwo_any w 52 (by decide)
  rwa [show p2 52 = 4503599627370496 from by decide] at this

theorem shape_field0_d (w : World) : (Instr.field 67 (.agg #[.int .i64 52, .int .i64 (-1074), .int .i64 2047]) 0).run Tryd.prog w = .ok (.int .i64 52) w := by kernel_rfl
theorem shape_field1_d (w : World) : (Instr.field 67 (.agg #[.int .i64 52, .int .i64 (-1074), .int .i64 2047]) 1).run Tryd.prog w = .ok (.int .i64 (-1074)) w := by kernel_rfl
theorem shape_field2_d (w : World) : (Instr.field 67 (.agg #[.int .i64 52, .int .i64 (-1074), .int .i64 2047]) 2).run Tryd.prog w = .ok (.int .i64 2047) w := by kernel_rfl
theorem rOf_d (w : World) : Calls Tryd.prog 38 #[.int .i64 64] w fun e w' => e = .returned (.agg #[.int .i64 52, .int .i64 (-1074), .int .i64 2047]) ∧ Below w.heap.size w w' := by
  go_enter Tryd.func38, Tryd.ntmps38
  go_wp2
  go_returns
  exact ⟨rfl, bel_new _ _⟩

theorem rNeg_d (w : World) (x : Int) : Calls Tryd.prog 32 #[.int .i64 64, .int .u64 x] w fun e w' => e = .returned (.bool (decide (9223372036854775808 ≤ x))) ∧ w' = w := by
  go_enter Tryd.func32, Tryd.ntmps32
  go_wp2_with fail
  with_reducible refine (rSign_d _).mono ?_
  rintro e v81 ⟨rfl, rfl⟩
  go_wp2
  go_ret
  exact ⟨rfl, rfl⟩

theorem rSize_d (w : World) (x s : Int) (h0 : 0 ≤ x) (h1 : x < 18446744073709551616) (hs : x % 9223372036854775808 = s) : Calls Tryd.prog 29 #[.int .i64 64, .int .u64 x] w fun e w' => e = .returned (.int .u64 s) ∧ w' = w := by
  by_cases a : 9223372036854775808 ≤ x
  · have hx : x = s + 9223372036854775808 := by omega
    have s0 : 0 ≤ s := by omega
    have s1 : s < 9223372036854775808 := by omega
    clear hs h0 h1
    subst hx
    go_enter Tryd.func29, Tryd.ntmps29
    go_wp2_with fail
    with_reducible refine (rNeg_d _ _).mono ?_
    rintro e v82 ⟨rfl, rfl⟩
    go_wp2_with fail
    with_reducible refine (rSign_d _).mono ?_
    rintro e v83 ⟨rfl, rfl⟩
    go_wp2
    go_ret
    exact ⟨ret_int (by omega), rfl⟩
  · obtain rfl : x = s := by omega
    clear hs
    go_enter Tryd.func29, Tryd.ntmps29
    go_wp2_with fail
    with_reducible refine (rNeg_d _ _).mono ?_
    rintro e v84 ⟨rfl, rfl⟩
    go_wp2
    go_ret
    exact ⟨rfl, rfl⟩

theorem rInf_d (w : World) : Calls Tryd.prog 30 #[.int .i64 64] w fun e w' => e = .returned (.int .u64 9218868437227405312) ∧ Below w.heap.size w w' := by
  have K := Below.refl w.heap.size w
  have hf := shape_field0_d
  have hg := shape_field2_d
  go_enter Tryd.func30, Tryd.ntmps30
  go_wp2_with fail
  with_reducible refine (rOf_d _).mono ?_
  rintro e v85 ⟨rfl, kb⟩
  replace K := below_trans K kb; clear kb
  go_wp2_with fail
  with_reducible refine (rOf_d _).mono ?_
  rintro e v86 ⟨rfl, kb⟩
  replace K := below_trans K kb; clear kb
  go_wp2_with fail
  with_reducible refine (rtwo_d _).mono ?_
  rintro e v87 ⟨rfl, rfl⟩
  go_wp2
  go_ret
  exact ⟨rfl, K⟩

set_option maxHeartbeats 2000000 in
theorem rClass_d (w : World) (x s : Int) (h0 : 0 ≤ x) (h1 : x < 18446744073709551616) (hs : x % 9223372036854775808 = s) : Calls Tryd.prog 12 #[.int .i64 64, .int .u64 x] w fun e w' => e = .returned (.int .i8 (cls 9223372036854775808 4503599627370496 s)) ∧ Below w.heap.size w w' := by
  have s0 : 0 ≤ s := by omega
  have s1 : s < 9223372036854775808 := by omega
  have K := Below.refl w.heap.size w
  have hf := shape_field0_d
  go_enter Tryd.func12, Tryd.ntmps12
  go_wp2_with fail
  with_reducible refine (rSize_d _ x s h0 h1 hs).mono ?_
  rintro e v88 ⟨rfl, rfl⟩
  go_wp2_with fail
  with_reducible refine (rInf_d _).mono ?_
  rintro e v89 ⟨rfl, kb⟩
  replace K := below_trans K kb; clear kb
  clear h0 h1 hs
  by_cases a1 : 9218868437227405312 < s
  · have Hc := hide (show cls 9223372036854775808 4503599627370496 s = 5 by unfold cls; rw [if_pos (by omega)])
    go_wp2
    go_ret
    exact ⟨by rw [Hc.out]; rfl, K⟩
  go_wp2_with fail
  with_reducible refine (rInf_d _).mono ?_
  rintro e v90 ⟨rfl, kb⟩
  replace K := below_trans K kb; clear kb
  by_cases a2 : s = 9218868437227405312
  · have Hc := hide (show cls 9223372036854775808 4503599627370496 s = 4 by unfold cls; rw [if_neg (by omega), if_pos (by omega)])
    have a2' : (s == 9218868437227405312) = true := by simp [a2]
    clear a2 a1
    go_wp2
    go_ret
    exact ⟨by rw [Hc.out]; rfl, K⟩
  have a2' : (s == 9218868437227405312) = false := by simp [a2]
  by_cases a3 : s = 0
  · have Hc := hide (show cls 9223372036854775808 4503599627370496 s = 1 by unfold cls; rw [if_neg (by omega), if_neg (by omega), if_pos (by omega)])
    have a3' : (s == 0) = true := by simp [a3]
    clear a2 a1 a3
    go_wp2
    go_ret
    exact ⟨by rw [Hc.out]; rfl, K⟩
  have a3' : (s == 0) = false := by simp [a3]
  go_wp2_with fail
  with_reducible refine (rOf_d _).mono ?_
  rintro e v91 ⟨rfl, kb⟩
  replace K := below_trans K kb; clear kb
  go_wp2_with fail
  with_reducible refine (rtwo_d _).mono ?_
  rintro e v92 ⟨rfl, rfl⟩
  by_cases a4 : s < 4503599627370496
  · have Hc := hide (show cls 9223372036854775808 4503599627370496 s = 2 by unfold cls; rw [if_neg (by omega), if_neg (by omega), if_neg (by omega), if_pos (by omega)])
    go_wp2
    go_ret
    exact ⟨by rw [Hc.out]; rfl, K⟩
  · have Hc := hide (show cls 9223372036854775808 4503599627370496 s = 3 by unfold cls; rw [if_neg (by omega), if_neg (by omega), if_neg (by omega), if_neg (by omega)])
    go_wp2
    go_ret
    exact ⟨by rw [Hc.out]; rfl, K⟩

set_option maxHeartbeats 4000000 in
theorem rTotal_d (w : World) (x y : Int) (h0 : 0 ≤ x) (h1 : x < 18446744073709551616) (g0 : 0 ≤ y) (g1 : y < 18446744073709551616) : Calls Tryd.prog 19 #[.int .i64 64, .int .u64 x, .int .u64 y] w fun e w' => e = .returned (.int .i64 (tri (rk 9223372036854775808 x) (rk 9223372036854775808 y))) ∧ w' = w := by
  go_enter Tryd.func19, Tryd.ntmps19
  go_wp2_with fail
  with_reducible refine (rNeg_d _ x).mono ?_
  rintro e v93 ⟨rfl, rfl⟩
  go_wp2_with fail
  with_reducible refine (rNeg_d _ y).mono ?_
  rintro e v94 ⟨rfl, rfl⟩
  by_cases a : 9223372036854775808 ≤ x
  · have a' : decide (9223372036854775808 ≤ x) = true := decide_eq_true a
    by_cases b : 9223372036854775808 ≤ y
    · have b' : decide (9223372036854775808 ≤ y) = true := decide_eq_true b
      by_cases c : x < y
      · have c1 : ¬ y < x := by omega
        go_wp2_with fail
        with_reducible refine (rNeg_d _ x).mono ?_
        rintro e v95 ⟨rfl, rfl⟩
        have Hc := hide (show tri (rk 9223372036854775808 x) (rk 9223372036854775808 y) = 1 by unfold tri rk; rw [if_neg (by omega : ¬ x < 9223372036854775808), if_neg (by omega : ¬ y < 9223372036854775808)]; rw [if_neg (by omega), if_pos (by omega)])
        go_wp2
        go_ret
        exact ⟨by rw [Hc.out]; rfl, rfl⟩
      by_cases c1 : y < x
      · skip
        go_wp2_with fail
        with_reducible refine (rNeg_d _ x).mono ?_
        rintro e v96 ⟨rfl, rfl⟩
        have Hc := hide (show tri (rk 9223372036854775808 x) (rk 9223372036854775808 y) = -1 by unfold tri rk; rw [if_neg (by omega : ¬ x < 9223372036854775808), if_neg (by omega : ¬ y < 9223372036854775808)]; rw [if_pos (by omega)])
        go_wp2
        go_ret
        exact ⟨by rw [Hc.out]; rfl, rfl⟩
      go_wp2_with fail
      with_reducible refine (rNeg_d _ x).mono ?_
      rintro e v97 ⟨rfl, rfl⟩
      have Hc := hide (show tri (rk 9223372036854775808 x) (rk 9223372036854775808 y) = 0 by unfold tri rk; rw [if_neg (by omega : ¬ x < 9223372036854775808), if_neg (by omega : ¬ y < 9223372036854775808)]; rw [if_neg (by omega), if_neg (by omega)])
      go_wp2
      go_ret
      exact ⟨by rw [Hc.out]; rfl, rfl⟩
    · have b' : decide (9223372036854775808 ≤ y) = false := decide_eq_false b
      go_wp2_with fail
      with_reducible refine (rNeg_d _ x).mono ?_
      rintro e v98 ⟨rfl, rfl⟩
      have Hc := hide (show tri (rk 9223372036854775808 x) (rk 9223372036854775808 y) = -1 by unfold tri rk; rw [if_neg (by omega : ¬ x < 9223372036854775808), if_pos (by omega : y < 9223372036854775808)]; rw [if_pos (by omega)])
      go_wp2
      go_ret
      exact ⟨by rw [Hc.out]; rfl, rfl⟩
  · have a' : decide (9223372036854775808 ≤ x) = false := decide_eq_false a
    by_cases b : 9223372036854775808 ≤ y
    · have b' : decide (9223372036854775808 ≤ y) = true := decide_eq_true b
      go_wp2_with fail
      with_reducible refine (rNeg_d _ x).mono ?_
      rintro e v99 ⟨rfl, rfl⟩
      have Hc := hide (show tri (rk 9223372036854775808 x) (rk 9223372036854775808 y) = 1 by unfold tri rk; rw [if_pos (by omega : x < 9223372036854775808), if_neg (by omega : ¬ y < 9223372036854775808)]; rw [if_neg (by omega), if_pos (by omega)])
      go_wp2
      go_ret
      exact ⟨by rw [Hc.out]; rfl, rfl⟩
    · have b' : decide (9223372036854775808 ≤ y) = false := decide_eq_false b
      by_cases c : x < y
      · have c1 : ¬ y < x := by omega
        go_wp2_with fail
        with_reducible refine (rNeg_d _ x).mono ?_
        rintro e v100 ⟨rfl, rfl⟩
        have Hc := hide (show tri (rk 9223372036854775808 x) (rk 9223372036854775808 y) = -1 by unfold tri rk; rw [if_pos (by omega : x < 9223372036854775808), if_pos (by omega : y < 9223372036854775808)]; rw [if_pos (by omega)])
        go_wp2
        go_ret
        exact ⟨by rw [Hc.out]; rfl, rfl⟩
      by_cases c1 : y < x
      · skip
        go_wp2_with fail
        with_reducible refine (rNeg_d _ x).mono ?_
        rintro e v101 ⟨rfl, rfl⟩
        have Hc := hide (show tri (rk 9223372036854775808 x) (rk 9223372036854775808 y) = 1 by unfold tri rk; rw [if_pos (by omega : x < 9223372036854775808), if_pos (by omega : y < 9223372036854775808)]; rw [if_neg (by omega), if_pos (by omega)])
        go_wp2
        go_ret
        exact ⟨by rw [Hc.out]; rfl, rfl⟩
      go_wp2_with fail
      with_reducible refine (rNeg_d _ x).mono ?_
      rintro e v102 ⟨rfl, rfl⟩
      have Hc := hide (show tri (rk 9223372036854775808 x) (rk 9223372036854775808 y) = 0 by unfold tri rk; rw [if_pos (by omega : x < 9223372036854775808), if_pos (by omega : y < 9223372036854775808)]; rw [if_neg (by omega), if_neg (by omega)])
      go_wp2
      go_ret
      exact ⟨by rw [Hc.out]; rfl, rfl⟩

set_option maxHeartbeats 2000000 in
theorem rNext_d (w : World) (x : Int) (h0 : 0 ≤ x) (h1 : x < 18446744073709551616) : Calls Tryd.prog 21 #[.int .i64 64, .int .u64 x] w fun e w' => e = .returned (.int .u64 (nxt 9223372036854775808 4503599627370496 x)) ∧ Below w.heap.size w w' := by
  obtain ⟨s, hs⟩ : ∃ s, x % 9223372036854775808 = s := ⟨_, rfl⟩
  have s0 : 0 ≤ s := by omega
  have s1 : s < 9223372036854775808 := by omega
  have H1 := hide (next_1 9223372036854775808 4503599627370496 x s hs)
  have H2 := hide (next_2 9223372036854775808 4503599627370496 x s hs)
  have H3 := hide (next_3 9223372036854775808 4503599627370496 x s hs)
  have H4 := hide (next_4 9223372036854775808 4503599627370496 x s hs)
  have K := Below.refl w.heap.size w
  go_enter Tryd.func21, Tryd.ntmps21
  go_wp2_with fail
  with_reducible refine (rSize_d _ x s h0 h1 hs).mono ?_
  rintro e v103 ⟨rfl, rfl⟩
  go_wp2_with fail
  with_reducible refine (rInf_d _).mono ?_
  rintro e v104 ⟨rfl, kb⟩
  replace K := below_trans K kb; clear kb
  by_cases a1 : 9218868437227405312 < s
  · have Hc := hide (H1.out (Or.inl (by omega)))
    clear hs
    go_wp2
    go_ret
    exact ⟨by rw [Hc.out]; rfl, K⟩
  go_wp2_with fail
  with_reducible refine (rInf_d _).mono ?_
  rintro e v105 ⟨rfl, kb⟩
  replace K := below_trans K kb; clear kb
  by_cases a2 : x = 9218868437227405312
  · have Hc := hide (H1.out (Or.inr (by omega)))
    have a2' : (x == 9218868437227405312) = true := by simp [a2]
    clear hs a2
    go_wp2
    go_ret
    exact ⟨by rw [Hc.out]; rfl, K⟩
  have a2' : (x == 9218868437227405312) = false := by simp [a2]
  by_cases a3 : s = 0
  · have Hc := hide (H2.out (by omega) (by omega) (by omega))
    have a3' : (s == 0) = true := by simp [a3]
    clear hs a2 a3
    go_wp2
    go_ret
    exact ⟨by rw [Hc.out]; rfl, K⟩
  have a3' : (s == 0) = false := by simp [a3]
  go_wp2_with fail
  with_reducible refine (rNeg_d _ x).mono ?_
  rintro e v106 ⟨rfl, rfl⟩
  by_cases a4 : 9223372036854775808 ≤ x
  · have Hc := hide (H3.out (by omega) (by omega) (by omega) (by omega))
    have a4' : decide (9223372036854775808 ≤ x) = true := decide_eq_true a4
    clear hs a2 a3
    go_wp2
    go_ret
    exact ⟨by rw [Hc.out]; rfl, K⟩
  · have Hc := hide (H4.out (by omega) (by omega) (by omega) (by omega))
    have a4' : decide (9223372036854775808 ≤ x) = false := decide_eq_false a4
    clear hs a2 a3
    go_wp2
    go_ret
    exact ⟨by rw [Hc.out]; rfl, K⟩

set_option maxHeartbeats 4000000 in
theorem rCmp_d (w : World) (x y : Int) (h0 : 0 ≤ x) (h1 : x < 18446744073709551616) (g0 : 0 ≤ y) (g1 : y < 18446744073709551616) : Calls Tryd.prog 17 #[.int .i64 64, .int .u64 x, .int .u64 y] w fun e w' => e = .returned (.tuple #[.int .i64 (cmpC 9223372036854775808 4503599627370496 x y), .bool (cmpOk 9223372036854775808 4503599627370496 x y)]) ∧ Below w.heap.size w w' := by
  obtain ⟨s, hs⟩ : ∃ s, x % 9223372036854775808 = s := ⟨_, rfl⟩
  obtain ⟨r, hr⟩ : ∃ r, y % 9223372036854775808 = r := ⟨_, rfl⟩
  have HC := hide (cmp_cases 9223372036854775808 4503599627370496 x y s r (by decide) hs hr)
  have HZ1 := hide (cls_zero (S := 9223372036854775808) (F := 4503599627370496) (s := s) (by decide))
  have HZ2 := hide (cls_zero (S := 9223372036854775808) (F := 4503599627370496) (s := r) (by decide))
  have K := Below.refl w.heap.size w
  go_enter Tryd.func17, Tryd.ntmps17
  go_wp2_with fail
  with_reducible refine (rClass_d _ x s h0 h1 hs).mono ?_
  rintro e v107 ⟨rfl, kb⟩
  replace K := below_trans K kb; clear kb
  have H := HC.out
  have z1 := HZ1.out
  have z2 := HZ2.out
  clear HC HZ1 HZ2
  generalize hA : cls 9223372036854775808 4503599627370496 s = a at *
  by_cases p : a = 5
  · have p' : (a == 5) = true := by simp [p]
    have Hc := hide (H.1 (Or.inl p))
    clear H p z1 z2 hA hs hr
    go_wp2
    go_ret2
    exact ⟨by rw [Hc.out.1, Hc.out.2]; rfl, K⟩
  have p' : (a == 5) = false := by simp [p]
  have HH := hide H
  have Z1 := hide z1
  have Z2 := hide z2
  clear H z1 z2 hA
  go_wp2_with fail
  with_reducible refine (rClass_d _ y r g0 g1 hr).mono ?_
  rintro e v108 ⟨rfl, kb⟩
  replace K := below_trans K kb; clear kb
  have H := HH.out
  have z1 := Z1.out
  have z2 := Z2.out
  clear HH Z1 Z2
  generalize hB : cls 9223372036854775808 4503599627370496 r = b at *
  by_cases q : b = 5
  · have q' : (b == 5) = true := by simp [q]
    have Hc := hide (H.1 (Or.inr q))
    clear H p q z1 z2 hB hs hr
    go_wp2
    go_ret2
    exact ⟨by rw [Hc.out.1, Hc.out.2]; rfl, K⟩
  have q' : (b == 5) = false := by simp [q]
  have H2 := hide (H.2.1 p q)
  have H3 := hide (H.2.2 p q)
  rw [z1, z2] at H2 H3
  clear H z1 z2 hB p q
  go_wp2_with fail
  with_reducible refine (rNeg_d _ x).mono ?_
  rintro e v109 ⟨rfl, rfl⟩
  go_wp2_with fail
  with_reducible refine (rNeg_d _ y).mono ?_
  rintro e v110 ⟨rfl, rfl⟩
  by_cases a : 9223372036854775808 ≤ x
  · have a' : decide (9223372036854775808 ≤ x) = true := decide_eq_true a
    by_cases b : 9223372036854775808 ≤ y
    · have b' : decide (9223372036854775808 ≤ y) = true := decide_eq_true b
      go_wp2_with fail
      with_reducible refine (rTotal_d _ x y h0 h1 g0 g1).mono ?_
      rintro e v111 ⟨rfl, rfl⟩
      by_cases zz : s = 0 ∧ r = 0
      · have Hc := hide (H2.out zz)
        have HT := hide (show tri (rk 9223372036854775808 x) (rk 9223372036854775808 y) = 0 by rw [show x = y by omega]; exact tri_self _)
        rw [HT.out]
        clear H2 H3 hs hr zz
        go_wp2
        go_ret2
        exact ⟨by rw [Hc.out.1, Hc.out.2]; rfl, K⟩
      · have Hc := hide (H3.out zz)
        clear H2 H3 hs hr zz
        generalize hT : tri (rk 9223372036854775808 x) (rk 9223372036854775808 y) = T at *
        have HT := hide hT
        clear hT
        go_wp2
        go_ret2
        exact ⟨by rw [Hc.out.1, Hc.out.2]; rfl, K⟩
    · have b' : decide (9223372036854775808 ≤ y) = false := decide_eq_false b
      have HT := hide (show tri (rk 9223372036854775808 x) (rk 9223372036854775808 y) = -1 by unfold tri rk; rw [if_neg (by omega : ¬ x < 9223372036854775808), if_pos (by omega : y < 9223372036854775808)]; rw [if_pos (by omega)])
      go_wp2_with fail
      with_reducible refine (rSize_d _ x s h0 h1 hs).mono ?_
      rintro e v112 ⟨rfl, rfl⟩
      by_cases c : s = 0
      · have c' : (s == 0) = true := by simp [c]
        go_wp2_with fail
        with_reducible refine (rSize_d _ y r g0 g1 hr).mono ?_
        rintro e v113 ⟨rfl, rfl⟩
        by_cases c2 : r = 0
        · have c2' : (r == 0) = true := by simp [c2]
          have Hc := hide (H2.out ⟨c, c2⟩)
          clear H2 H3 hs hr c c2
          go_wp2
          go_ret2
          exact ⟨by rw [Hc.out.1, Hc.out.2]; rfl, K⟩
        · have c2' : (r == 0) = false := by simp [c2]
          go_wp2_with fail
          with_reducible refine (rNeg_d _ x).mono ?_
          rintro e v114 ⟨rfl, rfl⟩
          have Hc := hide (H3.out (by omega))
          clear H2 H3 hs hr
          go_wp2
          go_ret2
          exact ⟨by rw [Hc.out.1, Hc.out.2, HT.out]; rfl, K⟩
      · have c' : (s == 0) = false := by simp [c]
        go_wp2_with fail
        with_reducible refine (rNeg_d _ x).mono ?_
        rintro e v115 ⟨rfl, rfl⟩
        have Hc := hide (H3.out (by omega))
        clear H2 H3 hs hr
        go_wp2
        go_ret2
        exact ⟨by rw [Hc.out.1, Hc.out.2, HT.out]; rfl, K⟩
  · have a' : decide (9223372036854775808 ≤ x) = false := decide_eq_false a
    by_cases b : 9223372036854775808 ≤ y
    · have b' : decide (9223372036854775808 ≤ y) = true := decide_eq_true b
      have HT := hide (show tri (rk 9223372036854775808 x) (rk 9223372036854775808 y) = 1 by unfold tri rk; rw [if_pos (by omega : x < 9223372036854775808), if_neg (by omega : ¬ y < 9223372036854775808)]; rw [if_neg (by omega), if_pos (by omega)])
      go_wp2_with fail
      with_reducible refine (rSize_d _ x s h0 h1 hs).mono ?_
      rintro e v116 ⟨rfl, rfl⟩
      by_cases c : s = 0
      · have c' : (s == 0) = true := by simp [c]
        go_wp2_with fail
        with_reducible refine (rSize_d _ y r g0 g1 hr).mono ?_
        rintro e v117 ⟨rfl, rfl⟩
        by_cases c2 : r = 0
        · have c2' : (r == 0) = true := by simp [c2]
          have Hc := hide (H2.out ⟨c, c2⟩)
          clear H2 H3 hs hr c c2
          go_wp2
          go_ret2
          exact ⟨by rw [Hc.out.1, Hc.out.2]; rfl, K⟩
        · have c2' : (r == 0) = false := by simp [c2]
          go_wp2_with fail
          with_reducible refine (rNeg_d _ x).mono ?_
          rintro e v118 ⟨rfl, rfl⟩
          have Hc := hide (H3.out (by omega))
          clear H2 H3 hs hr
          go_wp2
          go_ret2
          exact ⟨by rw [Hc.out.1, Hc.out.2, HT.out]; rfl, K⟩
      · have c' : (s == 0) = false := by simp [c]
        go_wp2_with fail
        with_reducible refine (rNeg_d _ x).mono ?_
        rintro e v119 ⟨rfl, rfl⟩
        have Hc := hide (H3.out (by omega))
        clear H2 H3 hs hr
        go_wp2
        go_ret2
        exact ⟨by rw [Hc.out.1, Hc.out.2, HT.out]; rfl, K⟩
    · have b' : decide (9223372036854775808 ≤ y) = false := decide_eq_false b
      go_wp2_with fail
      with_reducible refine (rTotal_d _ x y h0 h1 g0 g1).mono ?_
      rintro e v120 ⟨rfl, rfl⟩
      by_cases zz : s = 0 ∧ r = 0
      · have Hc := hide (H2.out zz)
        have HT := hide (show tri (rk 9223372036854775808 x) (rk 9223372036854775808 y) = 0 by rw [show x = y by omega]; exact tri_self _)
        rw [HT.out]
        clear H2 H3 hs hr zz
        go_wp2
        go_ret2
        exact ⟨by rw [Hc.out.1, Hc.out.2]; rfl, K⟩
      · have Hc := hide (H3.out zz)
        clear H2 H3 hs hr zz
        generalize hT : tri (rk 9223372036854775808 x) (rk 9223372036854775808 y) = T at *
        have HT := hide hT
        clear hT
        go_wp2
        go_ret2
        exact ⟨by rw [Hc.out.1, Hc.out.2]; rfl, K⟩

end Go.Proofs.YtomjckginmjhmaaDoor
