/- SRefA, SAgain, SOfA, SOfB -/
import Derived.Test.YtioganiefgmifaaGreatDoorR05
import Derived.Test.YtioganiefgmifaaGreatDoorR10
import Derived.Test.YtioganiefgmifaaGreatDoorR11
import Derived.Test.YtioganiefgmifaaGreatDoorR02
namespace Go.Proofs.YtioganiefgmifaaGreatDoor
open Go.RowKit
set_option linter.unusedVariables false

theorem arg_top {w : World} {v : Value} {n : Int} {k : Nat} (h : Arg w v n k) : n < p2 (32 * k) := by
  obtain ⟨zs, _, h2, rfl, h4⟩ := h
  have a := Nt.val_lt h2
  have b : Nt.pw zs.length ≤ Nt.pw k := by rw [← p2_32, ← p2_32]; exact p2_mono (by omega)
  rw [p2_32]
  omega
theorem some_len : ∀ (m : Nat) (x : Int), 0 ≤ x → x < p2 m → ∃ k, IsLen x k ∧ k ≤ m := by
  intro m
  induction m with
  | zero => intro x h0 h; exact ⟨0, ⟨h, fun g => by omega⟩, Nat.le_refl _⟩
  | succ m ih =>
    intro x h0 h
    rcases Int.lt_or_le x (p2 m) with g | g
    · obtain ⟨k, h1, h2⟩ := ih x h0 g
      exact ⟨k, h1, by omega⟩
    · exact ⟨m + 1, ⟨h, fun _ => by rw [Nat.add_sub_cancel]; exact g⟩, Nat.le_refl _⟩

set_option maxHeartbeats 1000000 in
theorem shl6 {w : World} {va : Value} {A : Int} {ka N : Nat} (ha : Arg w va A ka) (hka : ka ≤ 1000) (hN : N ≤ 6000) :
    Calls Tryz.prog 51 #[va, .int .i64 N] w fun e w' => ∃ v, e = .returned v ∧ Num w.heap.size w' v (A * p2 N) (ka + 760) ∧ Below w.heap.size w w' := by
  have a0 := ha.nonneg
  by_cases z : A = 0
  · subst z
    go_enter Tryz.func51, Tryz.ntmps51
    go_wp2_with fail
    refine (rshl_zero ha (by omega) (by omega)).mono ?_
    rintro r w1 ⟨rfl, b1⟩
    go_wp2
    go_ret
    refine ⟨_, rfl, ?_, b1⟩
    rw [Int.zero_mul]
    exact ⟨[], ⟨none, rfl, by unfold maxLen; simp, fun h => absurd h (by simp)⟩, Nt.canon_nil, rfl, Nat.zero_le _⟩
  · obtain ⟨k, hk, hk2⟩ := some_len (32 * ka) A a0 (arg_top ha)
    obtain ⟨W, hW⟩ : ∃ W, W = N / 8 := ⟨_, rfl⟩
    obtain ⟨s, hs⟩ : ∃ s, s = N % 8 := ⟨_, rfl⟩
    have Hk := hide hk
    have HW := hide (show N = 8 * W + s ∧ s < 8 ∧ W ≤ 750 by omega)
    clear hk hW hs
    go_enter Tryz.func51, Tryz.ntmps51
    go_wp2_with fail
    refine (rshl_ok (W := W) (s := s) ha (by omega) (by omega) Hk.out hk2 (by omega) HW.out.1 HW.out.2.1).mono ?_
    rintro r w1 ⟨v, rfl, hv, b1⟩
    have HV := hide (hv.mono (k' := ka + 760) (by have := HW.out.2.2; omega))
    clear hv
    go_wp2
    go_ret
    exact ⟨_, rfl, HV.out, b1⟩

set_option maxHeartbeats 1000000 in
theorem ten6 {w : World} {va : Value} {A : Int} {ka N : Nat} (ha : Arg w va A ka) (hka : ka ≤ 3000) (hN : N ≤ 2000) :
    Calls Tryz.prog 50 #[va, .int .i64 N] w fun e w' => ∃ v, e = .returned v ∧ Num w.heap.size w' v (A * 10 ^ N) (ka + 2049) ∧ Below w.heap.size w w' := by
  go_enter Tryz.func50, Tryz.ntmps50
  go_wp2_with fail
  refine (rpow_ten N hN).mono ?_
  rintro r w1 ⟨v, rfl, hv, b1⟩
  go_wp2_with fail
  refine (rmul_any (ha.below b1) hv.arg (by omega) (by omega)).mono ?_
  rintro r w2 ⟨v2, rfl, hv2, b2⟩
  have HV := hide (hv2.low b1.size)
  have K := below_trans b1 b2
  clear hv hv2
  go_wp2
  go_ret
  exact ⟨_, rfl, HV.out.mono (by omega), K⟩

end Go.Proofs.YtioganiefgmifaaGreatDoor

namespace Go.Proofs.YtioganiefgmifaaGreatDoor
open Go.RowKit
set_option linter.unusedVariables false

set_option maxHeartbeats 1000000 in
theorem shl6' {w : World} {va : Value} {A : Int} {ka N : Nat} (ha : Arg w va A ka) (hka : ka ≤ 3000) (hN : N ≤ 6000) :
    Calls Tryz.prog 51 #[va, .int .i64 N] w fun e w' => ∃ v, e = .returned v ∧ Num w.heap.size w' v (A * p2 N) (ka + 760) ∧ Below w.heap.size w w' := by
  have a0 := ha.nonneg
  by_cases z : A = 0
  · subst z
    go_enter Tryz.func51, Tryz.ntmps51
    go_wp2_with fail
    refine (rshl_zero ha (by omega) (by omega)).mono ?_
    rintro r w1 ⟨rfl, b1⟩
    go_wp2
    go_ret
    refine ⟨_, rfl, ?_, b1⟩
    rw [Int.zero_mul]
    exact ⟨[], ⟨none, rfl, by unfold maxLen; simp, fun h => absurd h (by simp)⟩, Nt.canon_nil, rfl, Nat.zero_le _⟩
  · obtain ⟨k, hk, hk2⟩ := some_len (32 * ka) A a0 (arg_top ha)
    obtain ⟨W, hW⟩ : ∃ W, W = N / 8 := ⟨_, rfl⟩
    obtain ⟨s, hs⟩ : ∃ s, s = N % 8 := ⟨_, rfl⟩
    have Hk := hide hk
    have HW := hide (show N = 8 * W + s ∧ s < 8 ∧ W ≤ 750 by omega)
    clear hk hW hs
    go_enter Tryz.func51, Tryz.ntmps51
    go_wp2_with fail
    refine (rshl_ok (W := W) (s := s) ha (by omega) (by omega) Hk.out hk2 (by omega) HW.out.1 HW.out.2.1).mono ?_
    rintro r w1 ⟨v, rfl, hv, b1⟩
    have HV := hide (hv.mono (k' := ka + 760) (by have := HW.out.2.2; omega))
    clear hv
    go_wp2
    go_ret
    exact ⟨_, rfl, HV.out, b1⟩

set_option maxRecDepth 100000 in
set_option maxHeartbeats 8000000 in
theorem against6 {w : World} {va vb : Value} {n m q e : Int} {ka kb q1 q2 e1 e2 : Nat} (ha : Arg w va n ka) (hb : Arg w vb m kb) (hka : ka ≤ 10) (hkb : kb ≤ 10) (hq1 : max q 0 = q1) (hq2 : max (-q) 0 = q2) (he1 : max e 0 = e1) (he2 : max (-e) 0 = e2) (b1 : q1 ≤ 600) (b2 : q2 ≤ 600) (b3 : e1 ≤ 1200) (b4 : e2 ≤ 1200) :
    Calls Tryz.prog 82 #[va, .int .i64 q, vb, .int .i64 e] w fun r w' => r = .returned (.int .i64 (sgn (n * 10 ^ q1 * p2 e2) (m * p2 e1 * 10 ^ q2))) ∧ Below w.heap.size w w' := by
  have w1 : IntKind.i64.wrap (-q) = -q := by rw [IntKind.wrap_i64]; omega
  have w2 : IntKind.i64.wrap (-e) = -e := by rw [IntKind.wrap_i64]; omega
  have h1 := hide ha
  have h2 := hide hb
  clear ha hb
  rcases Int.lt_trichotomy q 0 with cq | cq | cq
  · rcases Int.lt_trichotomy e 0 with ce | ce | ce
    · obtain ⟨j, hj⟩ : ∃ j : Nat, -q = j := ⟨(-q).toNat, by omega⟩
      rw [hj] at w1
      have f1 : (0 : Int) < (j : Int) := by omega
      have f2 : ¬ (j : Int) < 0 := by omega
      have f3 : ¬ (0 : Int) < q := by omega
      have f5 : ¬ (j : Int) ≤ 0 := by omega
      obtain rfl : q2 = j := by omega
      obtain rfl : q1 = 0 := by omega
      obtain ⟨i, hi⟩ : ∃ i : Nat, -e = i := ⟨(-e).toNat, by omega⟩
      rw [hi] at w2
      have g1 : (0 : Int) < (i : Int) := by omega
      have g2 : ¬ (i : Int) < 0 := by omega
      have g3 : ¬ (0 : Int) < e := by omega
      have g5 : ¬ (i : Int) ≤ 0 := by omega
      obtain rfl : e2 = i := by omega
      obtain rfl : e1 = 0 := by omega
      go_enter Tryz.func82, Tryz.ntmps82
      go_wp2_with fail
      refine (ten6 (N := 0) h1.out (by omega) (by omega)).mono ?_
      rintro r w3 ⟨x1, rfl, hx1, c1⟩
      go_wp2_with fail
      refine (shl6' (N := e2) hx1.arg (by omega) (by omega)).mono ?_
      rintro r w4 ⟨x2, rfl, hx2, c2⟩
      go_wp2_with fail
      refine (shl6' (N := 0) ((h2.out.below c1).below c2) (by omega) (by omega)).mono ?_
      rintro r w5 ⟨y1, rfl, hy1, c3⟩
      go_wp2_with fail
      refine (ten6 (N := q2) hy1.arg (by omega) (by omega)).mono ?_
      rintro r w6 ⟨y2, rfl, hy2, c4⟩
      have K := below_trans (below_trans (below_trans c1 c2) c3) c4
      go_wp2_with fail
      refine (rcmp_any ((hx2.arg.below c3).below c4) hy2.arg (by omega) (by omega)).mono ?_
      rintro r w7 ⟨rfl, c5⟩
      have F := hide (below_trans K c5)
      generalize hz : sgn _ _ = z
      have Hz := hide hz
      clear hz
      clear hx1 hx2 hy1 hy2 c1 c2 c3 c4 c5 K
      go_wp2
      go_ret
      exact ⟨by rw [Hz.out]; rfl, F.out⟩
    · obtain ⟨j, hj⟩ : ∃ j : Nat, -q = j := ⟨(-q).toNat, by omega⟩
      rw [hj] at w1
      have f1 : (0 : Int) < (j : Int) := by omega
      have f2 : ¬ (j : Int) < 0 := by omega
      have f3 : ¬ (0 : Int) < q := by omega
      have f5 : ¬ (j : Int) ≤ 0 := by omega
      obtain rfl : q2 = j := by omega
      obtain rfl : q1 = 0 := by omega
      subst ce
      obtain rfl : e2 = 0 := by omega
      obtain rfl : e1 = 0 := by omega
      go_enter Tryz.func82, Tryz.ntmps82
      go_wp2_with fail
      refine (ten6 (N := 0) h1.out (by omega) (by omega)).mono ?_
      rintro r w3 ⟨x1, rfl, hx1, c1⟩
      go_wp2_with fail
      refine (shl6' (N := 0) hx1.arg (by omega) (by omega)).mono ?_
      rintro r w4 ⟨x2, rfl, hx2, c2⟩
      go_wp2_with fail
      refine (shl6' (N := 0) ((h2.out.below c1).below c2) (by omega) (by omega)).mono ?_
      rintro r w5 ⟨y1, rfl, hy1, c3⟩
      go_wp2_with fail
      refine (ten6 (N := q2) hy1.arg (by omega) (by omega)).mono ?_
      rintro r w6 ⟨y2, rfl, hy2, c4⟩
      have K := below_trans (below_trans (below_trans c1 c2) c3) c4
      go_wp2_with fail
      refine (rcmp_any ((hx2.arg.below c3).below c4) hy2.arg (by omega) (by omega)).mono ?_
      rintro r w7 ⟨rfl, c5⟩
      have F := hide (below_trans K c5)
      generalize hz : sgn _ _ = z
      have Hz := hide hz
      clear hz
      clear hx1 hx2 hy1 hy2 c1 c2 c3 c4 c5 K
      go_wp2
      go_ret
      exact ⟨by rw [Hz.out]; rfl, F.out⟩
    · obtain ⟨j, hj⟩ : ∃ j : Nat, -q = j := ⟨(-q).toNat, by omega⟩
      rw [hj] at w1
      have f1 : (0 : Int) < (j : Int) := by omega
      have f2 : ¬ (j : Int) < 0 := by omega
      have f3 : ¬ (0 : Int) < q := by omega
      have f5 : ¬ (j : Int) ≤ 0 := by omega
      obtain rfl : q2 = j := by omega
      obtain rfl : q1 = 0 := by omega
      obtain ⟨i, rfl⟩ : ∃ i : Nat, e = i := ⟨e.toNat, by omega⟩
      have g1 : (0 : Int) < (i : Int) := ce
      have g2 : ¬ (i : Int) < 0 := by omega
      have g3 : -(i : Int) < 0 := by omega
      have g4 : ¬ (0 : Int) < -(i : Int) := by omega
      have g5 : ¬ (i : Int) ≤ 0 := by omega
      obtain rfl : e1 = i := by omega
      obtain rfl : e2 = 0 := by omega
      go_enter Tryz.func82, Tryz.ntmps82
      go_wp2_with fail
      refine (ten6 (N := 0) h1.out (by omega) (by omega)).mono ?_
      rintro r w3 ⟨x1, rfl, hx1, c1⟩
      go_wp2_with fail
      refine (shl6' (N := 0) hx1.arg (by omega) (by omega)).mono ?_
      rintro r w4 ⟨x2, rfl, hx2, c2⟩
      go_wp2_with fail
      refine (shl6' (N := e1) ((h2.out.below c1).below c2) (by omega) (by omega)).mono ?_
      rintro r w5 ⟨y1, rfl, hy1, c3⟩
      go_wp2_with fail
      refine (ten6 (N := q2) hy1.arg (by omega) (by omega)).mono ?_
      rintro r w6 ⟨y2, rfl, hy2, c4⟩
      have K := below_trans (below_trans (below_trans c1 c2) c3) c4
      go_wp2_with fail
      refine (rcmp_any ((hx2.arg.below c3).below c4) hy2.arg (by omega) (by omega)).mono ?_
      rintro r w7 ⟨rfl, c5⟩
      have F := hide (below_trans K c5)
      generalize hz : sgn _ _ = z
      have Hz := hide hz
      clear hz
      clear hx1 hx2 hy1 hy2 c1 c2 c3 c4 c5 K
      go_wp2
      go_ret
      exact ⟨by rw [Hz.out]; rfl, F.out⟩
  · rcases Int.lt_trichotomy e 0 with ce | ce | ce
    · subst cq
      obtain rfl : q2 = 0 := by omega
      obtain rfl : q1 = 0 := by omega
      obtain ⟨i, hi⟩ : ∃ i : Nat, -e = i := ⟨(-e).toNat, by omega⟩
      rw [hi] at w2
      have g1 : (0 : Int) < (i : Int) := by omega
      have g2 : ¬ (i : Int) < 0 := by omega
      have g3 : ¬ (0 : Int) < e := by omega
      have g5 : ¬ (i : Int) ≤ 0 := by omega
      obtain rfl : e2 = i := by omega
      obtain rfl : e1 = 0 := by omega
      go_enter Tryz.func82, Tryz.ntmps82
      go_wp2_with fail
      refine (ten6 (N := 0) h1.out (by omega) (by omega)).mono ?_
      rintro r w3 ⟨x1, rfl, hx1, c1⟩
      go_wp2_with fail
      refine (shl6' (N := e2) hx1.arg (by omega) (by omega)).mono ?_
      rintro r w4 ⟨x2, rfl, hx2, c2⟩
      go_wp2_with fail
      refine (shl6' (N := 0) ((h2.out.below c1).below c2) (by omega) (by omega)).mono ?_
      rintro r w5 ⟨y1, rfl, hy1, c3⟩
      go_wp2_with fail
      refine (ten6 (N := 0) hy1.arg (by omega) (by omega)).mono ?_
      rintro r w6 ⟨y2, rfl, hy2, c4⟩
      have K := below_trans (below_trans (below_trans c1 c2) c3) c4
      go_wp2_with fail
      refine (rcmp_any ((hx2.arg.below c3).below c4) hy2.arg (by omega) (by omega)).mono ?_
      rintro r w7 ⟨rfl, c5⟩
      have F := hide (below_trans K c5)
      generalize hz : sgn _ _ = z
      have Hz := hide hz
      clear hz
      clear hx1 hx2 hy1 hy2 c1 c2 c3 c4 c5 K
      go_wp2
      go_ret
      exact ⟨by rw [Hz.out]; rfl, F.out⟩
    · subst cq
      obtain rfl : q2 = 0 := by omega
      obtain rfl : q1 = 0 := by omega
      subst ce
      obtain rfl : e2 = 0 := by omega
      obtain rfl : e1 = 0 := by omega
      go_enter Tryz.func82, Tryz.ntmps82
      go_wp2_with fail
      refine (ten6 (N := 0) h1.out (by omega) (by omega)).mono ?_
      rintro r w3 ⟨x1, rfl, hx1, c1⟩
      go_wp2_with fail
      refine (shl6' (N := 0) hx1.arg (by omega) (by omega)).mono ?_
      rintro r w4 ⟨x2, rfl, hx2, c2⟩
      go_wp2_with fail
      refine (shl6' (N := 0) ((h2.out.below c1).below c2) (by omega) (by omega)).mono ?_
      rintro r w5 ⟨y1, rfl, hy1, c3⟩
      go_wp2_with fail
      refine (ten6 (N := 0) hy1.arg (by omega) (by omega)).mono ?_
      rintro r w6 ⟨y2, rfl, hy2, c4⟩
      have K := below_trans (below_trans (below_trans c1 c2) c3) c4
      go_wp2_with fail
      refine (rcmp_any ((hx2.arg.below c3).below c4) hy2.arg (by omega) (by omega)).mono ?_
      rintro r w7 ⟨rfl, c5⟩
      have F := hide (below_trans K c5)
      generalize hz : sgn _ _ = z
      have Hz := hide hz
      clear hz
      clear hx1 hx2 hy1 hy2 c1 c2 c3 c4 c5 K
      go_wp2
      go_ret
      exact ⟨by rw [Hz.out]; rfl, F.out⟩
    · subst cq
      obtain rfl : q2 = 0 := by omega
      obtain rfl : q1 = 0 := by omega
      obtain ⟨i, rfl⟩ : ∃ i : Nat, e = i := ⟨e.toNat, by omega⟩
      have g1 : (0 : Int) < (i : Int) := ce
      have g2 : ¬ (i : Int) < 0 := by omega
      have g3 : -(i : Int) < 0 := by omega
      have g4 : ¬ (0 : Int) < -(i : Int) := by omega
      have g5 : ¬ (i : Int) ≤ 0 := by omega
      obtain rfl : e1 = i := by omega
      obtain rfl : e2 = 0 := by omega
      go_enter Tryz.func82, Tryz.ntmps82
      go_wp2_with fail
      refine (ten6 (N := 0) h1.out (by omega) (by omega)).mono ?_
      rintro r w3 ⟨x1, rfl, hx1, c1⟩
      go_wp2_with fail
      refine (shl6' (N := 0) hx1.arg (by omega) (by omega)).mono ?_
      rintro r w4 ⟨x2, rfl, hx2, c2⟩
      go_wp2_with fail
      refine (shl6' (N := e1) ((h2.out.below c1).below c2) (by omega) (by omega)).mono ?_
      rintro r w5 ⟨y1, rfl, hy1, c3⟩
      go_wp2_with fail
      refine (ten6 (N := 0) hy1.arg (by omega) (by omega)).mono ?_
      rintro r w6 ⟨y2, rfl, hy2, c4⟩
      have K := below_trans (below_trans (below_trans c1 c2) c3) c4
      go_wp2_with fail
      refine (rcmp_any ((hx2.arg.below c3).below c4) hy2.arg (by omega) (by omega)).mono ?_
      rintro r w7 ⟨rfl, c5⟩
      have F := hide (below_trans K c5)
      generalize hz : sgn _ _ = z
      have Hz := hide hz
      clear hz
      clear hx1 hx2 hy1 hy2 c1 c2 c3 c4 c5 K
      go_wp2
      go_ret
      exact ⟨by rw [Hz.out]; rfl, F.out⟩
  · rcases Int.lt_trichotomy e 0 with ce | ce | ce
    · obtain ⟨j, rfl⟩ : ∃ j : Nat, q = j := ⟨q.toNat, by omega⟩
      have f1 : (0 : Int) < (j : Int) := cq
      have f2 : ¬ (j : Int) < 0 := by omega
      have f3 : -(j : Int) < 0 := by omega
      have f4 : ¬ (0 : Int) < -(j : Int) := by omega
      have f5 : ¬ (j : Int) ≤ 0 := by omega
      obtain rfl : q1 = j := by omega
      obtain rfl : q2 = 0 := by omega
      obtain ⟨i, hi⟩ : ∃ i : Nat, -e = i := ⟨(-e).toNat, by omega⟩
      rw [hi] at w2
      have g1 : (0 : Int) < (i : Int) := by omega
      have g2 : ¬ (i : Int) < 0 := by omega
      have g3 : ¬ (0 : Int) < e := by omega
      have g5 : ¬ (i : Int) ≤ 0 := by omega
      obtain rfl : e2 = i := by omega
      obtain rfl : e1 = 0 := by omega
      go_enter Tryz.func82, Tryz.ntmps82
      go_wp2_with fail
      refine (ten6 (N := q1) h1.out (by omega) (by omega)).mono ?_
      rintro r w3 ⟨x1, rfl, hx1, c1⟩
      go_wp2_with fail
      refine (shl6' (N := e2) hx1.arg (by omega) (by omega)).mono ?_
      rintro r w4 ⟨x2, rfl, hx2, c2⟩
      go_wp2_with fail
      refine (shl6' (N := 0) ((h2.out.below c1).below c2) (by omega) (by omega)).mono ?_
      rintro r w5 ⟨y1, rfl, hy1, c3⟩
      go_wp2_with fail
      refine (ten6 (N := 0) hy1.arg (by omega) (by omega)).mono ?_
      rintro r w6 ⟨y2, rfl, hy2, c4⟩
      have K := below_trans (below_trans (below_trans c1 c2) c3) c4
      go_wp2_with fail
      refine (rcmp_any ((hx2.arg.below c3).below c4) hy2.arg (by omega) (by omega)).mono ?_
      rintro r w7 ⟨rfl, c5⟩
      have F := hide (below_trans K c5)
      generalize hz : sgn _ _ = z
      have Hz := hide hz
      clear hz
      clear hx1 hx2 hy1 hy2 c1 c2 c3 c4 c5 K
      go_wp2
      go_ret
      exact ⟨by rw [Hz.out]; rfl, F.out⟩
    · obtain ⟨j, rfl⟩ : ∃ j : Nat, q = j := ⟨q.toNat, by omega⟩
      have f1 : (0 : Int) < (j : Int) := cq
      have f2 : ¬ (j : Int) < 0 := by omega
      have f3 : -(j : Int) < 0 := by omega
      have f4 : ¬ (0 : Int) < -(j : Int) := by omega
      have f5 : ¬ (j : Int) ≤ 0 := by omega
      obtain rfl : q1 = j := by omega
      obtain rfl : q2 = 0 := by omega
      subst ce
      obtain rfl : e2 = 0 := by omega
      obtain rfl : e1 = 0 := by omega
      go_enter Tryz.func82, Tryz.ntmps82
      go_wp2_with fail
      refine (ten6 (N := q1) h1.out (by omega) (by omega)).mono ?_
      rintro r w3 ⟨x1, rfl, hx1, c1⟩
      go_wp2_with fail
      refine (shl6' (N := 0) hx1.arg (by omega) (by omega)).mono ?_
      rintro r w4 ⟨x2, rfl, hx2, c2⟩
      go_wp2_with fail
      refine (shl6' (N := 0) ((h2.out.below c1).below c2) (by omega) (by omega)).mono ?_
      rintro r w5 ⟨y1, rfl, hy1, c3⟩
      go_wp2_with fail
      refine (ten6 (N := 0) hy1.arg (by omega) (by omega)).mono ?_
      rintro r w6 ⟨y2, rfl, hy2, c4⟩
      have K := below_trans (below_trans (below_trans c1 c2) c3) c4
      go_wp2_with fail
      refine (rcmp_any ((hx2.arg.below c3).below c4) hy2.arg (by omega) (by omega)).mono ?_
      rintro r w7 ⟨rfl, c5⟩
      have F := hide (below_trans K c5)
      generalize hz : sgn _ _ = z
      have Hz := hide hz
      clear hz
      clear hx1 hx2 hy1 hy2 c1 c2 c3 c4 c5 K
      go_wp2
      go_ret
      exact ⟨by rw [Hz.out]; rfl, F.out⟩
    · obtain ⟨j, rfl⟩ : ∃ j : Nat, q = j := ⟨q.toNat, by omega⟩
      have f1 : (0 : Int) < (j : Int) := cq
      have f2 : ¬ (j : Int) < 0 := by omega
      have f3 : -(j : Int) < 0 := by omega
      have f4 : ¬ (0 : Int) < -(j : Int) := by omega
      have f5 : ¬ (j : Int) ≤ 0 := by omega
      obtain rfl : q1 = j := by omega
      obtain rfl : q2 = 0 := by omega
      obtain ⟨i, rfl⟩ : ∃ i : Nat, e = i := ⟨e.toNat, by omega⟩
      have g1 : (0 : Int) < (i : Int) := ce
      have g2 : ¬ (i : Int) < 0 := by omega
      have g3 : -(i : Int) < 0 := by omega
      have g4 : ¬ (0 : Int) < -(i : Int) := by omega
      have g5 : ¬ (i : Int) ≤ 0 := by omega
      obtain rfl : e1 = i := by omega
      obtain rfl : e2 = 0 := by omega
      go_enter Tryz.func82, Tryz.ntmps82
      go_wp2_with fail
      refine (ten6 (N := q1) h1.out (by omega) (by omega)).mono ?_
      rintro r w3 ⟨x1, rfl, hx1, c1⟩
      go_wp2_with fail
      refine (shl6' (N := 0) hx1.arg (by omega) (by omega)).mono ?_
      rintro r w4 ⟨x2, rfl, hx2, c2⟩
      go_wp2_with fail
      refine (shl6' (N := e1) ((h2.out.below c1).below c2) (by omega) (by omega)).mono ?_
      rintro r w5 ⟨y1, rfl, hy1, c3⟩
      go_wp2_with fail
      refine (ten6 (N := 0) hy1.arg (by omega) (by omega)).mono ?_
      rintro r w6 ⟨y2, rfl, hy2, c4⟩
      have K := below_trans (below_trans (below_trans c1 c2) c3) c4
      go_wp2_with fail
      refine (rcmp_any ((hx2.arg.below c3).below c4) hy2.arg (by omega) (by omega)).mono ?_
      rintro r w7 ⟨rfl, c5⟩
      have F := hide (below_trans K c5)
      generalize hz : sgn _ _ = z
      have Hz := hide hz
      clear hz
      clear hx1 hx2 hy1 hy2 c1 c2 c3 c4 c5 K
      go_wp2
      go_ret
      exact ⟨by rw [Hz.out]; rfl, F.out⟩

end Go.Proofs.YtioganiefgmifaaGreatDoor

namespace Go.Proofs.YtioganiefgmifaaGreatDoor
open Go.RowKit
set_option linter.unusedVariables false
set_option linter.unusedSimpArgs false

/-- the six cells of a scale -/
structure Cell6 (w : World) (b : Nat) (v0 v1 v2 v3 v4 v5 : Value) : Prop where
  c0 : w.cell? ⟨b, 0, none⟩ = some v0
  c1 : w.cell? ⟨b, 1, none⟩ = some v1
  c2 : w.cell? ⟨b, 2, none⟩ = some v2
  c3 : w.cell? ⟨b, 3, none⟩ = some v3
  c4 : w.cell? ⟨b, 4, none⟩ = some v4
  c5 : w.cell? ⟨b, 5, none⟩ = some v5
  lt : b < w.heap.size
theorem Cell6.below {w w' : World} {b : Nat} {v0 v1 v2 v3 v4 v5 : Value} (h : Cell6 w b v0 v1 v2 v3 v4 v5) (hb : Below w.heap.size w w') : Cell6 w' b v0 v1 v2 v3 v4 v5 :=
  ⟨(hb.cell (p := ⟨b, 0, none⟩) h.lt).trans h.c0, (hb.cell (p := ⟨b, 1, none⟩) h.lt).trans h.c1, (hb.cell (p := ⟨b, 2, none⟩) h.lt).trans h.c2, (hb.cell (p := ⟨b, 3, none⟩) h.lt).trans h.c3, (hb.cell (p := ⟨b, 4, none⟩) h.lt).trans h.c4, (hb.cell (p := ⟨b, 5, none⟩) h.lt).trans h.c5, Nat.lt_of_lt_of_le h.lt hb.size⟩
theorem cell6_new (w : World) (v0 v1 v2 v3 v4 v5 : Value) (t : TypeId) : Cell6 (w.alloc (.cells #[v0, v1, v2, v3, v4, v5] t)) w.heap.size v0 v1 v2 v3 v4 v5 := by
  refine ⟨?_, ?_, ?_, ?_, ?_, ?_, by simp⟩ <;> (rw [World.cell?_alloc_at _ _ _ _ rfl]; rfl)

/-- what (scale).reads tells -/
def rdB (a b : Int) (even : Bool) : Bool := (decide (a < 0) && decide (b < 0)) || (even && (decide (a = 0) || decide (b = 0)))

/-- a scale as a value -/
def SlV (w : World) (v : Value) (X Lo Hi U : Int) (even : Bool) (p : Int) : Prop :=
  ∃ ox lx cx ol ll cl oh lh ch ou lu cu, v = .agg #[.slice ox lx cx, .slice ol ll cl, .slice oh lh ch, .slice ou lu cu, .bool even, .int .i64 p] ∧ Arg w (.slice ox lx cx) X 20000 ∧ Arg w (.slice ol ll cl) Lo 20000 ∧ Arg w (.slice oh lh ch) Hi 20000 ∧ Arg w (.slice ou lu cu) U 20000
theorem SlV.below {w w' : World} {v : Value} {X Lo Hi U p : Int} {even : Bool} (h : SlV w v X Lo Hi U even p) (hb : Below w.heap.size w w') : SlV w' v X Lo Hi U even p := by
  obtain ⟨ox, lx, cx, ol, ll, cl, oh, lh, ch, ou, lu, cu, rfl, a, b, c, d⟩ := h
  exact ⟨ox, lx, cx, ol, ll, cl, oh, lh, ch, ou, lu, cu, rfl, a.below hb, b.below hb, c.below hb, d.below hb⟩
theorem Arg.wide {w : World} {v : Value} {n : Int} {k k' : Nat} (h : Arg w v n k) (hk : k ≤ k') : Arg w v n k' := by
  obtain ⟨zs, h1, h2, h3, h4⟩ := h
  exact ⟨zs, h1, h2, h3, by omega⟩


set_option maxRecDepth 100000 in
set_option maxHeartbeats 4000000 in
theorem reads6 {w : World} {v : Value} {X Lo Hi U p c pw r s : Int} {even : Bool} (hv : SlV w v X Lo Hi U even p) (c0 : 0 ≤ c) (c1 : c < 18446744073709551616) (p0 : 0 ≤ pw) (p1 : pw < 18446744073709551616) (hr : sgn Lo (c * pw * U) = r) (hs : sgn (c * pw * U) Hi = s) :
    Calls Tryz.prog 20 #[v, .int .u64 c, .int .u64 pw] w fun e w' => e = .returned (.bool (rdB r s even)) ∧ Below w.heap.size w w' := by
  have HR := hide hr
  have HS' := hide hs
  clear hr hs
  obtain ⟨ox, lx, cx, ol, ll, cl, oh, lh, ch, ou, lu, cu, rfl, hX, hL, hH, hU⟩ := hv
  go_enter Tryz.func20, Tryz.ntmps20
  go_upto_region 1 with fail
  have KA := bel_new w (.cells #[.slice ox lx cx, .slice ol ll cl, .slice oh lh ch, .slice ou lu cu, .bool even, .int .i64 p] 52)
  have C6 := hide (cell6_new w (.slice ox lx cx) (.slice ol ll cl) (.slice oh lh ch) (.slice ou lu cu) (.bool even) (.int .i64 p) 52)
  have HX := hide (hX.below KA)
  have HL := hide (hL.below KA)
  have HH := hide (hH.below KA)
  have HU := hide (hU.below KA)
  have HKA := hide KA
  clear hX hL hH hU KA
  obtain ⟨b, hb0⟩ : ∃ b, w.heap.size = b := ⟨_, rfl⟩
  obtain ⟨w1, hw1⟩ : ∃ w1, w.alloc (.cells #[.slice ox lx cx, .slice ol ll cl, .slice oh lh ch, .slice ou lu cu, .bool even, .int .i64 p] 52) = w1 := ⟨_, rfl⟩
  simp only [hw1] at C6 HX HL HH HU HKA ⊢
  have HB0 := hide hb0
  rw [hb0] at C6 ⊢
  clear hw1 hb0
  have CC : ∀ u : World, Below w1.heap.size w1 u → u.cell? ⟨b, 3, none⟩ = some (.slice ou lu cu) ∧ True := fun u hu => ⟨(C6.out.below hu).c3, trivial⟩
  have K : Below w1.heap.size w1 w1.drew := (Below.refl _ _).drew
  have HC0 := CC _ K
  refine wpHl.region0 (C := fun u => u.cell? ⟨b, 3, none⟩ = some (.slice ou lu cu) ∧ True) (by kernel_rfl) (by kernel_rfl) (fun HS => ?_)
  refine wpHl.tk0 (i := 0) (d := some 10) (v := .int .u64 c) rfl HS (by as_aux_lemma => kernel_rfl) rfl (fun _ _ _ h => h) (Or.inl ⟨by rfl, ?_⟩) HC0 ?_
  · intro u hC
    go_simp
  simp only [Act.put, List.setIfInBounds_toArray, List.set_cons_zero, List.set_cons_succ]
  refine wpHl.tk0 (i := 2) (d := some 12) (v := .int .u64 pw) rfl HS (by as_aux_lemma => kernel_rfl) rfl (fun _ _ _ h => h) (Or.inl ⟨by rfl, ?_⟩) HC0 ?_
  · intro u hC
    go_simp
  simp only [Act.put, List.setIfInBounds_toArray, List.set_cons_zero, List.set_cons_succ]
  refine wpHl.tk0 (i := 5) (d := some 15) (v := .pointer (some ⟨b, 3, none⟩)) rfl HS (by as_aux_lemma => kernel_rfl) rfl (fun _ _ _ h => h) (Or.inl ⟨by rfl, ?_⟩) HC0 ?_
  · intro u hC
    go_simp
  simp only [Act.put, List.setIfInBounds_toArray, List.set_cons_zero, List.set_cons_succ]
  refine wpHl.tk0 (i := 6) (d := some 16) (v := .slice ou lu cu) rfl HS (by as_aux_lemma => kernel_rfl) rfl (fun _ _ _ h => h) (Or.inl ⟨by rfl, ?_⟩) HC0 ?_
  · intro u hC
    obtain ⟨z0, z1⟩ := hC
    go_simp
  simp only [Act.put, List.setIfInBounds_toArray, List.set_cons_zero, List.set_cons_succ]
  refine wpHl.one (i := 1) (by as_aux_lemma => kernel_rfl) rfl (fun K1 hK1 => ?_)
  rw [if_pos (by rfl)]
  refine wp_call_of (f := 48) (args := #[.int .u64 c]) (by kernel_rfl) ?_
  with_reducible refine (rfrom_any c c0 c1).mono ?_
  rintro e w2 ⟨v1, rfl, h1, hb⟩
  replace K := below_trans K hb
  have H1 := hide h1.arg
  clear h1
  clear HC0
  have HC0 := CC _ K
  refine hK1 (Act.put _ (some 11) _) _ ⟨fun _ => HC0, ?_⟩
  clear hK1 K1 hb
  try simp only [Act.put, List.setIfInBounds_toArray, List.set_cons_zero, List.set_cons_succ]
  refine wpHl.one (i := 3) (by as_aux_lemma => kernel_rfl) rfl (fun K1 hK1 => ?_)
  rw [if_pos (by rfl)]
  refine wp_call_of (f := 48) (args := #[.int .u64 pw]) (by kernel_rfl) ?_
  with_reducible refine (rfrom_any pw p0 p1).mono ?_
  rintro e w2 ⟨v2, rfl, h2, hb⟩
  replace K := below_trans K hb
  have H2 := hide h2.arg
  clear h2
  replace H1 := hide (H1.out.below hb)
  clear HC0
  have HC0 := CC _ K
  refine hK1 (Act.put _ (some 13) _) _ ⟨fun _ => HC0, ?_⟩
  clear hK1 K1 hb
  try simp only [Act.put, List.setIfInBounds_toArray, List.set_cons_zero, List.set_cons_succ]
  refine wpHl.one (i := 4) (by as_aux_lemma => kernel_rfl) rfl (fun K1 hK1 => ?_)
  rw [if_pos (by rfl)]
  refine wp_call_of (f := 57) (args := #[v1, v2]) (by kernel_rfl) ?_
  with_reducible refine (rmul_any H1.out H2.out (by omega) (by omega)).mono ?_
  rintro e w2 ⟨v3, rfl, h3, hb⟩
  replace K := below_trans K hb
  have H3 := hide h3.arg
  clear h3 H1 H2
  clear HC0
  have HC0 := CC _ K
  refine hK1 (Act.put _ (some 14) _) _ ⟨fun _ => HC0, ?_⟩
  clear hK1 K1 hb
  try simp only [Act.put, List.setIfInBounds_toArray, List.set_cons_zero, List.set_cons_succ]
  refine wpHl.one (i := 7) (by as_aux_lemma => kernel_rfl) rfl (fun K1 hK1 => ?_)
  rw [if_pos (by rfl)]
  refine wp_call_of (f := 57) (args := #[v3, .slice ou lu cu]) (by kernel_rfl) ?_
  with_reducible refine (rmul_any H3.out (HU.out.below K) (by omega) (by omega)).mono ?_
  rintro e w2 ⟨v4, rfl, h4, hb⟩
  replace K := below_trans K hb
  have H4 := hide h4.arg
  clear h4 H3
  clear HC0
  have HC0 := CC _ K
  refine hK1 (Act.put _ (some 17) _) _ ⟨fun _ => HC0, ?_⟩
  clear hK1 K1 hb
  try simp only [Act.put, List.setIfInBounds_toArray, List.set_cons_zero, List.set_cons_succ]
  refine wpHl.tk0 (i := 8) (d := some 7) (v := v4) rfl HS (by as_aux_lemma => kernel_rfl) rfl (fun _ _ _ h => h) (Or.inl ⟨by rfl, ?_⟩) HC0 ?_
  · intro u hC
    go_simp
  simp only [Act.put, List.setIfInBounds_toArray, List.set_cons_zero, List.set_cons_succ]
  refine wpHl.done (by as_aux_lemma => kernel_rfl) ?_ _
  clear CC HC0 HS
  replace C6 := hide (C6.out.below K)
  replace HL := hide (HL.out.below K)
  replace HH := hide (HH.out.below K)
  have HK := hide (below_trans HKA.out K)
  clear HX HU HKA K
  go_upto_region 2 with fail
  have CC : ∀ u : World, Below w2.heap.size w2 u → u.cell? ⟨b, 1, none⟩ = some (.slice ol ll cl) ∧ u.cell? ⟨b, 2, none⟩ = some (.slice oh lh ch) := fun u hu => ⟨(C6.out.below hu).c1, (C6.out.below hu).c2⟩
  have K : Below w2.heap.size w2 w2.drew := (Below.refl _ _).drew
  have HC0 := CC _ K
  refine wpHl.region0 (C := fun u => u.cell? ⟨b, 1, none⟩ = some (.slice ol ll cl) ∧ u.cell? ⟨b, 2, none⟩ = some (.slice oh lh ch)) (by kernel_rfl) (by kernel_rfl) (fun HS => ?_)
  refine wpHl.tk0 (i := 0) (d := some 18) (v := .pointer (some ⟨b, 1, none⟩)) rfl HS (by as_aux_lemma => kernel_rfl) rfl (fun _ _ _ h => h) (Or.inl ⟨by rfl, ?_⟩) HC0 ?_
  · intro u hC
    go_simp
  simp only [Act.put, List.setIfInBounds_toArray, List.set_cons_zero, List.set_cons_succ]
  refine wpHl.tk0 (i := 1) (d := some 19) (v := .slice ol ll cl) rfl HS (by as_aux_lemma => kernel_rfl) rfl (fun _ _ _ h => h) (Or.inl ⟨by rfl, ?_⟩) HC0 ?_
  · intro u hC
    obtain ⟨z0, z1⟩ := hC
    go_simp
  simp only [Act.put, List.setIfInBounds_toArray, List.set_cons_zero, List.set_cons_succ]
  refine wpHl.tk0 (i := 2) (d := some 20) (v := v4) rfl HS (by as_aux_lemma => kernel_rfl) rfl (fun _ _ _ h => h) (Or.inl ⟨by rfl, ?_⟩) HC0 ?_
  · intro u hC
    go_simp
  simp only [Act.put, List.setIfInBounds_toArray, List.set_cons_zero, List.set_cons_succ]
  refine wpHl.tk0 (i := 4) (d := some 22) (v := v4) rfl HS (by as_aux_lemma => kernel_rfl) rfl (fun _ _ _ h => h) (Or.inl ⟨by rfl, ?_⟩) HC0 ?_
  · intro u hC
    go_simp
  simp only [Act.put, List.setIfInBounds_toArray, List.set_cons_zero, List.set_cons_succ]
  refine wpHl.tk0 (i := 5) (d := some 23) (v := .pointer (some ⟨b, 2, none⟩)) rfl HS (by as_aux_lemma => kernel_rfl) rfl (fun _ _ _ h => h) (Or.inl ⟨by rfl, ?_⟩) HC0 ?_
  · intro u hC
    go_simp
  simp only [Act.put, List.setIfInBounds_toArray, List.set_cons_zero, List.set_cons_succ]
  refine wpHl.tk0 (i := 6) (d := some 24) (v := .slice oh lh ch) rfl HS (by as_aux_lemma => kernel_rfl) rfl (fun _ _ _ h => h) (Or.inl ⟨by rfl, ?_⟩) HC0 ?_
  · intro u hC
    obtain ⟨z0, z1⟩ := hC
    go_simp
  simp only [Act.put, List.setIfInBounds_toArray, List.set_cons_zero, List.set_cons_succ]
  refine wpHl.one (i := 3) (by as_aux_lemma => kernel_rfl) rfl (fun K1 hK1 => ?_)
  rw [if_pos (by rfl)]
  refine wp_call_of (f := 58) (args := #[.slice ol ll cl, v4]) (by kernel_rfl) ?_
  with_reducible refine (rcmp_any (HL.out.below K) (H4.out.below K) (by omega) (by omega)).mono ?_
  rintro e w3 ⟨rfl, hb⟩
  replace K := below_trans K hb
  rw [HR.out]
  clear HC0
  have HC0 := CC _ K
  refine hK1 (Act.put _ (some 21) _) _ ⟨fun _ => HC0, ?_⟩
  clear hK1 K1 hb
  try simp only [Act.put, List.setIfInBounds_toArray, List.set_cons_zero, List.set_cons_succ]
  refine wpHl.one (i := 7) (by as_aux_lemma => kernel_rfl) rfl (fun K1 hK1 => ?_)
  rw [if_pos (by rfl)]
  refine wp_call_of (f := 58) (args := #[v4, .slice oh lh ch]) (by kernel_rfl) ?_
  with_reducible refine (rcmp_any (H4.out.below K) (HH.out.below K) (by omega) (by omega)).mono ?_
  rintro e w3 ⟨rfl, hb⟩
  replace K := below_trans K hb
  rw [HS'.out]
  clear HC0
  have HC0 := CC _ K
  refine hK1 (Act.put _ (some 25) _) _ ⟨fun _ => HC0, ?_⟩
  clear hK1 K1 hb
  try simp only [Act.put, List.setIfInBounds_toArray, List.set_cons_zero, List.set_cons_succ]
  refine wpHl.tk0 (i := 8) (d := some 8) (v := .int .i64 r) rfl HS (by as_aux_lemma => kernel_rfl) rfl (fun _ _ _ h => h) (Or.inl ⟨by rfl, ?_⟩) HC0 ?_
  · intro u hC
    go_simp
  simp only [Act.put, List.setIfInBounds_toArray, List.set_cons_zero, List.set_cons_succ]
  refine wpHl.tk0 (i := 9) (d := some 9) (v := .int .i64 s) rfl HS (by as_aux_lemma => kernel_rfl) rfl (fun _ _ _ h => h) (Or.inl ⟨by rfl, ?_⟩) HC0 ?_
  · intro u hC
    go_simp
  simp only [Act.put, List.setIfInBounds_toArray, List.set_cons_zero, List.set_cons_succ]
  refine wpHl.done (by as_aux_lemma => kernel_rfl) ?_ _
  clear CC HC0 HS
  have q4 := (C6.out.below K).c4
  replace HK := hide (below_trans HK.out K)
  clear HL HH H4 K C6
  clear HB0 HR HS'
  by_cases r0 : r < 0
  · by_cases s0 : s < 0
    · go_wp2
      go_ret
      exact ⟨by simp [rdB, r0, s0] <;> first | omega | (rw [decide_eq_false (by omega)]; simp [r0, s0]), HK.out⟩
    · cases even
      · go_wp2
        go_ret
        exact ⟨by simp [rdB, r0, s0] <;> first | omega | (rw [decide_eq_false (by omega)]; simp [r0, s0]), HK.out⟩
      · have r1 : ¬ r = 0 := by omega
        by_cases s1 : s = 0
        · go_wp2
          go_ret
          exact ⟨by simp [rdB, r0, s0, r1, s1] <;> first | omega | (rw [decide_eq_false (by omega)]; simp [r0, s0, r1, s1]), HK.out⟩
        · go_wp2
          go_ret
          exact ⟨by simp [rdB, r0, s0, r1, s1] <;> first | omega | (rw [decide_eq_false (by omega)]; simp [r0, s0, r1, s1]), HK.out⟩
  · cases even
    · go_wp2
      go_ret
      exact ⟨by simp [rdB, r0] <;> first | omega | (rw [decide_eq_false (by omega)]; simp [r0]), HK.out⟩
    · by_cases r1 : r = 0
      · go_wp2
        go_ret
        exact ⟨by simp [rdB, r0, r1] <;> first | omega | (rw [decide_eq_false (by omega)]; simp [r0, r1]), HK.out⟩
      · by_cases s1 : s = 0
        · go_wp2
          go_ret
          exact ⟨by simp [rdB, r0, r1, s1] <;> first | omega | (rw [decide_eq_false (by omega)]; simp [r0, r1, s1]), HK.out⟩
        · go_wp2
          go_ret
          exact ⟨by simp [rdB, r0, r1, s1] <;> first | omega | (rw [decide_eq_false (by omega)]; simp [r0, r1, s1]), HK.out⟩

end Go.Proofs.YtioganiefgmifaaGreatDoor

namespace Go.Proofs.YtioganiefgmifaaGreatDoor
open Go.RowKit
set_option linter.unusedVariables false
set_option linter.unusedSimpArgs false

theorem wpHl.two {P : Program} {md : Region.Mode} {ops : Array Oper} {Q : Exit → Act → World → Prop} {C : World → Prop} {D : Nat → Bool} {i j : Nat} {fuel : Nat} {listed : Array Bool} {a : Act} {w : World} {o o' : Oper} (hr : Region.ready md ops listed = [i, j]) (ho : ops[i]? = some o) (ho' : ops[j]? = some o')
    (h : ∀ K : Act → World → Prop, (∀ a' w', (D i = false → C w') ∧ wpHl P md ops Q C D fuel (listed.setIfInBounds i true) a' w' → K a' w') → if Region.wanted o (yielded ops a.tmps) = true then Oper.wp P o a w K Q else K (a.put o.dst undef) w)
    (h' : ∀ K : Act → World → Prop, (∀ a' w', (D j = false → C w') ∧ wpHl P md ops Q C D fuel (listed.setIfInBounds j true) a' w' → K a' w') → if Region.wanted o' (yielded ops a.tmps) = true then Oper.wp P o' a w K Q else K (a.put o'.dst undef) w) :
    wpHl P md ops Q C D (fuel + 1) listed a w :=
  ⟨fun h0 => (by rw [hr] at h0; cases h0), fun k hk => by
    rw [hr, List.mem_cons, List.mem_singleton] at hk
    rcases hk with rfl | rfl
    · exact wpOp_step ho h
    · exact wpOp_step ho' h'⟩

theorem one_row6 (w : World) : Arg (w.alloc (.cells #[.int .u32 1] 22)) (.slice (some ⟨w.heap.size, 0, none⟩) 1 1) 1 1 := by
  have hr : Row .u32 22 (w.alloc (.cells #[.int .u32 1] 22)) w.heap.size [1] := heap_alloc_new _ _
  refine ⟨[1], ⟨some ⟨w.heap.size, 0, none⟩, 1, rfl, by simp, by unfold maxLen; simp, ?_⟩, ?_, ?_, by simp⟩
  · have := row_cells (off := 0) (n := 1) hr (by simp)
    simpa using this
  · intro i
    match i with
    | 0 => simp [Nt.lb]
    | i + 1 => simp [Nt.lb]
  · rw [val_le_two (by simp)]
    simp [Nt.lb]


set_option maxRecDepth 100000 in
set_option maxHeartbeats 4000000 in
theorem closer6 {w : World} {v : Value} {X Lo Hi U p c pw r : Int} {even : Bool} (hv : SlV w v X Lo Hi U even p) (c0 : 0 ≤ c) (c1 : c < 18446744073709551616) (p0 : 0 ≤ pw) (p1 : pw < 18446744073709551616) (hr : sgn (X + X) ((c + c + 1) * pw * U) = r) :
    Calls Tryz.prog 21 #[v, .int .u64 c, .int .u64 pw] w fun e w' => e = .returned (.int .i64 r) ∧ Below w.heap.size w w' := by
  have HR := hide hr
  clear hr
  obtain ⟨ox, lx, cx, ol, ll, cl, oh, lh, ch, ou, lu, cu, rfl, hX, hL, hH, hU⟩ := hv
  go_enter Tryz.func21, Tryz.ntmps21
  go_upto_region 1 with fail
  have KA := bel_new w (.cells #[.slice ox lx cx, .slice ol ll cl, .slice oh lh ch, .slice ou lu cu, .bool even, .int .i64 p] 52)
  have C6 := hide (cell6_new w (.slice ox lx cx) (.slice ol ll cl) (.slice oh lh ch) (.slice ou lu cu) (.bool even) (.int .i64 p) 52)
  have HX := hide (hX.below KA)
  have HL := hide (hL.below KA)
  have HH := hide (hH.below KA)
  have HU := hide (hU.below KA)
  have HKA := hide KA
  clear hX hL hH hU KA
  obtain ⟨b, hb0⟩ : ∃ b, w.heap.size = b := ⟨_, rfl⟩
  obtain ⟨w1, hw1⟩ : ∃ w1, w.alloc (.cells #[.slice ox lx cx, .slice ol ll cl, .slice oh lh ch, .slice ou lu cu, .bool even, .int .i64 p] 52) = w1 := ⟨_, rfl⟩
  simp only [hw1] at C6 HX HL HH HU HKA ⊢
  have HB0 := hide hb0
  rw [hb0] at C6 ⊢
  clear hw1 hb0
  go_cut [7] from 8 (fun s7 w' => Arg w' s7 ((c + c + 1) * pw * U) 30000 ∧ Below w1.heap.size w1 w')
  case first =>
    have CC : ∀ u : World, Below w1.heap.size w1 u → u.cell? ⟨b, 3, none⟩ = some (.slice ou lu cu) ∧ True := fun u hu => ⟨(C6.out.below hu).c3, trivial⟩
    have K : Below w1.heap.size w1 w1.drew := (Below.refl _ _).drew
    have HC0 := CC _ K
    refine wpHl.region0 (C := fun u => u.cell? ⟨b, 3, none⟩ = some (.slice ou lu cu) ∧ True) (by kernel_rfl) (by kernel_rfl) (fun HS => ?_)
    obtain ⟨u0, hu0⟩ : ∃ u, w1.drew = u := ⟨_, rfl⟩
    rw [hu0] at K HC0 ⊢
    clear hu0
    refine wpHl.tk0 (i := 0) (d := some 8) (v := .int .u64 c) rfl HS (by as_aux_lemma => kernel_rfl) rfl (fun _ _ _ h => h) (Or.inl ⟨by rfl, ?_⟩) HC0 ?_
    · intro u hC
      go_simp
    simp only [Act.put, List.setIfInBounds_toArray, List.set_cons_zero, List.set_cons_succ]
    refine wpHl.tk0 (i := 2) (d := some 10) (v := .int .u64 c) rfl HS (by as_aux_lemma => kernel_rfl) rfl (fun _ _ _ h => h) (Or.inl ⟨by rfl, ?_⟩) HC0 ?_
    · intro u hC
      go_simp
    simp only [Act.put, List.setIfInBounds_toArray, List.set_cons_zero, List.set_cons_succ]
    refine wpHl.tk0 (i := 7) (d := some 15) (v := .int .u64 pw) rfl HS (by as_aux_lemma => kernel_rfl) rfl (fun _ _ _ h => h) (Or.inl ⟨by rfl, ?_⟩) HC0 ?_
    · intro u hC
      go_simp
    simp only [Act.put, List.setIfInBounds_toArray, List.set_cons_zero, List.set_cons_succ]
    refine wpHl.tk0 (i := 10) (d := some 18) (v := .pointer (some ⟨b, 3, none⟩)) rfl HS (by as_aux_lemma => kernel_rfl) rfl (fun _ _ _ h => h) (Or.inl ⟨by rfl, ?_⟩) HC0 ?_
    · intro u hC
      go_simp
    simp only [Act.put, List.setIfInBounds_toArray, List.set_cons_zero, List.set_cons_succ]
    refine wpHl.tk0 (i := 11) (d := some 19) (v := .slice ou lu cu) rfl HS (by as_aux_lemma => kernel_rfl) rfl (fun _ _ _ h => h) (Or.inl ⟨by rfl, ?_⟩) HC0 ?_
    · intro u hC
      obtain ⟨z0, z1⟩ := hC
      go_simp
    simp only [Act.put, List.setIfInBounds_toArray, List.set_cons_zero, List.set_cons_succ]
    refine wpHl.two (i := 1) (j := 5) (by as_aux_lemma => kernel_rfl) rfl rfl (fun K1 hK1 => ?_) (fun K1 hK1 => ?_)
    ·
      rw [if_pos (by rfl)]
      refine wp_call_of (f := 48) (args := #[.int .u64 c]) (by kernel_rfl) ?_
      with_reducible refine (rfrom_any c c0 c1).mono ?_
      rintro e u1 ⟨v9, rfl, h9, hb⟩
      replace K := below_trans K hb
      have H9 := hide h9.arg
      clear h9
      clear HC0
      have HC0 := CC _ K
      refine hK1 (Act.put _ (some 9) _) _ ⟨fun _ => HC0, ?_⟩
      clear hK1 K1 hb
      try simp only [Act.put, List.setIfInBounds_toArray, List.set_cons_zero, List.set_cons_succ]
      refine wpHl.two (i := 3) (j := 5) (by as_aux_lemma => kernel_rfl) rfl rfl (fun K1 hK1 => ?_) (fun K1 hK1 => ?_)
      ·
        rw [if_pos (by rfl)]
        refine wp_call_of (f := 48) (args := #[.int .u64 c]) (by kernel_rfl) ?_
        with_reducible refine (rfrom_any c c0 c1).mono ?_
        rintro e u2 ⟨v11, rfl, h11, hb⟩
        replace K := below_trans K hb
        replace H9 := hide (H9.out.below hb)
        have H11 := hide h11.arg
        clear h11
        clear HC0
        have HC0 := CC _ K
        refine hK1 (Act.put _ (some 11) _) _ ⟨fun _ => HC0, ?_⟩
        clear hK1 K1 hb
        try simp only [Act.put, List.setIfInBounds_toArray, List.set_cons_zero, List.set_cons_succ]
        refine wpHl.two (i := 4) (j := 5) (by as_aux_lemma => kernel_rfl) rfl rfl (fun K1 hK1 => ?_) (fun K1 hK1 => ?_)
        ·
          rw [if_pos (by rfl)]
          refine wp_call_of (f := 52) (args := #[v9, v11]) (by kernel_rfl) ?_
          with_reducible refine (radd_any H9.out H11.out (by omega) (by omega)).mono ?_
          rintro e u3 ⟨v12, rfl, h12, hb⟩
          replace K := below_trans K hb
          replace H9 := hide (H9.out.below hb)
          replace H11 := hide (H11.out.below hb)
          have H12 := hide h12.arg
          clear h12
          clear HC0
          have HC0 := CC _ K
          refine hK1 (Act.put _ (some 12) _) _ ⟨fun _ => HC0, ?_⟩
          clear hK1 K1 hb
          try simp only [Act.put, List.setIfInBounds_toArray, List.set_cons_zero, List.set_cons_succ]
          refine wpHl.one (i := 5) (by as_aux_lemma => kernel_rfl) rfl (fun K1 hK1 => ?_)
          rw [if_pos (by rfl)]
          go_simp
          have hb := bel_new u3 (.cells #[.int .u32 1] 22)
          have H13 := hide (one_row6 u3)
          obtain ⟨u4, hu4⟩ : ∃ q, u3.alloc (.cells #[.int .u32 1] 22) = q := ⟨_, rfl⟩
          obtain ⟨v13, h13⟩ : ∃ q, Value.slice (some ⟨u3.heap.size, 0, none⟩) 1 1 = q := ⟨_, rfl⟩
          rw [hu4, h13] at H13
          rw [hu4] at hb
          try simp only [hu4, h13]
          clear hu4 h13
          replace K := below_trans K hb
          replace H9 := hide (H9.out.below hb)
          replace H11 := hide (H11.out.below hb)
          replace H12 := hide (H12.out.below hb)
          clear HC0
          have HC0 := CC _ K
          refine hK1 _ _ ⟨fun _ => HC0, ?_⟩
          clear hK1 K1 hb
          try simp only [Act.put, List.setIfInBounds_toArray, List.set_cons_zero, List.set_cons_succ]
          refine wpHl.one (i := 6) (by as_aux_lemma => kernel_rfl) rfl (fun K1 hK1 => ?_)
          rw [if_pos (by rfl)]
          refine wp_call_of (f := 52) (args := #[v12, v13]) (by kernel_rfl) ?_
          with_reducible refine (radd_any H12.out H13.out (by omega) (by omega)).mono ?_
          rintro e u5 ⟨v14, rfl, h14, hb⟩
          replace K := below_trans K hb
          replace H9 := hide (H9.out.below hb)
          replace H11 := hide (H11.out.below hb)
          replace H12 := hide (H12.out.below hb)
          replace H13 := hide (H13.out.below hb)
          have H14 := hide h14.arg
          clear h14
          clear HC0
          have HC0 := CC _ K
          refine hK1 (Act.put _ (some 14) _) _ ⟨fun _ => HC0, ?_⟩
          clear hK1 K1 hb
          try simp only [Act.put, List.setIfInBounds_toArray, List.set_cons_zero, List.set_cons_succ]
          refine wpHl.one (i := 8) (by as_aux_lemma => kernel_rfl) rfl (fun K1 hK1 => ?_)
          rw [if_pos (by rfl)]
          refine wp_call_of (f := 48) (args := #[.int .u64 pw]) (by kernel_rfl) ?_
          with_reducible refine (rfrom_any pw p0 p1).mono ?_
          rintro e u6 ⟨v16, rfl, h16, hb⟩
          replace K := below_trans K hb
          replace H9 := hide (H9.out.below hb)
          replace H11 := hide (H11.out.below hb)
          replace H12 := hide (H12.out.below hb)
          replace H13 := hide (H13.out.below hb)
          replace H14 := hide (H14.out.below hb)
          have H16 := hide h16.arg
          clear h16
          clear HC0
          have HC0 := CC _ K
          refine hK1 (Act.put _ (some 16) _) _ ⟨fun _ => HC0, ?_⟩
          clear hK1 K1 hb
          try simp only [Act.put, List.setIfInBounds_toArray, List.set_cons_zero, List.set_cons_succ]
          refine wpHl.one (i := 9) (by as_aux_lemma => kernel_rfl) rfl (fun K1 hK1 => ?_)
          rw [if_pos (by rfl)]
          refine wp_call_of (f := 57) (args := #[v14, v16]) (by kernel_rfl) ?_
          with_reducible refine (rmul_any H14.out H16.out (by omega) (by omega)).mono ?_
          rintro e u7 ⟨v17, rfl, h17, hb⟩
          replace K := below_trans K hb
          replace H9 := hide (H9.out.below hb)
          replace H11 := hide (H11.out.below hb)
          replace H12 := hide (H12.out.below hb)
          replace H13 := hide (H13.out.below hb)
          replace H14 := hide (H14.out.below hb)
          replace H16 := hide (H16.out.below hb)
          have H17 := hide h17.arg
          clear h17
          clear HC0
          have HC0 := CC _ K
          refine hK1 (Act.put _ (some 17) _) _ ⟨fun _ => HC0, ?_⟩
          clear hK1 K1 hb
          try simp only [Act.put, List.setIfInBounds_toArray, List.set_cons_zero, List.set_cons_succ]
          refine wpHl.one (i := 12) (by as_aux_lemma => kernel_rfl) rfl (fun K1 hK1 => ?_)
          rw [if_pos (by rfl)]
          refine wp_call_of (f := 57) (args := #[v17, .slice ou lu cu]) (by kernel_rfl) ?_
          with_reducible refine (rmul_any H17.out (HU.out.below K) (by omega) (by omega)).mono ?_
          rintro e u8 ⟨v20, rfl, h20, hb⟩
          replace K := below_trans K hb
          replace H9 := hide (H9.out.below hb)
          replace H11 := hide (H11.out.below hb)
          replace H12 := hide (H12.out.below hb)
          replace H13 := hide (H13.out.below hb)
          replace H14 := hide (H14.out.below hb)
          replace H16 := hide (H16.out.below hb)
          replace H17 := hide (H17.out.below hb)
          have H20 := hide h20.arg
          clear h20
          clear HC0
          have HC0 := CC _ K
          refine hK1 (Act.put _ (some 20) _) _ ⟨fun _ => HC0, ?_⟩
          clear hK1 K1 hb
          try simp only [Act.put, List.setIfInBounds_toArray, List.set_cons_zero, List.set_cons_succ]
          refine wpHl.tk0 (i := 13) (d := some 7) (v := v20) rfl HS (by as_aux_lemma => kernel_rfl) rfl (fun _ _ _ h => h) (Or.inl ⟨by rfl, ?_⟩) HC0 ?_
          · intro u hC
            go_simp
          simp only [Act.put, List.setIfInBounds_toArray, List.set_cons_zero, List.set_cons_succ]
          refine wpHl.done (by as_aux_lemma => kernel_rfl) ?_ _
          clear CC HC0 HS
          go_wp2_with fail
          go_meet
          case rel => exact ⟨H20.out.wide (by omega), K⟩
        ·
          rw [if_pos (by rfl)]
          go_simp
          have hb := bel_new u2 (.cells #[.int .u32 1] 22)
          have H13 := hide (one_row6 u2)
          obtain ⟨u9, hu9⟩ : ∃ q, u2.alloc (.cells #[.int .u32 1] 22) = q := ⟨_, rfl⟩
          obtain ⟨v13, h13⟩ : ∃ q, Value.slice (some ⟨u2.heap.size, 0, none⟩) 1 1 = q := ⟨_, rfl⟩
          rw [hu9, h13] at H13
          rw [hu9] at hb
          try simp only [hu9, h13]
          clear hu9 h13
          replace K := below_trans K hb
          replace H9 := hide (H9.out.below hb)
          replace H11 := hide (H11.out.below hb)
          clear HC0
          have HC0 := CC _ K
          refine hK1 _ _ ⟨fun _ => HC0, ?_⟩
          clear hK1 K1 hb
          try simp only [Act.put, List.setIfInBounds_toArray, List.set_cons_zero, List.set_cons_succ]
          refine wpHl.one (i := 4) (by as_aux_lemma => kernel_rfl) rfl (fun K1 hK1 => ?_)
          rw [if_pos (by rfl)]
          refine wp_call_of (f := 52) (args := #[v9, v11]) (by kernel_rfl) ?_
          with_reducible refine (radd_any H9.out H11.out (by omega) (by omega)).mono ?_
          rintro e u10 ⟨v12, rfl, h12, hb⟩
          replace K := below_trans K hb
          replace H9 := hide (H9.out.below hb)
          replace H11 := hide (H11.out.below hb)
          replace H13 := hide (H13.out.below hb)
          have H12 := hide h12.arg
          clear h12
          clear HC0
          have HC0 := CC _ K
          refine hK1 (Act.put _ (some 12) _) _ ⟨fun _ => HC0, ?_⟩
          clear hK1 K1 hb
          try simp only [Act.put, List.setIfInBounds_toArray, List.set_cons_zero, List.set_cons_succ]
          refine wpHl.one (i := 6) (by as_aux_lemma => kernel_rfl) rfl (fun K1 hK1 => ?_)
          rw [if_pos (by rfl)]
          refine wp_call_of (f := 52) (args := #[v12, v13]) (by kernel_rfl) ?_
          with_reducible refine (radd_any H12.out H13.out (by omega) (by omega)).mono ?_
          rintro e u11 ⟨v14, rfl, h14, hb⟩
          replace K := below_trans K hb
          replace H9 := hide (H9.out.below hb)
          replace H11 := hide (H11.out.below hb)
          replace H13 := hide (H13.out.below hb)
          replace H12 := hide (H12.out.below hb)
          have H14 := hide h14.arg
          clear h14
          clear HC0
          have HC0 := CC _ K
          refine hK1 (Act.put _ (some 14) _) _ ⟨fun _ => HC0, ?_⟩
          clear hK1 K1 hb
          try simp only [Act.put, List.setIfInBounds_toArray, List.set_cons_zero, List.set_cons_succ]
          refine wpHl.one (i := 8) (by as_aux_lemma => kernel_rfl) rfl (fun K1 hK1 => ?_)
          rw [if_pos (by rfl)]
          refine wp_call_of (f := 48) (args := #[.int .u64 pw]) (by kernel_rfl) ?_
          with_reducible refine (rfrom_any pw p0 p1).mono ?_
          rintro e u12 ⟨v16, rfl, h16, hb⟩
          replace K := below_trans K hb
          replace H9 := hide (H9.out.below hb)
          replace H11 := hide (H11.out.below hb)
          replace H13 := hide (H13.out.below hb)
          replace H12 := hide (H12.out.below hb)
          replace H14 := hide (H14.out.below hb)
          have H16 := hide h16.arg
          clear h16
          clear HC0
          have HC0 := CC _ K
          refine hK1 (Act.put _ (some 16) _) _ ⟨fun _ => HC0, ?_⟩
          clear hK1 K1 hb
          try simp only [Act.put, List.setIfInBounds_toArray, List.set_cons_zero, List.set_cons_succ]
          refine wpHl.one (i := 9) (by as_aux_lemma => kernel_rfl) rfl (fun K1 hK1 => ?_)
          rw [if_pos (by rfl)]
          refine wp_call_of (f := 57) (args := #[v14, v16]) (by kernel_rfl) ?_
          with_reducible refine (rmul_any H14.out H16.out (by omega) (by omega)).mono ?_
          rintro e u13 ⟨v17, rfl, h17, hb⟩
          replace K := below_trans K hb
          replace H9 := hide (H9.out.below hb)
          replace H11 := hide (H11.out.below hb)
          replace H13 := hide (H13.out.below hb)
          replace H12 := hide (H12.out.below hb)
          replace H14 := hide (H14.out.below hb)
          replace H16 := hide (H16.out.below hb)
          have H17 := hide h17.arg
          clear h17
          clear HC0
          have HC0 := CC _ K
          refine hK1 (Act.put _ (some 17) _) _ ⟨fun _ => HC0, ?_⟩
          clear hK1 K1 hb
          try simp only [Act.put, List.setIfInBounds_toArray, List.set_cons_zero, List.set_cons_succ]
          refine wpHl.one (i := 12) (by as_aux_lemma => kernel_rfl) rfl (fun K1 hK1 => ?_)
          rw [if_pos (by rfl)]
          refine wp_call_of (f := 57) (args := #[v17, .slice ou lu cu]) (by kernel_rfl) ?_
          with_reducible refine (rmul_any H17.out (HU.out.below K) (by omega) (by omega)).mono ?_
          rintro e u14 ⟨v20, rfl, h20, hb⟩
          replace K := below_trans K hb
          replace H9 := hide (H9.out.below hb)
          replace H11 := hide (H11.out.below hb)
          replace H13 := hide (H13.out.below hb)
          replace H12 := hide (H12.out.below hb)
          replace H14 := hide (H14.out.below hb)
          replace H16 := hide (H16.out.below hb)
          replace H17 := hide (H17.out.below hb)
          have H20 := hide h20.arg
          clear h20
          clear HC0
          have HC0 := CC _ K
          refine hK1 (Act.put _ (some 20) _) _ ⟨fun _ => HC0, ?_⟩
          clear hK1 K1 hb
          try simp only [Act.put, List.setIfInBounds_toArray, List.set_cons_zero, List.set_cons_succ]
          refine wpHl.tk0 (i := 13) (d := some 7) (v := v20) rfl HS (by as_aux_lemma => kernel_rfl) rfl (fun _ _ _ h => h) (Or.inl ⟨by rfl, ?_⟩) HC0 ?_
          · intro u hC
            go_simp
          simp only [Act.put, List.setIfInBounds_toArray, List.set_cons_zero, List.set_cons_succ]
          refine wpHl.done (by as_aux_lemma => kernel_rfl) ?_ _
          clear CC HC0 HS
          go_wp2_with fail
          go_meet
          case rel => exact ⟨H20.out.wide (by omega), K⟩
      ·
        rw [if_pos (by rfl)]
        go_simp
        have hb := bel_new u1 (.cells #[.int .u32 1] 22)
        have H13 := hide (one_row6 u1)
        obtain ⟨u15, hu15⟩ : ∃ q, u1.alloc (.cells #[.int .u32 1] 22) = q := ⟨_, rfl⟩
        obtain ⟨v13, h13⟩ : ∃ q, Value.slice (some ⟨u1.heap.size, 0, none⟩) 1 1 = q := ⟨_, rfl⟩
        rw [hu15, h13] at H13
        rw [hu15] at hb
        try simp only [hu15, h13]
        clear hu15 h13
        replace K := below_trans K hb
        replace H9 := hide (H9.out.below hb)
        clear HC0
        have HC0 := CC _ K
        refine hK1 _ _ ⟨fun _ => HC0, ?_⟩
        clear hK1 K1 hb
        try simp only [Act.put, List.setIfInBounds_toArray, List.set_cons_zero, List.set_cons_succ]
        refine wpHl.one (i := 3) (by as_aux_lemma => kernel_rfl) rfl (fun K1 hK1 => ?_)
        rw [if_pos (by rfl)]
        refine wp_call_of (f := 48) (args := #[.int .u64 c]) (by kernel_rfl) ?_
        with_reducible refine (rfrom_any c c0 c1).mono ?_
        rintro e u16 ⟨v11, rfl, h11, hb⟩
        replace K := below_trans K hb
        replace H9 := hide (H9.out.below hb)
        replace H13 := hide (H13.out.below hb)
        have H11 := hide h11.arg
        clear h11
        clear HC0
        have HC0 := CC _ K
        refine hK1 (Act.put _ (some 11) _) _ ⟨fun _ => HC0, ?_⟩
        clear hK1 K1 hb
        try simp only [Act.put, List.setIfInBounds_toArray, List.set_cons_zero, List.set_cons_succ]
        refine wpHl.one (i := 4) (by as_aux_lemma => kernel_rfl) rfl (fun K1 hK1 => ?_)
        rw [if_pos (by rfl)]
        refine wp_call_of (f := 52) (args := #[v9, v11]) (by kernel_rfl) ?_
        with_reducible refine (radd_any H9.out H11.out (by omega) (by omega)).mono ?_
        rintro e u17 ⟨v12, rfl, h12, hb⟩
        replace K := below_trans K hb
        replace H9 := hide (H9.out.below hb)
        replace H13 := hide (H13.out.below hb)
        replace H11 := hide (H11.out.below hb)
        have H12 := hide h12.arg
        clear h12
        clear HC0
        have HC0 := CC _ K
        refine hK1 (Act.put _ (some 12) _) _ ⟨fun _ => HC0, ?_⟩
        clear hK1 K1 hb
        try simp only [Act.put, List.setIfInBounds_toArray, List.set_cons_zero, List.set_cons_succ]
        refine wpHl.one (i := 6) (by as_aux_lemma => kernel_rfl) rfl (fun K1 hK1 => ?_)
        rw [if_pos (by rfl)]
        refine wp_call_of (f := 52) (args := #[v12, v13]) (by kernel_rfl) ?_
        with_reducible refine (radd_any H12.out H13.out (by omega) (by omega)).mono ?_
        rintro e u18 ⟨v14, rfl, h14, hb⟩
        replace K := below_trans K hb
        replace H9 := hide (H9.out.below hb)
        replace H13 := hide (H13.out.below hb)
        replace H11 := hide (H11.out.below hb)
        replace H12 := hide (H12.out.below hb)
        have H14 := hide h14.arg
        clear h14
        clear HC0
        have HC0 := CC _ K
        refine hK1 (Act.put _ (some 14) _) _ ⟨fun _ => HC0, ?_⟩
        clear hK1 K1 hb
        try simp only [Act.put, List.setIfInBounds_toArray, List.set_cons_zero, List.set_cons_succ]
        refine wpHl.one (i := 8) (by as_aux_lemma => kernel_rfl) rfl (fun K1 hK1 => ?_)
        rw [if_pos (by rfl)]
        refine wp_call_of (f := 48) (args := #[.int .u64 pw]) (by kernel_rfl) ?_
        with_reducible refine (rfrom_any pw p0 p1).mono ?_
        rintro e u19 ⟨v16, rfl, h16, hb⟩
        replace K := below_trans K hb
        replace H9 := hide (H9.out.below hb)
        replace H13 := hide (H13.out.below hb)
        replace H11 := hide (H11.out.below hb)
        replace H12 := hide (H12.out.below hb)
        replace H14 := hide (H14.out.below hb)
        have H16 := hide h16.arg
        clear h16
        clear HC0
        have HC0 := CC _ K
        refine hK1 (Act.put _ (some 16) _) _ ⟨fun _ => HC0, ?_⟩
        clear hK1 K1 hb
        try simp only [Act.put, List.setIfInBounds_toArray, List.set_cons_zero, List.set_cons_succ]
        refine wpHl.one (i := 9) (by as_aux_lemma => kernel_rfl) rfl (fun K1 hK1 => ?_)
        rw [if_pos (by rfl)]
        refine wp_call_of (f := 57) (args := #[v14, v16]) (by kernel_rfl) ?_
        with_reducible refine (rmul_any H14.out H16.out (by omega) (by omega)).mono ?_
        rintro e u20 ⟨v17, rfl, h17, hb⟩
        replace K := below_trans K hb
        replace H9 := hide (H9.out.below hb)
        replace H13 := hide (H13.out.below hb)
        replace H11 := hide (H11.out.below hb)
        replace H12 := hide (H12.out.below hb)
        replace H14 := hide (H14.out.below hb)
        replace H16 := hide (H16.out.below hb)
        have H17 := hide h17.arg
        clear h17
        clear HC0
        have HC0 := CC _ K
        refine hK1 (Act.put _ (some 17) _) _ ⟨fun _ => HC0, ?_⟩
        clear hK1 K1 hb
        try simp only [Act.put, List.setIfInBounds_toArray, List.set_cons_zero, List.set_cons_succ]
        refine wpHl.one (i := 12) (by as_aux_lemma => kernel_rfl) rfl (fun K1 hK1 => ?_)
        rw [if_pos (by rfl)]
        refine wp_call_of (f := 57) (args := #[v17, .slice ou lu cu]) (by kernel_rfl) ?_
        with_reducible refine (rmul_any H17.out (HU.out.below K) (by omega) (by omega)).mono ?_
        rintro e u21 ⟨v20, rfl, h20, hb⟩
        replace K := below_trans K hb
        replace H9 := hide (H9.out.below hb)
        replace H13 := hide (H13.out.below hb)
        replace H11 := hide (H11.out.below hb)
        replace H12 := hide (H12.out.below hb)
        replace H14 := hide (H14.out.below hb)
        replace H16 := hide (H16.out.below hb)
        replace H17 := hide (H17.out.below hb)
        have H20 := hide h20.arg
        clear h20
        clear HC0
        have HC0 := CC _ K
        refine hK1 (Act.put _ (some 20) _) _ ⟨fun _ => HC0, ?_⟩
        clear hK1 K1 hb
        try simp only [Act.put, List.setIfInBounds_toArray, List.set_cons_zero, List.set_cons_succ]
        refine wpHl.tk0 (i := 13) (d := some 7) (v := v20) rfl HS (by as_aux_lemma => kernel_rfl) rfl (fun _ _ _ h => h) (Or.inl ⟨by rfl, ?_⟩) HC0 ?_
        · intro u hC
          go_simp
        simp only [Act.put, List.setIfInBounds_toArray, List.set_cons_zero, List.set_cons_succ]
        refine wpHl.done (by as_aux_lemma => kernel_rfl) ?_ _
        clear CC HC0 HS
        go_wp2_with fail
        go_meet
        case rel => exact ⟨H20.out.wide (by omega), K⟩
    ·
      rw [if_pos (by rfl)]
      go_simp
      have hb := bel_new u0 (.cells #[.int .u32 1] 22)
      have H13 := hide (one_row6 u0)
      obtain ⟨u22, hu22⟩ : ∃ q, u0.alloc (.cells #[.int .u32 1] 22) = q := ⟨_, rfl⟩
      obtain ⟨v13, h13⟩ : ∃ q, Value.slice (some ⟨u0.heap.size, 0, none⟩) 1 1 = q := ⟨_, rfl⟩
      rw [hu22, h13] at H13
      rw [hu22] at hb
      try simp only [hu22, h13]
      clear hu22 h13
      replace K := below_trans K hb
      clear HC0
      have HC0 := CC _ K
      refine hK1 _ _ ⟨fun _ => HC0, ?_⟩
      clear hK1 K1 hb
      try simp only [Act.put, List.setIfInBounds_toArray, List.set_cons_zero, List.set_cons_succ]
      refine wpHl.one (i := 1) (by as_aux_lemma => kernel_rfl) rfl (fun K1 hK1 => ?_)
      rw [if_pos (by rfl)]
      refine wp_call_of (f := 48) (args := #[.int .u64 c]) (by kernel_rfl) ?_
      with_reducible refine (rfrom_any c c0 c1).mono ?_
      rintro e u23 ⟨v9, rfl, h9, hb⟩
      replace K := below_trans K hb
      replace H13 := hide (H13.out.below hb)
      have H9 := hide h9.arg
      clear h9
      clear HC0
      have HC0 := CC _ K
      refine hK1 (Act.put _ (some 9) _) _ ⟨fun _ => HC0, ?_⟩
      clear hK1 K1 hb
      try simp only [Act.put, List.setIfInBounds_toArray, List.set_cons_zero, List.set_cons_succ]
      refine wpHl.one (i := 3) (by as_aux_lemma => kernel_rfl) rfl (fun K1 hK1 => ?_)
      rw [if_pos (by rfl)]
      refine wp_call_of (f := 48) (args := #[.int .u64 c]) (by kernel_rfl) ?_
      with_reducible refine (rfrom_any c c0 c1).mono ?_
      rintro e u24 ⟨v11, rfl, h11, hb⟩
      replace K := below_trans K hb
      replace H13 := hide (H13.out.below hb)
      replace H9 := hide (H9.out.below hb)
      have H11 := hide h11.arg
      clear h11
      clear HC0
      have HC0 := CC _ K
      refine hK1 (Act.put _ (some 11) _) _ ⟨fun _ => HC0, ?_⟩
      clear hK1 K1 hb
      try simp only [Act.put, List.setIfInBounds_toArray, List.set_cons_zero, List.set_cons_succ]
      refine wpHl.one (i := 4) (by as_aux_lemma => kernel_rfl) rfl (fun K1 hK1 => ?_)
      rw [if_pos (by rfl)]
      refine wp_call_of (f := 52) (args := #[v9, v11]) (by kernel_rfl) ?_
      with_reducible refine (radd_any H9.out H11.out (by omega) (by omega)).mono ?_
      rintro e u25 ⟨v12, rfl, h12, hb⟩
      replace K := below_trans K hb
      replace H13 := hide (H13.out.below hb)
      replace H9 := hide (H9.out.below hb)
      replace H11 := hide (H11.out.below hb)
      have H12 := hide h12.arg
      clear h12
      clear HC0
      have HC0 := CC _ K
      refine hK1 (Act.put _ (some 12) _) _ ⟨fun _ => HC0, ?_⟩
      clear hK1 K1 hb
      try simp only [Act.put, List.setIfInBounds_toArray, List.set_cons_zero, List.set_cons_succ]
      refine wpHl.one (i := 6) (by as_aux_lemma => kernel_rfl) rfl (fun K1 hK1 => ?_)
      rw [if_pos (by rfl)]
      refine wp_call_of (f := 52) (args := #[v12, v13]) (by kernel_rfl) ?_
      with_reducible refine (radd_any H12.out H13.out (by omega) (by omega)).mono ?_
      rintro e u26 ⟨v14, rfl, h14, hb⟩
      replace K := below_trans K hb
      replace H13 := hide (H13.out.below hb)
      replace H9 := hide (H9.out.below hb)
      replace H11 := hide (H11.out.below hb)
      replace H12 := hide (H12.out.below hb)
      have H14 := hide h14.arg
      clear h14
      clear HC0
      have HC0 := CC _ K
      refine hK1 (Act.put _ (some 14) _) _ ⟨fun _ => HC0, ?_⟩
      clear hK1 K1 hb
      try simp only [Act.put, List.setIfInBounds_toArray, List.set_cons_zero, List.set_cons_succ]
      refine wpHl.one (i := 8) (by as_aux_lemma => kernel_rfl) rfl (fun K1 hK1 => ?_)
      rw [if_pos (by rfl)]
      refine wp_call_of (f := 48) (args := #[.int .u64 pw]) (by kernel_rfl) ?_
      with_reducible refine (rfrom_any pw p0 p1).mono ?_
      rintro e u27 ⟨v16, rfl, h16, hb⟩
      replace K := below_trans K hb
      replace H13 := hide (H13.out.below hb)
      replace H9 := hide (H9.out.below hb)
      replace H11 := hide (H11.out.below hb)
      replace H12 := hide (H12.out.below hb)
      replace H14 := hide (H14.out.below hb)
      have H16 := hide h16.arg
      clear h16
      clear HC0
      have HC0 := CC _ K
      refine hK1 (Act.put _ (some 16) _) _ ⟨fun _ => HC0, ?_⟩
      clear hK1 K1 hb
      try simp only [Act.put, List.setIfInBounds_toArray, List.set_cons_zero, List.set_cons_succ]
      refine wpHl.one (i := 9) (by as_aux_lemma => kernel_rfl) rfl (fun K1 hK1 => ?_)
      rw [if_pos (by rfl)]
      refine wp_call_of (f := 57) (args := #[v14, v16]) (by kernel_rfl) ?_
      with_reducible refine (rmul_any H14.out H16.out (by omega) (by omega)).mono ?_
      rintro e u28 ⟨v17, rfl, h17, hb⟩
      replace K := below_trans K hb
      replace H13 := hide (H13.out.below hb)
      replace H9 := hide (H9.out.below hb)
      replace H11 := hide (H11.out.below hb)
      replace H12 := hide (H12.out.below hb)
      replace H14 := hide (H14.out.below hb)
      replace H16 := hide (H16.out.below hb)
      have H17 := hide h17.arg
      clear h17
      clear HC0
      have HC0 := CC _ K
      refine hK1 (Act.put _ (some 17) _) _ ⟨fun _ => HC0, ?_⟩
      clear hK1 K1 hb
      try simp only [Act.put, List.setIfInBounds_toArray, List.set_cons_zero, List.set_cons_succ]
      refine wpHl.one (i := 12) (by as_aux_lemma => kernel_rfl) rfl (fun K1 hK1 => ?_)
      rw [if_pos (by rfl)]
      refine wp_call_of (f := 57) (args := #[v17, .slice ou lu cu]) (by kernel_rfl) ?_
      with_reducible refine (rmul_any H17.out (HU.out.below K) (by omega) (by omega)).mono ?_
      rintro e u29 ⟨v20, rfl, h20, hb⟩
      replace K := below_trans K hb
      replace H13 := hide (H13.out.below hb)
      replace H9 := hide (H9.out.below hb)
      replace H11 := hide (H11.out.below hb)
      replace H12 := hide (H12.out.below hb)
      replace H14 := hide (H14.out.below hb)
      replace H16 := hide (H16.out.below hb)
      replace H17 := hide (H17.out.below hb)
      have H20 := hide h20.arg
      clear h20
      clear HC0
      have HC0 := CC _ K
      refine hK1 (Act.put _ (some 20) _) _ ⟨fun _ => HC0, ?_⟩
      clear hK1 K1 hb
      try simp only [Act.put, List.setIfInBounds_toArray, List.set_cons_zero, List.set_cons_succ]
      refine wpHl.tk0 (i := 13) (d := some 7) (v := v20) rfl HS (by as_aux_lemma => kernel_rfl) rfl (fun _ _ _ h => h) (Or.inl ⟨by rfl, ?_⟩) HC0 ?_
      · intro u hC
        go_simp
      simp only [Act.put, List.setIfInBounds_toArray, List.set_cons_zero, List.set_cons_succ]
      refine wpHl.done (by as_aux_lemma => kernel_rfl) ?_ _
      clear CC HC0 HS
      go_wp2_with fail
      go_meet
      case rel => exact ⟨H20.out.wide (by omega), K⟩
  case rest =>
  obtain ⟨h7, K⟩ := hcut
  rename World => w2
  rename Value => v7
  replace C6 := hide (C6.out.below K)
  replace HX := hide (HX.out.below K)
  have HK := hide (below_trans HKA.out K)
  have H7 := hide h7
  clear HL HH HU HKA K h7 HB0
  have q0 := C6.out.c0
  go_wp2_with fail
  with_reducible refine (radd_any HX.out HX.out (by omega) (by omega)).mono ?_
  rintro e w3 ⟨va, rfl, hA, K⟩
  have HA := hide hA.arg
  replace H7 := hide (H7.out.below K)
  replace HK := hide (below_trans HK.out K)
  clear hA K q0 C6 HX
  go_wp2_with fail
  with_reducible refine (rcmp_any HA.out H7.out (by omega) (by omega)).mono ?_
  rintro e w4 ⟨rfl, K⟩
  rw [HR.out]
  replace HK := hide (below_trans HK.out K)
  clear HA H7 K HR
  go_wp2
  go_ret
  exact ⟨rfl, HK.out⟩

end Go.Proofs.YtioganiefgmifaaGreatDoor
