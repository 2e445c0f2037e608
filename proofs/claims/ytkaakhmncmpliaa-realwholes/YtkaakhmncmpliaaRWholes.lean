/- crucibleref05.FromWhole; RealWholes: the walk -/
import Derived.Test.YtkaakhmncmpliaaRWhRef
namespace Go.Proofs.Ytkaakhmncmpliaa
open Go.RowKit
set_option linter.unusedVariables false

/-- the float of a whole number, as a pattern -/
theorem float_is {n r : Int} (h : Near 4503599627370496 (-1074) 9218868437227405312 n.natAbs 0 r) : (floatOfInt .f64 n : Int) = (if n < 0 then 9223372036854775808 else 0) + r ∧ 0 ≤ r ∧ r ≤ 9218868437227405312 := by
  have h1 := near_double n.natAbs 0
  have e := near_unique (by decide) h h1
  have r1 := h.2.1
  have r0 := h.1
  rw [float_word]
  unfold Ieee.Format.word
  rw [show Ieee.double.signWeight = 9223372036854775808 from rfl]
  by_cases c : n < 0
  · rw [decide_eq_true c, if_pos rfl, if_pos c]
    exact ⟨by omega, r0, r1⟩
  · rw [decide_eq_false c, if_neg (by decide), if_neg c]
    exact ⟨by omega, r0, r1⟩
theorem float_lt (n : Int) : floatOfInt .f64 n < 18446744073709551616 ∧ ¬ nanD (floatOfInt .f64 n) := by
  have hz := float_top n.natAbs
  rw [float_word]
  obtain ⟨e1, e2⟩ := word_sz (s := decide (n < 0)) (r := Ieee.double.nearest false n.natAbs 0) (by omega)
  refine ⟨?_, by unfold nanD; rw [e1]; omega⟩
  unfold Ieee.Format.word
  rw [show Ieee.double.signWeight = 9223372036854775808 from rfl]
  split <;> omega

def FwIs (n : Int) (x : Ending) : Prop := ∃ k ok, x = .returned (.tuple #[.int .u64 (floatOfInt .f64 n), .bool (ok && k == n)]) ∧ Wh (floatOfInt .f64 n) k ok
set_option maxHeartbeats 2000000 in
theorem rfromWhole_any (w : World) (n : Int) (n0 : -9223372036854775808 ≤ n) (n1 : n ≤ 9223372036854775807) : Calls Try.prog 24 #[.int .i64 n] w fun e w' => FwIs n e ∧ Below w.heap.size w w' := by
  have m0 : (0 : Int) ≤ n.natAbs := by omega
  have m1 : (n.natAbs : Int) < 18446744073709551616 := by omega
  have m2 : (n.natAbs : Int) < p2 64 := by rw [show p2 64 = 18446744073709551616 by decide]; exact m1
  have HM2 := hide m2
  clear m2
  by_cases c : n < 0
  · have c' : decide (n < 0) = true := decide_eq_true c
    go_enter Try.func24, Try.ntmps24
    go_wp2_with fail
    rw [show IntKind.u64.wrap (-IntKind.u64.wrap n) = (n.natAbs : Int) by rw [IntKind.wrap_u64, IntKind.wrap_u64]; omega]
    with_reducible refine (rfrom_any (n.natAbs : Int) m0 m1).mono ?_
    rintro x' w1 ⟨v1, rfl, g1, K⟩
    go_wp2_with fail
    with_reducible refine (nearest_64 g1.arg (by omega) HM2.out (by omega) (by omega) (by omega)).mono ?_
    rintro x' w2 ⟨r, rfl, hr, b2⟩
    replace K := below_trans K b2
    obtain ⟨hx, r0, r1⟩ := float_is hr
    rw [if_pos c] at hx
    have hl := (float_lt n).1
    have hxx : 0 ≤ 9223372036854775808 + r := by omega
    have hxl : 9223372036854775808 + r < 18446744073709551616 := by omega
    clear hr b2 g1
    generalize hX : floatOfInt .f64 n = x at *
    have HX := hide hX
    have Hx := hide hx
    clear hX hx hl
    go_wp2_with fail
    with_reducible refine (rwhole_any _ (9223372036854775808 + r) hxx hxl).mono ?_
    rintro x' w3 ⟨⟨k, ok, rfl, hk⟩, b3⟩
    replace K := below_trans K b3
    rw [show (9223372036854775808 + r).toNat = x by have := Hx.out; omega] at hk
    have HK := hide hk
    clear hk b3
    cases ok
    · go_wp2
      go_ret2
      exact ⟨⟨k, false, by rw [HX.out, Hx.out, Bool.false_and]; rfl, by rw [HX.out]; exact HK.out⟩, K⟩
    · rcases g : (k == n) with _ | _
      · go_wp2
        go_ret2
        exact ⟨⟨k, true, by rw [HX.out, Hx.out, g]; rfl, by rw [HX.out]; exact HK.out⟩, K⟩
      · go_wp2
        go_ret2
        exact ⟨⟨k, true, by rw [HX.out, Hx.out, g]; rfl, by rw [HX.out]; exact HK.out⟩, K⟩
  · have c' : decide (n < 0) = false := decide_eq_false c
    have na : (n.natAbs : Int) = n := by omega
    rw [na] at m0 m1 HM2
    go_enter Try.func24, Try.ntmps24
    go_wp2_with fail
    with_reducible refine (rfrom_any n m0 m1).mono ?_
    rintro x' w1 ⟨v1, rfl, g1, K⟩
    go_wp2_with fail
    with_reducible refine (nearest_64 g1.arg (by omega) HM2.out (by omega) (by omega) (by omega)).mono ?_
    rintro x' w2 ⟨r, rfl, hr, b2⟩
    replace K := below_trans K b2
    obtain ⟨hx, r0, r1⟩ := float_is (n := n) (by rw [na]; exact hr)
    rw [if_neg (by omega), Int.zero_add] at hx
    have hl := (float_lt n).1
    have hxx : 0 ≤ r := by omega
    have hxl : r < 18446744073709551616 := by omega
    clear hr b2 g1
    generalize hX : floatOfInt .f64 n = x at *
    have HX := hide hX
    have Hx := hide hx
    clear hX hx hl
    go_wp2_with fail
    with_reducible refine (rwhole_any _ (r) hxx hxl).mono ?_
    rintro x' w3 ⟨⟨k, ok, rfl, hk⟩, b3⟩
    replace K := below_trans K b3
    rw [show (r).toNat = x by have := Hx.out; omega] at hk
    have HK := hide hk
    clear hk b3
    cases ok
    · go_wp2
      go_ret2
      exact ⟨⟨k, false, by rw [HX.out, Hx.out, Bool.false_and]; rfl, by rw [HX.out]; exact HK.out⟩, K⟩
    · rcases g : (k == n) with _ | _
      · go_wp2
        go_ret2
        exact ⟨⟨k, true, by rw [HX.out, Hx.out, g]; rfl, by rw [HX.out]; exact HK.out⟩, K⟩
      · go_wp2
        go_ret2
        exact ⟨⟨k, true, by rw [HX.out, Hx.out, g]; rfl, by rw [HX.out]; exact HK.out⟩, K⟩

set_option maxRecDepth 100000 in
set_option maxHeartbeats 4000000 in
theorem rwholes_walk {W : World} {a n : Int} (ha : (Lit.int .u64 a).wf = true) (hn : (Lit.int .i64 n).wf = true) : Calls Try.prog 5 #[.int .u64 a, .int .i64 n] W fun e w' => e = .returned (.bool true) ∧ Below W.heap.size W w' := by
  have a1 : 0 ≤ a ∧ a < 18446744073709551616 := by have : 0 ≤ a ∧ a ≤ 18446744073709551615 := by simpa [Lit.wf, IntKind.min, IntKind.max, IntKind.signed, IntKind.bits] using ha
                                                   omega
  have n1 : -9223372036854775808 ≤ n ∧ n ≤ 9223372036854775807 := by simpa [Lit.wf, IntKind.min, IntKind.max, IntKind.signed, IntKind.bits] using hn
  obtain ⟨a0, a1⟩ := a1
  obtain ⟨n0, n1⟩ := n1
  clear ha hn
  go_enter Try.func5, Try.ntmps5
  go_wp2_with fail
  with_reducible refine (rwhole_any _ a a0 a1).mono ?_
  rintro e w1 ⟨⟨k1, ok1, rfl, hk1⟩, K⟩
  go_wp2_with fail
  with_reducible refine (float_any _ a).mono ?_
  rintro e w2 ⟨rfl, rfl⟩
  go_wp2_with fail
  with_reducible refine (whole_any _ a.toNat).mono ?_
  rintro e w2 ⟨k2, ok2, rfl, hk2, rfl⟩
  obtain ⟨rfl, rfl⟩ := hk1.unique hk2
  clear hk1 hk2
  go_wp2_with fail
  with_reducible refine (rfromWhole_any _ n n0 n1).mono ?_
  rintro e w3 ⟨⟨k3, ok3, rfl, hk3⟩, b3⟩
  replace K := below_trans K b3
  go_wp2_with fail
  with_reducible refine (fromWhole_any _ n).mono ?_
  rintro e w4 ⟨k4, ok4, rfl, hk4, rfl⟩
  obtain ⟨rfl, rfl⟩ := hk3.unique hk4
  clear hk3 hk4 b3
  have q1 : ∀ w, Calls Try.prog 11 #[.float .f64 (floatOfInt .f64 n)] w fun e w' => e = .returned (.int .u64 (floatOfInt .f64 n)) ∧ w' = w := fun w => by
    have := bits_any w (floatOfInt .f64 n)
    rwa [one_not (float_lt n).2] at this
  generalize (ok3 && k3 == n) = t
  generalize floatOfInt .f64 n = x at *
  clear a0 a1 n0 n1
  cases t <;> cases ok1 <;> (
    go_wp2_with (first | (with_reducible refine (q1 _).mono ?_; rintro e w5 ⟨rfl, rfl⟩) | (with_reducible refine (lives_ok _).mono ?_; rintro e w5 ⟨rfl, b5⟩))
    go_ret
    exact ⟨rfl, below_trans K b5⟩)

end Go.Proofs.Ytkaakhmncmpliaa
