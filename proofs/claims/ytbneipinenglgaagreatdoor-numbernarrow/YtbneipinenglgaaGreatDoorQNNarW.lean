/- NumberNarrow: the walk (mk_nnar.py) -/
import Derived.Test.YtbneipinenglgaaGreatDoorQ12
namespace Go.Proofs.YtbneipinenglgaaGreatDoor
open Go.RowKit
set_option linter.unusedVariables false

set_option maxHeartbeats 4000000 in
theorem nnan_any {w : World} (L : Lays w) (x : Int) (x0 : 0 ≤ x) (x1 : x < 18446744073709551616) : Calls Tryz.prog 36 #[.int .u64 x] w fun e' w' => e' = .returned (.bool (decide (9218868437227405312 < x % 9223372036854775808))) ∧ Below w.heap.size w w' := by
  go_enter Tryz.func36, Tryz.ntmps36
  go_wp2_with fail
  with_reducible refine (class_64 L x (x % 9223372036854775808) x0 x1 rfl).mono ?_
  rintro e w1 ⟨rfl, K1⟩
  have HE := hide (show (cls 9223372036854775808 4503599627370496 (x % 9223372036854775808) == 5) = decide (9218868437227405312 < x % 9223372036854775808) by
    rw [Bool.eq_iff_iff, beq_iff_eq, cls_nan, decide_eq_true_iff]; rfl)
  generalize cls 9223372036854775808 4503599627370496 (x % 9223372036854775808) = c at *
  have HK := hide K1
  clear K1
  go_wp2
  go_ret
  exact ⟨by rw [← HE.out]; rfl, HK.out⟩

set_option maxHeartbeats 16000000 in
set_option maxRecDepth 20000 in
theorem nnarrow_walk {w : World} (L : Lays w) (T : Brn w) (U : Uss w) {x : Int} (x0 : 0 ≤ x) (x1 : x < 18446744073709551616) : Calls Tryz.prog 8 #[.int .u64 x] w fun e' w' => e' = .returned (.bool true) ∧ Below w.heap.size w w' := by
  have HL := hide L
  have HT := hide T
  have HU := hide U
  clear L T U
  go_enter Tryz.func8, Tryz.ntmps8
  go_wp2_with fail
  with_reducible refine (nof_64 HL.out HT.out x x0 x1).mono ?_
  rintro e w1 ⟨v, z, rfl, hN, hz, K1⟩
  have HN := hide hN
  have HZ := hide hz
  have HK1 := hide K1
  obtain ⟨k3, g, mo, ml, mc, bt, rfl⟩ := nrd_shape hN
  have B1 := hide (bx8_new w1 (.int .i8 k3) (.int .u64 0) (.bool g) (.slice mo ml mc) (.int .u64 bt) (.int .i8 0) (.string ⟨#[]⟩) (.slice none 0 0) 32)
  have K2 := bel_new w1 (.cells #[.int .i8 k3, .int .u64 0, .bool g, .slice mo ml mc, .int .u64 bt, .int .i8 0, .string ⟨#[]⟩, .slice none 0 0] 32)
  have HN2 := hide (HN.out.below K2)
  have HK2 := hide (below_trans HK1.out K2)
  clear hN hz K1 K2
  go_upto_region 2 with fail
  generalize w1.alloc (.cells #[.int .i8 k3, .int .u64 0, .bool g, .slice mo ml mc, .int .u64 bt, .int .i8 0, .string ⟨#[]⟩, .slice none 0 0] 32) = w2 at *
  have B2 := B1.out
  obtain ⟨b0, b1, b2, b3, b4, b5, b6, b7⟩ := B2
  go_wp2_with fail
  with_reducible refine (narrow_any (HL.out.below HK2.out) (HT.out.below HK2.out) (HU.out.below HK2.out) HN2.out (by decide)).mono ?_
  rintro e w3 ⟨wd, y, ok, rfl, y0, y1, hA, K3⟩
  have HA := hide hA
  have HK3 := hide (below_trans HK2.out K3)
  have HB3 := hide (B1.out.below K3 B1.out.lt)
  have hok : ok = true := by
    obtain ⟨bb, bk, hb, h2⟩ := hA
    obtain ⟨rfl, -⟩ := bits_of x0 x1 HZ.out hb
    rcases h2 with ⟨h, -⟩ | ⟨-, h, -⟩
    · cases h
    · exact h
  subst hok
  clear hA K3 b0 b1 b2 b3 b4 b5 b6 b7 HN2
  go_wp2_with fail
  with_reducible refine (to_16_64 (HL.out.below HK3.out) (HT.out.below HK3.out) x (x % 9223372036854775808) (decide (9223372036854775808 ≤ x)) x0 x1 rfl rfl).mono ?_
  rintro e w4 ⟨a, same, rfl, p0, p1, hT1, K4⟩
  have HT1 := hide hT1
  have HK4 := hide (below_trans HK3.out K4)
  have HB4 := hide (HB3.out.below K4 HB3.out.lt)
  clear hT1 K4
  go_wp2_with fail
  with_reducible refine (to_32_64 (HL.out.below HK4.out) (HT.out.below HK4.out) x (x % 9223372036854775808) (decide (9223372036854775808 ≤ x)) x0 x1 rfl rfl).mono ?_
  rintro e w5 ⟨b, single, rfl, q0, q1, hT2, K5⟩
  have HT2 := hide hT2
  have KY := hide (below_trans HK4.out K5)
  obtain ⟨b0, b1, b2, b3, b4, b5, b6, b7⟩ := HB4.out.below K5 HB4.out.lt
  clear hT2 K5
  have hwa : IntKind.u64.wrap a = a := by simp only [IntKind.wrap, IntKind.signed, IntKind.bits]; simp; omega
  have hwb : IntKind.u64.wrap b = b := by simp only [IntKind.wrap, IntKind.signed, IntKind.bits]; simp; omega
  obtain ⟨-, hlaw⟩ := narrow_law x0 x1 HZ.out HA.out HT1.out HT2.out
  have hzl : Hid (∃ zb : Bool, (k3 == 3 && decide (ml = 0)) = zb ∧ (k3 = 3 ∨ (k3 = 4)) ∧ (z = .w 0 → zb = true)) := by
    cases z with
    | w n =>
      obtain ⟨g', m', a', e', ⟨zs, ⟨ao, cap, rfl, -⟩, hcn, hv, -⟩, hn, hg'⟩ := HN.out
      simp only [nvW, Value.agg.injEq, Array.mk.injEq, List.cons.injEq, and_true, true_and, Value.bool.injEq, Value.int.injEq, Value.slice.injEq] at e'
      obtain ⟨rfl, rfl, ⟨-, rfl, -⟩, -⟩ := e'
      refine ⟨_, rfl, .inl rfl, fun h => ?_⟩
      have h0 : a' = 0 := by
        have : n = 0 := by cases h; rfl
        rw [this] at hn
        have := Nt.val_nonneg hcn.1
        cases g <;> simp [wn] at hn <;> omega
      rw [h0] at hv
      rw [(Nt.canon_zero hcn).1 hv]
      rfl
    | f b' =>
      obtain ⟨e', -⟩ := HN.out
      simp only [nvF, Value.agg.injEq, Array.mk.injEq, List.cons.injEq, and_true, true_and, Value.bool.injEq, Value.int.injEq] at e'
      obtain ⟨rfl, -⟩ := e'
      exact ⟨_, rfl, .inr rfl, fun h => by cases h⟩
  obtain ⟨zb, hzb, hk3, hz0⟩ := hzl.out
  clear HZ HA HT1 HT2 HN HB3 HB4 B1 hzl
  have HLAW := hide hlaw
  have HZ0 := hide hz0
  have HZB := hide hzb
  clear hlaw hz0 hzb
  rcases hk3 with rfl | rfl
  · rcases ml with _ | n
    · skip
      rcases HLAW.out with ⟨rfl, rfl, hz1, rfl⟩ | ⟨rfl, rfl, hgt, -, rfl⟩ | ⟨rfl, rfl, hle, rfl⟩ | ⟨rfl, rfl, rfl, rfl⟩ | ⟨rfl, rfl, rfl, rfl⟩
      · clear HLAW HZ0 HZB
        go_wp2_with fail
        with_reducible refine (nlives (HL.out.below KY.out) (HT.out.below KY.out) (HU.out.below KY.out)).mono ?_
        rintro e w9 ⟨rfl, K9⟩
        have KQ := hide (below_trans KY.out K9)
        clear K9
        go_wp2
        go_ret
        exact ⟨rfl, KQ.out⟩
      · clear HLAW HZ0 HZB
        go_wp2_with fail
        with_reducible refine (nnan_any (HL.out.below KY.out) x x0 x1).mono ?_
        rintro e w8 ⟨rfl, K8⟩
        rw [show decide (9218868437227405312 < x % 9223372036854775808) = true from decide_eq_true hgt]
        replace KY := hide (below_trans KY.out K8)
        clear K8
        clear hgt
        go_wp2_with fail
        with_reducible refine (nlives (HL.out.below KY.out) (HT.out.below KY.out) (HU.out.below KY.out)).mono ?_
        rintro e w9 ⟨rfl, K9⟩
        have KQ := hide (below_trans KY.out K9)
        clear K9
        go_wp2
        go_ret
        exact ⟨rfl, KQ.out⟩
      · clear HLAW HZ0 HZB
        by_cases hy : a = 0
        · subst hy
          go_wp2_with fail
          with_reducible refine (nlives (HL.out.below KY.out) (HT.out.below KY.out) (HU.out.below KY.out)).mono ?_
          rintro e w9 ⟨rfl, K9⟩
          have KQ := hide (below_trans KY.out K9)
          clear K9
          go_wp2
          go_ret
          exact ⟨rfl, KQ.out⟩
        · have hy0 : (a == 0) = false := by simp [hy]
          go_wp2_with fail
          with_reducible refine (nnan_any (HL.out.below KY.out) x x0 x1).mono ?_
          rintro e w8 ⟨rfl, K8⟩
          rw [show decide (9218868437227405312 < x % 9223372036854775808) = false from decide_eq_false (by omega)]
          replace KY := hide (below_trans KY.out K8)
          clear K8
          clear hle
          go_wp2_with fail
          with_reducible refine (nlives (HL.out.below KY.out) (HT.out.below KY.out) (HU.out.below KY.out)).mono ?_
          rintro e w9 ⟨rfl, K9⟩
          have KQ := hide (below_trans KY.out K9)
          clear K9
          go_wp2
          go_ret
          exact ⟨rfl, KQ.out⟩
      · clear HLAW HZ0 HZB
        go_wp2_with fail
        with_reducible refine (nlives (HL.out.below KY.out) (HT.out.below KY.out) (HU.out.below KY.out)).mono ?_
        rintro e w9 ⟨rfl, K9⟩
        have KQ := hide (below_trans KY.out K9)
        clear K9
        go_wp2
        go_ret
        exact ⟨rfl, KQ.out⟩
      · clear HLAW HZ0 HZB
        go_wp2_with fail
        with_reducible refine (nlives (HL.out.below KY.out) (HT.out.below KY.out) (HU.out.below KY.out)).mono ?_
        rintro e w9 ⟨rfl, K9⟩
        have KQ := hide (below_trans KY.out K9)
        clear K9
        go_wp2
        go_ret
        exact ⟨rfl, KQ.out⟩
    · have hn0 : ((n : Int) + 1 == 0) = false := by simp; omega
      rcases HLAW.out with ⟨rfl, rfl, hz1, rfl⟩ | ⟨rfl, rfl, hgt, -, rfl⟩ | ⟨rfl, rfl, hle, rfl⟩ | ⟨rfl, rfl, rfl, rfl⟩ | ⟨rfl, rfl, rfl, rfl⟩
      · exact absurd (HZB.out.trans (HZ0.out hz1)) (by simp)
      · clear HLAW HZ0 HZB
        go_wp2_with fail
        with_reducible refine (nnan_any (HL.out.below KY.out) x x0 x1).mono ?_
        rintro e w8 ⟨rfl, K8⟩
        rw [show decide (9218868437227405312 < x % 9223372036854775808) = true from decide_eq_true hgt]
        replace KY := hide (below_trans KY.out K8)
        clear K8
        clear hgt
        go_wp2_with fail
        with_reducible refine (nlives (HL.out.below KY.out) (HT.out.below KY.out) (HU.out.below KY.out)).mono ?_
        rintro e w9 ⟨rfl, K9⟩
        have KQ := hide (below_trans KY.out K9)
        clear K9
        go_wp2
        go_ret
        exact ⟨rfl, KQ.out⟩
      · clear HLAW HZ0 HZB
        go_wp2_with fail
        with_reducible refine (nnan_any (HL.out.below KY.out) x x0 x1).mono ?_
        rintro e w8 ⟨rfl, K8⟩
        rw [show decide (9218868437227405312 < x % 9223372036854775808) = false from decide_eq_false (by omega)]
        replace KY := hide (below_trans KY.out K8)
        clear K8
        clear hle
        go_wp2_with fail
        with_reducible refine (nlives (HL.out.below KY.out) (HT.out.below KY.out) (HU.out.below KY.out)).mono ?_
        rintro e w9 ⟨rfl, K9⟩
        have KQ := hide (below_trans KY.out K9)
        clear K9
        go_wp2
        go_ret
        exact ⟨rfl, KQ.out⟩
      · clear HLAW HZ0 HZB
        go_wp2_with fail
        with_reducible refine (nlives (HL.out.below KY.out) (HT.out.below KY.out) (HU.out.below KY.out)).mono ?_
        rintro e w9 ⟨rfl, K9⟩
        have KQ := hide (below_trans KY.out K9)
        clear K9
        go_wp2
        go_ret
        exact ⟨rfl, KQ.out⟩
      · clear HLAW HZ0 HZB
        go_wp2_with fail
        with_reducible refine (nlives (HL.out.below KY.out) (HT.out.below KY.out) (HU.out.below KY.out)).mono ?_
        rintro e w9 ⟨rfl, K9⟩
        have KQ := hide (below_trans KY.out K9)
        clear K9
        go_wp2
        go_ret
        exact ⟨rfl, KQ.out⟩
  · skip
    rcases HLAW.out with ⟨rfl, rfl, hz1, rfl⟩ | ⟨rfl, rfl, hgt, -, rfl⟩ | ⟨rfl, rfl, hle, rfl⟩ | ⟨rfl, rfl, rfl, rfl⟩ | ⟨rfl, rfl, rfl, rfl⟩
    · exact absurd (HZB.out.trans (HZ0.out hz1)) (by simp)
    · clear HLAW HZ0 HZB
      go_wp2_with fail
      with_reducible refine (nnan_any (HL.out.below KY.out) x x0 x1).mono ?_
      rintro e w8 ⟨rfl, K8⟩
      rw [show decide (9218868437227405312 < x % 9223372036854775808) = true from decide_eq_true hgt]
      replace KY := hide (below_trans KY.out K8)
      clear K8
      clear hgt
      go_wp2_with fail
      with_reducible refine (nlives (HL.out.below KY.out) (HT.out.below KY.out) (HU.out.below KY.out)).mono ?_
      rintro e w9 ⟨rfl, K9⟩
      have KQ := hide (below_trans KY.out K9)
      clear K9
      go_wp2
      go_ret
      exact ⟨rfl, KQ.out⟩
    · clear HLAW HZ0 HZB
      go_wp2_with fail
      with_reducible refine (nnan_any (HL.out.below KY.out) x x0 x1).mono ?_
      rintro e w8 ⟨rfl, K8⟩
      rw [show decide (9218868437227405312 < x % 9223372036854775808) = false from decide_eq_false (by omega)]
      replace KY := hide (below_trans KY.out K8)
      clear K8
      clear hle
      go_wp2_with fail
      with_reducible refine (nlives (HL.out.below KY.out) (HT.out.below KY.out) (HU.out.below KY.out)).mono ?_
      rintro e w9 ⟨rfl, K9⟩
      have KQ := hide (below_trans KY.out K9)
      clear K9
      go_wp2
      go_ret
      exact ⟨rfl, KQ.out⟩
    · clear HLAW HZ0 HZB
      go_wp2_with fail
      with_reducible refine (nlives (HL.out.below KY.out) (HT.out.below KY.out) (HU.out.below KY.out)).mono ?_
      rintro e w9 ⟨rfl, K9⟩
      have KQ := hide (below_trans KY.out K9)
      clear K9
      go_wp2
      go_ret
      exact ⟨rfl, KQ.out⟩
    · clear HLAW HZ0 HZB
      go_wp2_with fail
      with_reducible refine (nlives (HL.out.below KY.out) (HT.out.below KY.out) (HU.out.below KY.out)).mono ?_
      rintro e w9 ⟨rfl, K9⟩
      have KQ := hide (below_trans KY.out K9)
      clear K9
      go_wp2
      go_ret
      exact ⟨rfl, KQ.out⟩

end Go.Proofs.YtbneipinenglgaaGreatDoor
