/- whole: Cmp, From, Int64, Uint64 -/
import Derived.Test.YtmpdkeafbjibpaaDoorWholeB
import Derived.Test.YtmpdkeafbjibpaaDoorCmp
import Derived.Test.YtmpdkeafbjibpaaDoorUint
namespace Go.Proofs.YtmpdkeafbjibpaaDoor
open Go.RowKit

set_option maxHeartbeats 1000000 in
theorem compare_sign (x y : Int) (w : World) :
    Calls Tryd.prog 32 #[.int .i8 x, .int .i8 y] w fun e w' => e = .returned (.int .i64 (sgn x y)) ∧ w' = w := by
  have hx : (x != x) = false := by simp
  have hy : (y != y) = false := by simp
  rcases Int.lt_trichotomy x y with h | h | h
  · rw [sgn_lt h]
    go_enter Tryd.func32, Tryd.ntmps32
    go_wp2
    go_ret
    exact ⟨rfl, rfl⟩
  · subst h
    rw [sgn_eq rfl]
    go_enter Tryd.func32, Tryd.ntmps32
    go_wp2
    go_ret
    exact ⟨rfl, rfl⟩
  · rw [sgn_gt h]
    have h' : ¬ x < y := by omega
    go_enter Tryd.func32, Tryd.ntmps32
    go_wp2
    go_ret
    exact ⟨rfl, rfl⟩

theorem sgn_cases (x y : Int) : (x < y ∧ sgn x y = -1) ∨ (x = y ∧ sgn x y = 0) ∨ (y < x ∧ sgn x y = 1) := by
  rcases Int.lt_trichotomy x y with h | h | h
  · exact Or.inl ⟨h, sgn_lt h⟩
  · exact Or.inr (Or.inl ⟨h, sgn_eq h⟩)
  · exact Or.inr (Or.inr ⟨h, sgn_gt h⟩)
theorem sgn_bound (x y : Int) : -1 ≤ sgn x y ∧ sgn x y ≤ 1 := by rcases sgn_cases x y with h | h | h <;> omega
theorem sgn_sign {n m s t a b : Int} (hn : Sg n s a) (hm : Sg m t b) (h : s ≠ t) : sgn s t = sgn n m := by
  unfold Sg at hn hm
  rcases sgn_cases s t with h1 | h1 | h1 <;> rcases sgn_cases n m with h2 | h2 | h2 <;> omega
theorem sgn_size {n m s a b : Int} (hn : Sg n s a) (hm : Sg m s b) : s * sgn a b = sgn n m := by
  unfold Sg at hn hm
  rcases hn with ⟨h1, rfl, h3⟩ | ⟨h1, rfl, h3⟩ | ⟨h1, rfl, h3⟩ <;> rcases sgn_cases a b with h4 | h4 | h4 <;> rcases sgn_cases n m with h2 | h2 | h2 <;> rw [h4.2, h2.2] <;> first | rfl | omega

set_option maxRecDepth 20000 in
set_option maxHeartbeats 4000000 in
theorem wcmp_any {w : World} {v1 : Value} {n1 : Int} {k1 : Nat} {v2 : Value} {n2 : Int} {k2 : Nat} (h1 : WArg w v1 n1 k1) (h2 : WArg w v2 n2 k2) (j1 : k1 ≤ 1099511627776) (j2 : k2 ≤ 1099511627776) :
    Calls Tryd.prog 16 #[v1, v2] w fun e w' => e = .returned (.int .i64 (sgn n1 n2)) ∧ Below w.heap.size w w' := by
  obtain ⟨neg1, m1, a1, rfl, ha, hn1⟩ := h1
  have A1 := ha
  obtain ⟨zs1, ⟨ao1, cap1, rfl, -⟩, -⟩ := ha
  have N1 := A1.nonneg
  have hs1 := sg_self hn1 N1
  have Hn1 := hide hn1
  clear hn1
  obtain ⟨neg2, m2, a2, rfl, ha, hn2⟩ := h2
  have A2 := ha
  obtain ⟨zs2, ⟨ao2, cap2, rfl, -⟩, -⟩ := ha
  have N2 := A2.nonneg
  have hs2 := sg_self hn2 N2
  have Hn2 := hide hn2
  clear hn2
  have K1 : Below w.heap.size w ((w.alloc (.cells #[.bool neg1, .slice ao1 zs1.length cap1] 25)).alloc (.cells #[.bool neg2, .slice ao2 zs2.length cap2] 25)) := below_trans (bel_alloc _ _) (bel_alloc _ _)
  have z1 : (w.alloc (.cells #[.bool neg1, .slice ao1 zs1.length cap1] 25)).heap.size = w.heap.size + 1 := by simp
  have C1 := (cell2_new w (.bool neg1) (.slice ao1 zs1.length cap1) 25).alloc (.cells #[.bool neg2, .slice ao2 zs2.length cap2] 25)
  have C2 := cell2_new (w.alloc (.cells #[.bool neg1, .slice ao1 zs1.length cap1] 25)) (.bool neg2) (.slice ao2 zs2.length cap2) 25
  rw [z1] at C2
  replace A1 := A1.below K1
  replace A2 := A2.below K1
  have HC1 := hide C1
  have HC2 := hide C2
  clear C1 C2 z1
  have l1 := hs1.bound.1
  have u1 := hs1.bound.2
  go_enter Tryd.func16, Tryd.ntmps16
  go_wp2_with fail
  with_reducible refine (sign_any A1 Hn1.out j1).mono ?_
  rintro e w2 ⟨rfl, hb2⟩
  have K := hb2
  have p0 := (HC2.out.below K).c0
  have p1 := (HC2.out.below K).c1
  go_wp2_with fail
  with_reducible refine (sign_any (A2.below K) Hn2.out j2).mono ?_
  rintro e w3 ⟨rfl, hb3⟩
  replace K := below_trans K hb3
  clear hb2 hb3 p0 p1
  go_wp2_with fail
  with_reducible refine (compare_sign _ _ _).mono ?_
  rintro e w4 ⟨rfl, rfl⟩
  by_cases hst : sgn n1 0 = sgn n2 0
  · have q0 : sgn (sgn n1 0) (sgn n2 0) = 0 := sgn_eq hst
    rw [← hst] at hs2
    have hval := hide (sgn_size hs1 hs2)
    have hbd : -1 ≤ sgn n1 0 * sgn a1 a2 ∧ sgn n1 0 * sgn a1 a2 ≤ 1 := by rw [hval.out]; exact sgn_bound _ _
    have p0 := (HC1.out.below K).c1
    have p1 := (HC2.out.below K).c1
    clear hs1 hs2
    have Hst := hide hst
    clear hst
    go_wp2_with fail
    with_reducible refine (cmp_any (A1.below K) (A2.below K) j1 j2).mono ?_
    rintro e w5 ⟨rfl, hb5⟩
    have b1 := hbd.1
    have b2 := hbd.2
    clear hbd
    go_wp2
    go_ret
    refine ⟨?_, K1.trans ((below_trans K hb5).mono K1.size)⟩
    rw [← hval.out]
    rfl
  · have q0 : ¬ sgn (sgn n1 0) (sgn n2 0) = 0 := by
      rcases sgn_cases (sgn n1 0) (sgn n2 0) with h | h | h <;> omega
    have hval := hide (sgn_sign hs1 hs2 hst)
    clear hs1 hs2 hst
    have q1 : (sgn (sgn n1 0) (sgn n2 0) != 0) = true := by simp [q0]
    go_wp2
    go_ret
    refine ⟨?_, K1.trans (K.mono K1.size)⟩
    rw [← hval.out]
    rfl

set_option maxRecDepth 20000 in
set_option maxHeartbeats 4000000 in
theorem wfrom_any {w : World} {n : Int} (h0 : -9223372036854775808 ≤ n) (h1 : n ≤ 9223372036854775807) :
    Calls Tryd.prog 14 #[.int .i64 n] w fun e w' => ∃ v, e = .returned v ∧ WNum w.heap.size w' v n 2 ∧ Below w.heap.size w w' := by
  have K1 := bel_alloc w (.cells #[.bool false, .slice none 0 0] 25)
  have D1 := cell2_new w (.bool false) (.slice none 0 0) 25
  have HD := hide D1
  clear D1
  have lt1 := HD.out.lt
  by_cases hn : n < 0
  · have e1 : IntKind.u64.wrap (wrap64 (-n)) = -n := by
      simp only [wrap64, IntKind.wrap, IntKind.bits, IntKind.signed]; simp; omega
    have He1 := hide e1
    clear e1
    go_enter Tryd.func14, Tryd.ntmps14
    go_wp2_with fail
    rw [He1.out]
    with_reducible refine (from_any (-n) (by omega) (by omega)).mono ?_
    rintro e w2 ⟨vn, rfl, hN, hb2⟩
    go_wp2_with fail
    with_reducible refine (number_any hN (by omega)).mono ?_
    rintro e w3 ⟨vr, rfl, hR, hb3⟩
    rw [if_pos rfl, Int.neg_neg] at hR
    have K := below_trans hb2 hb3
    clear hb2 hb3 hN
    obtain ⟨ng, ro, rl, rfl⟩ := hR.told
    have d0 := (HD.out.below K).c0
    have d1 := (HD.out.below K).c1
    have g0 := (HD.out.below K).f0
    have g1 := (HD.out.below K).f1
    go_wp2
    have PD := (HD.out.below K).put (.bool ng) (.slice ro rl rl)
    have KB := below_put2 (b := w.heap.size) (K1.trans (K.mono (by have := K1.size; omega))) (by omega) (.bool ng) (.slice ro rl rl)
    have WN := ((hR.put lt1 0 (.bool ng)).put lt1 1 (.slice ro rl rl)).low (B' := w.heap.size) (by omega)
    clear d0 d1 g0 g1 hR K K1 HD
    generalize (w3.setCell ⟨w.heap.size, 0, none⟩ (.bool ng)).setCell ⟨w.heap.size, 1, none⟩ (.slice ro rl rl) = w9 at *
    (try simp only [Exit.inBlock, Exit.then])
    exact bodyPost_ret (v := .agg #[.bool ng, .slice ro rl rl]) (by simp [results, Tryd.results14, go_sem, PD.c0, PD.c1]) rfl ⟨_, rfl, WN, KB⟩
  · go_enter Tryd.func14, Tryd.ntmps14
    go_wp2_with fail
    with_reducible refine (from_any n (by omega) (by omega)).mono ?_
    rintro e w2 ⟨vn, rfl, hN, hb2⟩
    go_wp2_with fail
    with_reducible refine (number_any hN (by omega)).mono ?_
    rintro e w3 ⟨vr, rfl, hR, hb3⟩
    rw [if_neg (by decide)] at hR
    have K := below_trans hb2 hb3
    clear hb2 hb3 hN
    obtain ⟨ng, ro, rl, rfl⟩ := hR.told
    have d0 := (HD.out.below K).c0
    have d1 := (HD.out.below K).c1
    have g0 := (HD.out.below K).f0
    have g1 := (HD.out.below K).f1
    go_wp2
    have PD := (HD.out.below K).put (.bool ng) (.slice ro rl rl)
    have KB := below_put2 (b := w.heap.size) (K1.trans (K.mono (by have := K1.size; omega))) (by omega) (.bool ng) (.slice ro rl rl)
    have WN := ((hR.put lt1 0 (.bool ng)).put lt1 1 (.slice ro rl rl)).low (B' := w.heap.size) (by omega)
    clear d0 d1 g0 g1 hR K K1 HD
    generalize (w3.setCell ⟨w.heap.size, 0, none⟩ (.bool ng)).setCell ⟨w.heap.size, 1, none⟩ (.slice ro rl rl) = w9 at *
    (try simp only [Exit.inBlock, Exit.then])
    exact bodyPost_ret (v := .agg #[.bool ng, .slice ro rl rl]) (by simp [results, Tryd.results14, go_sem, PD.c0, PD.c1]) rfl ⟨_, rfl, WN, KB⟩

theorem sg_lt {n s a : Int} (h : Sg n s a) : ((s == -1) : Bool) = decide (n < 0) := by
  unfold Sg at h
  by_cases h0 : n < 0
  · have : s = -1 := by omega
    simp [this, h0]
  · have : ¬ s = -1 := by omega
    simp [this, h0]

set_option maxRecDepth 20000 in
set_option maxHeartbeats 4000000 in
theorem wint64_any {w : World} {v1 : Value} {n1 : Int} {k1 : Nat} (h1 : WArg w v1 n1 k1) (j1 : k1 ≤ 1099511627776) :
    Calls Tryd.prog 17 #[v1] w fun e w' => (∃ x b, e = .returned (.tuple #[.int .i64 x, .bool b]) ∧ ((b = true ∧ x = n1 ∧ -9223372036854775808 ≤ n1 ∧ n1 ≤ 9223372036854775807) ∨ (b = false ∧ x = 0 ∧ ¬ (-9223372036854775808 ≤ n1 ∧ n1 ≤ 9223372036854775807)))) ∧ Below w.heap.size w w' := by
  obtain ⟨neg1, m1, a1, rfl, ha, hn1⟩ := h1
  have A1 := ha
  obtain ⟨zs1, ⟨ao1, cap1, rfl, -⟩, -⟩ := ha
  have N1 := A1.nonneg
  have hs1 := sg_self hn1 N1
  have hsl := sg_lt hs1
  have Hn1 := hide hn1
  clear hn1
  have K1 : Below w.heap.size w (w.alloc (.cells #[.bool neg1, .slice ao1 zs1.length cap1] 25)) := bel_alloc _ _
  replace A1 := A1.below K1
  by_cases hbig : a1 < 18446744073709551616
  · go_enter Tryd.func17, Tryd.ntmps17
    go_wp2_with fail
    with_reducible refine (uint_yes A1 hbig).mono ?_
    rintro e w2 ⟨rfl, rfl⟩
    go_wp2_with fail
    with_reducible refine (sign_any A1 Hn1.out j1).mono ?_
    rintro e w3 ⟨rfl, hb3⟩
    have KB := K1.trans (hb3.mono K1.size)
    clear A1 hb3
    unfold Sg at hs1
    by_cases hneg : n1 < 0
    · rw [decide_eq_true hneg] at hsl
      have ea : a1 = -n1 := by omega
      have ht := hide hneg
      clear hs1
      subst ea
      by_cases hx : -9223372036854775808 ≤ n1
      · go_wp2
        go_ret2
        refine ⟨⟨_, _, rfl, Or.inl ⟨rfl, ?_, hx, by omega⟩⟩, KB⟩
        show wrap64 (IntKind.u64.wrap n1) = n1
        simp only [wrap64, IntKind.wrap, IntKind.bits, IntKind.signed]; simp; omega
      · go_wp2
        go_ret2
        exact ⟨⟨_, _, rfl, Or.inr ⟨rfl, rfl, by omega⟩⟩, KB⟩
    · rw [decide_eq_false hneg] at hsl
      have ea : a1 = n1 := by omega
      clear hs1
      subst ea
      by_cases hx : a1 ≤ 9223372036854775807
      · go_wp2
        go_ret2
        exact ⟨⟨_, _, rfl, Or.inl ⟨rfl, rfl, by omega, hx⟩⟩, KB⟩
      · go_wp2
        go_ret2
        exact ⟨⟨_, _, rfl, Or.inr ⟨rfl, rfl, by omega⟩⟩, KB⟩
  · go_enter Tryd.func17, Tryd.ntmps17
    go_wp2_with fail
    with_reducible refine (uint_no A1 (by omega)).mono ?_
    rintro e w2 ⟨rfl, rfl⟩
    unfold Sg at hs1
    go_wp2
    go_ret2
    exact ⟨⟨_, _, rfl, Or.inr ⟨rfl, rfl, by omega⟩⟩, K1⟩

set_option maxRecDepth 20000 in
set_option maxHeartbeats 4000000 in
theorem wuint64_any {w : World} {v1 : Value} {n1 : Int} {k1 : Nat} (h1 : WArg w v1 n1 k1) (j1 : k1 ≤ 1099511627776) :
    Calls Tryd.prog 18 #[v1] w fun e w' => (∃ x b, e = .returned (.tuple #[.int .u64 x, .bool b]) ∧ ((b = true ∧ x = n1 ∧ 0 ≤ n1 ∧ n1 ≤ 18446744073709551615) ∨ (b = false ∧ x = 0 ∧ ¬ (0 ≤ n1 ∧ n1 ≤ 18446744073709551615)))) ∧ Below w.heap.size w w' := by
  obtain ⟨neg1, m1, a1, rfl, ha, hn1⟩ := h1
  have A1 := ha
  obtain ⟨zs1, ⟨ao1, cap1, rfl, -⟩, -⟩ := ha
  have N1 := A1.nonneg
  have hs1 := sg_self hn1 N1
  have hsl := sg_lt hs1
  have Hn1 := hide hn1
  clear hn1
  have K1 : Below w.heap.size w (w.alloc (.cells #[.bool neg1, .slice ao1 zs1.length cap1] 25)) := bel_alloc _ _
  have C1 := cell2_new w (.bool neg1) (.slice ao1 zs1.length cap1) 25
  have HC1 := hide C1
  clear C1
  replace A1 := A1.below K1
  go_enter Tryd.func18, Tryd.ntmps18
  go_wp2_with fail
  with_reducible refine (sign_any A1 Hn1.out j1).mono ?_
  rintro e w3 ⟨rfl, hb3⟩
  have KB := K1.trans (hb3.mono K1.size)
  have p1 := (HC1.out.below hb3).c1
  unfold Sg at hs1
  by_cases hneg : n1 < 0
  · rw [decide_eq_true hneg] at hsl
    clear hs1
    go_wp2
    go_ret2
    exact ⟨⟨_, _, rfl, Or.inr ⟨rfl, rfl, by omega⟩⟩, KB⟩
  · rw [decide_eq_false hneg] at hsl
    have ea : a1 = n1 := by omega
    clear hs1
    subst ea
    by_cases hbig : a1 < 18446744073709551616
    · go_wp2_with fail
      with_reducible refine (uint_yes (A1.below hb3) hbig).mono ?_
      rintro e w4 ⟨rfl, rfl⟩
      go_wp2
      go_ret2
      exact ⟨⟨_, _, rfl, Or.inl ⟨rfl, rfl, by omega, by omega⟩⟩, KB⟩
    · go_wp2_with fail
      with_reducible refine (uint_no (A1.below hb3) (by omega)).mono ?_
      rintro e w4 ⟨rfl, rfl⟩
      go_wp2
      go_ret2
      exact ⟨⟨_, _, rfl, Or.inr ⟨rfl, rfl, by omega⟩⟩, KB⟩

end Go.Proofs.YtmpdkeafbjibpaaDoor
