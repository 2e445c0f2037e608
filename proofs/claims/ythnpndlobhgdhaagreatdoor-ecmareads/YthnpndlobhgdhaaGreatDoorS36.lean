/- EnX -/
import Derived.Test.YthnpndlobhgdhaaGreatDoorS33
import Derived.Test.YthnpndlobhgdhaaGreatDoorS35
namespace Go.Proofs.YthnpndlobhgdhaaGreatDoor
open Go.RowKit
set_option linter.unusedVariables false
set_option linter.unusedSimpArgs false

/-- three cells that may be written -/
structure Cf3 (w : World) (b : Nat) (v0 v1 v2 : Value) : Prop where
  c0 : w.cell? ⟨b, 0, none⟩ = some v0
  f0 : w.frozen? ⟨b, 0, none⟩ = false
  c1 : w.cell? ⟨b, 1, none⟩ = some v1
  f1 : w.frozen? ⟨b, 1, none⟩ = false
  c2 : w.cell? ⟨b, 2, none⟩ = some v2
  f2 : w.frozen? ⟨b, 2, none⟩ = false
  lt : b < w.heap.size
theorem Cf3.below {w w' : World} {b : Nat} {v0 v1 v2 : Value} (h : Cf3 w b v0 v1 v2) (hb : Below w.heap.size w w') : Cf3 w' b v0 v1 v2 :=
  ⟨(hb.cell (p := ⟨b, 0, none⟩) h.lt).trans h.c0, (hb.frozen (p := ⟨b, 0, none⟩) h.lt).trans h.f0, (hb.cell (p := ⟨b, 1, none⟩) h.lt).trans h.c1, (hb.frozen (p := ⟨b, 1, none⟩) h.lt).trans h.f1, (hb.cell (p := ⟨b, 2, none⟩) h.lt).trans h.c2, (hb.frozen (p := ⟨b, 2, none⟩) h.lt).trans h.f2, Nat.lt_of_lt_of_le h.lt hb.size⟩
theorem cf3_new (w : World) (v0 v1 v2 : Value) (t : TypeId) : Cf3 (w.alloc (.cells #[v0, v1, v2] t)) w.heap.size v0 v1 v2 := by
  refine ⟨?_, ?_, ?_, ?_, ?_, ?_, by simp⟩ <;> first | (rw [World.cell?_alloc_at _ _ _ _ rfl]; rfl) | (rw [World.frozen?_alloc_at _ _ _ _ rfl])
theorem Cf3.set0 {w : World} {b : Nat} {v0 v1 v2 : Value} (h : Cf3 w b v0 v1 v2) (x : Value) : Cf3 (w.setCell ⟨b, 0, none⟩ x) b x v1 v2 := by
  refine ⟨?_, ?_, ?_, ?_, ?_, ?_, by simpa [World.setCell] using h.lt⟩
  · exact World.cell?_setCell_same _ _ _ h.c0
  · have := h.f0; simpa [go_sem] using this
  · rw [World.cell?_setCell_other _ _ _ _ (by intro e; injection e with _ e _; cases e)]; exact h.c1
  · have := h.f1; simpa [go_sem] using this
  · rw [World.cell?_setCell_other _ _ _ _ (by intro e; injection e with _ e _; cases e)]; exact h.c2
  · have := h.f2; simpa [go_sem] using this
theorem Cf3.set1 {w : World} {b : Nat} {v0 v1 v2 : Value} (h : Cf3 w b v0 v1 v2) (x : Value) : Cf3 (w.setCell ⟨b, 1, none⟩ x) b v0 x v2 := by
  refine ⟨?_, ?_, ?_, ?_, ?_, ?_, by simpa [World.setCell] using h.lt⟩
  · rw [World.cell?_setCell_other _ _ _ _ (by intro e; injection e with _ e _; cases e)]; exact h.c0
  · have := h.f0; simpa [go_sem] using this
  · exact World.cell?_setCell_same _ _ _ h.c1
  · have := h.f1; simpa [go_sem] using this
  · rw [World.cell?_setCell_other _ _ _ _ (by intro e; injection e with _ e _; cases e)]; exact h.c2
  · have := h.f2; simpa [go_sem] using this
theorem Cf3.set2 {w : World} {b : Nat} {v0 v1 v2 : Value} (h : Cf3 w b v0 v1 v2) (x : Value) : Cf3 (w.setCell ⟨b, 2, none⟩ x) b v0 v1 x := by
  refine ⟨?_, ?_, ?_, ?_, ?_, ?_, by simpa [World.setCell] using h.lt⟩
  · rw [World.cell?_setCell_other _ _ _ _ (by intro e; injection e with _ e _; cases e)]; exact h.c0
  · have := h.f0; simpa [go_sem] using this
  · rw [World.cell?_setCell_other _ _ _ _ (by intro e; injection e with _ e _; cases e)]; exact h.c1
  · have := h.f1; simpa [go_sem] using this
  · exact World.cell?_setCell_same _ _ _ h.c2
  · have := h.f2; simpa [go_sem] using this
theorem nat_mask8 (x n k : Nat) : x &&& ((2 ^ k - 1) * 2 ^ n) = x / 2 ^ n % 2 ^ k * 2 ^ n := by
  apply Nat.eq_of_testBit_eq
  intro i
  rw [Nat.testBit_and, Nat.testBit_mul_two_pow, Nat.testBit_mul_two_pow, Nat.testBit_two_pow_sub_one, Nat.testBit_mod_two_pow, Nat.testBit_div_two_pow]
  by_cases h : n ≤ i
  · rw [Nat.sub_add_cancel h]
    simp [h]
    rw [Bool.and_comm]
  · simp [h]
theorem nat_mask08 (x k : Nat) : x &&& (2 ^ k - 1) = x % 2 ^ k := by
  simpa only [Nat.pow_zero, Nat.mul_one, Nat.div_one] using nat_mask8 x 0 k
theorem and_size8 (x : Int) (h0 : 0 ≤ x) (h1 : x < 18446744073709551616) : bits .and .u64 x 9223372036854775807 = x % 9223372036854775808 := by
  rw [u64_and x 9223372036854775807 h0 (by omega) (by decide) (by decide)]
  have := nat_mask08 x.toNat 63
  rw [show (9223372036854775807 : Int).toNat = 2 ^ 63 - 1 from rfl, this]
  omega
theorem isinf8 {w : World} {x : Int} (h0 : 0 ≤ x) (h1 : x < 18446744073709551616) : Calls Tryz.prog 25 #[.int .u64 x] w fun e w' => e = .returned (.bool (decide (x % 9223372036854775808 = 9218868437227405312))) ∧ w' = w := by
  have e := and_size8 x h0 h1
  go_enter Tryz.func25, Tryz.ntmps25
  by_cases c : x % 9223372036854775808 = 9218868437227405312
  · have c1 : (x % 9223372036854775808 == 9218868437227405312) = true := by simp [c]
    go_wp2
    go_ret
    exact ⟨by simp [c], rfl⟩
  · have c1 : (x % 9223372036854775808 == 9218868437227405312) = false := by simp [c]
    go_wp2
    go_ret
    exact ⟨by simp [c], rfl⟩

/-- what the document's Read answers -/
def RrF (es : List Int) (e : Ending) : Prop :=
  (∃ k : Nat, e = .returned (.tuple #[.int .u64 0, .agg #[.int .i64 3, .int .i64 k, .string ⟨#[]⟩]]) ∧ (((scG es 0 0).2 = false ∧ k = (scG es 0 0).1) ∨ ((scG es 0 0).2 = true ∧ k = 0 ∧ DV 4503599627370496 (-1074) 9218868437227405312 (dg (voDs es)) (voPt es - (voDs es).length) 9218868437227405312))) ∨
  ((scG es 0 0).2 = true ∧ ∃ r, 0 ≤ r ∧ r < 9218868437227405312 ∧ DV 4503599627370496 (-1074) 9218868437227405312 (dg (voDs es)) (voPt es - (voDs es).length) r ∧ e = .returned (.tuple #[.int .u64 (r + b2i (headB es 45) * 9223372036854775808), .agg #[.int .i64 0, .int .i64 0, .string ⟨#[]⟩]]))
def RrW (es : List Int) (w : World) (e : Ending) (w' : World) : Prop := RrF es e ∧ Below w.heap.size w w'
theorem sp_dv {es ds ps : List Int} {k wl : Nat} {ng less : Bool} {P r : Int} (h : Sp8 es k ng ds wl less ps) (hk : k = es.length) (hl : es.length ≤ 1000000000) (hP : (if less then -(pwF 1099511627776 ps 0) else pwF 1099511627776 ps 0) = P) (hv : DV 4503599627370496 (-1074) 9218868437227405312 (dg ds) (wl + P - ds.length) r) :
    (scG es 0 0).2 = true ∧ headB es 45 = ng ∧ DV 4503599627370496 (-1074) 9218868437227405312 (dg (voDs es)) (voPt es - (voDs es).length) r := by
  obtain ⟨h1, h2, h3, h4, h5⟩ := h.full hk
  refine ⟨h1, h2, ?_⟩
  rw [← hP] at hv
  have := cap_to (n := es.length) h.dd h.pd h.dl h.wl' hl hv
  rw [h3]
  unfold voPt
  rw [h4, h5]
  exact this

set_option maxRecDepth 100000 in
set_option maxHeartbeats 8000000 in
theorem rread8f {w : World} {s : ByteArray} {es : List Int} (hb : Byt es) (hs : s = strOfNums es) (hl : es.length ≤ 1000000000) :
    Calls Tryz.prog 27 #[.string s] w fun e w' => RrW es w e w' := by
  have hsz : s.size = es.length := by rw [hs, strOfNums_size]
  have HSP := hide (fun u : World => split8_any (w := u) hb hs (by omega))
  obtain ⟨N, hN⟩ : ∃ N, es.length = N := ⟨_, rfl⟩
  have HN := hide hN
  rw [hN] at hsz hl
  have D0 := cf3_new w (.int .i64 0) (.int .i64 0) (.string ⟨#[]⟩) 56
  have KK := bel_new w (.cells #[.int .i64 0, .int .i64 0, .string ⟨#[]⟩] 56)
  obtain ⟨b0, hb0⟩ : ∃ b, w.heap.size = b := ⟨_, rfl⟩
  rw [hb0] at D0
  obtain ⟨w1, hw1⟩ : ∃ q, w.alloc (.cells #[.int .i64 0, .int .i64 0, .string ⟨#[]⟩] 56) = q := ⟨_, rfl⟩
  rw [hw1] at D0 KK
  have H0 := hide D0
  have HK := hide KK
  have HW := hide (And.intro hb0 hw1)
  have BW : w.heap.size ≤ b0 := Nat.le_of_eq hb0
  clear D0 KK hb0 hw1 hb hs hN
  go_enter Tryz.func27, Tryz.ntmps27
  go_upto_region 1 with fail
  simp only [HW.out.1, HW.out.2]
  clear HW
  go_wp2_with fail
  with_reducible refine (HSP.out _).mono ?_
  rintro e w2 ⟨hq, K⟩
  replace H0 := hide (H0.out.below K)
  replace HK := hide (below_trans HK.out K)
  clear K HSP
  rcases hq with ⟨k, rfl, hk, hsc⟩ | ⟨k, ng, ds, wl, less, ps, rfl, sp⟩
  ·
    have HSC := hide hsc
    clear hsc hk
    have K := bel_new w2 (.cells #[.bool false, .string ⟨#[]⟩, .int .i64 0, .bool false, .string ⟨#[]⟩] 92)
    have H5 := hide (cl5_new w2 (.bool false) (.string ⟨#[]⟩) (.int .i64 0) (.bool false) (.string ⟨#[]⟩) 92)
    replace H0 := hide (H0.out.below K)
    replace HK := hide (below_trans HK.out K)
    clear K
    go_upto_region 2 with fail
    obtain ⟨w3, hw3⟩ : ∃ q, w2.alloc (.cells #[.bool false, .string ⟨#[]⟩, .int .i64 0, .bool false, .string ⟨#[]⟩] 92) = q := ⟨_, rfl⟩
    obtain ⟨b5, hb5⟩ : ∃ q, w2.heap.size = q := ⟨_, rfl⟩
    rw [hw3] at H5 H0 HK ⊢
    rw [hb5] at H5
    (try rw [hb5])
    clear hw3 hb5
    go_upto_region 3 with fail
    have m0 := H0.out.c0
    have n0 := H0.out.f0
    have m1 := H0.out.c1
    have n1 := H0.out.f1
    have m2 := H0.out.c2
    have n2 := H0.out.f2
    repeat go_step
    have PDD := (((H0.out).set0 (.int .i64 3)).set1 (.int .i64 k)).set2 (.string ⟨#[]⟩)
    have KF := (((HK.out).setCell (p := ⟨b0, 0, none⟩) BW (.int .i64 3)).setCell (p := ⟨b0, 1, none⟩) BW (.int .i64 k)).setCell (p := ⟨b0, 2, none⟩) BW (.string ⟨#[]⟩)
    clear H0 HK m0 m1 m2 n0 n1 n2
    generalize (((w3).setCell ⟨b0, 0, none⟩ (.int .i64 3)).setCell ⟨b0, 1, none⟩ (.int .i64 k)).setCell ⟨b0, 2, none⟩ (.string ⟨#[]⟩) = wz at *
    (try simp only [Exit.inBlock, Exit.then])
    exact bodyPost_ret (v := .tuple #[.int .u64 (0), .agg #[.int .i64 3, .int .i64 k, .string ⟨#[]⟩]]) (by simp [results, Tryz.results27, go_sem, PDD.c0, PDD.c1, PDD.c2]) rfl (⟨Or.inl ⟨k, rfl, Or.inl ⟨by rw [HSC.out], by rw [HSC.out]⟩⟩, KF⟩)
  ·
    have HS8 := hide sp
    have kn : k ≤ N := by have := sp.le; have := HN.out; omega
    clear sp
    have K := bel_new w2 (.cells #[.bool ng, .string (strOfNums ds), .int .i64 wl, .bool less, .string (strOfNums ps)] 92)
    have H5 := hide (cl5_new w2 (.bool ng) (.string (strOfNums ds)) (.int .i64 wl) (.bool less) (.string (strOfNums ps)) 92)
    replace H0 := hide (H0.out.below K)
    replace HK := hide (below_trans HK.out K)
    clear K
    go_upto_region 2 with fail
    obtain ⟨w3, hw3⟩ : ∃ q, w2.alloc (.cells #[.bool ng, .string (strOfNums ds), .int .i64 wl, .bool less, .string (strOfNums ps)] 92) = q := ⟨_, rfl⟩
    obtain ⟨b5, hb5⟩ : ∃ q, w2.heap.size = q := ⟨_, rfl⟩
    rw [hw3] at H5 H0 HK ⊢
    rw [hb5] at H5
    (try rw [hb5])
    clear hw3 hb5
    by_cases kN : k < N
    ·
      have q4 : (k : Int) < (N : Int) := by omega
      have HSC := hide (HS8.out.short (by have := HN.out; omega))
      go_upto_region 3 with fail
      have m0 := H0.out.c0
      have n0 := H0.out.f0
      have m1 := H0.out.c1
      have n1 := H0.out.f1
      have m2 := H0.out.c2
      have n2 := H0.out.f2
      repeat go_step
      have PDD := (((H0.out).set0 (.int .i64 3)).set1 (.int .i64 k)).set2 (.string ⟨#[]⟩)
      have KF := (((HK.out).setCell (p := ⟨b0, 0, none⟩) BW (.int .i64 3)).setCell (p := ⟨b0, 1, none⟩) BW (.int .i64 k)).setCell (p := ⟨b0, 2, none⟩) BW (.string ⟨#[]⟩)
      clear H0 HK m0 m1 m2 n0 n1 n2
      generalize (((w3).setCell ⟨b0, 0, none⟩ (.int .i64 3)).setCell ⟨b0, 1, none⟩ (.int .i64 k)).setCell ⟨b0, 2, none⟩ (.string ⟨#[]⟩) = wz at *
      (try simp only [Exit.inBlock, Exit.then])
      exact bodyPost_ret (v := .tuple #[.int .u64 (0), .agg #[.int .i64 3, .int .i64 k, .string ⟨#[]⟩]]) (by simp [results, Tryz.results27, go_sem, PDD.c0, PDD.c1, PDD.c2]) rfl (⟨Or.inl ⟨k, rfl, Or.inl ⟨by rw [HSC.out], by rw [HSC.out]⟩⟩, KF⟩)
    ·
      have q4 : ¬ (k : Int) < (N : Int) := by omega
      obtain ⟨P, hP⟩ : ∃ P, (if less then -(pwF 1099511627776 ps 0) else pwF 1099511627776 ps 0) = P := ⟨_, rfl⟩
      have hlen := HN.out
      have HBT := hide (fun u : World => bits8_any (w := u) (ng := ng) (ds := ds) (ps := ps) (wl := wl) (less := less) HS8.out.dd HS8.out.pd rfl rfl (by have := HS8.out.dl; omega) (by have := HS8.out.pl; omega) (by have := HS8.out.wl'; omega) hP)
      have HDV := hide (fun r (h : DV 4503599627370496 (-1074) 9218868437227405312 (dg ds) (wl + P - ds.length) r) => sp_dv HS8.out (by omega) (by omega) hP h)
      obtain ⟨td, htd⟩ : ∃ t, strOfNums ds = t := ⟨_, rfl⟩
      obtain ⟨tp, htp⟩ : ∃ t, strOfNums ps = t := ⟨_, rfl⟩
      rw [htd, htp] at H5 HBT
      (try rw [htd, htp])
      clear hP htd htp hlen HS8
      have c0 := H5.out.c0
      have c1 := H5.out.c1
      have c2 := H5.out.c2
      have c3 := H5.out.c3
      have c4 := H5.out.c4
      go_wp2_with fail
      with_reducible refine (HBT.out _).mono ?_
      rintro e w4 ⟨r, rfl, hv, K⟩
      obtain ⟨g1, g2, g3⟩ := HDV.out r hv
      have rr := dv_rng g3
      have HG := hide (And.intro g1 (And.intro g2 g3))
      replace H0 := hide (H0.out.below K)
      replace HK := hide (below_trans HK.out K)
      clear hv K HBT HDV g1 g2 g3 c0 c1 c2 c3 c4 H5 q4
      obtain ⟨y, hy⟩ : ∃ y, r + b2i ng * 9223372036854775808 = y := ⟨_, rfl⟩
      have yb : 0 ≤ y ∧ y < 18446744073709551616 ∧ y % 9223372036854775808 = r := by
        rw [← hy]
        cases ng
        · rw [show b2i false = 0 from rfl]; omega
        · rw [show b2i true = 1 from rfl]; omega
      have HY := hide hy
      rw [hy]
      clear hy
      go_wp2_with fail
      with_reducible refine (isinf8 yb.1 yb.2.1).mono ?_
      rintro e w5 ⟨rfl, rfl⟩
      rw [yb.2.2]
      by_cases ri : r = 9218868437227405312
      ·
        rw [decide_eq_true ri]
        go_upto_region 6 with fail
        have m0 := H0.out.c0
        have n0 := H0.out.f0
        have m1 := H0.out.c1
        have n1 := H0.out.f1
        have m2 := H0.out.c2
        have n2 := H0.out.f2
        repeat go_step
        have PDD := (((H0.out).set0 (.int .i64 3)).set1 (.int .i64 0)).set2 (.string ⟨#[]⟩)
        have KF := (((HK.out).setCell (p := ⟨b0, 0, none⟩) BW (.int .i64 3)).setCell (p := ⟨b0, 1, none⟩) BW (.int .i64 0)).setCell (p := ⟨b0, 2, none⟩) BW (.string ⟨#[]⟩)
        clear H0 HK m0 m1 m2 n0 n1 n2
        generalize (((w5).setCell ⟨b0, 0, none⟩ (.int .i64 3)).setCell ⟨b0, 1, none⟩ (.int .i64 0)).setCell ⟨b0, 2, none⟩ (.string ⟨#[]⟩) = wz at *
        (try simp only [Exit.inBlock, Exit.then])
        exact bodyPost_ret (v := .tuple #[.int .u64 (0), .agg #[.int .i64 3, .int .i64 0, .string ⟨#[]⟩]]) (by simp [results, Tryz.results27, go_sem, PDD.c0, PDD.c1, PDD.c2]) rfl (⟨Or.inl ⟨0, rfl, Or.inr ⟨HG.out.1, rfl, by have := HG.out.2.2; rwa [ri] at this⟩⟩, KF⟩)
      ·
        rw [decide_eq_false ri]
        go_upto_region 7 with fail
        have m0 := H0.out.c0
        have n0 := H0.out.f0
        have m1 := H0.out.c1
        have n1 := H0.out.f1
        have m2 := H0.out.c2
        have n2 := H0.out.f2
        repeat go_step
        have PDD := (((H0.out).set0 (.int .i64 0)).set1 (.int .i64 0)).set2 (.string ⟨#[]⟩)
        have KF := (((HK.out).setCell (p := ⟨b0, 0, none⟩) BW (.int .i64 0)).setCell (p := ⟨b0, 1, none⟩) BW (.int .i64 0)).setCell (p := ⟨b0, 2, none⟩) BW (.string ⟨#[]⟩)
        clear H0 HK m0 m1 m2 n0 n1 n2
        generalize (((w5).setCell ⟨b0, 0, none⟩ (.int .i64 0)).setCell ⟨b0, 1, none⟩ (.int .i64 0)).setCell ⟨b0, 2, none⟩ (.string ⟨#[]⟩) = wz at *
        (try simp only [Exit.inBlock, Exit.then])
        exact bodyPost_ret (v := .tuple #[.int .u64 (y), .agg #[.int .i64 0, .int .i64 0, .string ⟨#[]⟩]]) (by simp [results, Tryz.results27, go_sem, PDD.c0, PDD.c1, PDD.c2]) rfl (⟨Or.inr ⟨HG.out.1, r, rr.1, by omega, HG.out.2.2, by rw [HG.out.2.1, HY.out]⟩, KF⟩)

end Go.Proofs.YthnpndlobhgdhaaGreatDoor
