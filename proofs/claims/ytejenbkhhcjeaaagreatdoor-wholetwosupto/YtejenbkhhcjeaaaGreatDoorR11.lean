/- WRef2 -/
import Derived.Test.YtejenbkhhcjeaaaGreatDoorR08
import Derived.Test.YtejenbkhhcjeaaaGreatDoorR10
namespace Go.Proofs.YtejenbkhhcjeaaaGreatDoor
open Go.RowKit

theorem warg_mk {w : World} {m : Value} {z : Bool} {a : Int} {k : Nat} (h : Arg w m a k) : WArg w (.agg #[.bool z, m]) (wn z a) k := ⟨_, _, _, rfl, h, rfl⟩
theorem num_told {B : Nat} {w : World} {v : Value} {n : Int} {k : Nat} (h : Num B w v n k) : ∃ ao l, v = .slice ao l l := by
  obtain ⟨zs, ⟨ao, rfl, _⟩, _⟩ := h
  exact ⟨ao, _, rfl⟩
theorem r3below_z {w : World} {v1 : Value} {n1 : Int} {k1 : Nat} (h1 : WArg w v1 n1 k1) (j1 : k1 ≤ 1099511627776) :
    Calls Tryz.prog 32 #[v1] w fun e w' => ∃ z, e = .returned (.bool z) ∧ Hid (z = decide (n1 < 0)) ∧ Below w.heap.size w w' := by
  refine (r3below_any h1 j1).mono ?_
  rintro e w' ⟨rfl, hb⟩
  exact ⟨_, rfl, hide rfl, hb⟩
theorem wn_mul {n m s t a b : Int} (h : Sg n s a) (k : Sg m t b) : wn (decide (n < 0) != decide (m < 0)) (a * b) = n * m := by
  unfold Sg at h k
  have ea : a = if n < 0 then -n else n := by split <;> omega
  have eb : b = if m < 0 then -m else m := by split <;> omega
  subst ea
  subst eb
  by_cases h0 : n < 0 <;> by_cases k0 : m < 0 <;> simp [wn, h0, k0, Int.neg_mul, Int.mul_neg]
theorem wn_same {n m s t a b : Int} (h : Sg n s a) (k : Sg m t b) (he : decide (n < 0) = decide (m < 0)) : wn (decide (n < 0)) (a + b) = n + m := by
  unfold Sg at h k
  by_cases h0 : n < 0
  · have : m < 0 := by simpa [h0] using he.symm
    simp [wn, h0]; omega
  · have : ¬ m < 0 := by simpa [h0] using he.symm
    simp [wn, h0]; omega
theorem wn_diff {n m s t a b : Int} (h : Sg n s a) (k : Sg m t b) (he : ¬ decide (n < 0) = decide (m < 0)) : wn (decide (n < 0)) (a - b) = n + m := by
  unfold Sg at h k
  by_cases h0 : n < 0
  · have : ¬ m < 0 := by intro h1; simp [h0, h1] at he
    simp [wn, h0]; omega
  · have : m < 0 := by
      rcases Int.lt_or_le m 0 with h1 | h1
      · exact h1
      · have h2 : ¬ m < 0 := by omega
        simp [h0, h2] at he
    simp [wn, h0]; omega

set_option maxRecDepth 20000 in
set_option maxHeartbeats 8000000 in
theorem r3neg_any {w : World} {v1 : Value} {n1 : Int} {k1 : Nat} (h1 : WArg w v1 n1 k1) (j1 : k1 ≤ 1099511627776) :
    Calls Tryz.prog 31 #[v1] w fun e w' => ∃ v, e = .returned v ∧ WNum w.heap.size w' v (-n1) (k1) ∧ Below w.heap.size w w' := by
  have G1 := h1
  obtain ⟨neg1, m1, a1, rfl, ha, hn1⟩ := h1
  have A1 := ha
  obtain ⟨zs1, ⟨ao1, cap1, rfl, -⟩, -⟩ := ha
  have N1 := A1.nonneg
  have hs1 := sg_self hn1 N1
  have Hn1 := hide hn1
  clear hn1
  go_enter Tryz.func31, Tryz.ntmps31
  go_upto_region 1 with fail
  have K1 : Below w.heap.size w ((w.alloc (.cells #[.bool neg1, .slice ao1 zs1.length cap1] 25)).alloc (.cells #[.bool false, .slice none 0 0] 25)) := (below_trans (bel_alloc _ _) (bel_alloc _ _))
  have z1 : (w.alloc (.cells #[.bool neg1, .slice ao1 zs1.length cap1] 25)).heap.size = w.heap.size + 1 := by simp
  have C1 := (cell2_new w (.bool neg1) (.slice ao1 zs1.length cap1) 25).alloc (.cells #[.bool false, .slice none 0 0] 25)
  have D1 := cell2_new (w.alloc (.cells #[.bool neg1, .slice ao1 zs1.length cap1] 25)) (.bool false) (.slice none 0 0) 25
  rw [z1] at D1
  replace A1 := A1.below K1
  replace G1 := G1.below K1
  clear z1
  generalize ((w.alloc (.cells #[.bool neg1, .slice ao1 zs1.length cap1] 25)).alloc (.cells #[.bool false, .slice none 0 0] 25)) = w1 at *
  have HC1 := hide C1
  clear C1
  have lt1 := D1.lt
  have HD := hide D1
  clear D1
  have p1 := HC1.out.c0
  have q1 := HC1.out.c1
  go_wp2_with fail
  (with_reducible refine (r3norm_any (warg_mk A1) j1).mono ?_)
  rintro e w2 ⟨vr, rfl, hR, K⟩
  obtain ⟨ng, ro, rl, rfl⟩ := hR.told
  clear p1 q1
  have d0 := (HD.out.below K).c0
  have d1 := (HD.out.below K).c1
  have g0 := (HD.out.below K).f0
  have g1 := (HD.out.below K).f1
  go_wp2
  have PD := (HD.out.below K).put (.bool ng) (.slice ro rl rl)
  have KB := below_put2 (b := w.heap.size + 1) (K1.trans (K.mono (by have := K1.size; omega))) (by omega) (.bool ng) (.slice ro rl rl)
  have WN := ((hR.put lt1 0 (.bool ng)).put lt1 1 (.slice ro rl rl)).low (B' := w.heap.size) (by omega)
  rw [show wn (!neg1) a1 = -n1 by rw [Hn1.out]; unfold wn; cases neg1 <;> simp] at WN
  clear d0 d1 g0 g1 hR K K1 HD
  generalize (w2.setCell ⟨w.heap.size + 1, 0, none⟩ (.bool ng)).setCell ⟨w.heap.size + 1, 1, none⟩ (.slice ro rl rl) = w9 at *
  (try simp only [Exit.inBlock, Exit.then])
  exact bodyPost_ret (v := .agg #[.bool ng, .slice ro rl rl]) (by simp [results, Tryz.results31, go_sem, PD.c0, PD.c1]) rfl ⟨_, rfl, WN, KB⟩

set_option maxRecDepth 20000 in
set_option maxHeartbeats 8000000 in
theorem r3mul_any {w : World} {v1 : Value} {n1 : Int} {k1 : Nat} {v2 : Value} {n2 : Int} {k2 : Nat} (h1 : WArg w v1 n1 k1) (j1 : k1 ≤ 274877906944) (h2 : WArg w v2 n2 k2) (j2 : k2 ≤ 274877906944) :
    Calls Tryz.prog 48 #[v1, v2] w fun e w' => ∃ v, e = .returned v ∧ WNum w.heap.size w' v (n1 * n2) (k1 + k2 + 1) ∧ Below w.heap.size w w' := by
  have G1 := h1
  obtain ⟨neg1, m1, a1, rfl, ha, hn1⟩ := h1
  have A1 := ha
  obtain ⟨zs1, ⟨ao1, cap1, rfl, -⟩, -⟩ := ha
  have N1 := A1.nonneg
  have hs1 := sg_self hn1 N1
  have Hn1 := hide hn1
  clear hn1
  have G2 := h2
  obtain ⟨neg2, m2, a2, rfl, ha, hn2⟩ := h2
  have A2 := ha
  obtain ⟨zs2, ⟨ao2, cap2, rfl, -⟩, -⟩ := ha
  have N2 := A2.nonneg
  have hs2 := sg_self hn2 N2
  have Hn2 := hide hn2
  clear hn2
  go_enter Tryz.func48, Tryz.ntmps48
  go_upto_region 1 with fail
  have K1 : Below w.heap.size w (((w.alloc (.cells #[.bool neg1, .slice ao1 zs1.length cap1] 25)).alloc (.cells #[.bool neg2, .slice ao2 zs2.length cap2] 25)).alloc (.cells #[.bool false, .slice none 0 0] 25)) := (below_trans (below_trans (bel_alloc _ _) (bel_alloc _ _)) (bel_alloc _ _))
  have z1 : (w.alloc (.cells #[.bool neg1, .slice ao1 zs1.length cap1] 25)).heap.size = w.heap.size + 1 := by simp
  have z2 : ((w.alloc (.cells #[.bool neg1, .slice ao1 zs1.length cap1] 25)).alloc (.cells #[.bool neg2, .slice ao2 zs2.length cap2] 25)).heap.size = w.heap.size + 2 := by simp
  have C1 := ((cell2_new w (.bool neg1) (.slice ao1 zs1.length cap1) 25).alloc (.cells #[.bool neg2, .slice ao2 zs2.length cap2] 25)).alloc (.cells #[.bool false, .slice none 0 0] 25)
  have C2 := (cell2_new (w.alloc (.cells #[.bool neg1, .slice ao1 zs1.length cap1] 25)) (.bool neg2) (.slice ao2 zs2.length cap2) 25).alloc (.cells #[.bool false, .slice none 0 0] 25)
  rw [z1] at C2
  have D1 := cell2_new ((w.alloc (.cells #[.bool neg1, .slice ao1 zs1.length cap1] 25)).alloc (.cells #[.bool neg2, .slice ao2 zs2.length cap2] 25)) (.bool false) (.slice none 0 0) 25
  rw [z2] at D1
  replace A1 := A1.below K1
  replace G1 := G1.below K1
  replace A2 := A2.below K1
  replace G2 := G2.below K1
  clear z1 z2
  generalize (((w.alloc (.cells #[.bool neg1, .slice ao1 zs1.length cap1] 25)).alloc (.cells #[.bool neg2, .slice ao2 zs2.length cap2] 25)).alloc (.cells #[.bool false, .slice none 0 0] 25)) = w1 at *
  have HC1 := hide C1
  clear C1
  have HC2 := hide C2
  clear C2
  have lt1 := D1.lt
  have HD := hide D1
  clear D1
  have K : Below w1.heap.size w1 w1.drew := (Below.refl _ _).drew
  have p1 := HC1.out.c0
  have q1 := HC1.out.c1
  have p2 := HC2.out.c0
  have q2 := HC2.out.c1
  go_region_held3 (fun w' => w'.cell? ⟨w.heap.size, 0, none⟩ = some (.bool neg1) ∧ w'.cell? ⟨w.heap.size, 1, none⟩ = some (.slice ao1 zs1.length cap1) ∧ w'.cell? ⟨w.heap.size + 1, 0, none⟩ = some (.bool neg2) ∧ w'.cell? ⟨w.heap.size + 1, 1, none⟩ = some (.slice ao2 zs2.length cap2))
    (first
      | with_reducible exact ⟨(HC1.out.below K).c0, (HC1.out.below K).c1, (HC2.out.below K).c0, (HC2.out.below K).c1⟩
      | with_reducible exact ⟨((HC1.out.below K).away (by omega) _ _).c0, ((HC1.out.below K).away (by omega) _ _).c1, ((HC2.out.below K).away (by omega) _ _).c0, ((HC2.out.below K).away (by omega) _ _).c1⟩
      | go_keep)
    (first
      | (go_at_call 32; first | ((with_reducible refine (r3below_z (G1.below K) (by omega)).mono ?_); rintro e w2 ⟨z1, rfl, hz1, hb⟩; replace K := below_trans K hb; (try replace hN := hN.below hb); clear hb) | ((with_reducible refine (r3below_z (G2.below K) (by omega)).mono ?_); rintro e w2 ⟨z2, rfl, hz2, hb⟩; replace K := below_trans K hb; (try replace hN := hN.below hb); clear hb))
      | (go_at_call 121; (with_reducible refine (rmul_any (A1.below K) (A2.below K) (by omega) (by omega)).mono ?_); rintro e w2 ⟨vn, rfl, hN, hb⟩; obtain ⟨an, ln, rfl⟩ := num_told hN; replace K := below_trans K hb; clear hb)
      | (go_at_call 40; (with_reducible refine (r3norm_any (warg_mk hN.arg) (by omega)).mono ?_); rintro e w2 ⟨vr, rfl, hR, hb⟩; replace hR := hR.low (B' := w1.heap.size) K.size; replace K := below_trans K hb; obtain ⟨ng, ro, rl, rfl⟩ := hR.told; have d0 := (HD.out.below K).c0; have d1 := (HD.out.below K).c1; have g0 := (HD.out.below K).f0; have g1 := (HD.out.below K).f1))
  all_goals go_wp2
  all_goals
    have PD := (HD.out.below K).put (.bool ng) (.slice ro rl rl)
    have KB := below_put2 (b := w.heap.size + 2) (K1.trans (K.mono (by have := K1.size; omega))) (by omega) (.bool ng) (.slice ro rl rl)
    have WN := ((hR.put lt1 0 (.bool ng)).put lt1 1 (.slice ro rl rl)).low (B' := w.heap.size) (by omega)
    rw [hz1.out, hz2.out, show wn (!(decide (n1 < 0) == decide (n2 < 0))) (a1 * a2) = n1 * n2 from wn_mul hs1 hs2] at WN
    clear d0 d1 g0 g1 hR K K1 HD
    generalize (w2.setCell ⟨w.heap.size + 2, 0, none⟩ (.bool ng)).setCell ⟨w.heap.size + 2, 1, none⟩ (.slice ro rl rl) = w9 at *
    (try simp only [Exit.inBlock, Exit.then])
    exact bodyPost_ret (v := .agg #[.bool ng, .slice ro rl rl]) (by simp [results, Tryz.results48, go_sem, PD.c0, PD.c1]) rfl ⟨_, rfl, WN, KB⟩

set_option maxRecDepth 20000 in
set_option maxHeartbeats 8000000 in
theorem r3add_any {w : World} {v1 : Value} {n1 : Int} {k1 : Nat} {v2 : Value} {n2 : Int} {k2 : Nat} (h1 : WArg w v1 n1 k1) (j1 : k1 ≤ 274877906944) (h2 : WArg w v2 n2 k2) (j2 : k2 ≤ 274877906944) :
    Calls Tryz.prog 33 #[v1, v2] w fun e w' => ∃ v, e = .returned v ∧ WNum w.heap.size w' v (n1 + n2) (k1 + k2 + 1) ∧ Below w.heap.size w w' := by
  have G1 := h1
  obtain ⟨neg1, m1, a1, rfl, ha, hn1⟩ := h1
  have A1 := ha
  obtain ⟨zs1, ⟨ao1, cap1, rfl, -⟩, -⟩ := ha
  have N1 := A1.nonneg
  have hs1 := sg_self hn1 N1
  have Hn1 := hide hn1
  clear hn1
  have G2 := h2
  obtain ⟨neg2, m2, a2, rfl, ha, hn2⟩ := h2
  have A2 := ha
  obtain ⟨zs2, ⟨ao2, cap2, rfl, -⟩, -⟩ := ha
  have N2 := A2.nonneg
  have hs2 := sg_self hn2 N2
  have Hn2 := hide hn2
  clear hn2
  go_enter Tryz.func33, Tryz.ntmps33
  go_upto_region 1 with fail
  have K1 : Below w.heap.size w (((w.alloc (.cells #[.bool neg1, .slice ao1 zs1.length cap1] 25)).alloc (.cells #[.bool neg2, .slice ao2 zs2.length cap2] 25)).alloc (.cells #[.bool false, .slice none 0 0] 25)) := (below_trans (below_trans (bel_alloc _ _) (bel_alloc _ _)) (bel_alloc _ _))
  have z1 : (w.alloc (.cells #[.bool neg1, .slice ao1 zs1.length cap1] 25)).heap.size = w.heap.size + 1 := by simp
  have z2 : ((w.alloc (.cells #[.bool neg1, .slice ao1 zs1.length cap1] 25)).alloc (.cells #[.bool neg2, .slice ao2 zs2.length cap2] 25)).heap.size = w.heap.size + 2 := by simp
  have C1 := ((cell2_new w (.bool neg1) (.slice ao1 zs1.length cap1) 25).alloc (.cells #[.bool neg2, .slice ao2 zs2.length cap2] 25)).alloc (.cells #[.bool false, .slice none 0 0] 25)
  have C2 := (cell2_new (w.alloc (.cells #[.bool neg1, .slice ao1 zs1.length cap1] 25)) (.bool neg2) (.slice ao2 zs2.length cap2) 25).alloc (.cells #[.bool false, .slice none 0 0] 25)
  rw [z1] at C2
  have D1 := cell2_new ((w.alloc (.cells #[.bool neg1, .slice ao1 zs1.length cap1] 25)).alloc (.cells #[.bool neg2, .slice ao2 zs2.length cap2] 25)) (.bool false) (.slice none 0 0) 25
  rw [z2] at D1
  replace A1 := A1.below K1
  replace G1 := G1.below K1
  replace A2 := A2.below K1
  replace G2 := G2.below K1
  clear z1 z2
  generalize (((w.alloc (.cells #[.bool neg1, .slice ao1 zs1.length cap1] 25)).alloc (.cells #[.bool neg2, .slice ao2 zs2.length cap2] 25)).alloc (.cells #[.bool false, .slice none 0 0] 25)) = w1 at *
  have HC1 := hide C1
  clear C1
  have HC2 := hide C2
  clear C2
  have lt1 := D1.lt
  have HD := hide D1
  clear D1
  have K : Below w1.heap.size w1 w1.drew := (Below.refl _ _).drew
  have p1 := HC1.out.c0
  have q1 := HC1.out.c1
  have p2 := HC2.out.c0
  have q2 := HC2.out.c1
  go_region_held3 (fun w' => w'.cell? ⟨w.heap.size, 0, none⟩ = some (.bool neg1) ∧ w'.cell? ⟨w.heap.size, 1, none⟩ = some (.slice ao1 zs1.length cap1) ∧ w'.cell? ⟨w.heap.size + 1, 0, none⟩ = some (.bool neg2) ∧ w'.cell? ⟨w.heap.size + 1, 1, none⟩ = some (.slice ao2 zs2.length cap2))
    (first
      | with_reducible exact ⟨(HC1.out.below K).c0, (HC1.out.below K).c1, (HC2.out.below K).c0, (HC2.out.below K).c1⟩
      | with_reducible exact ⟨((HC1.out.below K).away (by omega) _ _).c0, ((HC1.out.below K).away (by omega) _ _).c1, ((HC2.out.below K).away (by omega) _ _).c0, ((HC2.out.below K).away (by omega) _ _).c1⟩
      | go_keep)
    (first
      | (go_at_call 32; first | ((with_reducible refine (r3below_z (G1.below K) (by omega)).mono ?_); rintro e w2 ⟨z1, rfl, hz1, hb⟩; replace K := below_trans K hb; (try replace hN := hN.below hb); clear hb) | ((with_reducible refine (r3below_z (G2.below K) (by omega)).mono ?_); rintro e w2 ⟨z2, rfl, hz2, hb⟩; replace K := below_trans K hb; (try replace hN := hN.below hb); clear hb)))
  rename World => wb
  replace K1 := K1.trans (K.mono K1.size)
  replace A1 := A1.below K
  replace G1 := G1.below K
  replace HC1 := hide (HC1.out.below K)
  replace A2 := A2.below K
  replace G2 := G2.below K
  replace HC2 := hide (HC2.out.below K)
  replace HD := hide (HD.out.below K)
  replace lt1 := HD.out.lt
  clear K p1 q1 p2 q2
  cases z1 <;> cases z2
  ·
    have Hq : Hid (decide (n1 < 0) = decide (n2 < 0)) := hide (by rw [← hz1.out, ← hz2.out])
    clear hz1 hz2
    go_upto_region 2 with fail
    have K : Below wb.heap.size wb wb.drew := (Below.refl _ _).drew
    have p1 := HC1.out.c0
    have q1 := HC1.out.c1
    have p2 := HC2.out.c0
    have q2 := HC2.out.c1
    go_region_held3 (fun w' => w'.cell? ⟨w.heap.size, 0, none⟩ = some (.bool neg1) ∧ w'.cell? ⟨w.heap.size, 1, none⟩ = some (.slice ao1 zs1.length cap1) ∧ w'.cell? ⟨w.heap.size + 1, 0, none⟩ = some (.bool neg2) ∧ w'.cell? ⟨w.heap.size + 1, 1, none⟩ = some (.slice ao2 zs2.length cap2))
      (first
        | with_reducible exact ⟨(HC1.out.below K).c0, (HC1.out.below K).c1, (HC2.out.below K).c0, (HC2.out.below K).c1⟩
        | with_reducible exact ⟨((HC1.out.below K).away (by omega) _ _).c0, ((HC1.out.below K).away (by omega) _ _).c1, ((HC2.out.below K).away (by omega) _ _).c0, ((HC2.out.below K).away (by omega) _ _).c1⟩
        | go_keep)
      (first
        | (go_at_call 32; first | ((with_reducible refine (r3below_z (G1.below K) (by omega)).mono ?_); rintro e w2 ⟨z1, rfl, hz1, hb⟩; replace K := below_trans K hb; (try replace hN := hN.below hb); clear hb) | ((with_reducible refine (r3below_z (G2.below K) (by omega)).mono ?_); rintro e w2 ⟨z2, rfl, hz2, hb⟩; replace K := below_trans K hb; (try replace hN := hN.below hb); clear hb))
        | (go_at_call 108; (with_reducible refine (radd_any (A1.below K) (A2.below K) (by omega) (by omega)).mono ?_); rintro e w2 ⟨vn, rfl, hN, hb⟩; obtain ⟨an, ln, rfl⟩ := num_told hN; replace K := below_trans K hb; clear hb)
        | (go_at_call 40; (with_reducible refine (r3norm_any (warg_mk hN.arg) (by omega)).mono ?_); rintro e w2 ⟨vr, rfl, hR, hb⟩; replace hR := hR.low (B' := wb.heap.size) K.size; replace K := below_trans K hb; obtain ⟨ng, ro, rl, rfl⟩ := hR.told; have d0 := (HD.out.below K).c0; have d1 := (HD.out.below K).c1; have g0 := (HD.out.below K).f0; have g1 := (HD.out.below K).f1))
    all_goals go_wp2
    all_goals
      have PD := (HD.out.below K).put (.bool ng) (.slice ro rl rl)
      have KB := below_put2 (b := w.heap.size + 2) (K1.trans (K.mono (by have := K1.size; omega))) (by omega) (.bool ng) (.slice ro rl rl)
      have WN := ((hR.put lt1 0 (.bool ng)).put lt1 1 (.slice ro rl rl)).low (B' := w.heap.size) (by omega)
      rw [hz1.out, wn_same hs1 hs2 Hq.out] at WN
      clear d0 d1 g0 g1 hR K K1 HD
      generalize (w2.setCell ⟨w.heap.size + 2, 0, none⟩ (.bool ng)).setCell ⟨w.heap.size + 2, 1, none⟩ (.slice ro rl rl) = w9 at *
      (try simp only [Exit.inBlock, Exit.then])
      exact bodyPost_ret (v := .agg #[.bool ng, .slice ro rl rl]) (by simp [results, Tryz.results33, go_sem, PD.c0, PD.c1]) rfl ⟨_, rfl, WN, KB⟩
  ·
    have He : Hid (¬ decide (n1 < 0) = decide (n2 < 0)) := hide (by rw [← hz1.out, ← hz2.out]; decide)
    clear hz1 hz2
    by_cases hab : a2 ≤ a1
    ·
      have p1 := HC1.out.c0
      have q1 := HC1.out.c1
      have p2 := HC2.out.c0
      have q2 := HC2.out.c1
      go_wp2_with fail
      (with_reducible refine (rsub_yes A1 A2 (by omega) (by omega) hab).mono ?_)
      rintro e w3 ⟨vn, rfl, hN, hb⟩
      obtain ⟨an, ln, rfl⟩ := num_told hN
      have c1 := (HC1.out.below hb).c0
      have c2 := (HC1.out.below hb).c1
      go_wp2_with fail
      (with_reducible refine (r3below_z (G1.below hb) (by omega)).mono ?_)
      rintro e w4 ⟨z3, rfl, hz3, hb4⟩
      replace hN := hN.below hb4
      have K := below_trans hb hb4
      clear hb hb4 c1 c2
      go_wp2_with fail
      (with_reducible refine (r3norm_any (warg_mk hN.arg) (by omega)).mono ?_)
      rintro e w5 ⟨vr, rfl, hR, hb⟩
      replace hR := (hR.low (B' := wb.heap.size) K.size).mono (k' := k1 + k2 + 1) (by omega)
      replace K := below_trans K hb
      obtain ⟨ng, ro, rl, rfl⟩ := hR.told
      clear p1 q1 p2 q2
      have d0 := (HD.out.below K).c0
      have d1 := (HD.out.below K).c1
      have g0 := (HD.out.below K).f0
      have g1 := (HD.out.below K).f1
      go_wp2
      have PD := (HD.out.below K).put (.bool ng) (.slice ro rl rl)
      have KB := below_put2 (b := w.heap.size + 2) (K1.trans (K.mono (by have := K1.size; omega))) (by omega) (.bool ng) (.slice ro rl rl)
      have WN := ((hR.put lt1 0 (.bool ng)).put lt1 1 (.slice ro rl rl)).low (B' := w.heap.size) (by omega)
      rw [hz3.out, wn_diff hs1 hs2 He.out] at WN
      clear d0 d1 g0 g1 hR K K1 HD
      generalize (w5.setCell ⟨w.heap.size + 2, 0, none⟩ (.bool ng)).setCell ⟨w.heap.size + 2, 1, none⟩ (.slice ro rl rl) = w9 at *
      (try simp only [Exit.inBlock, Exit.then])
      exact bodyPost_ret (v := .agg #[.bool ng, .slice ro rl rl]) (by simp [results, Tryz.results33, go_sem, PD.c0, PD.c1]) rfl ⟨_, rfl, WN, KB⟩
    ·
      have p1 := HC1.out.c0
      have q1 := HC1.out.c1
      have p2 := HC2.out.c0
      have q2 := HC2.out.c1
      go_wp2_with fail
      (with_reducible refine (rsub_no A1 A2 (by omega) (by omega) (by omega)).mono ?_)
      rintro e w3 ⟨rfl, hb⟩
      have c1 := (HC1.out.below hb).c1
      have c2 := (HC2.out.below hb).c1
      go_wp2_with fail
      (with_reducible refine (rsub_yes (A2.below hb) (A1.below hb) (by omega) (by omega) (by omega)).mono ?_)
      rintro e w4 ⟨vn, rfl, hN, hb4⟩
      obtain ⟨an, ln, rfl⟩ := num_told hN
      have K := below_trans hb hb4
      replace hN := num_low (B' := wb.heap.size) hN hb.size
      clear hb hb4 c1 c2
      have c1 := (HC2.out.below K).c0
      have c2 := (HC2.out.below K).c1
      go_wp2_with fail
      (with_reducible refine (r3below_z (G2.below K) (by omega)).mono ?_)
      rintro e w5 ⟨z3, rfl, hz3, hb5⟩
      replace hN := hN.below hb5
      replace K := below_trans K hb5
      clear hb5 c1 c2
      go_wp2_with fail
      (with_reducible refine (r3norm_any (warg_mk hN.arg) (by omega)).mono ?_)
      rintro e w6 ⟨vr, rfl, hR, hb⟩
      replace hR := (hR.low (B' := wb.heap.size) K.size).mono (k' := k1 + k2 + 1) (by omega)
      replace K := below_trans K hb
      obtain ⟨ng, ro, rl, rfl⟩ := hR.told
      clear p1 q1 p2 q2
      have d0 := (HD.out.below K).c0
      have d1 := (HD.out.below K).c1
      have g0 := (HD.out.below K).f0
      have g1 := (HD.out.below K).f1
      go_wp2
      have PD := (HD.out.below K).put (.bool ng) (.slice ro rl rl)
      have KB := below_put2 (b := w.heap.size + 2) (K1.trans (K.mono (by have := K1.size; omega))) (by omega) (.bool ng) (.slice ro rl rl)
      have WN := ((hR.put lt1 0 (.bool ng)).put lt1 1 (.slice ro rl rl)).low (B' := w.heap.size) (by omega)
      rw [hz3.out, wn_diff hs2 hs1 (fun e => He.out e.symm), Int.add_comm] at WN
      clear d0 d1 g0 g1 hR K K1 HD
      generalize (w6.setCell ⟨w.heap.size + 2, 0, none⟩ (.bool ng)).setCell ⟨w.heap.size + 2, 1, none⟩ (.slice ro rl rl) = w9 at *
      (try simp only [Exit.inBlock, Exit.then])
      exact bodyPost_ret (v := .agg #[.bool ng, .slice ro rl rl]) (by simp [results, Tryz.results33, go_sem, PD.c0, PD.c1]) rfl ⟨_, rfl, WN, KB⟩
  ·
    have He : Hid (¬ decide (n1 < 0) = decide (n2 < 0)) := hide (by rw [← hz1.out, ← hz2.out]; decide)
    clear hz1 hz2
    by_cases hab : a2 ≤ a1
    ·
      have p1 := HC1.out.c0
      have q1 := HC1.out.c1
      have p2 := HC2.out.c0
      have q2 := HC2.out.c1
      go_wp2_with fail
      (with_reducible refine (rsub_yes A1 A2 (by omega) (by omega) hab).mono ?_)
      rintro e w3 ⟨vn, rfl, hN, hb⟩
      obtain ⟨an, ln, rfl⟩ := num_told hN
      have c1 := (HC1.out.below hb).c0
      have c2 := (HC1.out.below hb).c1
      go_wp2_with fail
      (with_reducible refine (r3below_z (G1.below hb) (by omega)).mono ?_)
      rintro e w4 ⟨z3, rfl, hz3, hb4⟩
      replace hN := hN.below hb4
      have K := below_trans hb hb4
      clear hb hb4 c1 c2
      go_wp2_with fail
      (with_reducible refine (r3norm_any (warg_mk hN.arg) (by omega)).mono ?_)
      rintro e w5 ⟨vr, rfl, hR, hb⟩
      replace hR := (hR.low (B' := wb.heap.size) K.size).mono (k' := k1 + k2 + 1) (by omega)
      replace K := below_trans K hb
      obtain ⟨ng, ro, rl, rfl⟩ := hR.told
      clear p1 q1 p2 q2
      have d0 := (HD.out.below K).c0
      have d1 := (HD.out.below K).c1
      have g0 := (HD.out.below K).f0
      have g1 := (HD.out.below K).f1
      go_wp2
      have PD := (HD.out.below K).put (.bool ng) (.slice ro rl rl)
      have KB := below_put2 (b := w.heap.size + 2) (K1.trans (K.mono (by have := K1.size; omega))) (by omega) (.bool ng) (.slice ro rl rl)
      have WN := ((hR.put lt1 0 (.bool ng)).put lt1 1 (.slice ro rl rl)).low (B' := w.heap.size) (by omega)
      rw [hz3.out, wn_diff hs1 hs2 He.out] at WN
      clear d0 d1 g0 g1 hR K K1 HD
      generalize (w5.setCell ⟨w.heap.size + 2, 0, none⟩ (.bool ng)).setCell ⟨w.heap.size + 2, 1, none⟩ (.slice ro rl rl) = w9 at *
      (try simp only [Exit.inBlock, Exit.then])
      exact bodyPost_ret (v := .agg #[.bool ng, .slice ro rl rl]) (by simp [results, Tryz.results33, go_sem, PD.c0, PD.c1]) rfl ⟨_, rfl, WN, KB⟩
    ·
      have p1 := HC1.out.c0
      have q1 := HC1.out.c1
      have p2 := HC2.out.c0
      have q2 := HC2.out.c1
      go_wp2_with fail
      (with_reducible refine (rsub_no A1 A2 (by omega) (by omega) (by omega)).mono ?_)
      rintro e w3 ⟨rfl, hb⟩
      have c1 := (HC1.out.below hb).c1
      have c2 := (HC2.out.below hb).c1
      go_wp2_with fail
      (with_reducible refine (rsub_yes (A2.below hb) (A1.below hb) (by omega) (by omega) (by omega)).mono ?_)
      rintro e w4 ⟨vn, rfl, hN, hb4⟩
      obtain ⟨an, ln, rfl⟩ := num_told hN
      have K := below_trans hb hb4
      replace hN := num_low (B' := wb.heap.size) hN hb.size
      clear hb hb4 c1 c2
      have c1 := (HC2.out.below K).c0
      have c2 := (HC2.out.below K).c1
      go_wp2_with fail
      (with_reducible refine (r3below_z (G2.below K) (by omega)).mono ?_)
      rintro e w5 ⟨z3, rfl, hz3, hb5⟩
      replace hN := hN.below hb5
      replace K := below_trans K hb5
      clear hb5 c1 c2
      go_wp2_with fail
      (with_reducible refine (r3norm_any (warg_mk hN.arg) (by omega)).mono ?_)
      rintro e w6 ⟨vr, rfl, hR, hb⟩
      replace hR := (hR.low (B' := wb.heap.size) K.size).mono (k' := k1 + k2 + 1) (by omega)
      replace K := below_trans K hb
      obtain ⟨ng, ro, rl, rfl⟩ := hR.told
      clear p1 q1 p2 q2
      have d0 := (HD.out.below K).c0
      have d1 := (HD.out.below K).c1
      have g0 := (HD.out.below K).f0
      have g1 := (HD.out.below K).f1
      go_wp2
      have PD := (HD.out.below K).put (.bool ng) (.slice ro rl rl)
      have KB := below_put2 (b := w.heap.size + 2) (K1.trans (K.mono (by have := K1.size; omega))) (by omega) (.bool ng) (.slice ro rl rl)
      have WN := ((hR.put lt1 0 (.bool ng)).put lt1 1 (.slice ro rl rl)).low (B' := w.heap.size) (by omega)
      rw [hz3.out, wn_diff hs2 hs1 (fun e => He.out e.symm), Int.add_comm] at WN
      clear d0 d1 g0 g1 hR K K1 HD
      generalize (w6.setCell ⟨w.heap.size + 2, 0, none⟩ (.bool ng)).setCell ⟨w.heap.size + 2, 1, none⟩ (.slice ro rl rl) = w9 at *
      (try simp only [Exit.inBlock, Exit.then])
      exact bodyPost_ret (v := .agg #[.bool ng, .slice ro rl rl]) (by simp [results, Tryz.results33, go_sem, PD.c0, PD.c1]) rfl ⟨_, rfl, WN, KB⟩
  ·
    have Hq : Hid (decide (n1 < 0) = decide (n2 < 0)) := hide (by rw [← hz1.out, ← hz2.out])
    clear hz1 hz2
    go_upto_region 2 with fail
    have K : Below wb.heap.size wb wb.drew := (Below.refl _ _).drew
    have p1 := HC1.out.c0
    have q1 := HC1.out.c1
    have p2 := HC2.out.c0
    have q2 := HC2.out.c1
    go_region_held3 (fun w' => w'.cell? ⟨w.heap.size, 0, none⟩ = some (.bool neg1) ∧ w'.cell? ⟨w.heap.size, 1, none⟩ = some (.slice ao1 zs1.length cap1) ∧ w'.cell? ⟨w.heap.size + 1, 0, none⟩ = some (.bool neg2) ∧ w'.cell? ⟨w.heap.size + 1, 1, none⟩ = some (.slice ao2 zs2.length cap2))
      (first
        | with_reducible exact ⟨(HC1.out.below K).c0, (HC1.out.below K).c1, (HC2.out.below K).c0, (HC2.out.below K).c1⟩
        | with_reducible exact ⟨((HC1.out.below K).away (by omega) _ _).c0, ((HC1.out.below K).away (by omega) _ _).c1, ((HC2.out.below K).away (by omega) _ _).c0, ((HC2.out.below K).away (by omega) _ _).c1⟩
        | go_keep)
      (first
        | (go_at_call 32; first | ((with_reducible refine (r3below_z (G1.below K) (by omega)).mono ?_); rintro e w2 ⟨z1, rfl, hz1, hb⟩; replace K := below_trans K hb; (try replace hN := hN.below hb); clear hb) | ((with_reducible refine (r3below_z (G2.below K) (by omega)).mono ?_); rintro e w2 ⟨z2, rfl, hz2, hb⟩; replace K := below_trans K hb; (try replace hN := hN.below hb); clear hb))
        | (go_at_call 108; (with_reducible refine (radd_any (A1.below K) (A2.below K) (by omega) (by omega)).mono ?_); rintro e w2 ⟨vn, rfl, hN, hb⟩; obtain ⟨an, ln, rfl⟩ := num_told hN; replace K := below_trans K hb; clear hb)
        | (go_at_call 40; (with_reducible refine (r3norm_any (warg_mk hN.arg) (by omega)).mono ?_); rintro e w2 ⟨vr, rfl, hR, hb⟩; replace hR := hR.low (B' := wb.heap.size) K.size; replace K := below_trans K hb; obtain ⟨ng, ro, rl, rfl⟩ := hR.told; have d0 := (HD.out.below K).c0; have d1 := (HD.out.below K).c1; have g0 := (HD.out.below K).f0; have g1 := (HD.out.below K).f1))
    all_goals go_wp2
    all_goals
      have PD := (HD.out.below K).put (.bool ng) (.slice ro rl rl)
      have KB := below_put2 (b := w.heap.size + 2) (K1.trans (K.mono (by have := K1.size; omega))) (by omega) (.bool ng) (.slice ro rl rl)
      have WN := ((hR.put lt1 0 (.bool ng)).put lt1 1 (.slice ro rl rl)).low (B' := w.heap.size) (by omega)
      rw [hz1.out, wn_same hs1 hs2 Hq.out] at WN
      clear d0 d1 g0 g1 hR K K1 HD
      generalize (w2.setCell ⟨w.heap.size + 2, 0, none⟩ (.bool ng)).setCell ⟨w.heap.size + 2, 1, none⟩ (.slice ro rl rl) = w9 at *
      (try simp only [Exit.inBlock, Exit.then])
      exact bodyPost_ret (v := .agg #[.bool ng, .slice ro rl rl]) (by simp [results, Tryz.results33, go_sem, PD.c0, PD.c1]) rfl ⟨_, rfl, WN, KB⟩

set_option maxRecDepth 20000 in
set_option maxHeartbeats 8000000 in
theorem r3sub_any {w : World} {v1 : Value} {n1 : Int} {k1 : Nat} {v2 : Value} {n2 : Int} {k2 : Nat} (h1 : WArg w v1 n1 k1) (j1 : k1 ≤ 274877906944) (h2 : WArg w v2 n2 k2) (j2 : k2 ≤ 274877906944) :
    Calls Tryz.prog 41 #[v1, v2] w fun e w' => ∃ v, e = .returned v ∧ WNum w.heap.size w' v (n1 + -n2) (k1 + k2 + 1) ∧ Below w.heap.size w w' := by
  have G1 := h1
  obtain ⟨neg1, m1, a1, rfl, ha, hn1⟩ := h1
  have A1 := ha
  obtain ⟨zs1, ⟨ao1, cap1, rfl, -⟩, -⟩ := ha
  have N1 := A1.nonneg
  have hs1 := sg_self hn1 N1
  have Hn1 := hide hn1
  clear hn1
  have G2 := h2
  obtain ⟨neg2, m2, a2, rfl, ha, hn2⟩ := h2
  have A2 := ha
  obtain ⟨zs2, ⟨ao2, cap2, rfl, -⟩, -⟩ := ha
  have N2 := A2.nonneg
  have hs2 := sg_self hn2 N2
  have Hn2 := hide hn2
  clear hn2
  go_enter Tryz.func41, Tryz.ntmps41
  go_upto_region 1 with fail
  have K1 : Below w.heap.size w (((w.alloc (.cells #[.bool neg1, .slice ao1 zs1.length cap1] 25)).alloc (.cells #[.bool neg2, .slice ao2 zs2.length cap2] 25)).alloc (.cells #[.bool false, .slice none 0 0] 25)) := (below_trans (below_trans (bel_alloc _ _) (bel_alloc _ _)) (bel_alloc _ _))
  have z1 : (w.alloc (.cells #[.bool neg1, .slice ao1 zs1.length cap1] 25)).heap.size = w.heap.size + 1 := by simp
  have z2 : ((w.alloc (.cells #[.bool neg1, .slice ao1 zs1.length cap1] 25)).alloc (.cells #[.bool neg2, .slice ao2 zs2.length cap2] 25)).heap.size = w.heap.size + 2 := by simp
  have C1 := ((cell2_new w (.bool neg1) (.slice ao1 zs1.length cap1) 25).alloc (.cells #[.bool neg2, .slice ao2 zs2.length cap2] 25)).alloc (.cells #[.bool false, .slice none 0 0] 25)
  have C2 := (cell2_new (w.alloc (.cells #[.bool neg1, .slice ao1 zs1.length cap1] 25)) (.bool neg2) (.slice ao2 zs2.length cap2) 25).alloc (.cells #[.bool false, .slice none 0 0] 25)
  rw [z1] at C2
  have D1 := cell2_new ((w.alloc (.cells #[.bool neg1, .slice ao1 zs1.length cap1] 25)).alloc (.cells #[.bool neg2, .slice ao2 zs2.length cap2] 25)) (.bool false) (.slice none 0 0) 25
  rw [z2] at D1
  replace A1 := A1.below K1
  replace G1 := G1.below K1
  replace A2 := A2.below K1
  replace G2 := G2.below K1
  clear z1 z2
  generalize (((w.alloc (.cells #[.bool neg1, .slice ao1 zs1.length cap1] 25)).alloc (.cells #[.bool neg2, .slice ao2 zs2.length cap2] 25)).alloc (.cells #[.bool false, .slice none 0 0] 25)) = w1 at *
  have HC1 := hide C1
  clear C1
  have HC2 := hide C2
  clear C2
  have lt1 := D1.lt
  have HD := hide D1
  clear D1
  have K : Below w1.heap.size w1 w1.drew := (Below.refl _ _).drew
  have p1 := HC1.out.c0
  have q1 := HC1.out.c1
  have p2 := HC2.out.c0
  have q2 := HC2.out.c1
  go_region_held3 (fun w' => w'.cell? ⟨w.heap.size, 0, none⟩ = some (.bool neg1) ∧ w'.cell? ⟨w.heap.size, 1, none⟩ = some (.slice ao1 zs1.length cap1) ∧ w'.cell? ⟨w.heap.size + 1, 0, none⟩ = some (.bool neg2) ∧ w'.cell? ⟨w.heap.size + 1, 1, none⟩ = some (.slice ao2 zs2.length cap2))
    (first
      | with_reducible exact ⟨(HC1.out.below K).c0, (HC1.out.below K).c1, (HC2.out.below K).c0, (HC2.out.below K).c1⟩
      | with_reducible exact ⟨((HC1.out.below K).away (by omega) _ _).c0, ((HC1.out.below K).away (by omega) _ _).c1, ((HC2.out.below K).away (by omega) _ _).c0, ((HC2.out.below K).away (by omega) _ _).c1⟩
      | go_keep)
    (first
      | (go_at_call 31; (with_reducible refine (r3neg_any (G2.below K) (by omega)).mono ?_); rintro e w2 ⟨vn, rfl, hN, hb⟩; replace K := below_trans K hb; clear hb)
      | (go_at_call 33; (with_reducible refine (r3add_any (G1.below K) (by omega) hN.arg (by omega)).mono ?_); rintro e w2 ⟨vr, rfl, hR, hb⟩; replace hR := hR.low (B' := w1.heap.size) K.size; replace K := below_trans K hb; obtain ⟨ng, ro, rl, rfl⟩ := hR.told; have d0 := (HD.out.below K).c0; have d1 := (HD.out.below K).c1; have g0 := (HD.out.below K).f0; have g1 := (HD.out.below K).f1))
  all_goals go_wp2
  all_goals
    have PD := (HD.out.below K).put (.bool ng) (.slice ro rl rl)
    have KB := below_put2 (b := w.heap.size + 2) (K1.trans (K.mono (by have := K1.size; omega))) (by omega) (.bool ng) (.slice ro rl rl)
    have WN := ((hR.put lt1 0 (.bool ng)).put lt1 1 (.slice ro rl rl)).low (B' := w.heap.size) (by omega)
    skip
    clear d0 d1 g0 g1 hR K K1 HD
    generalize (w2.setCell ⟨w.heap.size + 2, 0, none⟩ (.bool ng)).setCell ⟨w.heap.size + 2, 1, none⟩ (.slice ro rl rl) = w9 at *
    (try simp only [Exit.inBlock, Exit.then])
    exact bodyPost_ret (v := .agg #[.bool ng, .slice ro rl rl]) (by simp [results, Tryz.results41, go_sem, PD.c0, PD.c1]) rfl ⟨_, rfl, WN, KB⟩

theorem r3below_told {w : World} {v1 : Value} {n1 : Int} {k1 : Nat} {z : Bool} (hz : decide (n1 < 0) = z) (h1 : WArg w v1 n1 k1) (j1 : k1 ≤ 1099511627776) :
    Calls Tryz.prog 32 #[v1] w fun e w' => e = .returned (.bool z) ∧ Below w.heap.size w w' := by
  subst hz
  exact r3below_any h1 j1

set_option maxRecDepth 20000 in
set_option maxHeartbeats 8000000 in
theorem r3cmp_any {w : World} {v1 : Value} {n1 : Int} {k1 : Nat} {v2 : Value} {n2 : Int} {k2 : Nat} (h1 : WArg w v1 n1 k1) (j1 : k1 ≤ 1099511627776) (h2 : WArg w v2 n2 k2) (j2 : k2 ≤ 1099511627776) :
    Calls Tryz.prog 30 #[v1, v2] w fun e w' => e = .returned (.int .i64 (sgn n1 n2)) ∧ Below w.heap.size w w' := by
  have G1 := h1
  obtain ⟨neg1, m1, a1, rfl, ha, hn1⟩ := h1
  have A1 := ha
  obtain ⟨zs1, ⟨ao1, cap1, rfl, -⟩, -⟩ := ha
  have N1 := A1.nonneg
  have hs1 := sg_self hn1 N1
  clear hn1
  have G2 := h2
  obtain ⟨neg2, m2, a2, rfl, ha, hn2⟩ := h2
  have A2 := ha
  obtain ⟨zs2, ⟨ao2, cap2, rfl, -⟩, -⟩ := ha
  have N2 := A2.nonneg
  have hs2 := sg_self hn2 N2
  clear hn2
  unfold Sg at hs1 hs2
  have KB : Below w.heap.size w ((w.alloc (.cells #[.bool neg1, .slice ao1 zs1.length cap1] 25)).alloc (.cells #[.bool neg2, .slice ao2 zs2.length cap2] 25)) := below_trans (bel_alloc _ _) (bel_alloc _ _)
  have C := after2 (Below.refl _ ((w.alloc (.cells #[.bool neg1, .slice ao1 zs1.length cap1] 25)).alloc (.cells #[.bool neg2, .slice ao2 zs2.length cap2] 25)))
  have HC1 := hide C.1
  have HC2 := hide C.2
  clear C
  replace A1 := A1.below KB
  replace G1 := G1.below KB
  replace A2 := A2.below KB
  replace G2 := G2.below KB
  by_cases hx : n1 < 0
  · by_cases hy : n2 < 0
    ·
      have z1 : Hid (decide (n1 < 0) = true) := hide (decide_eq_true hx)
      have z2 : Hid (decide (n2 < 0) = true) := hide (decide_eq_true hy)
      have hv : Hid (sgn a2 a1 = sgn n1 n2) := hide (by rcases sgn_cases a2 a1 with h | h | h <;> rcases sgn_cases n1 n2 with k | k | k <;> omega)
      clear hs1 hs2 hx hy
      go_enter Tryz.func30, Tryz.ntmps30
      have p1 := HC1.out.c0
      have q1 := HC1.out.c1
      have p2 := HC2.out.c0
      have q2 := HC2.out.c1
      go_wp2_with fail
      (with_reducible refine (r3below_told z1.out G1 j1).mono ?_)
      rintro e w3 ⟨rfl, hb⟩
      clear p1 q1 p2 q2
      replace KB := below_trans KB hb
      replace HC1 := hide (HC1.out.below hb)
      replace HC2 := hide (HC2.out.below hb)
      replace A1 := A1.below hb
      replace A2 := A2.below hb
      replace G1 := G1.below hb
      replace G2 := G2.below hb
      clear hb
      have p1 := HC1.out.c0
      have q1 := HC1.out.c1
      have p2 := HC2.out.c0
      have q2 := HC2.out.c1
      go_wp2_with fail
      (with_reducible refine (r3below_told z2.out G2 j2).mono ?_)
      rintro e w4 ⟨rfl, hb⟩
      clear p1 q1 p2 q2
      replace KB := below_trans KB hb
      replace HC1 := hide (HC1.out.below hb)
      replace HC2 := hide (HC2.out.below hb)
      replace A1 := A1.below hb
      replace A2 := A2.below hb
      replace G1 := G1.below hb
      replace G2 := G2.below hb
      clear hb
      have p1 := HC1.out.c0
      have q1 := HC1.out.c1
      have p2 := HC2.out.c0
      have q2 := HC2.out.c1
      go_wp2_with fail
      (with_reducible refine (r3below_told z1.out G1 j1).mono ?_)
      rintro e w5 ⟨rfl, hb⟩
      clear p1 q1 p2 q2
      replace KB := below_trans KB hb
      replace HC1 := hide (HC1.out.below hb)
      replace HC2 := hide (HC2.out.below hb)
      replace A1 := A1.below hb
      replace A2 := A2.below hb
      replace G1 := G1.below hb
      replace G2 := G2.below hb
      clear hb
      have p1 := HC1.out.c0
      have q1 := HC1.out.c1
      have p2 := HC2.out.c0
      have q2 := HC2.out.c1
      go_wp2_with fail
      (with_reducible refine (r3below_told z1.out G1 j1).mono ?_)
      rintro e w6 ⟨rfl, hb⟩
      clear p1 q1 p2 q2
      replace KB := below_trans KB hb
      replace HC1 := hide (HC1.out.below hb)
      replace HC2 := hide (HC2.out.below hb)
      replace A1 := A1.below hb
      replace A2 := A2.below hb
      replace G1 := G1.below hb
      replace G2 := G2.below hb
      clear hb
      have p1 := HC1.out.c0
      have q1 := HC1.out.c1
      have p2 := HC2.out.c0
      have q2 := HC2.out.c1
      go_wp2_with fail
      (with_reducible refine (rcmp_any A2 A1 (by omega) (by omega)).mono ?_)
      rintro e w7 ⟨rfl, hb⟩
      replace KB := below_trans KB hb
      go_wp2
      go_ret
      exact ⟨by rw [← hv.out]; rfl, KB⟩
    ·
      have z1 : Hid (decide (n1 < 0) = true) := hide (decide_eq_true hx)
      have z2 : Hid (decide (n2 < 0) = false) := hide (decide_eq_false hy)
      have hv : Hid (sgn n1 n2 = -1) := hide (sgn_lt (by omega))
      clear hs1 hs2 hx hy
      go_enter Tryz.func30, Tryz.ntmps30
      have p1 := HC1.out.c0
      have q1 := HC1.out.c1
      have p2 := HC2.out.c0
      have q2 := HC2.out.c1
      go_wp2_with fail
      (with_reducible refine (r3below_told z1.out G1 j1).mono ?_)
      rintro e w3 ⟨rfl, hb⟩
      clear p1 q1 p2 q2
      replace KB := below_trans KB hb
      replace HC1 := hide (HC1.out.below hb)
      replace HC2 := hide (HC2.out.below hb)
      replace A1 := A1.below hb
      replace A2 := A2.below hb
      replace G1 := G1.below hb
      replace G2 := G2.below hb
      clear hb
      have p1 := HC1.out.c0
      have q1 := HC1.out.c1
      have p2 := HC2.out.c0
      have q2 := HC2.out.c1
      go_wp2_with fail
      (with_reducible refine (r3below_told z2.out G2 j2).mono ?_)
      rintro e w4 ⟨rfl, hb⟩
      clear p1 q1 p2 q2
      replace KB := below_trans KB hb
      replace HC1 := hide (HC1.out.below hb)
      replace HC2 := hide (HC2.out.below hb)
      replace A1 := A1.below hb
      replace A2 := A2.below hb
      replace G1 := G1.below hb
      replace G2 := G2.below hb
      clear hb
      go_wp2
      go_ret
      exact ⟨by rw [hv.out]; rfl, KB⟩
  · by_cases hy : n2 < 0
    ·
      have z1 : Hid (decide (n1 < 0) = false) := hide (decide_eq_false hx)
      have z2 : Hid (decide (n2 < 0) = true) := hide (decide_eq_true hy)
      have hv : Hid (sgn n1 n2 = 1) := hide (sgn_gt (by omega))
      clear hs1 hs2 hx hy
      go_enter Tryz.func30, Tryz.ntmps30
      have p1 := HC1.out.c0
      have q1 := HC1.out.c1
      have p2 := HC2.out.c0
      have q2 := HC2.out.c1
      go_wp2_with fail
      (with_reducible refine (r3below_told z1.out G1 j1).mono ?_)
      rintro e w3 ⟨rfl, hb⟩
      clear p1 q1 p2 q2
      replace KB := below_trans KB hb
      replace HC1 := hide (HC1.out.below hb)
      replace HC2 := hide (HC2.out.below hb)
      replace A1 := A1.below hb
      replace A2 := A2.below hb
      replace G1 := G1.below hb
      replace G2 := G2.below hb
      clear hb
      have p1 := HC1.out.c0
      have q1 := HC1.out.c1
      have p2 := HC2.out.c0
      have q2 := HC2.out.c1
      go_wp2_with fail
      (with_reducible refine (r3below_told z1.out G1 j1).mono ?_)
      rintro e w4 ⟨rfl, hb⟩
      clear p1 q1 p2 q2
      replace KB := below_trans KB hb
      replace HC1 := hide (HC1.out.below hb)
      replace HC2 := hide (HC2.out.below hb)
      replace A1 := A1.below hb
      replace A2 := A2.below hb
      replace G1 := G1.below hb
      replace G2 := G2.below hb
      clear hb
      have p1 := HC1.out.c0
      have q1 := HC1.out.c1
      have p2 := HC2.out.c0
      have q2 := HC2.out.c1
      go_wp2_with fail
      (with_reducible refine (r3below_told z2.out G2 j2).mono ?_)
      rintro e w5 ⟨rfl, hb⟩
      clear p1 q1 p2 q2
      replace KB := below_trans KB hb
      replace HC1 := hide (HC1.out.below hb)
      replace HC2 := hide (HC2.out.below hb)
      replace A1 := A1.below hb
      replace A2 := A2.below hb
      replace G1 := G1.below hb
      replace G2 := G2.below hb
      clear hb
      go_wp2
      go_ret
      exact ⟨by rw [hv.out]; rfl, KB⟩
    ·
      have z1 : Hid (decide (n1 < 0) = false) := hide (decide_eq_false hx)
      have z2 : Hid (decide (n2 < 0) = false) := hide (decide_eq_false hy)
      have hv : Hid (sgn a1 a2 = sgn n1 n2) := hide (by rcases sgn_cases a1 a2 with h | h | h <;> rcases sgn_cases n1 n2 with k | k | k <;> omega)
      clear hs1 hs2 hx hy
      go_enter Tryz.func30, Tryz.ntmps30
      have p1 := HC1.out.c0
      have q1 := HC1.out.c1
      have p2 := HC2.out.c0
      have q2 := HC2.out.c1
      go_wp2_with fail
      (with_reducible refine (r3below_told z1.out G1 j1).mono ?_)
      rintro e w3 ⟨rfl, hb⟩
      clear p1 q1 p2 q2
      replace KB := below_trans KB hb
      replace HC1 := hide (HC1.out.below hb)
      replace HC2 := hide (HC2.out.below hb)
      replace A1 := A1.below hb
      replace A2 := A2.below hb
      replace G1 := G1.below hb
      replace G2 := G2.below hb
      clear hb
      have p1 := HC1.out.c0
      have q1 := HC1.out.c1
      have p2 := HC2.out.c0
      have q2 := HC2.out.c1
      go_wp2_with fail
      (with_reducible refine (r3below_told z1.out G1 j1).mono ?_)
      rintro e w4 ⟨rfl, hb⟩
      clear p1 q1 p2 q2
      replace KB := below_trans KB hb
      replace HC1 := hide (HC1.out.below hb)
      replace HC2 := hide (HC2.out.below hb)
      replace A1 := A1.below hb
      replace A2 := A2.below hb
      replace G1 := G1.below hb
      replace G2 := G2.below hb
      clear hb
      have p1 := HC1.out.c0
      have q1 := HC1.out.c1
      have p2 := HC2.out.c0
      have q2 := HC2.out.c1
      go_wp2_with fail
      (with_reducible refine (r3below_told z2.out G2 j2).mono ?_)
      rintro e w5 ⟨rfl, hb⟩
      clear p1 q1 p2 q2
      replace KB := below_trans KB hb
      replace HC1 := hide (HC1.out.below hb)
      replace HC2 := hide (HC2.out.below hb)
      replace A1 := A1.below hb
      replace A2 := A2.below hb
      replace G1 := G1.below hb
      replace G2 := G2.below hb
      clear hb
      have p1 := HC1.out.c0
      have q1 := HC1.out.c1
      have p2 := HC2.out.c0
      have q2 := HC2.out.c1
      go_wp2_with fail
      (with_reducible refine (r3below_told z1.out G1 j1).mono ?_)
      rintro e w6 ⟨rfl, hb⟩
      clear p1 q1 p2 q2
      replace KB := below_trans KB hb
      replace HC1 := hide (HC1.out.below hb)
      replace HC2 := hide (HC2.out.below hb)
      replace A1 := A1.below hb
      replace A2 := A2.below hb
      replace G1 := G1.below hb
      replace G2 := G2.below hb
      clear hb
      have p1 := HC1.out.c0
      have q1 := HC1.out.c1
      have p2 := HC2.out.c0
      have q2 := HC2.out.c1
      go_wp2_with fail
      (with_reducible refine (rcmp_any A1 A2 (by omega) (by omega)).mono ?_)
      rintro e w7 ⟨rfl, hb⟩
      replace KB := below_trans KB hb
      go_wp2
      go_ret
      exact ⟨by rw [← hv.out]; rfl, KB⟩

theorem r3cmp_told {w : World} {v1 : Value} {n1 : Int} {k1 : Nat} {v2 : Value} {n2 : Int} {k2 : Nat} {c : Int} (hc : sgn n1 n2 = c) (h1 : WArg w v1 n1 k1) (j1 : k1 ≤ 1099511627776) (h2 : WArg w v2 n2 k2) (j2 : k2 ≤ 1099511627776) :
    Calls Tryz.prog 30 #[v1, v2] w fun e w' => e = .returned (.int .i64 c) ∧ Below w.heap.size w w' := by
  subst hc
  exact r3cmp_any h1 j1 h2 j2

theorem Twin.below_p {w P w2 : World} {B : Nat} {v : Value} {xs : List Int} (Z : Twin B w v xs) (hb : Below P.heap.size P w2) (hp : Below w.heap.size w P) : Twin B w2 v xs := (Z.below hp).below hb
theorem Cell2.below_p {w P w2 : World} {b : Nat} {x y : Value} (Z : Cell2 w b x y) (hb : Below P.heap.size P w2) (hp : Below w.heap.size w P) : Cell2 w2 b x y := (Z.below hp).below hb
theorem Twin.putc {B : Nat} {w : World} {v : Value} {xs : List Int} {b : Nat} {z : Bool} {u : Value} (h : Twin B w v xs) (Z : Cell2 w b (.bool z) u) (x y : Value) : Twin B ((w.setCell ⟨b, 0, none⟩ x).setCell ⟨b, 1, none⟩ y) v xs := by
  obtain ⟨g, h1, h2, h3, h7⟩ := h
  have hne : g ≠ b := by
    intro e
    subst e
    have hc := h7.cell (i := 0) (by rw [List.length_append]; simp)
    rw [Z.c0] at hc
    cases hc
  refine ⟨g, h1, h2, h3, ?_⟩
  unfold Row
  rw [Below.heap_setCell _ _ _ _ (by show g ≠ b; exact hne), Below.heap_setCell _ _ _ _ (by show g ≠ b; exact hne)]
  exact h7
theorem Twin.zero {B : Nat} {w : World} {v : Value} {xs : List Int} (h : Twin B w v xs) : Twin 0 w v xs := by
  obtain ⟨g, h1, h2, h3, h7⟩ := h
  exact ⟨g, h1, Nat.zero_le _, h3, h7⟩

theorem tw_aa {w wn : World} (K : Below w.heap.size w wn) (x y x' y' : Value) (t t' : TypeId) :
    Cell2 ((wn.alloc (.cells #[x, y] t)).alloc (.cells #[x', y'] t')) wn.heap.size x y ∧ Cell2 ((wn.alloc (.cells #[x, y] t)).alloc (.cells #[x', y'] t')) (wn.heap.size + 1) x' y' ∧ Below w.heap.size w ((wn.alloc (.cells #[x, y] t)).alloc (.cells #[x', y'] t')) ∧
      ∀ {B : Nat} {v : Value} {xs : List Int}, Twin B wn v xs → Twin 0 ((wn.alloc (.cells #[x, y] t)).alloc (.cells #[x', y'] t')) v xs := by
  have hb : Below wn.heap.size wn ((wn.alloc (.cells #[x, y] t)).alloc (.cells #[x', y'] t')) := below_trans (bel_alloc _ _) (bel_alloc _ _)
  have h := after2 (Below.refl _ ((wn.alloc (.cells #[x, y] t)).alloc (.cells #[x', y'] t')))
  exact ⟨h.1, h.2, below_trans K hb, fun q => (q.below hb).zero⟩
theorem tw_sa {w wn : World} {b : Nat} {z : Bool} {u' : Value} (K : Below w.heap.size w wn) (Z : Cell2 wn b (.bool z) u') (hb : w.heap.size ≤ b) (x y x' y' : Value) (t : TypeId) :
    Cell2 (((wn.setCell ⟨b, 0, none⟩ x).setCell ⟨b, 1, none⟩ y).alloc (.cells #[x', y'] t)) b x y ∧ Cell2 (((wn.setCell ⟨b, 0, none⟩ x).setCell ⟨b, 1, none⟩ y).alloc (.cells #[x', y'] t)) wn.heap.size x' y' ∧ Below w.heap.size w (((wn.setCell ⟨b, 0, none⟩ x).setCell ⟨b, 1, none⟩ y).alloc (.cells #[x', y'] t)) ∧
      ∀ {B : Nat} {v : Value} {xs : List Int}, Twin B wn v xs → Twin 0 (((wn.setCell ⟨b, 0, none⟩ x).setCell ⟨b, 1, none⟩ y).alloc (.cells #[x', y'] t)) v xs := by
  have hz : ((wn.setCell ⟨b, 0, none⟩ x).setCell ⟨b, 1, none⟩ y).heap.size = wn.heap.size := by simp [World.setCell]
  have hk := below_put2 K hb x y
  have hn := cell2_new ((wn.setCell ⟨b, 0, none⟩ x).setCell ⟨b, 1, none⟩ y) x' y' t
  rw [hz] at hn
  exact ⟨(Z.put x y).alloc _, hn, below_trans hk (bel_alloc _ _), fun q => ((q.putc Z x y).below (bel_alloc _ _)).zero⟩
theorem tw_ss {w wn : World} {b c : Nat} {z z2 : Bool} {u u' : Value} (K : Below w.heap.size w wn) (Z : Cell2 wn b (.bool z) u) (Z' : Cell2 wn c (.bool z2) u') (hb : w.heap.size ≤ b) (hc : w.heap.size ≤ c) (hn : b ≠ c) (x y x' y' : Value) :
    Cell2 ((((wn.setCell ⟨b, 0, none⟩ x).setCell ⟨b, 1, none⟩ y).setCell ⟨c, 0, none⟩ x').setCell ⟨c, 1, none⟩ y') b x y ∧ Cell2 ((((wn.setCell ⟨b, 0, none⟩ x).setCell ⟨b, 1, none⟩ y).setCell ⟨c, 0, none⟩ x').setCell ⟨c, 1, none⟩ y') c x' y' ∧ Below w.heap.size w ((((wn.setCell ⟨b, 0, none⟩ x).setCell ⟨b, 1, none⟩ y).setCell ⟨c, 0, none⟩ x').setCell ⟨c, 1, none⟩ y') ∧
      ∀ {B : Nat} {v : Value} {xs : List Int}, Twin B wn v xs → Twin 0 ((((wn.setCell ⟨b, 0, none⟩ x).setCell ⟨b, 1, none⟩ y).setCell ⟨c, 0, none⟩ x').setCell ⟨c, 1, none⟩ y') v xs :=
  ⟨(Z.put x y).away hn _ _, (Z'.away (fun e => hn e.symm) _ _).put _ _, below_put2 (below_put2 K hb x y) hc x' y', fun q => ((q.putc Z x y).putc (Z'.away (fun e => hn e.symm) x y) x' y').zero⟩

end Go.Proofs.YtejenbkhhcjeaaaGreatDoor
