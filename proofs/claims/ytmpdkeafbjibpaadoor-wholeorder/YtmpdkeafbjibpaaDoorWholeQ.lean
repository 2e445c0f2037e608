/- whole: Quo -/
import Derived.Test.YtmpdkeafbjibpaaDoorWholeB
import Derived.Test.YtmpdkeafbjibpaaDoorDiv
namespace Go.Proofs.YtmpdkeafbjibpaaDoor
open Go.RowKit

theorem tdiv_sg {n m s t a b : Int} (h : Sg n s a) (k : Sg m t b) : (if s * t = -1 then -(a / b) else a / b) = n.tdiv m := by
  unfold Sg at h k
  rcases h with ⟨h1, rfl, rfl⟩ | ⟨rfl, rfl, rfl⟩ | ⟨h1, rfl, rfl⟩ <;> rcases k with ⟨k1, rfl, rfl⟩ | ⟨rfl, rfl, rfl⟩ | ⟨k1, rfl, rfl⟩ <;> simp
  · rw [← Int.tdiv_eq_ediv_of_nonneg (by omega), Int.neg_tdiv]; omega
  · rw [← Int.tdiv_eq_ediv_of_nonneg (by omega), Int.neg_tdiv]; omega
  · rw [← Int.tdiv_eq_ediv_of_nonneg (by omega)]
  · rw [← Int.tdiv_eq_ediv_of_nonneg (by omega)]
theorem tmod_sg {n m s t a b : Int} (h : Sg n s a) (k : Sg m t b) : (if s = -1 then -(a % b) else a % b) = n.tmod m := by
  unfold Sg at h k
  rcases h with ⟨h1, rfl, rfl⟩ | ⟨rfl, rfl, rfl⟩ | ⟨h1, rfl, rfl⟩ <;> rcases k with ⟨k1, rfl, rfl⟩ | ⟨rfl, rfl, rfl⟩ | ⟨k1, rfl, rfl⟩ <;> simp
  · rw [← Int.emod_neg, ← Int.tmod_eq_emod_of_nonneg (by omega), Int.neg_tmod, Int.tmod_neg]; simp
  · rw [← Int.tmod_eq_emod_of_nonneg (by omega), Int.neg_tmod]; omega
  · rw [← Int.tmod_eq_emod_of_nonneg (by omega)]
  · rw [← Int.tmod_eq_emod_of_nonneg (by omega)]

theorem tmod_lt {n m : Int} (h : ¬ m = 0) : (if n.tmod m < 0 then -n.tmod m else n.tmod m) < (if m < 0 then -m else m) := by
  have h1 := Int.lt_tmod_of_pos
  have h2 : (n.tmod m).natAbs < m.natAbs := by
    rw [Int.natAbs_tmod]
    exact Nat.mod_lt _ (Int.natAbs_pos.2 h)
  clear h1
  split <;> split <;> omega
theorem tmod_sgn (n m : Int) : n.tmod m = 0 ∨ sgn (n.tmod m) 0 = sgn n 0 := by
  rcases Int.lt_trichotomy n 0 with h | h | h
  · have h1 : n.tmod m ≤ 0 := by
      have h2 := Int.tmod_nonneg (a := -n) m (by omega)
      rw [Int.neg_tmod] at h2
      omega
    rcases Int.lt_or_eq_of_le h1 with h2 | h2
    · exact Or.inr (by rw [sgn_lt h2, sgn_lt h])
    · exact Or.inl h2
  · subst h; exact Or.inl (by simp)
  · have h1 := Int.tmod_nonneg (a := n) m (by omega)
    rcases Int.lt_or_eq_of_le h1 with h2 | h2
    · exact Or.inr (by rw [sgn_gt h2, sgn_gt h])
    · exact Or.inl h2.symm

set_option maxRecDepth 20000 in
set_option maxHeartbeats 4000000 in
theorem wquo_zero {w : World} {v1 : Value} {n1 : Int} {k1 : Nat} {v2 : Value} {n2 : Int} {k2 : Nat} (h1 : WArg w v1 n1 k1) (j1 : k1 ≤ 549755813888) (h2 : WArg w v2 n2 k2) (j2 : k2 ≤ 549755813888) (hz : n2 = 0) :
    Calls Tryd.prog 29 #[v1, v2] w fun e w' => e = .returned (.tuple #[.agg #[.bool false, .slice none 0 0], .agg #[.bool false, .slice none 0 0], .bool false]) ∧ Below w.heap.size w w' := by
  obtain ⟨neg1, m1, a1, rfl, ha, hn1⟩ := h1
  have A1 := ha
  obtain ⟨zs1, ⟨ao1, cap1, rfl, -⟩, -⟩ := ha
  obtain ⟨neg2, m2, a2, rfl, ha, hn2⟩ := h2
  have A2 := ha
  have N2 := ha.nonneg
  obtain ⟨zs2, ⟨ao2, cap2, rfl, -⟩, -⟩ := ha
  have ha2 : a2 = 0 := by unfold wn at hn2; split at hn2 <;> omega
  subst ha2
  clear hn1 hn2
  have K1 : Below w.heap.size w ((((w.alloc (.cells #[.bool neg1, .slice ao1 zs1.length cap1] 25)).alloc (.cells #[.bool neg2, .slice ao2 zs2.length cap2] 25)).alloc (.cells #[.bool false, .slice none 0 0] 25)).alloc (.cells #[.bool false, .slice none 0 0] 25)) := below_trans (below_trans (below_trans (bel_alloc _ _) (bel_alloc _ _)) (bel_alloc _ _)) (bel_alloc _ _)
  replace A1 := A1.below K1
  replace A2 := A2.below K1
  go_enter Tryd.func29, Tryd.ntmps29
  go_wp2_with fail
  with_reducible refine (div_zero A1 A2 (by omega) (by omega)).mono ?_
  rintro e w2 ⟨rfl, rfl⟩
  go_wp2
  go_returns
  exact ⟨rfl, K1⟩

set_option maxRecDepth 20000 in
set_option maxHeartbeats 8000000 in
theorem wquo_any {w : World} {v1 : Value} {n1 : Int} {k1 : Nat} {v2 : Value} {n2 : Int} {k2 : Nat} (h1 : WArg w v1 n1 k1) (j1 : k1 ≤ 549755813888) (h2 : WArg w v2 n2 k2) (j2 : k2 ≤ 549755813888) (hz : n2 ≠ 0) :
    Calls Tryd.prog 29 #[v1, v2] w fun e w' => ∃ q r, e = .returned (.tuple #[q, r, .bool true]) ∧ WNum w.heap.size w' q (n1.tdiv n2) k1 ∧ WNum w.heap.size w' r (n1.tmod n2) k2 ∧ Below w.heap.size w w' := by
  obtain ⟨neg1, m1, a1, rfl, ha, hn1⟩ := h1
  have A1 := ha
  obtain ⟨zs1, ⟨ao1, cap1, rfl, -⟩, -⟩ := ha
  have N1 := A1.nonneg
  have hs1 := sg_self hn1 N1
  have Hn1 := hide hn1
  clear hn1
  obtain ⟨neg2, m2, a2, rfl, ha, hn2⟩ := h2
  have A2 := ha
  obtain ⟨zs2, ⟨ao2, cap2, rfl, -⟩, -⟩ := ha
  have N2 := A2.nonneg
  have hs2 := sg_self hn2 N2
  have hp2 : 0 < a2 := by unfold wn at hn2; split at hn2 <;> omega
  have Hn2 := hide hn2
  clear hn2
  have l1 := hs1.bound.1
  have u1 := hs1.bound.2
  have l3 := (sg_mul_bound hs1 hs2).1
  have u3 := (sg_mul_bound hs1 hs2).2
  have HW : Hid (IntKind.i8.wrap (sgn n1 0 * sgn n2 0) = sgn n1 0 * sgn n2 0) := hide (IntWalk.i8_in _ ⟨by omega, by omega⟩)
  have eq := hide (tdiv_sg hs1 hs2)
  have er := hide (tmod_sg hs1 hs2)
  have K1 : Below w.heap.size w ((((w.alloc (.cells #[.bool neg1, .slice ao1 zs1.length cap1] 25)).alloc (.cells #[.bool neg2, .slice ao2 zs2.length cap2] 25)).alloc (.cells #[.bool false, .slice none 0 0] 25)).alloc (.cells #[.bool false, .slice none 0 0] 25)) := below_trans (below_trans (below_trans (bel_alloc _ _) (bel_alloc _ _)) (bel_alloc _ _)) (bel_alloc _ _)
  have z1 : (w.alloc (.cells #[.bool neg1, .slice ao1 zs1.length cap1] 25)).heap.size = w.heap.size + 1 := by simp
  have z2 : ((w.alloc (.cells #[.bool neg1, .slice ao1 zs1.length cap1] 25)).alloc (.cells #[.bool neg2, .slice ao2 zs2.length cap2] 25)).heap.size = w.heap.size + 2 := by simp
  have z3 : (((w.alloc (.cells #[.bool neg1, .slice ao1 zs1.length cap1] 25)).alloc (.cells #[.bool neg2, .slice ao2 zs2.length cap2] 25)).alloc (.cells #[.bool false, .slice none 0 0] 25)).heap.size = w.heap.size + 3 := by simp
  have C1 := (((cell2_new w (.bool neg1) (.slice ao1 zs1.length cap1) 25).alloc (.cells #[.bool neg2, .slice ao2 zs2.length cap2] 25)).alloc (.cells #[.bool false, .slice none 0 0] 25)).alloc (.cells #[.bool false, .slice none 0 0] 25)
  have C2 := ((cell2_new (w.alloc (.cells #[.bool neg1, .slice ao1 zs1.length cap1] 25)) (.bool neg2) (.slice ao2 zs2.length cap2) 25).alloc (.cells #[.bool false, .slice none 0 0] 25)).alloc (.cells #[.bool false, .slice none 0 0] 25)
  have D4 := (cell2_new ((w.alloc (.cells #[.bool neg1, .slice ao1 zs1.length cap1] 25)).alloc (.cells #[.bool neg2, .slice ao2 zs2.length cap2] 25)) (.bool false) (.slice none 0 0) 25).alloc (.cells #[.bool false, .slice none 0 0] 25)
  have D5 := cell2_new (((w.alloc (.cells #[.bool neg1, .slice ao1 zs1.length cap1] 25)).alloc (.cells #[.bool neg2, .slice ao2 zs2.length cap2] 25)).alloc (.cells #[.bool false, .slice none 0 0] 25)) (.bool false) (.slice none 0 0) 25
  rw [z1] at C2
  rw [z2] at D4
  rw [z3] at D5
  clear z1 z2 z3
  replace A1 := A1.below K1
  replace A2 := A2.below K1
  have HC1 := hide C1
  have HC2 := hide C2
  have H4 := hide D4
  have H5 := hide D5
  clear C1 C2 D4 D5
  go_enter Tryd.func29, Tryd.ntmps29
  go_wp2_with fail
  with_reducible refine (div_any A1 A2 j1 j2 hp2).mono ?_
  rintro e w2 ⟨vq, vr, rfl, hq, hr, hbd⟩
  go_upto_region 4 with fail
  replace A1 := A1.below hbd
  replace A2 := A2.below hbd
  have C1 := HC1.out.below hbd
  have C2 := HC2.out.below hbd
  have D4 := H4.out.below hbd
  have D5 := H5.out.below hbd
  replace K1 := K1.trans (hbd.mono K1.size)
  have lq : w.heap.size + 3 < w2.heap.size := D5.lt
  replace hq := num_low (B' := w.heap.size + 4) hq (by have := H5.out.lt; omega)
  replace hr := num_low (B' := w.heap.size + 4) hr (by have := H5.out.lt; omega)
  clear HC1 HC2 H4 H5 hbd
  have HC1 := hide C1
  have HC2 := hide C2
  have H4 := hide D4
  have H5 := hide D5
  have p1 := C1.c0
  have q1 := C1.c1
  have p2 := C2.c0
  have q2 := C2.c1
  clear C1 C2 D4 D5
  have K : Below w2.heap.size w2 w2.drew := (Below.refl _ _).drew
  replace hq := hq.below K
  replace hr := hr.below K
  go_region_held3 (fun w' => w'.cell? ⟨w.heap.size, 0, none⟩ = some (.bool neg1) ∧ w'.cell? ⟨w.heap.size, 1, none⟩ = some (.slice ao1 zs1.length cap1) ∧ w'.cell? ⟨w.heap.size + 1, 0, none⟩ = some (.bool neg2) ∧ w'.cell? ⟨w.heap.size + 1, 1, none⟩ = some (.slice ao2 zs2.length cap2))
    (first
      | with_reducible exact ⟨(HC1.out.below K).c0, (HC1.out.below K).c1, (HC2.out.below K).c0, (HC2.out.below K).c1⟩
      | with_reducible exact ⟨((HC1.out.below K).away (by omega) _ _).c0, ((HC1.out.below K).away (by omega) _ _).c1, ((HC2.out.below K).away (by omega) _ _).c0, ((HC2.out.below K).away (by omega) _ _).c1⟩
      | with_reducible exact ⟨(((HC1.out.below K).away (by omega) _ _).away (by omega) _ _).c0, (((HC1.out.below K).away (by omega) _ _).away (by omega) _ _).c1, (((HC2.out.below K).away (by omega) _ _).away (by omega) _ _).c0, (((HC2.out.below K).away (by omega) _ _).away (by omega) _ _).c1⟩
      | go_keep)
    (first
      | (go_at_call 23; first | (with_reducible refine (sign_any (A1.below K) Hn1.out (by omega)).mono ?_; rintro e w3 ⟨rfl, hb⟩; replace K := below_trans K hb; replace hq := hq.below hb; replace hr := hr.below hb; (try replace R1 := R1.below hb); (try replace R2 := R2.below hb); clear hb; have d40 := (H4.out.below K).c0; have d41 := (H4.out.below K).c1; have g40 := (H4.out.below K).f0; have g41 := (H4.out.below K).f1; have d50 := (H5.out.below K).c0; have d51 := (H5.out.below K).c1; have g50 := (H5.out.below K).f0; have g51 := (H5.out.below K).f1) | (with_reducible refine (sign_any (A2.below K) Hn2.out (by omega)).mono ?_; rintro e w3 ⟨rfl, hb⟩; replace K := below_trans K hb; replace hq := hq.below hb; replace hr := hr.below hb; (try replace R1 := R1.below hb); (try replace R2 := R2.below hb); clear hb; have d40 := (H4.out.below K).c0; have d41 := (H4.out.below K).c1; have g40 := (H4.out.below K).f0; have g41 := (H4.out.below K).f1; have d50 := (H5.out.below K).c0; have d51 := (H5.out.below K).c1; have g50 := (H5.out.below K).f0; have g51 := (H5.out.below K).f1))
      | (go_at_call 22; (try rw [HW.out]); first | (with_reducible refine (number_any hq ⟨l3, u3⟩).mono ?_; rintro e w3 ⟨vw, rfl, R1, hb⟩; rw [eq.out] at R1; obtain ⟨ng1, ro1, rl1, rfl⟩ := R1.told; replace K := below_trans K hb; replace hq := hq.below hb; replace hr := hr.below hb; (try replace R2 := R2.below hb); clear hb; have d40 := (H4.out.below K).c0; have d41 := (H4.out.below K).c1; have g40 := (H4.out.below K).f0; have g41 := (H4.out.below K).f1; have d50 := (H5.out.below K).c0; have d51 := (H5.out.below K).c1; have g50 := (H5.out.below K).f0; have g51 := (H5.out.below K).f1) | (with_reducible refine (number_any hr ⟨l1, u1⟩).mono ?_; rintro e w3 ⟨vw, rfl, R2, hb⟩; rw [er.out] at R2; obtain ⟨ng2, ro2, rl2, rfl⟩ := R2.told; replace K := below_trans K hb; replace hq := hq.below hb; replace hr := hr.below hb; (try replace R1 := R1.below hb); clear hb; have d40 := (H4.out.below K).c0; have d41 := (H4.out.below K).c1; have g40 := (H4.out.below K).f0; have g41 := (H4.out.below K).f1; have d50 := (H5.out.below K).c0; have d51 := (H5.out.below K).c1; have g50 := (H5.out.below K).f0; have g51 := (H5.out.below K).f1)))
  all_goals go_wp2
  all_goals
    have P4 := ((H4.out.below K).put (.bool ng1) (.slice ro1 rl1 rl1)).away (c := w.heap.size + 3) (by omega) (.bool ng2) (.slice ro2 rl2 rl2)
    have P5 := ((H5.out.below K).away (c := w.heap.size + 2) (by omega) (.bool ng1) (.slice ro1 rl1 rl1)).put (.bool ng2) (.slice ro2 rl2 rl2)
    have KB := below_put2 (b := w.heap.size + 3) (below_put2 (b := w.heap.size + 2) (K1.trans (K.mono (by have := K1.size; omega))) (by omega) (.bool ng1) (.slice ro1 rl1 rl1)) (by omega) (.bool ng2) (.slice ro2 rl2 rl2)
    have W1 := ((((R1.put (b := w.heap.size + 2) (by omega) 0 (.bool ng1)).put (b := w.heap.size + 2) (by omega) 1 (.slice ro1 rl1 rl1)).put (b := w.heap.size + 3) (by omega) 0 (.bool ng2)).put (b := w.heap.size + 3) (by omega) 1 (.slice ro2 rl2 rl2)).low (B' := w.heap.size) (by omega)
    have W2 := ((((R2.put (b := w.heap.size + 2) (by omega) 0 (.bool ng1)).put (b := w.heap.size + 2) (by omega) 1 (.slice ro1 rl1 rl1)).put (b := w.heap.size + 3) (by omega) 0 (.bool ng2)).put (b := w.heap.size + 3) (by omega) 1 (.slice ro2 rl2 rl2)).low (B' := w.heap.size) (by omega)
    clear d40 d41 g40 g41 d50 d51 g50 g51 R1 R2 K K1 H4 H5 HC1 HC2 A1 A2 p1 q1 p2 q2 hq hr
    generalize (((w3.setCell ⟨w.heap.size + 2, 0, none⟩ (.bool ng1)).setCell ⟨w.heap.size + 2, 1, none⟩ (.slice ro1 rl1 rl1)).setCell ⟨w.heap.size + 3, 0, none⟩ (.bool ng2)).setCell ⟨w.heap.size + 3, 1, none⟩ (.slice ro2 rl2 rl2) = w9 at *
    (try simp only [Exit.inBlock, Exit.then])
    exact bodyPost_ret (v := .tuple #[.agg #[.bool ng1, .slice ro1 rl1 rl1], .agg #[.bool ng2, .slice ro2 rl2 rl2], .bool true]) (by simp [results, Tryd.results29, go_sem, P4.c0, P4.c1, P5.c0, P5.c1]) rfl ⟨_, _, rfl, W1, W2, KB⟩

end Go.Proofs.YtmpdkeafbjibpaaDoor
