/- ValueTotal: the walk (mk_vto.py) -/
import Derived.Test.YticmlelalbaalaaGreatDoorR42
namespace Go.Proofs.YticmlelalbaalaaGreatDoor
open Go.RowKit Go.Shelf
set_option linter.unusedVariables false
set_option linter.unusedSimpArgs false

theorem tr_lit {d e f : Int} (h : Tr d e f) (hd : R3 d) (he : R3 e) (hf : R3 f) : ¬ (d ≤ 0 ∧ e ≤ 0 ∧ (0 < f ∨ (f = 0 ∧ (d < 0 ∨ e < 0)))) := by
  obtain ⟨h1, h2⟩ := h
  rintro ⟨a, b, c⟩
  have := h1 a b
  omega

set_option maxHeartbeats 16000000 in
set_option maxRecDepth 100000 in
theorem total14 {w : World} {a : Nat → Addr} (LL : Lays w) (TT : Brn w) (UU : Uss w) (PP : PtW w) (hS : Snt w a) (hH : Hnd w) {x y z : Va} {v1 v2 v3 : Value} (h1 : VaRd w v1 x) (h2 : VaRd w v2 y) (h3 : VaRd w v3 z) :
    Calls Tryz.prog 5 #[v1, v2, v3] w fun e w' => e = .returned (.bool true) ∧ Below w.heap.size w w' := by
  obtain ⟨q1, rfl, rfl, g1⟩ := h1.cl
  obtain ⟨q2, rfl, rfl, g2⟩ := h2.cl
  obtain ⟨q3, rfl, rfl, g3⟩ := h3.cl
  have HLV := hide (fun (W : World) (hW : Below w.heap.size w W) => lives14_any (w := W) (LL.below hW) (TT.below hW) (UU.below hW) (PP.below hW) (hS.below hW) (hH.below hW))
  have HLY := hide LL
  clear LL TT UU PP hS hH
  obtain ⟨W1, hW1⟩ : ∃ W1, ((w.alloc (.cells (clQ q1).L.toArray 31)).alloc (.cells (clQ q2).L.toArray 31)).alloc (.cells (clQ q3).L.toArray 31) = W1 := ⟨_, rfl⟩
  obtain ⟨b1, b2, b3, k1⟩ := box3 h1 h2 h3 hW1
  obtain ⟨W2, hW2⟩ : ∃ W2, W1.alloc (.cells (clF [clQ q1, clQ q2, clQ q3]).toArray 31) = W2 := ⟨_, rfl⟩
  have HBY := hide (bey_row (zs := [q1, q2, q3]) (n := 3) (three_of (g1.far k1) (g2.far k1) (g3.far k1)) rfl (by decide) hW2)
  have k2 : Below W1.heap.size W1 W2 := by rw [← hW2]; exact bel_new _ _
  have HB1 := hide (fun (u : World) (hu : Below W1.heap.size W1 u) => b1.below hu)
  have HB2 := hide (fun (u : World) (hu : Below W1.heap.size W1 u) => b2.below hu)
  have HB3 := hide (fun (u : World) (hu : Below W1.heap.size W1 u) => b3.below hu)
  have HK1 := hide k1
  have HK2 := hide k2
  have HV1 := hide h1
  have HV2 := hide h2
  have HV3 := hide h3
  have HW1 := hide hW1
  have HW2 := hide hW2
  clear hW1 hW2 g1 g2 g3 b1 b2 b3 k1 k2 h1 h2 h3
  simp only [List.map_cons, List.map_nil] at HBY
  generalize hc1 : clQ q1 = c1 at *
  generalize hc2 : clQ q2 = c2 at *
  generalize hc3 : clQ q3 = c3 at *
  clear hc1 hc2 hc3
  generalize q1.1 = x at *
  generalize q2.1 = y at *
  generalize q3.1 = z at *
  go_enter Tryz.func5, Tryz.ntmps5
  unfold Cl.V
  go_upto_region 1 with fail
  try rw [HW1.out]
  have K : Below W1.heap.size W1 W1 := Below.refl _ _
  go_wp2_with (first | (refine wpList_ldV rfl _ rfl (w.heap.size) 0 rfl c1 (HB1.out _ K).row ?_; try simp only [Act.put, List.setIfInBounds_toArray, List.set_cons_zero, List.set_cons_succ]) | (refine wpList_ldV rfl _ rfl (w.heap.size + 1) 0 rfl c2 (HB2.out _ K).row ?_; try simp only [Act.put, List.setIfInBounds_toArray, List.set_cons_zero, List.set_cons_succ]) | (refine wpList_ldV rfl _ rfl (w.heap.size + 2) 0 rfl c3 (HB3.out _ K).row ?_; try simp only [Act.put, List.setIfInBounds_toArray, List.set_cons_zero, List.set_cons_succ]) | (refine wpList_bsC3 rfl _ _ _ rfl c1 c2 c3 rfl rfl rfl ?_; rw [HW2.out]; try simp only [Act.put, List.setIfInBounds_toArray, List.set_cons_zero, List.set_cons_succ]))
  with_reducible refine HBY.out.mono ?_
  rintro e w3 ⟨⟨q, rfl, hq⟩, hb⟩
  replace K := below_trans HK2.out hb
  clear hb
  cases q with
  | true =>
    clear hq
    go_wp2
    go_ret
    exact ⟨rfl, HK1.out.trans (K.mono HK1.out.size)⟩
  | false =>
    have hp := hq rfl
    simp only [kpts] at hp
    have HC12 := hide (fun (W : World) (hW : Below W1.heap.size W1 W) => show Calls Tryz.prog 19 #[c1.V, c2.V] W fun e w' => e = .returned (.int .i64 (vcmp x y)) ∧ Below W.heap.size W w' from by
      have h := (vcompare_any (x := x) (by omega)) W c1.V c2.V y (HLY.out.below (HK1.out.trans (hW.mono HK1.out.size))) (HV1.out.far (HK1.out.trans (hW.mono HK1.out.size))) (HV2.out.far (HK1.out.trans (hW.mono HK1.out.size))) (by omega)
      first | exact h | (rw [vcmp_neg x y] at h; exact h) | (rw [vcmp_self] at h; exact h))
    have HC23 := hide (fun (W : World) (hW : Below W1.heap.size W1 W) => show Calls Tryz.prog 19 #[c2.V, c3.V] W fun e w' => e = .returned (.int .i64 (vcmp y z)) ∧ Below W.heap.size W w' from by
      have h := (vcompare_any (x := y) (by omega)) W c2.V c3.V z (HLY.out.below (HK1.out.trans (hW.mono HK1.out.size))) (HV2.out.far (HK1.out.trans (hW.mono HK1.out.size))) (HV3.out.far (HK1.out.trans (hW.mono HK1.out.size))) (by omega)
      first | exact h | (rw [vcmp_neg x y] at h; exact h) | (rw [vcmp_self] at h; exact h))
    have HC13 := hide (fun (W : World) (hW : Below W1.heap.size W1 W) => show Calls Tryz.prog 19 #[c1.V, c3.V] W fun e w' => e = .returned (.int .i64 (vcmp x z)) ∧ Below W.heap.size W w' from by
      have h := (vcompare_any (x := x) (by omega)) W c1.V c3.V z (HLY.out.below (HK1.out.trans (hW.mono HK1.out.size))) (HV1.out.far (HK1.out.trans (hW.mono HK1.out.size))) (HV3.out.far (HK1.out.trans (hW.mono HK1.out.size))) (by omega)
      first | exact h | (rw [vcmp_neg x y] at h; exact h) | (rw [vcmp_self] at h; exact h))
    have HC21 := hide (fun (W : World) (hW : Below W1.heap.size W1 W) => show Calls Tryz.prog 19 #[c2.V, c1.V] W fun e w' => e = .returned (.int .i64 (-vcmp x y)) ∧ Below W.heap.size W w' from by
      have h := (vcompare_any (x := y) (by omega)) W c2.V c1.V x (HLY.out.below (HK1.out.trans (hW.mono HK1.out.size))) (HV2.out.far (HK1.out.trans (hW.mono HK1.out.size))) (HV1.out.far (HK1.out.trans (hW.mono HK1.out.size))) (by omega)
      first | exact h | (rw [vcmp_neg x y] at h; exact h) | (rw [vcmp_self] at h; exact h))
    have HC11 := hide (fun (W : World) (hW : Below W1.heap.size W1 W) => show Calls Tryz.prog 19 #[c1.V, c1.V] W fun e w' => e = .returned (.int .i64 (0)) ∧ Below W.heap.size W w' from by
      have h := (vcompare_any (x := x) (by omega)) W c1.V c1.V x (HLY.out.below (HK1.out.trans (hW.mono HK1.out.size))) (HV1.out.far (HK1.out.trans (hW.mono HK1.out.size))) (HV1.out.far (HK1.out.trans (hW.mono HK1.out.size))) (by omega)
      first | exact h | (rw [vcmp_neg x y] at h; exact h) | (rw [vcmp_self] at h; exact h))
    have HCY := hide (fun (W : World) (hW : Below W1.heap.size W1 W) => show Calls Tryz.prog 21 #[c1.V] W fun e w' => (∃ c : Cl, e = .returned c.V ∧ VaRd w' c.V x) ∧ Below W.heap.size W w' from by
      refine ((copy_any (x := x) (by omega)) W c1.V (HV1.out.far (HK1.out.trans (hW.mono HK1.out.size)))).mono fun e w' h => ⟨?_, h.2⟩
      obtain ⟨⟨u, rfl, hu⟩, -⟩ := h
      obtain ⟨c, rfl⟩ := hu.cl
      exact ⟨c, rfl, hu.reads⟩)
    have HCC := hide (fun (W : World) (c : Cl) (hW : Below W1.heap.size W1 W) (hc : VaRd W c.V x) => show Calls Tryz.prog 19 #[c.V, c1.V] W fun e w' => e = .returned (.int .i64 0) ∧ Below W.heap.size W w' from by
      have h := (vcompare_any (x := x) (by omega)) W c.V c1.V x (HLY.out.below (HK1.out.trans (hW.mono HK1.out.size))) hc (HV1.out.far (HK1.out.trans (hW.mono HK1.out.size))) (by omega)
      rw [vcmp_self] at h
      exact h)
    have r1 := r3_cases (vcmp_r x y)
    have r2 := r3_cases (vcmp_r y z)
    have r3 := r3_cases (vcmp_r x z)
    have HTR := hide (tr_lit (vcmp_tr x y z) (vcmp_r x y) (vcmp_r y z) (vcmp_r x z))
    generalize vcmp x y = d at *
    generalize vcmp y z = e' at *
    generalize vcmp x z = f at *
    clear hp hq
    have HR1 := hide r1
    have HR2 := hide r2
    have HR3 := hide r3
    clear r1 r2 r3
    go_upto_region 6 with (first | (refine wpList_ldV rfl _ rfl (w.heap.size) 0 rfl c1 (HB1.out _ K).row ?_; try simp only [Act.put, List.setIfInBounds_toArray, List.set_cons_zero, List.set_cons_succ]) | (refine wpList_ldV rfl _ rfl (w.heap.size + 1) 0 rfl c2 (HB2.out _ K).row ?_; try simp only [Act.put, List.setIfInBounds_toArray, List.set_cons_zero, List.set_cons_succ]) | (refine wpList_ldV rfl _ rfl (w.heap.size + 2) 0 rfl c3 (HB3.out _ K).row ?_; try simp only [Act.put, List.setIfInBounds_toArray, List.set_cons_zero, List.set_cons_succ]) | (go_at_call 19; (with_reducible refine (HC12.out _ K).mono ?_); rintro e wn ⟨rfl, hb⟩; replace K := below_trans K hb; clear hb) | (go_at_call 19; (with_reducible refine (HC23.out _ K).mono ?_); rintro e wn ⟨rfl, hb⟩; replace K := below_trans K hb; clear hb) | (go_at_call 19; (with_reducible refine (HC13.out _ K).mono ?_); rintro e wn ⟨rfl, hb⟩; replace K := below_trans K hb; clear hb))
    rename World => w6
    have HK6 := hide K
    clear K
    go_cut [50] from 10 (fun s50 w' => s50 = .bool false ∧ Below w6.heap.size w6 w')
    case first =>
      have d25 : decide (d < -1) = false := by have := HR1.out; simp; omega
      have d28 : decide (1 < d) = false := by have := HR1.out; simp; omega
      have d35 : IntKind.i64.wrap (-d) = -d := by have := HR1.out; rw [IntKind.wrap_i64]; omega
      have CC : ∀ u : World, Below w6.heap.size w6 u → u.rangeAt w.heap.size 0 c1.L ∧ u.rangeAt (w.heap.size + 1) 0 c2.L := fun u hu => ⟨(HB1.out _ (HK6.out.trans (hu.mono HK6.out.size))).row, (HB2.out _ (HK6.out.trans (hu.mono HK6.out.size))).row⟩
      have K : Below w6.heap.size w6 w6.drew := (Below.refl _ _).drew
      have HC0 := CC _ K
      refine wpHl.region0 (C := fun u => u.rangeAt w.heap.size 0 c1.L ∧ u.rangeAt (w.heap.size + 1) 0 c2.L) (by kernel_rfl) (by kernel_rfl) (fun HS => ?_)
      refine wpHl.tk0 (i := 0) (d := some 24) (v := .int .i64 d) rfl HS (by as_aux_lemma => kernel_rfl) rfl (fun _ _ _ h => h) (Or.inl ⟨by rfl, ?_⟩) HC0 ?_
      · intro u hC
        go_simp
      simp only [Act.put, List.setIfInBounds_toArray, List.set_cons_zero, List.set_cons_succ]
      refine wpHl.tk0 (i := 1) (d := some 25) (v := .bool false) rfl HS (by as_aux_lemma => kernel_rfl) rfl (fun _ _ _ h => h) (Or.inl ⟨by rfl, ?_⟩) HC0 ?_
      · intro u hC
        go_simp
      simp only [Act.put, List.setIfInBounds_toArray, List.set_cons_zero, List.set_cons_succ]
      refine wpHl.tk0 (i := 2) (d := some 26) (v := .bool false) rfl HS (by as_aux_lemma => kernel_rfl) rfl (fun _ _ _ h => h) (Or.inl ⟨by rfl, ?_⟩) HC0 ?_
      · intro u hC
        go_simp
      simp only [Act.put, List.setIfInBounds_toArray, List.set_cons_zero, List.set_cons_succ]
      refine wpHl.tk0 (i := 3) (d := some 27) (v := .int .i64 d) rfl HS (by as_aux_lemma => kernel_rfl) rfl (fun _ _ _ h => h) (Or.inl ⟨by rfl, ?_⟩) HC0 ?_
      · intro u hC
        go_simp
      simp only [Act.put, List.setIfInBounds_toArray, List.set_cons_zero, List.set_cons_succ]
      refine wpHl.tk0 (i := 4) (d := some 28) (v := .bool false) rfl HS (by as_aux_lemma => kernel_rfl) rfl (fun _ _ _ h => h) (Or.inl ⟨by rfl, ?_⟩) HC0 ?_
      · intro u hC
        go_simp
      simp only [Act.put, List.setIfInBounds_toArray, List.set_cons_zero, List.set_cons_succ]
      refine wpHl.tk0 (i := 5) (d := some 29) (v := .bool false) rfl HS (by as_aux_lemma => kernel_rfl) rfl (fun _ _ _ h => h) (Or.inl ⟨by rfl, ?_⟩) HC0 ?_
      · intro u hC
        go_simp
      simp only [Act.put, List.setIfInBounds_toArray, List.set_cons_zero, List.set_cons_succ]
      refine wpHl.tk0 (i := 6) (d := some 30) (v := .bool false) rfl HS (by as_aux_lemma => kernel_rfl) rfl (fun _ _ _ h => h) (Or.inl ⟨by rfl, ?_⟩) HC0 ?_
      · intro u hC
        go_simp
      simp only [Act.put, List.setIfInBounds_toArray, List.set_cons_zero, List.set_cons_succ]
      refine wpHl.tk0 (i := 7) (d := some 31) (v := c2.V) rfl HS (by as_aux_lemma => kernel_rfl) rfl (fun _ _ _ h => h) (Or.inl ⟨by rfl, ?_⟩) HC0 ?_
      · intro u hC
        exact run_ldV rfl rfl hC.2
      simp only [Act.put, List.setIfInBounds_toArray, List.set_cons_zero, List.set_cons_succ]
      refine wpHl.tk0 (i := 8) (d := some 32) (v := c1.V) rfl HS (by as_aux_lemma => kernel_rfl) rfl (fun _ _ _ h => h) (Or.inl ⟨by rfl, ?_⟩) HC0 ?_
      · intro u hC
        exact run_ldV rfl rfl hC.1
      simp only [Act.put, List.setIfInBounds_toArray, List.set_cons_zero, List.set_cons_succ]
      refine wpHl.tk0 (i := 10) (d := some 34) (v := .int .i64 d) rfl HS (by as_aux_lemma => kernel_rfl) rfl (fun _ _ _ h => h) (Or.inl ⟨by rfl, ?_⟩) HC0 ?_
      · intro u hC
        go_simp
      simp only [Act.put, List.setIfInBounds_toArray, List.set_cons_zero, List.set_cons_succ]
      refine wpHl.tk0 (i := 11) (d := some 35) (v := .int .i64 (-d)) rfl HS (by as_aux_lemma => kernel_rfl) rfl (fun _ _ _ h => h) (Or.inl ⟨by rfl, ?_⟩) HC0 ?_
      · intro u hC
        go_simp
      simp only [Act.put, List.setIfInBounds_toArray, List.set_cons_zero, List.set_cons_succ]
      refine wpHl.one (i := 9) (by as_aux_lemma => kernel_rfl) rfl (fun K1 hK1 => ?_)
      rw [if_pos (by rfl)]
      refine wp_call_of (f := 19) (args := #[c2.V, c1.V]) (by kernel_rfl) ?_
      with_reducible refine (HC21.out _ (HK6.out.trans (K.mono HK6.out.size))).mono ?_
      rintro e wn ⟨rfl, hb⟩
      replace K := below_trans K hb
      clear HC0
      have HC0 := CC _ K
      refine hK1 (Act.put _ (some 33) _) _ ⟨fun _ => HC0, ?_⟩
      clear hK1 K1 hb
      try simp only [Act.put, List.setIfInBounds_toArray, List.set_cons_zero, List.set_cons_succ]
      refine wpHl.tk0 (i := 12) (d := some 36) (v := .bool false) rfl HS (by as_aux_lemma => kernel_rfl) rfl (fun _ _ _ h => h) (Or.inl ⟨by rfl, ?_⟩) HC0 ?_
      · intro u hC
        go_simp
      simp only [Act.put, List.setIfInBounds_toArray, List.set_cons_zero, List.set_cons_succ]
      refine wpHl.tk0 (i := 13) (d := some 37) (v := .bool false) rfl HS (by as_aux_lemma => kernel_rfl) rfl (fun _ _ _ h => h) (Or.inl ⟨by rfl, ?_⟩) HC0 ?_
      · intro u hC
        go_simp
      simp only [Act.put, List.setIfInBounds_toArray, List.set_cons_zero, List.set_cons_succ]
      refine wpHl.tk0 (i := 14) (d := some 38) (v := .bool false) rfl HS (by as_aux_lemma => kernel_rfl) rfl (fun _ _ _ h => h) (Or.inl ⟨by rfl, ?_⟩) HC0 ?_
      · intro u hC
        go_simp
      simp only [Act.put, List.setIfInBounds_toArray, List.set_cons_zero, List.set_cons_succ]
      refine wpHl.tk0 (i := 15) (d := some 39) (v := c1.V) rfl HS (by as_aux_lemma => kernel_rfl) rfl (fun _ _ _ h => h) (Or.inl ⟨by rfl, ?_⟩) HC0 ?_
      · intro u hC
        exact run_ldV rfl rfl hC.1
      simp only [Act.put, List.setIfInBounds_toArray, List.set_cons_zero, List.set_cons_succ]
      refine wpHl.tk0 (i := 16) (d := some 40) (v := c1.V) rfl HS (by as_aux_lemma => kernel_rfl) rfl (fun _ _ _ h => h) (Or.inl ⟨by rfl, ?_⟩) HC0 ?_
      · intro u hC
        exact run_ldV rfl rfl hC.1
      simp only [Act.put, List.setIfInBounds_toArray, List.set_cons_zero, List.set_cons_succ]
      refine wpHl.one (i := 17) (by as_aux_lemma => kernel_rfl) rfl (fun K1 hK1 => ?_)
      rw [if_pos (by rfl)]
      refine wp_call_of (f := 19) (args := #[c1.V, c1.V]) (by kernel_rfl) ?_
      with_reducible refine (HC11.out _ (HK6.out.trans (K.mono HK6.out.size))).mono ?_
      rintro e wn ⟨rfl, hb⟩
      replace K := below_trans K hb
      clear HC0
      have HC0 := CC _ K
      refine hK1 (Act.put _ (some 41) _) _ ⟨fun _ => HC0, ?_⟩
      clear hK1 K1 hb
      try simp only [Act.put, List.setIfInBounds_toArray, List.set_cons_zero, List.set_cons_succ]
      refine wpHl.tk0 (i := 18) (d := some 42) (v := .bool false) rfl HS (by as_aux_lemma => kernel_rfl) rfl (fun _ _ _ h => h) (Or.inl ⟨by rfl, ?_⟩) HC0 ?_
      · intro u hC
        go_simp
      simp only [Act.put, List.setIfInBounds_toArray, List.set_cons_zero, List.set_cons_succ]
      refine wpHl.tk0 (i := 19) (d := some 43) (v := .bool false) rfl HS (by as_aux_lemma => kernel_rfl) rfl (fun _ _ _ h => h) (Or.inl ⟨by rfl, ?_⟩) HC0 ?_
      · intro u hC
        go_simp
      simp only [Act.put, List.setIfInBounds_toArray, List.set_cons_zero, List.set_cons_succ]
      refine wpHl.tk0 (i := 20) (d := some 44) (v := .bool false) rfl HS (by as_aux_lemma => kernel_rfl) rfl (fun _ _ _ h => h) (Or.inl ⟨by rfl, ?_⟩) HC0 ?_
      · intro u hC
        go_simp
      simp only [Act.put, List.setIfInBounds_toArray, List.set_cons_zero, List.set_cons_succ]
      refine wpHl.tk0 (i := 21) (d := some 45) (v := c1.V) rfl HS (by as_aux_lemma => kernel_rfl) rfl (fun _ _ _ h => h) (Or.inl ⟨by rfl, ?_⟩) HC0 ?_
      · intro u hC
        exact run_ldV rfl rfl hC.1
      simp only [Act.put, List.setIfInBounds_toArray, List.set_cons_zero, List.set_cons_succ]
      refine wpHl.tk0 (i := 23) (d := some 47) (v := c1.V) rfl HS (by as_aux_lemma => kernel_rfl) rfl (fun _ _ _ h => h) (Or.inl ⟨by rfl, ?_⟩) HC0 ?_
      · intro u hC
        exact run_ldV rfl rfl hC.1
      simp only [Act.put, List.setIfInBounds_toArray, List.set_cons_zero, List.set_cons_succ]
      refine wpHl.one (i := 22) (by as_aux_lemma => kernel_rfl) rfl (fun K1 hK1 => ?_)
      rw [if_pos (by rfl)]
      refine wp_call_of (f := 21) (args := #[c1.V]) (by kernel_rfl) ?_
      with_reducible refine (HCY.out _ (HK6.out.trans (K.mono HK6.out.size))).mono ?_
      rintro e wn ⟨⟨cc, rfl, hcc⟩, hb⟩
      replace K := below_trans K hb
      clear HC0
      have HC0 := CC _ K
      refine hK1 (Act.put _ (some 46) _) _ ⟨fun _ => HC0, ?_⟩
      clear hK1 K1 hb
      try simp only [Act.put, List.setIfInBounds_toArray, List.set_cons_zero, List.set_cons_succ]
      refine wpHl.one (i := 24) (by as_aux_lemma => kernel_rfl) rfl (fun K1 hK1 => ?_)
      rw [if_pos (by rfl)]
      refine wp_call_of (f := 19) (args := #[cc.V, c1.V]) (by kernel_rfl) ?_
      with_reducible refine (HCC.out _ cc (HK6.out.trans (K.mono HK6.out.size)) hcc).mono ?_
      rintro e wn ⟨rfl, hb⟩
      replace K := below_trans K hb
      clear HC0
      have HC0 := CC _ K
      refine hK1 (Act.put _ (some 48) _) _ ⟨fun _ => HC0, ?_⟩
      clear hK1 K1 hb
      try simp only [Act.put, List.setIfInBounds_toArray, List.set_cons_zero, List.set_cons_succ]
      refine wpHl.tk0 (i := 25) (d := some 49) (v := .bool false) rfl HS (by as_aux_lemma => kernel_rfl) rfl (fun _ _ _ h => h) (Or.inl ⟨by rfl, ?_⟩) HC0 ?_
      · intro u hC
        go_simp
      simp only [Act.put, List.setIfInBounds_toArray, List.set_cons_zero, List.set_cons_succ]
      refine wpHl.tk0 (i := 26) (d := some 50) (v := .bool false) rfl HS (by as_aux_lemma => kernel_rfl) rfl (fun _ _ _ h => h) (Or.inl ⟨by rfl, ?_⟩) HC0 ?_
      · intro u hC
        go_simp
      simp only [Act.put, List.setIfInBounds_toArray, List.set_cons_zero, List.set_cons_succ]
      refine wpHl.done (by as_aux_lemma => kernel_rfl) ?_ _
      clear CC HC0 HS
      have HK := hide K
      clear K
      go_wp2_with fail
      go_meet
      case rel => exact ⟨rfl, HK.out⟩
    case rest =>
      obtain ⟨rfl, hb⟩ := hcut
      rename World => w7
      have HK7 := hide (HK6.out.trans (hb.mono HK6.out.size))
      clear hb HC12 HC23 HC13 HC21 HC11 HCY HCC
      go_upto_region 8 with fail
      go_cut [72] from 10 (fun s72 w' => s72 = .bool false ∧ w7 = w')
      case first =>
        have t1 := HR1.out
        have t2 := HR2.out
        have t3 := HR3.out
        have t4 := HTR.out
        clear HR1 HR2 HR3 HTR
        rcases t1 with rfl | rfl | rfl <;> rcases t2 with rfl | rfl | rfl <;> rcases t3 with rfl | rfl | rfl
        all_goals first
          | (exfalso; exact t4 (by decide))
          | (clear t4; go_wp2_with fail; go_meet; case rel => exact ⟨rfl, rfl⟩)
      case rest =>
        obtain ⟨rfl, rfl⟩ := hcut
        have K := HK7.out
        go_upto_region 10 with fail
        have KW := hide (HK1.out.trans (HK7.out.mono HK1.out.size))
        clear K
        go_wp2_with (go_at_call 14; (with_reducible refine (HLV.out _ KW.out).mono ?_); rintro e w9 ⟨rfl, hb⟩; have HBB := hide hb; clear hb)
        go_ret
        exact ⟨rfl, KW.out.trans (HBB.out.mono KW.out.size)⟩

end Go.Proofs.YticmlelalbaalaaGreatDoor
