/- OrderDrains: the walk -/
import Derived.Test.YtboikfcmbfaaeaaR08
import Derived.Test.YtboikfcmbfaaeaaR07
import Derived.Test.YtboikfcmbfaaeaaR05
import Derived.Test.YtboikfcmbfaaeaaR03
namespace Go.Proofs.Ytboikfcmbfaaeaa
open Go.RowKit Go.Shelf
set_option linter.unusedVariables false
set_option linter.unusedSimpArgs false
attribute [local go_sem] Oper.semAt_some

set_option maxRecDepth 100000 in
set_option maxHeartbeats 8000000 in
theorem drains_any {w : World} {vx vy : Value} {xs ys : List It} {n o : Int} (ha : ItRd (fun _ => True) w vx xs) (hb : ItRd (fun _ => True) w vy ys) (hl : xs.length ≤ 1048576) (hm : ys.length ≤ 1048576) (hn0 : 0 ≤ n) (hn1 : n ≤ 255) :
    Calls Try.prog 3 #[.agg #[vx, vy, .int .u8 n, .int .i64 o]] w fun e w' => e = .returned (.bool true) ∧ Below w.heap.size w w' := by
  have RX := hide ha
  have RY := hide hb
  obtain ⟨ao, ca, rfl, -, -, -⟩ := ha
  obtain ⟨bo, cb, rfl, -, -, -⟩ := hb
  obtain ⟨W1, hW1⟩ : ∃ u, w.alloc (.cells #[.slice ao xs.length ca, .slice bo ys.length cb, .int .u8 n, .int .i64 o] 24) = u := ⟨_, rfl⟩
  have k1 : Below w.heap.size w W1 := by rw [← hW1]; exact (Below.refl _ w).alloc (Nat.le_refl _) _
  have r1 : W1.heap[w.heap.size]? = some (.cells #[.slice ao xs.length ca, .slice bo ys.length cb, .int .u8 n, .int .i64 o] 24 (0, 0)) := by rw [← hW1]; exact heap_alloc_new w _
  obtain ⟨B0, hB0⟩ : ∃ b, w.heap.size = b := ⟨_, rfl⟩
  rw [hB0] at r1
  have lt1 : B0 < W1.heap.size := (Array.getElem?_eq_some_iff.1 r1).1
  have CG : Hid (∀ V, Below W1.heap.size W1 V → V.cell? ⟨B0, 0, none⟩ = some (.slice ao xs.length ca) ∧ V.cell? ⟨B0, 1, none⟩ = some (.slice bo ys.length cb) ∧ V.cell? ⟨B0, 2, none⟩ = some (.int .u8 n) ∧ V.cell? ⟨B0, 3, none⟩ = some (.int .i64 o)) := hide (fun V k => by
    have e := (k.block B0 lt1).trans r1
    exact ⟨cell_of_row V B0 0 _ _ _ e, cell_of_row V B0 1 _ _ _ e, cell_of_row V B0 2 _ _ _ e, cell_of_row V B0 3 _ _ _ e⟩)
  have CF : Hid (∀ V, Below W1.heap.size W1 V → V.cell? ⟨B0, 0, none⟩ = some (.slice ao xs.length ca) ∧ V.cell? ⟨B0, 2, none⟩ = some (.int .u8 n) ∧ V.cell? ⟨B0, 3, none⟩ = some (.int .i64 o)) := hide (fun V k => ⟨(CG.out V k).1, (CG.out V k).2.2⟩)
  have HB0 := hide hB0
  have KK := hide k1
  have C1 := hide (fun V (k : Below W1.heap.size W1 V) => (show Calls Try.prog 4 #[.slice ao xs.length ca, .int .i64 0] V _ from numbered_any (d := 0) (RX.out.far (below_trans KK.out k)) (by omega) (by omega)))
  have C2 := hide (fun V (k : Below W1.heap.size W1 V) => numbered_any (d := xs.length) (RY.out.far (below_trans KK.out k)) (by omega) (by omega))
  have hfq : ∀ (w : World) f a c, (binOp .eql 39 (.func f a c) .nilFunc).run Try.prog w = .ok (.bool false) w := ofunc_nil seqdesc
  clear k1 r1 lt1
  refine (callsIn_wide (n := 4)).1 ?_
  refine callsIn_of_wp_marks Try.func3 rfl trivial ?_ rfl
  simp only [Try.ntmps3, List.size_toArray, List.length_cons, List.length_nil, Nat.reduceAdd, Nat.reduceSub, Array.replicate_succ, Array.replicate_zero, List.push_toArray, List.append_toArray, List.nil_append, List.cons_append]
  refine wpIn_wide.2 ?_
  go_wp2_with fail
  try rw [hW1]
  try rw [hB0]
  clear hW1 hB0
  have CC : ∀ u : World, Below W1.heap.size W1 u → u.cell? ⟨B0, 2, none⟩ = some (.int .u8 n) ∧ u.cell? ⟨B0, 3, none⟩ = some (.int .i64 o) := fun u hu => (CF.out u hu).2
  have K : Below W1.heap.size W1 W1.drew := (Below.refl _ _).drew
  have HC0 := CC _ K
  refine wp_np ?_
  refine wpHl.region0 (C := fun u => u.cell? ⟨B0, 2, none⟩ = some (.int .u8 n) ∧ u.cell? ⟨B0, 3, none⟩ = some (.int .i64 o)) (by kernel_rfl) (by kernel_rfl) (fun HS => ?_)
  refine wpHl.tk0 (i := 0) (d := some 21) (v := .pointer (some ⟨B0, 2, none⟩)) rfl HS (by as_aux_lemma => kernel_rfl) rfl (fun _ _ _ h => nomatch h.1) (Or.inl ⟨by rfl, ?_⟩) HC0 ?_
  · intro u hC
    go_simp
  simp only [Act.put, List.setIfInBounds_toArray, List.set_cons_zero, List.set_cons_succ]
  refine wpHl.tk0 (i := 1) (d := some 22) (v := .int .u8 n) rfl HS (by as_aux_lemma => kernel_rfl) rfl (fun _ _ _ h => nomatch h.1) (Or.inl ⟨by rfl, ?_⟩) HC0 ?_
  · intro u hC
    obtain ⟨z0, z1⟩ := hC
    go_simp
  simp only [Act.put, List.setIfInBounds_toArray, List.set_cons_zero, List.set_cons_succ]
  refine wpHl.tk0 (i := 2) (d := some 23) (v := .pointer (some ⟨B0, 3, none⟩)) rfl HS (by as_aux_lemma => kernel_rfl) rfl (fun _ _ _ h => nomatch h.1) (Or.inl ⟨by rfl, ?_⟩) HC0 ?_
  · intro u hC
    go_simp
  simp only [Act.put, List.setIfInBounds_toArray, List.set_cons_zero, List.set_cons_succ]
  refine wpHl.tk0 (i := 3) (d := some 24) (v := .int .i64 o) rfl HS (by as_aux_lemma => kernel_rfl) rfl (fun _ _ _ h => nomatch h.1) (Or.inl ⟨by rfl, ?_⟩) HC0 ?_
  · intro u hC
    obtain ⟨z0, z1⟩ := hC
    go_simp
  simp only [Act.put, List.setIfInBounds_toArray, List.set_cons_zero, List.set_cons_succ]
  refine wpHl.tk0 (i := 4) (d := some 3) (v := .int .u8 n) rfl HS (by as_aux_lemma => kernel_rfl) rfl (fun _ _ _ h => nomatch h.1) (Or.inl ⟨by rfl, ?_⟩) HC0 ?_
  · intro u hC
    go_simp
  simp only [Act.put, List.setIfInBounds_toArray, List.set_cons_zero, List.set_cons_succ]
  refine wpHl.tk0 (i := 5) (d := some 4) (v := .int .i64 o) rfl HS (by as_aux_lemma => kernel_rfl) rfl (fun _ _ _ h => nomatch h.1) (Or.inl ⟨by rfl, ?_⟩) HC0 ?_
  · intro u hC
    go_simp
  simp only [Act.put, List.setIfInBounds_toArray, List.set_cons_zero, List.set_cons_succ]
  refine wpHl.done (by as_aux_lemma => kernel_rfl) ⟨rfl, ?_⟩ _
  clear CC HC0 HS
  obtain ⟨W2, hW2⟩ : ∃ u, W1.drew = u := ⟨_, rfl⟩
  rw [hW2] at K ⊢
  have KD := K
  have CF2 : Hid (∀ V, Below W2.heap.size W2 V → V.cell? ⟨B0, 0, none⟩ = some (.slice ao xs.length ca) ∧ V.cell? ⟨B0, 1, none⟩ = some (.slice bo ys.length cb)) := hide (fun V k => ⟨(CG.out V (below_trans KD k)).1, (CG.out V (below_trans KD k)).2.1⟩)
  clear hW2 K
  go_wp2_with fail
  have CC : ∀ u : World, Below W2.heap.size W2 u → u.cell? ⟨B0, 0, none⟩ = some (.slice ao xs.length ca) ∧ u.cell? ⟨B0, 1, none⟩ = some (.slice bo ys.length cb) := fun u hu => (CF2.out u hu)
  have K : Below W2.heap.size W2 W2.drew := (Below.refl _ _).drew
  have HC0 := CC _ K
  refine wp_np ?_
  refine wpHl.region0 (C := fun u => u.cell? ⟨B0, 0, none⟩ = some (.slice ao xs.length ca) ∧ u.cell? ⟨B0, 1, none⟩ = some (.slice bo ys.length cb)) (by kernel_rfl) (by kernel_rfl) (fun HS => ?_)
  refine wpHl.tk0 (i := 0) (d := some 25) (v := .pointer (some ⟨B0, 0, none⟩)) rfl HS (by as_aux_lemma => kernel_rfl) rfl (fun _ _ _ h => nomatch h.1) (Or.inl ⟨by rfl, ?_⟩) HC0 ?_
  · intro u hC
    go_simp
  simp only [Act.put, List.setIfInBounds_toArray, List.set_cons_zero, List.set_cons_succ]
  refine wpHl.tk0 (i := 1) (d := some 26) (v := .slice ao xs.length ca) rfl HS (by as_aux_lemma => kernel_rfl) rfl (fun _ _ _ h => nomatch h.1) (Or.inl ⟨by rfl, ?_⟩) HC0 ?_
  · intro u hC
    obtain ⟨z0, z1⟩ := hC
    go_simp
  simp only [Act.put, List.setIfInBounds_toArray, List.set_cons_zero, List.set_cons_succ]
  refine wpHl.tk0 (i := 3) (d := some 28) (v := .pointer (some ⟨B0, 1, none⟩)) rfl HS (by as_aux_lemma => kernel_rfl) rfl (fun _ _ _ h => nomatch h.1) (Or.inl ⟨by rfl, ?_⟩) HC0 ?_
  · intro u hC
    go_simp
  simp only [Act.put, List.setIfInBounds_toArray, List.set_cons_zero, List.set_cons_succ]
  refine wpHl.tk0 (i := 4) (d := some 29) (v := .slice bo ys.length cb) rfl HS (by as_aux_lemma => kernel_rfl) rfl (fun _ _ _ h => nomatch h.1) (Or.inl ⟨by rfl, ?_⟩) HC0 ?_
  · intro u hC
    obtain ⟨z0, z1⟩ := hC
    go_simp
  simp only [Act.put, List.setIfInBounds_toArray, List.set_cons_zero, List.set_cons_succ]
  refine wpHl.tk0 (i := 5) (d := some 30) (v := .pointer (some ⟨B0, 0, none⟩)) rfl HS (by as_aux_lemma => kernel_rfl) rfl (fun _ _ _ h => nomatch h.1) (Or.inl ⟨by rfl, ?_⟩) HC0 ?_
  · intro u hC
    go_simp
  simp only [Act.put, List.setIfInBounds_toArray, List.set_cons_zero, List.set_cons_succ]
  refine wpHl.tk0 (i := 6) (d := some 31) (v := .slice ao xs.length ca) rfl HS (by as_aux_lemma => kernel_rfl) rfl (fun _ _ _ h => nomatch h.1) (Or.inl ⟨by rfl, ?_⟩) HC0 ?_
  · intro u hC
    obtain ⟨z0, z1⟩ := hC
    go_simp
  simp only [Act.put, List.setIfInBounds_toArray, List.set_cons_zero, List.set_cons_succ]
  refine wpHl.tk0 (i := 7) (d := some 32) (v := .int .i64 (xs.length : Int)) rfl HS (by as_aux_lemma => kernel_rfl) rfl (fun _ _ _ h => nomatch h.1) (Or.inl ⟨by rfl, ?_⟩) HC0 ?_
  · intro u hC
    go_simp
  simp only [Act.put, List.setIfInBounds_toArray, List.set_cons_zero, List.set_cons_succ]
  refine wpHl.one (i := 2) (by as_aux_lemma => kernel_rfl) rfl (fun K1 hK1 => ?_)
  rw [if_pos (by rfl)]
  refine wp_call_of (f := 4) (args := #[.slice ao xs.length ca, .int .i64 0]) (by kernel_rfl) ?_
  with_reducible refine (C1.out _ (below_trans KD K)).mono ?_
  rintro e wn ⟨⟨v1, rfl, hO1⟩, hb⟩
  replace K := below_trans K hb
  have HO1 := hide hO1
  clear hO1
  clear HC0
  have HC0 := CC _ K
  refine hK1 (Act.put _ (some 27) _) _ ⟨fun _ => HC0, ?_⟩
  clear hK1 K1 hb
  try simp only [Act.put, List.setIfInBounds_toArray, List.set_cons_zero, List.set_cons_succ]
  refine wpHl.one (i := 8) (by as_aux_lemma => kernel_rfl) rfl (fun K1 hK1 => ?_)
  rw [if_pos (by rfl)]
  refine wp_call_of (f := 4) (args := #[.slice bo ys.length cb, .int .i64 (xs.length : Int)]) (by kernel_rfl) ?_
  with_reducible refine (C2.out _ (below_trans KD K)).mono ?_
  rintro e wn ⟨⟨v2, rfl, hO2⟩, hb⟩
  replace K := below_trans K hb
  replace HO1 := hide (owns_on HO1.out (ograwn hb) (fun r e => by cases e))
  have HO2 := hide hO2
  clear hO2
  clear HC0
  have HC0 := CC _ K
  refine hK1 (Act.put _ (some 33) _) _ ⟨fun _ => HC0, ?_⟩
  clear hK1 K1 hb
  try simp only [Act.put, List.setIfInBounds_toArray, List.set_cons_zero, List.set_cons_succ]
  refine wpHl.tk0 (i := 9) (d := some 5) (v := v1) rfl HS (by as_aux_lemma => kernel_rfl) rfl (fun _ _ _ h => nomatch h.1) (Or.inl ⟨by rfl, ?_⟩) HC0 ?_
  · intro u hC
    go_simp
  simp only [Act.put, List.setIfInBounds_toArray, List.set_cons_zero, List.set_cons_succ]
  refine wpHl.tk0 (i := 10) (d := some 6) (v := v2) rfl HS (by as_aux_lemma => kernel_rfl) rfl (fun _ _ _ h => nomatch h.1) (Or.inl ⟨by rfl, ?_⟩) HC0 ?_
  · intro u hC
    go_simp
  simp only [Act.put, List.setIfInBounds_toArray, List.set_cons_zero, List.set_cons_succ]
  refine wpHl.done (by as_aux_lemma => kernel_rfl) ⟨rfl, ?_⟩ _
  clear CC HC0 HS
  have KE := hide (below_trans KK.out (below_trans KD K))
  clear K KD C1 C2 CF CF2 CG KK
  have LA := nmb_len 0 xs
  have LB := nmb_len xs.length ys
  have FS := dr_sorted o xs ys
  have FF := fun k (hk : k ≤ xs.length) => dr_first o xs hk
  have FG := fun k (hk : k ≤ xs.length) => rest_gd o xs ys hk
  have FP := fun k (hk : k ≤ xs.length) => rest_perm o xs ys hk rfl
  have FC := (nmb_gd o xs).2
  have FB := nmb_both xs ys
  obtain ⟨A, hA⟩ : ∃ A, nmb 0 xs = A := ⟨_, rfl⟩
  obtain ⟨Q, hQ⟩ : ∃ A, nmb xs.length ys = A := ⟨_, rfl⟩
  simp only [hA, hQ] at FS FF FG FP FC FB HO1 HO2 LA LB
  obtain ⟨_, hm1⟩ := Mine.of_row HO1.out
  obtain ⟨_, hm2⟩ := Mine.of_row HO2.out
  have NOA := hide hm1.no
  have NOB := hide hm2.no
  clear hm1 hm2
  have RA := hide (own_rdA HO1.out)
  have RB := hide (own_rdA HO2.out)
  obtain ⟨p1, c1, e1, -, -, -⟩ := RA.out
  subst e1
  obtain ⟨p2, c2, e2, -, -, -⟩ := RB.out
  subst e2
  have HFS := hide FS
  have HFF := hide FF
  have HFG := hide FG
  have HFP := hide FP
  have HFC := hide FC
  have HFB := hide FB
  have HLA := hide LA
  have HLB := hide LB
  have CM0 := by_is o
  obtain ⟨cg, cl, hcv, -, -⟩ := CM0.val
  rw [hcv] at CM0
  have CM := hide CM0
  have HCV := hide hcv
  have KW := KE
  clear hA hQ FS FF FG FP FC FB LA LB HO1 HO2 CM0 hcv KE RX RY
  go_wp2_with fail
  refine by_any.mono ?_
  rintro e w3 ⟨rfl, rfl⟩
  rw [HCV.out]
  have C4 := hide (new_any (w := w3) (g := cg) (cl := cl))
  go_wp2_with fail
  refine C4.out.mono ?_
  rintro e w4 ⟨rfl, b1, k4, z4⟩
  go_wp2_with fail
  refine by_any.mono ?_
  rintro e w4 ⟨rfl, rfl⟩
  rw [HCV.out]
  have C5 := hide (new_any (w := w4) (g := cg) (cl := cl))
  clear C4
  go_wp2_with fail
  refine C5.out.mono ?_
  rintro e w5 ⟨rfl, b2, k5, z5⟩
  have k35 := below_trans k4 k5
  obtain ⟨s0, hs0⟩ : ∃ s, w3.heap.size = s := ⟨_, rfl⟩
  have RAg : Hid (ItRd (fun g => g < s0) w5 (.slice p1 A.length c1) A) := hide ((RA.out.mono (H := fun g => g < s0) (fun g hg _ => by omega)).below k35)
  have RBg : Hid (ItRd (fun g => g < s0) w5 (.slice p2 Q.length c2) Q) := hide ((RB.out.mono (H := fun g => g < s0) (fun g hg _ => by omega)).below k35)
  have b1' := b1.keep (k5.block _ b1.lt)
  rw [z4] at b2
  rw [hs0] at b1' b2 z4
  have z55 : w5.heap.size = s0 + 2 := by omega
  have BG1 := hide b1'
  have BG2 := hide b2
  have Z5 := hide z55
  have ZW := hide (show w.heap.size ≤ s0 by have := KW.out.size; omega)
  replace KW := hide (below_trans KW.out k35)
  rw [z4, hs0]
  clear C5 b1 b2 k4 k5 k35 b1' z4 z5 z55 hs0 RA RB
  have C6 := hide (add2_any (I := fun _ => True) (w := w5) (base := w5.heap.size) (st := ([], 0)) (l := A) (f := byF o) ⟨_, BG1.out, World.ownsRow_nil _ _ _ _⟩ (Nat.le_refl _) (RAg.out.mono (fun g _ hg => .inl ⟨by have := Z5.out; omega, by omega⟩)) (by have := HLA.out; simp; omega) (by simp) (by simp) CM.out (fun _ => trivial))
  go_wp2_with fail
  refine C6.out.mono ?_
  rintro e w6 ⟨rfl, hbi, x6⟩
  rw [Z5.out] at hbi x6
  have H2 := hide hbi
  have X6 := hide x6
  replace BG2 := hide (BG2.out.keep (x6.block _ (by omega) (by omega)))
  replace RAg := hide (RAg.out.belx x6 (fun g hg => by omega))
  replace RBg := hide (RBg.out.belx x6 (fun g hg => by omega))
  replace KW := hide (KW.out.trans (x6.below (B := w.heap.size) (by have := ZW.out; omega) (fun k hk e => by have := ZW.out; omega)))
  have Z6 : Hid (s0 + 2 ≤ w6.heap.size) := hide (by have := x6.size; have := Z5.out; omega)
  clear C6 hbi x6 BG1 X6
  obtain ⟨H0, hH0⟩ : ∃ H, adF (byF o) ([], 0) A = H := ⟨_, rfl⟩
  have AL0 : Hid (H0.1.length = A.length) := hide (by rw [← hH0]; exact adF_len _ _)
  have HH0 := hide hH0
  rw [hH0] at H2
  have HC0 := HFC.out
  rw [hH0] at HC0
  have HCC := hide HC0
  clear hH0 HC0
  go_wp2
  go_loopw [9] (fun p wr => ∃ (i : Nat), p = .int .i64 i ∧ i ≤ Q.length ∧ Hid (BagIs (s0 + 2) wr s0 (.func (.func cg) #[] cl) (adF (byF o) H0 (Q.take i))) ∧ Hid (BelX (fun k => k = s0) (s0 + 2) w6 wr)) (fun p _ => Q.length - (intOf p).toNat)
  case atStart => exact ⟨0, rfl, by omega, by simpa [adF] using H2, hide (BelX.refl _ _ _)⟩
  case round =>
    clear H2
    obtain ⟨i, rfl, hi, hG, hX⟩ := hrel
    by_cases hil : i < Q.length
    · have RQ := hide (RBg.out.belx hX.out (fun g hg => by omega))
      obtain ⟨ao', ca', hv', -, -, hcl⟩ := RQ.out
      cases hv'
      obtain ⟨gq, oq, rfl, -, hgq, hinq⟩ := hcl (by omega)
      have q1 : (i : Int) < (Q.length : Int) := by omega
      obtain ⟨⟨y1, y2⟩, hy⟩ : ∃ y, Q[i] = y := ⟨_, rfl⟩
      have qy := hinq i hil
      rw [hy] at qy
      have AT := hide (adF_take (byF o) H0 hil)
      rw [hy] at AT
      have wi : IntKind.i64.wrap ((i : Int) + 1) = (i : Int) + 1 := by have := HLB.out; rw [IntKind.wrap_i64]; omega
      obtain ⟨W7, hW7⟩ : ∃ u, wr.alloc (.cells #[.int .i64 y1, .int .i64 y2] 29) = u := ⟨_, rfl⟩
      have k7 : Below wr.heap.size wr W7 := by rw [← hW7]; exact (Below.refl _ wr).alloc (Nat.le_refl _) _
      have o7 := one_rd wr y1 y2
      rw [hW7] at o7
      have cn := adF_cnt (byF o) (Q.take i) H0
      rw [List.length_take] at cn
      have zz := Z6.out
      have zx := hX.out.size
      have C7 := hide (add2_any (I := fun _ => True) (w := W7) (base := s0 + 2) (f := byF o) (bagIs_far hG.out k7) (by have := k7.size; omega) (o7.mono (fun g _ _ => .inr (by simp))) (by have := AL0.out; have := HLA.out; have := HLB.out; simp; omega) (by have := HCC.out; omega) (by have := HCC.out; have := HLB.out; omega) CM.out (fun _ => trivial))
      rw [AT.out] at C7
      have X7 := hide (hX.out.trans (BelX.of (n := s0 + 2) k7 (by omega)))
      obtain ⟨d1, d2⟩ := qy
      clear hinq hcl RQ hG hX hy k7 o7 cn zz zx AT
      go_wp2_with fail
      try rw [hW7]
      refine C7.out.mono ?_
      rintro e w8 ⟨rfl, hbi, x8⟩
      have H8 := hide hbi
      have X8 := hide (X7.out.trans x8)
      clear hbi x8 C7 X7 hW7
      go_wp2
      go_roundw
      case rel => exact ⟨i + 1, by simp, by omega, H8, X8⟩
      case measure => simp [intOf]; omega
    · rename World => w8
      obtain rfl : i = Q.length := by omega
      rw [List.take_length] at hG
      have q1 : ∀ x : Nat, ¬ (x : Int) < (x : Int) := fun x => by omega
      have SE : Hid (adF (byF o) ([], 0) (A ++ Q) = adF (byF o) H0 Q) := hide (by rw [adF_app, HH0.out])
      have cn := adF_cnt (byF o) Q H0
      obtain ⟨S, hS⟩ : ∃ S, adF (byF o) H0 Q = S := ⟨_, rfl⟩
      rw [hS] at hG SE cn
      have x7 := hX.out
      obtain ⟨hv, hba, hrw⟩ := hG.out
      obtain ⟨po, cp, ehv, hcp1, hcp2, hpo⟩ := hrw.form
      subst ehv
      obtain ⟨N, hN⟩ : ∃ N, S.1.length = N := ⟨_, rfl⟩
      have NL : Hid (N = A.length + Q.length) := hide (by have := AL0.out; omega)
      have HHN := hide hN
      rw [hN] at hba hrw hcp1 hpo
      replace BG2 := hide (BG2.out.keep (x7.block _ (by omega) (by omega)))
      replace RAg := hide (RAg.out.belx x7 (fun g hg => by omega))
      replace RBg := hide (RBg.out.belx x7 (fun g hg => by omega))
      replace KW := hide (KW.out.trans (x7.below (B := w.heap.size) (by have := ZW.out; omega) (fun k hk e => by have := ZW.out; omega)))
      have Z7 : Hid (s0 + 2 ≤ w8.heap.size) := hide (by have := x7.size; have := Z6.out; omega)
      have BA := hide hba
      have HR := hide hrw
      have PO := hide hpo
      have CP := hide (show N ≤ cp ∧ cp ≤ maxLen from ⟨hcp1, hcp2⟩)
      have cmv : Hid True := hide trivial
      clear hG hX cn hS x7 hba hrw hpo hcp1 hcp2 hN hil
      go_wp2
      obtain ⟨b8, hb8⟩ : ∃ b, w8.heap.size = b := ⟨_, rfl⟩
      have HB8 := hide hb8
      have PL : Hid (∀ j, po = some ⟨j, 0, none⟩ → 0 < N → s0 + 2 ≤ j ∧ j < b8) := hide (fun j hj hp => by
        obtain ⟨g, e1, e2, e3⟩ := PO.out hp
        rw [hj] at e1
        cases e1
        omega)
      have PZ : Hid (N = 0 → po = none ∨ s0 + 2 ≤ b8) := hide (fun _ => .inr (by have := Z7.out; omega))
      have LV0 : Hid (∀ j, po = some ⟨j, 0, none⟩ → s0 + 2 ≤ j ∧ j < b8) := hide (fun j hj => by
        obtain ⟨_, ⟨e, _⟩ | ⟨g', cap', cur, e, e2, e3, _⟩⟩ := HR.out
        · cases e; cases hj
        · cases e
          cases hj
          exact ⟨e2, by have := (Array.getElem?_eq_some_iff.1 e3).1; omega⟩)
      clear PL PZ hb8 cmv
      go_loopw [10, 11, 12] (fun v p q w9 => ∃ (k : Nat), k ≤ N ∧ Hid (w9.ownsRow b8 29 2 v k (flat (dr (byF o) k S.1))) ∧ Hid (BagAt w9 s0 (.func (.func cg) #[] cl) S.2 (.slice po (N - k) cp)) ∧ Hid (HpRow (s0 + 2) w9 (.slice po (N - k) cp) (tkN (byF o) k S.1)) ∧ Hid (BelX (fun j => j = s0 ∨ po = some ⟨j, 0, none⟩) b8 w8 w9)) (fun v _ _ _ => N - lenV v)
      case atStart => exact ⟨0, by omega, hide (by simpa [dr, flat] using World.ownsRow_nil _ _ _ _), BA, HR, hide (BelX.refl _ _ _)⟩
      case round =>
        clear BA HR
        obtain ⟨k, hk, hO, hA, hR, hX⟩ := hrel
        have hsz := hX.out.size
        obtain ⟨m, hmm⟩ : ∃ m, N - k = m := ⟨_, rfl⟩
        rw [hmm] at hA hR
        have LE := hide (len_any hA.out (by have := NL.out; have := HLA.out; have := HLB.out; omega))
        obtain ⟨pv, cv, hvv, -⟩ := own_shape hO.out
        subst hvv
        have wab : IntKind.i64.wrap ((A.length : Int) + (Q.length : Int)) = (A.length : Int) + (Q.length : Int) := by have := HLA.out; have := HLB.out; rw [IntKind.wrap_i64]; omega
        have hle : (k : Int) ≤ (A.length : Int) + (Q.length : Int) := by have := NL.out; omega
        by_cases hkN : 0 < m
        · have hm0 : (0 : Int) < (m : Int) := by omega
          have tl := tkN_len (byF o) k S.1 (by have := HHN.out; omega)
          obtain ⟨hs, hhs⟩ : ∃ h, tkN (byF o) k S.1 = h := ⟨_, rfl⟩
          have DS := hide (dr_snoc (byF o) k S.1)
          have TS := hide (tkN_succ (byF o) k S.1)
          rw [hhs] at hR tl DS TS
          obtain ⟨gr, hgr, -, -⟩ := PO.out (by omega)
          have LV := LV0.out gr hgr
          subst hgr
          have C9 := hide (take_any (I := fun _ => True) (f := byF o) hA.out hR.out (by have := HB8.out; omega) (by have := HHN.out; omega) (by omega) (by have := NL.out; have := HLA.out; have := HLB.out; omega) (by have := CP.out; omega) CP.out.2 CM.out (fun _ _ => trivial))
          obtain ⟨⟨y1, y2⟩, hy⟩ : ∃ y, (hAt hs 0).1 = y := ⟨_, rfl⟩
          rw [hy] at DS C9
          have HLV := hide LV
          have HM := hide hmm
          have HT := hide tl
          clear hhs hy tl LV hmm hA hR
          go_wp2_with fail
          refine LE.out.mono ?_
          rintro e wr ⟨rfl, rfl⟩
          go_wp2_with fail
          refine C9.out.mono ?_
          rintro e w10 ⟨rfl, b10, r10, x10⟩
          have hh := HLV.out
          have h8 := HB8.out
          have sz10 := x10.size
          have O10 := hide (owns_belx hO.out x10 (fun j hj => by
            obtain ⟨e1, cur, e2⟩ := owns_row hO.out hj
            have := (Array.getElem?_eq_some_iff.1 e2).1
            omega))
          obtain ⟨W11, hW11⟩ : ∃ u, w10.alloc (.cells #[.int .i64 y1, .int .i64 y2] 29) = u := ⟨_, rfl⟩
          have k11 : Below w10.heap.size w10 W11 := by rw [← hW11]; exact (Below.refl _ w10).alloc (Nat.le_refl _) _
          have e11 : W11.heap[w10.heap.size]? = some (.cells #[.int .i64 y1, .int .i64 y2] 29 (0, 0)) := by rw [← hW11]; exact heap_alloc_new w10 _
          have c0 := cell_of_row W11 _ 0 _ _ _ e11
          have c1' := cell_of_row W11 _ 1 _ _ _ e11
          simp at c0 c1'
          have O11 : Hid (W11.ownsRow b8 29 2 (.slice pv k cv) k (flat (dr (byF o) k S.1))) := hide (by rw [← hW11]; exact O10.out.alloc _)
          have RN := hide (one_rd W11 y1 y2)
          have X11 := hide ((hX.out.trans (x10.mono (m := b8) (Y := fun j => j = s0 ∨ (some ⟨gr, 0, none⟩ : Option Addr) = some ⟨j, 0, none⟩) (by omega) (fun j _ hj => hj.elim (fun e => .inr (by rw [e])) (fun e => .inl e)))).trans (BelX.of k11 (by omega)))
          have B11 := hide (b10.keep (k11.block _ b10.lt))
          have R11 := hide (hp_blk r10 (k11.block gr (by omega)))
          have S11 : Hid (b8 ≤ W11.heap.size ∧ s0 < b8 ∧ gr < b8) := hide (by have := k11.size; have := Z7.out; omega)
          have wz : k + 1 ≤ 2097153 := by have := NL.out; have := HLA.out; have := HLB.out; omega
          have HWZ := hide wz
          clear b10 r10 x10 k11 e11 hh h8 sz10 O10 hX hO C9 LE wz
          go_wp2_with (at_builtin; refine wpList_append_items rfl _ _ rfl b8 _ k _ rfl (O11.out.alloc _) _ [(y1, y2)] rfl RN.out (by intro c h; cases h) (by have := HWZ.out; unfold maxLen; simp; omega) (by have := HWZ.out; simp; omega) (by have := S11.out; simp; omega) ?_)
          intro v2 w13 own2 bel2
          rw [← flat_append, ← DS.out] at own2
          have hS := S11.out
          have k12 : Below W11.heap.size W11 (W11.alloc (.cells #[.int .i64 y1, .int .i64 y2] 29)) := (Below.refl _ W11).alloc (Nat.le_refl _) _
          have hmm2 := HM.out
          have B13 : Hid (BagAt w13 s0 (.func (.func cg) #[] cl) S.2 (.slice (some ⟨gr, 0, none⟩) (N - (k + 1)) cp)) := hide (by rw [show N - (k + 1) = m - 1 by omega]; exact B11.out.keep ((bel2.block s0 (by omega)).trans (k12.block s0 (by omega))))
          have R13 : Hid (HpRow (s0 + 2) w13 (.slice (some ⟨gr, 0, none⟩) (N - (k + 1)) cp) (tkN (byF o) (k + 1) S.1)) := hide (by rw [show N - (k + 1) = m - 1 by omega, TS.out]; exact hp_blk R11.out ((bel2.block gr (by omega)).trans (k12.block gr (by omega))))
          have X13 := hide ((X11.out.trans (BelX.of k12 (by omega))).trans (BelX.of bel2 (Nat.le_refl _)))
          have O13 := hide own2
          have LV2 := hide (lenV_own own2)
          have KN : Hid (k + 1 ≤ N) := hide (by omega)
          clear own2 bel2 hS k12 hmm2 hW11
          go_wp2
          go_roundw
          case rel => exact ⟨k + 1, KN.out, O13, B13, R13, X13⟩
          case measure => rw [LV2.out]; simp only [lenV]; have := KN.out; omega
        · obtain rfl : m = 0 := by omega
          obtain rfl : k = N := by omega
          have OF := hO.out
          have HSS := HFS.out
          rw [SE.out, HHN.out] at HSS
          rw [HSS] at OF
          obtain ⟨L, hL⟩ : ∃ L, A ++ Q = L := ⟨_, rfl⟩
          have LL : Hid (L.length = A.length + Q.length) := hide (by rw [← hL, List.length_append])
          rw [hL] at OF
          have SL := (srt_perm (byF o) 1 L).length_eq
          obtain ⟨sL, hsL⟩ : ∃ s, srt (byF o) 1 L = s := ⟨_, rfl⟩
          rw [hsL] at OF SL
          have HsL := hide hsL
          have HL := hide hL
          clear hL hsL SL
          go_wp2_with fail
          refine LE.out.mono ?_
          rintro e wq ⟨rfl, rfl⟩
          have xw := hX.out
          have nX : ∀ j, j < s0 ∨ j = s0 + 1 → ¬ (j = s0 ∨ po = some ⟨j, 0, none⟩) := fun j hj e => e.elim (fun e => by omega) (fun e => by have := LV0.out j e; omega)
          have zb : s0 + 2 ≤ b8 := by have := Z7.out; have := HB8.out; omega
          replace BG2 := hide (BG2.out.keep (xw.block _ (by omega) (nX _ (.inr rfl))))
          replace RAg := hide (RAg.out.belx xw (fun g hg => ⟨by omega, nX g (.inl hg)⟩))
          replace RBg := hide (RBg.out.belx xw (fun g hg => ⟨by omega, nX g (.inl hg)⟩))
          replace KW := hide (KW.out.trans (xw.below (B := w.heap.size) (by have := ZW.out; omega) (fun j hj => nX j (.inl (by have := ZW.out; omega)))))
          have ZR : Hid (s0 + 2 ≤ wq.heap.size) := hide (by have := xw.size; have := Z7.out; omega)
          have RO := hide (own_rdA OF)
          have OW : Hid ((wq.alloc (.cells #[] 29)).ownsRow wq.heap.size 29 2 (.slice (some ⟨wq.heap.size, 0, none⟩) 0 0) 0 []) := hide (World.ownsRow_made wq _ 0 (Nat.le_refl _) (by unfold maxLen; omega) (by simp))
          have SZ2 : Hid (A.length + Q.length ≤ 2097152) := hide (by have := HLA.out; have := HLB.out; omega)
          have RAt := hide (RAg.out.mono (H := fun _ => True) (fun _ _ _ => trivial))
          have RBt := hide (RBg.out.mono (H := fun _ => True) (fun _ _ _ => trivial))
          clear xw nX zb hX hO hA hR OF HSS LE
          go_wp2_with (at_builtin; refine wpList_append_items rfl _ _ rfl wq.heap.size _ 0 [] rfl OW.out _ A rfl (RAt.out.far ((Below.refl _ _).alloc (Nat.le_refl _) _)) NOA.out (by have := SZ2.out; unfold maxLen; omega) (by have := SZ2.out; omega) (by simp) ?_)
          intro v14 w14 own14 bel14
          have OW3 := hide own14
          have K14 : Hid (Below wq.heap.size wq w14) := hide (((Below.refl _ wq).alloc (Nat.le_refl _) _).trans bel14)
          clear own14 bel14 OW
          go_wp2_with (at_builtin; refine wpList_append_items rfl _ _ rfl wq.heap.size _ A.length _ rfl OW3.out _ Q rfl (RBt.out.far K14.out) NOB.out (by have := SZ2.out; unfold maxLen; omega) (by have := SZ2.out; omega) K14.out.size ?_)
          intro v15 w15 own15 bel15
          rw [← flat_append, HL.out] at own15
          have k15 : Below wq.heap.size wq w15 := K14.out.trans bel15
          have RL := hide (own_rdA own15)
          obtain ⟨pl, cl15, el, -, -, -⟩ := RL.out
          subst el
          replace BG2 := hide (BG2.out.keep (k15.block _ BG2.out.lt))
          replace RAg := hide (RAg.out.below k15)
          replace RBg := hide (RBg.out.below k15)
          replace RO := hide (RO.out.far k15)
          replace KW := hide (below_trans KW.out k15)
          replace ZR : Hid (s0 + 2 ≤ w15.heap.size) := hide (by have := k15.size; have := ZR.out; omega)
          clear own15 bel15 k15 K14 OW3 RAt RBt
          go_wp2_with fail
          refine by_any.mono ?_
          rintro e w15 ⟨rfl, rfl⟩
          rw [HCV.out]
          have C16 := hide (itsort_any (I := fun _ => True) (w := w15) (by have := SZ2.out; have := LL.out; omega) RL.out CM.out trivial (fun _ _ _ _ => trivial))
          rw [HsL.out] at C16
          go_wp2_with fail
          refine C16.out.mono ?_
          rintro e w16 ⟨⟨v, rfl, hO16⟩, k16⟩
          have RS := hide (Mine.of_own hO16).rd
          obtain ⟨p16, c16, e16, -, -, -⟩ := RS.out
          subst e16
          replace BG2 := hide (BG2.out.keep (k16.block _ BG2.out.lt))
          replace RAg := hide (RAg.out.below k16)
          replace RBg := hide (RBg.out.below k16)
          replace RO := hide (RO.out.far k16)
          replace KW := hide (below_trans KW.out k16)
          have C17 := hide (osame_any RO.out RS.out)
          clear C16 RL k16 hO16
          go_wp2_with fail
          refine C17.out.mono ?_
          rintro e w17 ⟨rfl, k17⟩
          replace BG2 := hide (BG2.out.keep (k17.block _ BG2.out.lt))
          replace RAg := hide (RAg.out.below k17)
          replace RBg := hide (RBg.out.below k17)
          replace KW := hide (below_trans KW.out k17)
          clear C17 RO RS k17
          have C18 := hide (add2_any (I := fun _ => True) (w := w17) (base := w17.heap.size) (st := ([], 0)) (l := A) (f := byF o) ⟨_, BG2.out, World.ownsRow_nil _ _ _ _⟩ (Nat.le_refl _) (RAg.out.mono (fun g _ hg => .inl ⟨by have := BG2.out.lt; omega, by omega⟩)) (by have := HLA.out; simp; omega) (by simp) (by simp) CM.out (fun _ => trivial))
          rw [HH0.out] at C18
          have ZB2 := hide BG2.out.lt
          obtain ⟨b17, hb17⟩ : ∃ b, w17.heap.size = b := ⟨_, rfl⟩
          rw [hb17] at C18 ZB2
          have HB17 := hide hb17
          clear BG2 hb17
          go_wp2_with fail
          refine C18.out.mono ?_
          rintro e w18 ⟨rfl, hbi, x18⟩
          have zb := ZB2.out
          obtain ⟨hv2, hba, hrw⟩ := hbi
          obtain ⟨qo, cq, ehv, hcq1, hcq2, hqo⟩ := hrw.form
          subst ehv
          rw [AL0.out] at hba hrw hcq1 hqo
          replace RAg := hide (RAg.out.belx x18 (fun g hg => by omega))
          replace RBg := hide (RBg.out.belx x18 (fun g hg => by omega))
          replace KW := hide (KW.out.trans (x18.below (B := w.heap.size) (by have := ZW.out; omega) (fun k hk e => by have := ZW.out; omega)))
          have BA := hide hba
          have HR := hide hrw
          have PO2 := hide hqo
          have CP2 := hide (show A.length ≤ cq ∧ cq ≤ maxLen from ⟨hcq1, hcq2⟩)
          obtain ⟨b18, hb18⟩ : ∃ b, w18.heap.size = b := ⟨_, rfl⟩
          have LV2 : Hid (∀ j, qo = some ⟨j, 0, none⟩ → b17 ≤ j ∧ j < b18) := hide (fun j hj => by
            obtain ⟨_, ⟨e, _⟩ | ⟨g', cap', cur, e, e2, e3, _⟩⟩ := HR.out
            · have e' : qo = none := by injection e
              rw [hj] at e'
              cases e'
            · have e' : qo = some ⟨g', 0, none⟩ := by injection e
              rw [hj] at e'
              cases e'
              exact ⟨e2, by have := (Array.getElem?_eq_some_iff.1 e3).1; omega⟩)
          have HB18 := hide hb18
          have LV17 : Hid (b17 ≤ b18) := hide (by have := x18.size; have := HB17.out; omega)
          have Z18 : Hid (s0 + 1 < b17 ∧ s0 + 1 < b18) := hide ⟨by omega, by have := hba.lt; omega⟩
          have wn' : IntKind.i64.wrap n = n := by rw [IntKind.wrap_i64]; omega
          clear hba hrw hqo hcq1 hcq2 hb18 C18 x18 zb LV0 PO CP LL HsL HL SE HHN
          go_wp2
          go_loopw [13, 14, 15, 16] (fun v p _ _ w9 => ∃ (j : Nat), p = .int .i64 j ∧ j ≤ A.length ∧ (j : Int) ≤ n ∧ Hid (w9.ownsRow b18 29 2 v j (flat (dr (byF o) j H0.1))) ∧ Hid (BagAt w9 (s0 + 1) (.func (.func cg) #[] cl) H0.2 (.slice qo (A.length - j) cq)) ∧ Hid (HpRow b17 w9 (.slice qo (A.length - j) cq) (tkN (byF o) j H0.1)) ∧ Hid (BelX (fun i => i = s0 + 1 ∨ qo = some ⟨i, 0, none⟩) b18 w18 w9)) (fun _ p _ _ _ => (n - intOf p).toNat)
          case atStart => exact ⟨0, rfl, by omega, by omega, hide (by simpa [dr, flat] using World.ownsRow_nil _ _ _ _), BA, HR, hide (BelX.refl _ _ _)⟩
          case round =>
            clear BA HR
            obtain ⟨j, rfl, hj, hjn, hO, hA, hR, hX⟩ := hrel
            obtain ⟨m, hmm⟩ : ∃ m, A.length - j = m := ⟨_, rfl⟩
            have hsz := hX.out.size
            rw [hmm] at hA hR
            have LE := hide (len_any hA.out (by have := HLA.out; omega))
            obtain ⟨pv3, cv3, hvv, -⟩ := own_shape hO.out
            subst hvv
            have wj : IntKind.i64.wrap ((j : Int) + 1) = (j : Int) + 1 := by rw [IntKind.wrap_i64]; omega
            by_cases hgo : (j : Int) < n ∧ 0 < m
            · obtain ⟨h1, hm0⟩ := hgo
              have hm1 : (0 : Int) < (m : Int) := by omega
              have tl := tkN_len (byF o) j H0.1 (by have := AL0.out; omega)
              obtain ⟨hs, hhs⟩ : ∃ h, tkN (byF o) j H0.1 = h := ⟨_, rfl⟩
              have DS := hide (dr_snoc (byF o) j H0.1)
              have TS := hide (tkN_succ (byF o) j H0.1)
              rw [hhs] at hR tl DS TS
              obtain ⟨gr, hgr, -, -⟩ := PO2.out (by omega)
              have LV := LV2.out gr hgr
              subst hgr
              have C9 := hide (take_any (I := fun _ => True) (f := byF o) hA.out hR.out (by have := HB18.out; omega) (by have := AL0.out; omega) (by omega) (by have := HLA.out; omega) (by have := CP2.out; omega) CP2.out.2 CM.out (fun _ _ => trivial))
              obtain ⟨⟨y1, y2⟩, hy⟩ : ∃ y, (hAt hs 0).1 = y := ⟨_, rfl⟩
              rw [hy] at DS C9
              have HLV := hide LV
              have HM := hide hmm
              clear hhs hy tl LV hmm hA hR
              go_wp2_with fail
              refine LE.out.mono ?_
              rintro e wr ⟨rfl, rfl⟩
              go_wp2_with fail
              refine C9.out.mono ?_
              rintro e w10 ⟨rfl, b10, r10, x10⟩
              have hh := HLV.out
              have h8 := HB18.out
              have sz10 := x10.size
              have zz := Z18.out
              have O10 := hide (owns_belx hO.out x10 (fun i hi => by
                obtain ⟨e1, cur, e2⟩ := owns_row hO.out hi
                have := (Array.getElem?_eq_some_iff.1 e2).1
                omega))
              obtain ⟨W11, hW11⟩ : ∃ u, w10.alloc (.cells #[.int .i64 y1, .int .i64 y2] 29) = u := ⟨_, rfl⟩
              have k11 : Below w10.heap.size w10 W11 := by rw [← hW11]; exact (Below.refl _ w10).alloc (Nat.le_refl _) _
              have e11 : W11.heap[w10.heap.size]? = some (.cells #[.int .i64 y1, .int .i64 y2] 29 (0, 0)) := by rw [← hW11]; exact heap_alloc_new w10 _
              have c0 := cell_of_row W11 _ 0 _ _ _ e11
              have c1' := cell_of_row W11 _ 1 _ _ _ e11
              simp at c0 c1'
              have O11 : Hid (W11.ownsRow b18 29 2 (.slice pv3 j cv3) j (flat (dr (byF o) j H0.1))) := hide (by rw [← hW11]; exact O10.out.alloc _)
              have RN := hide (one_rd W11 y1 y2)
              have X11 := hide ((hX.out.trans (x10.mono (m := b18) (Y := fun i => i = s0 + 1 ∨ (some ⟨gr, 0, none⟩ : Option Addr) = some ⟨i, 0, none⟩) (by omega) (fun i _ hi => hi.elim (fun e => .inr (by rw [e])) (fun e => .inl e)))).trans (BelX.of k11 (by omega)))
              have B11 := hide (b10.keep (k11.block _ b10.lt))
              have R11 := hide (hp_blk r10 (k11.block gr (by omega)))
              have S11 : Hid (b18 ≤ W11.heap.size ∧ s0 + 1 < b18 ∧ gr < b18) := hide (by have := k11.size; omega)
              have HWZ : Hid (j + 1 ≤ 2097153) := hide (by have := HLA.out; omega)
              clear b10 r10 x10 k11 e11 hh h8 sz10 zz O10 hX hO C9 LE
              go_wp2_with (at_builtin; refine wpList_append_items rfl _ _ rfl b18 _ j _ rfl (O11.out.alloc _) _ [(y1, y2)] rfl RN.out (by intro c h; cases h) (by have := HWZ.out; unfold maxLen; simp; omega) (by have := HWZ.out; simp; omega) (by have := S11.out; simp; omega) ?_)
              intro v2 w13 own2 bel2
              rw [← flat_append, ← DS.out] at own2
              have hS := S11.out
              have k12 : Below W11.heap.size W11 (W11.alloc (.cells #[.int .i64 y1, .int .i64 y2] 29)) := (Below.refl _ W11).alloc (Nat.le_refl _) _
              have hmm2 := HM.out
              have B13 : Hid (BagAt w13 (s0 + 1) (.func (.func cg) #[] cl) H0.2 (.slice (some ⟨gr, 0, none⟩) (A.length - (j + 1)) cq)) := hide (by rw [show A.length - (j + 1) = m - 1 by omega]; exact B11.out.keep ((bel2.block (s0 + 1) (by omega)).trans (k12.block (s0 + 1) (by omega))))
              have R13 : Hid (HpRow b17 w13 (.slice (some ⟨gr, 0, none⟩) (A.length - (j + 1)) cq) (tkN (byF o) (j + 1) H0.1)) := hide (by rw [show A.length - (j + 1) = m - 1 by omega, TS.out]; exact hp_blk R11.out ((bel2.block gr (by omega)).trans (k12.block gr (by omega))))
              have X13 := hide ((X11.out.trans (BelX.of k12 (by omega))).trans (BelX.of bel2 (Nat.le_refl _)))
              have O13 := hide own2
              have KN : Hid (j + 1 ≤ A.length) := hide (by omega)
              clear own2 bel2 hS k12 hmm2 hW11
              go_wp2
              go_roundw
              case rel => exact ⟨j + 1, by simp, KN.out, by omega, O13, B13, R13, X13⟩
              case measure => simp only [intOf]; omega
            · have xw := hX.out
              have zz := Z18.out
              have nX : ∀ i, i < s0 → ¬ (i = s0 + 1 ∨ qo = some ⟨i, 0, none⟩) := fun i hi e => e.elim (fun e => by omega) (fun e => by have := LV2.out i e; omega)
              replace RAg := hide (RAg.out.belx xw (fun g hg => ⟨by omega, nX g hg⟩))
              replace RBg := hide (RBg.out.belx xw (fun g hg => ⟨by omega, nX g hg⟩))
              replace KW := hide (KW.out.trans (xw.below (B := w.heap.size) (by have := ZW.out; omega) (fun i hi => nX i (by have := ZW.out; omega))))
              have jx : j ≤ xs.length := by have := HLA.out; omega
              have ff := HFF.out j jx
              have fg := HFG.out j jx
              have fp := HFP.out j jx
              have hcx := HCC.out
              rw [HH0.out] at ff fg fp
              have SAl := (srt_perm (byF o) 1 A).length_eq
              obtain ⟨SA, hSA⟩ : ∃ s, srt (byF o) 1 A = s := ⟨_, rfl⟩
              rw [hSA] at ff SAl
              obtain ⟨F, hF⟩ : ∃ s, dr (byF o) j H0.1 = s := ⟨_, rfl⟩
              rw [hF] at ff fp hO
              have HSA := hide hSA
              have FF2 := hide ff
              have FG2 := hide fg
              have FP2 := hide fp
              have HSAl := hide SAl
              have HF1 := hide (show F.length = j by rw [← hF]; exact dr_len _ _ _)
              have wd : IntKind.i64.wrap ((A.length : Int) - (j : Int)) = (m : Int) := by have := HLA.out; rw [IntKind.wrap_i64]; omega
              have nlt : ¬ (SA.length : Int) < (j : Int) := by omega
              have HMM := hide hmm
              have ZB9 : Hid (b17 ≤ wr.heap.size) := hide (by have := xw.size; have := HB18.out; have := LV17.out; omega)
              have LVm : Hid (∀ g, (Value.slice qo m cq).ownBlock = some g → b17 ≤ g) := hide (fun g hg => by
                cases qo with
                | none => cases hg
                | some ad => cases hg; exact (own3_lo hR.out rfl))
              clear xw nX ff fg fp hSA SAl hF jx hmm hcx zz
              by_cases h1 : (j : Int) < n
              · obtain rfl : m = 0 := by have := HMM.out; omega
                go_wp2_with fail
                refine LE.out.mono ?_
                rintro e wr ⟨rfl, rfl⟩
                go_wp2_with fail
                refine by_any.mono ?_
                rintro e wr ⟨rfl, rfl⟩
                rw [HCV.out]
                have C19 := hide (itsort_any (I := fun _ => True) (w := wr) (by have := HLA.out; omega) (RAg.out.mono (H := fun _ => True) (fun _ _ _ => trivial)) CM.out trivial (fun _ _ _ _ => trivial))
                rw [HSA.out] at C19
                go_wp2_with fail
                refine C19.out.mono ?_
                rintro e w19 ⟨⟨v, rfl, hO19⟩, k19⟩
                replace ZB9 : Hid (b17 ≤ w19.heap.size) := hide (by have := k19.size; have := ZB9.out; omega)
                have O19 := hide (owns_on hO.out (ograwn k19) (fun r e => by cases e))
                have A19 := hide (hA.out.keep (k19.block _ hA.out.lt))
                have R19 := hide (hp_far hR.out k19)
                replace RAg := hide (RAg.out.below k19)
                replace RBg := hide (RBg.out.below k19)
                replace KW := hide (below_trans KW.out k19)
                have LE2 := hide (len_any A19.out (by have := HLA.out; have := HMM.out; omega))
                have RF := hide (own_rdA O19.out)
                have TK : Hid ((SA.take j).length = j) := hide (by have := HSAl.out; rw [List.length_take]; omega)
                have MS := hide (Mine.of_own hO19)
                have RS := hide MS.out.rd
                obtain ⟨vt, hsl, hRT⟩ := cut_any hO19 FF2.out (by have := HSAl.out; omega) (by have := HSAl.out; have := HLA.out; omega)
                obtain ⟨pS, cS, eS, -, -, -⟩ := RS.out
                subst eS
                have RT := hide hRT
                have C20 := hide (osame_any RF.out RT.out)
                have q3 : (j : Int) ≤ (SA.length : Int) := by omega
                have q4 : j ≤ SA.length := by omega
                clear k19 C19 hO hA hR hO19 hRT MS RS
                go_wp2_with fail
                refine LE2.out.mono ?_
                rintro e w19 ⟨rfl, rfl⟩
                go_wp2_with fail
                refine C20.out.mono ?_
                rintro e w20 ⟨rfl, k20⟩
                replace ZB9 : Hid (b17 ≤ w20.heap.size) := hide (by have := k20.size; have := ZB9.out; omega)
                have O20 := hide (owns_on O19.out (ograwn k20) (fun r e => by cases e))
                have A20 := hide (A19.out.keep (k20.block _ A19.out.lt))
                have R20 := hide (hp_far R19.out k20)
                replace RAg := hide (RAg.out.below k20)
                replace RBg := hide (RBg.out.below k20)
                replace KW := hide (below_trans KW.out k20)
                have tlj := tkN_len (byF o) j H0.1 (by have := AL0.out; omega)
                have C21 := hide (add3_any (I := fun _ => True) (w := w20) (base := b17) (st := (tkN (byF o) j H0.1, H0.2)) (l := Q) (f := byF o) A20.out R20.out ZB9.out (RBg.out.mono (fun g _ hg => ⟨by omega, fun e => by have := LVm.out g e; have := Z18.out; omega⟩)) (by have := HLA.out; have := HLB.out; have := AL0.out; show (tkN (byF o) j H0.1).length + Q.length ≤ _; omega) (by have := HCC.out; show 0 ≤ H0.2; omega) (by have := HCC.out; show H0.2 ≤ _; omega) CM.out (fun _ => trivial))
                rw [HCC.out] at C21
                clear k20 C20 LE2 RF O19 A19 R19 tlj
                go_wp2_with fail
                refine C21.out.mono ?_
                rintro e w21 ⟨rfl, ⟨hv3, b21, r21, -⟩, x21⟩
                have sz21 := x21.size
                have zz := Z18.out
                have lva := LVm.out
                have O21 := hide (owns_belx O20.out x21 (fun i hi => by
                  obtain ⟨e1, cur, e2⟩ := owns_row O20.out hi
                  have h3 := (Array.getElem?_eq_some_iff.1 e2).1
                  refine ⟨h3, fun e => e.elim (fun e => by omega) (fun e => ?_)⟩
                  obtain ⟨_, cur2, e5⟩ := own3_row R20.out e
                  rw [e2] at e5
                  cases e5))
                obtain ⟨hs3, hhs3⟩ : ∃ h, adF (byF o) (tkN (byF o) j H0.1, (xs.length : Int)) Q = h := ⟨_, rfl⟩
                have FG3 := FG2.out
                have FP3 := FP2.out
                rw [hhs3] at b21 r21 FG3 FP3
                have ln3 := (adF_cnt (byF o) Q (tkN (byF o) j H0.1, (xs.length : Int))).2
                rw [hhs3] at ln3
                have PW3 := hide (dr_rs FG3)
                have HFP3 := hide FP3
                have HL3 := hide (show hs3.1.length ≤ 2097152 by have := tkN_len (byF o) j H0.1 (by have := AL0.out; omega); have := HLA.out; have := HLB.out; have := AL0.out; simp only at ln3; omega)
                have B21 := hide b21
                have OL21 : Hid (∀ k, (Value.slice pv3 j cv3).ownBlock = some k → k < w21.heap.size) := hide (fun k hk => by
                  obtain ⟨_, cur, e2⟩ := owns_row O21.out hk
                  exact (Array.getElem?_eq_some_iff.1 e2).1)
                have ZB21 : Hid (s0 + 1 < w21.heap.size) := hide b21.lt
                have R21 := hide r21
                replace RAg := hide (RAg.out.belx x21 (fun g hg => ⟨by have := ZB9.out; omega, fun e => e.elim (fun e => by omega) (fun e => by have := lva g e; omega)⟩))
                replace RBg := hide (RBg.out.belx x21 (fun g hg => ⟨by have := ZB9.out; omega, fun e => e.elim (fun e => by omega) (fun e => by have := lva g e; omega)⟩))
                replace KW := hide (KW.out.trans (x21.below (B := w.heap.size) (by have := KW.out.size; omega) (fun i hi e => e.elim (fun e => by have := ZW.out; omega) (fun e => by have := lva i e; have := ZW.out; omega))))
                clear x21 sz21 zz lva hhs3 FG3 FP3 ln3 b21 r21 C21 O20 A20 R20
                obtain ⟨W22, hW22⟩ : ∃ u, w21.alloc (.cells #[.slice none 0 0] 22) = u := ⟨_, rfl⟩
                have k22 : Below w21.heap.size w21 W22 := by rw [← hW22]; exact (Below.refl _ w21).alloc (Nat.le_refl _) _
                have bO : Boxed W22 w21.heap.size 22 (.slice none 0 0) := by rw [← hW22]; exact Boxed.new _ _ _
                have CA := hide (all_box (w := W22) (B := s0 + 1))
                go_wp2_with fail
                try rw [hW22]
                refine CA.out.mono ?_
                rintro e w23 ⟨rfl, hbb, hbl, k⟩
                have k23 := below_trans k22 k
                have BO : Hid (Boxed w23 w21.heap.size 22 (.slice none 0 0)) := hide ((k.block _ bO.lt).trans bO)
                have HBo := hide BO.out.lt
                replace B21 := hide (B21.out.keep (k23.block _ B21.out.lt))
                replace R21 := hide (hp_far R21.out k23)
                replace RAg := hide (RAg.out.below k23)
                replace RBg := hide (RBg.out.below k23)
                replace O21 := hide (owns_on O21.out (ograwn k23) (fun r e => by cases e))
                replace KW := hide (below_trans KW.out k23)
                have HSEQ := hide (all_told (n := 3) (f := byF o) (by omega) hbb hbl B21.out R21.out (by have := HL3.out; omega) CM.out)
                have OLo : Hid (∀ k, (Value.slice pv3 j cv3).ownBlock = some k → k < w21.heap.size) := hide OL21.out
                obtain ⟨Bo, hBO⟩ : ∃ b, w21.heap.size = b := ⟨_, rfl⟩
                rw [hBO] at BO HBo OLo
                have BoN : Hid (s0 + 1 < Bo) := hide (by have := ZB21.out; omega)
                obtain ⟨Bb, hBb⟩ : ∃ b, W22.heap.size = b := ⟨_, rfl⟩
                rw [hBb] at HSEQ
                have HX1 := hide hBO
                have HX2 := hide hBb
                obtain ⟨D, hD⟩ : ∃ D, dr (byF o) hs3.1.length hs3.1 = D := ⟨_, rfl⟩
                rw [hD] at PW3 HFP3 HSEQ
                have HDl : Hid (D.length ≤ 2097152) := hide (by rw [← hD, dr_len]; exact HL3.out)
                have ZW23 := hide KW.out.size
                clear CA k k22 k23 bO hbb hbl hBO hBb hD hW22 B21 R21
                go_wp2_with fail
                try rw [HX1.out]
                try rw [HX2.out]
                clear HX1 HX2
                refine (wpIn_wide (n := 4)).1 ?_
                refine' wpIn_rangeO rfl (by omega) (gf := 25) (lb := #[.pointer (some ⟨Bb, 0, none⟩)]) (by simp [go_sem]) trivial (enters_of Try.func25 (by kernel_rfl) rfl) HSEQ.out (Below.refl _ _) (fun _ => rfl) (OdI Bo w23) (fun _ _ _ _ => False) (odi_ab HBo.out (by omega)) (fun c O pre A B h _ => h) (fun O pre A l r r' h hl hw => odi_put HBo.out h hl hw) (fun c O pre A l r r' h _ _ => h) ⟨_, by simpa [flat] using World.ownsRow_nil _ _ _ _, BO.out, BelX.refl _ _ _, fun k h => (by cases h), fun k h => h.elim⟩
                  (fun x a' W' => ∃ Bx, W'.heap[Bx]? = some (.cells #[.int .i64 x.1, .int .i64 x.2] 29 (0, 0)) ∧ a' = { tmps := #[Value.agg #[Value.slice ao xs.length ca, Value.slice bo ys.length cb, Value.int IntKind.u8 n, Value.int IntKind.i64 o], Value.pointer (some { block := B0, off := 0 }), u2, Value.int IntKind.u8 n, Value.int IntKind.i64 o, Value.slice p1 A.length c1, Value.slice p2 Q.length c2, Value.pointer (some { block := s0, off := 0 }), Value.pointer (some { block := s0 + 1, off := 0 }), Value.int IntKind.i64 ↑Q.length, Value.slice pv k cv, u11, u12, Value.slice pv3 j cv3, Value.int IntKind.i64 ↑j, u15, u16, Value.slice pS SA.length cS, Value.pointer (some { block := Bo, off := 0 }), Value.func (Fn.func 25) #[] #[Value.pointer (some { block := Bb, off := 0 })], Value.pointer (some { block := Bx, off := 0 }), Value.pointer (some { block := B0, off := 2 }), Value.int IntKind.u8 n, Value.pointer (some { block := B0, off := 3 }), Value.int IntKind.i64 o, Value.pointer (some { block := B0, off := 0 }), Value.slice ao xs.length ca, Value.slice p1 A.length c1, Value.pointer (some { block := B0, off := 1 }), Value.slice bo ys.length cb, Value.pointer (some { block := B0, off := 0 }), Value.slice ao xs.length ca, Value.int IntKind.i64 ↑xs.length, Value.slice p2 Q.length c2, Value.int IntKind.i64 o, Value.func (Fn.func cg) #[] cl, Value.pointer (some { block := s0, off := 0 }), Value.int IntKind.i64 o, Value.func (Fn.func cg) #[] cl, Value.pointer (some { block := s0 + 1, off := 0 }), Value.pointer (some { block := s0, off := 0 }), Value.bool false, Value.bool false, Value.pointer (some { block := s0 + 1, off := 0 }), Value.bool false, Value.bool false, Value.pointer (some { block := s0, off := 0 }), Value.slice p1 A.length c1, Value.tuple #[], Value.int IntKind.i64 ↑Q.length, Value.slice p2 Q.length c2, Value.int IntKind.i64 ↑Q.length, Value.bool false, u53, u54, u55, u56, u57, u58, u59, u60, u61, Value.pointer (some { block := s0, off := 0 }), Value.int IntKind.i64 0, Value.bool false, Value.bool false, undef, undef, undef, undef, undef, undef, undef, undef, Value.bool false, u75, u76, u77, u78, u79, u80, u81, u82, u83, u84, u85, Value.slice pv k cv, Value.slice (some { block := wq.heap.size, off := 0 }) 0 0, Value.slice p1 A.length c1, v14, Value.slice p2 Q.length c2, Value.slice pl L.length cl15, Value.int IntKind.i64 o, Value.func (Fn.func cg) #[] cl, Value.slice p16 sL.length c16, Value.bool true, Value.bool false, Value.pointer (some { block := s0 + 1, off := 0 }), Value.slice p1 A.length c1, Value.tuple #[], Value.int IntKind.i64 ↑j, Value.int IntKind.u8 n, Value.int IntKind.i64 n, Value.bool true, Value.bool true, Value.pointer (some { block := s0 + 1, off := 0 }), Value.int IntKind.i64 0, Value.bool false, Value.bool false, u109, u110, u111, u112, u113, u114, u115, u116, u117, u118, u119, Value.slice p1 A.length c1, Value.int IntKind.i64 o, Value.func (Fn.func cg) #[] cl, Value.slice pS SA.length cS, Value.slice pS SA.length cS, Value.int IntKind.i64 ↑SA.length, Value.slice pv3 j cv3, Value.int IntKind.i64 ↑j, Value.bool false, Value.bool false, Value.pointer (some { block := s0 + 1, off := 0 }), Value.int IntKind.i64 0, Value.slice p1 A.length c1, Value.int IntKind.i64 ↑A.length, Value.slice pv3 j cv3, Value.int IntKind.i64 ↑j, Value.int IntKind.i64 0, Value.bool false, Value.bool false, Value.bool false, Value.slice pv3 j cv3, Value.slice pS SA.length cS, Value.slice pv3 j cv3, Value.int IntKind.i64 ↑j, vt, Value.bool true, Value.bool false, Value.bool false, Value.pointer (some { block := s0 + 1, off := 0 }), Value.slice p2 Q.length c2, Value.tuple #[], Value.pointer (some { block := s0 + 1, off := 0 }), Value.func (Fn.func 25) #[] #[Value.pointer (some { block := Bb, off := 0 })], Value.func (Fn.func 25) #[] #[Value.pointer (some { block := Bb, off := 0 })], Value.bool false, Value.func (Fn.func 25) #[] #[Value.pointer (some { block := Bb, off := 0 })], itV x, undef, undef, undef, undef, undef, undef, undef, undef, undef, undef, undef, undef, undef, undef, undef, undef, undef, undef, undef, undef, undef, undef, undef], defers := [] }) ?hAt ?hassign ?hbody ?hdone ?hstop
                case hAt => 
                  rintro x a' A l r r' ⟨Bx, h2, h3⟩ hl
                  refine ⟨Bx, (World.putObj_heap_other (fun e => ?_)).trans h2, h3⟩
                  subst e
                  rw [h2] at hl
                  cases hl
                case hassign => 
                  rintro l x W' K hK
                  gi_wp2
                  exact hK _ _ ((Below.refl _ W').alloc (Nat.le_refl _) _) ⟨W'.heap.size, World.alloc_heap_new W' _, rfl⟩
                case hbody => 
                  rintro l O pre x a' W' hi hrd ⟨Bx, hx0, rfl⟩ hsz
                  obtain ⟨x1, x2⟩ := x
                  obtain ⟨v, a, b, c, d, e⟩ := hi
                  have c4 := b.cell
                  have cx0 := cell_of_row W' _ 0 _ _ _ hx0
                  have cx1 := cell_of_row W' _ 1 _ _ _ hx0
                  simp at cx0 cx1
                  have hpl : pre.length + 1 ≤ 8796093022208 := by
                    have h1 := hrd.length_le
                    have h2 := HDl.out
                    simp at h1
                    omega
                  have HPL := hide hpl
                  have OWN := hide (a.alloc (.cells #[.int .i64 x1, .int .i64 x2] 29))
                  have NW := hide (show ∀ j u, (flat [(x1, x2)])[j]? = some u → (W'.alloc (.cells #[.int .i64 x1, .int .i64 x2] 29)).cell? ((⟨W'.heap.size, 0, none⟩ : Addr).add j) = some u from cell_two_new W' _ _ _)
                  have BS : Hid (w23.heap.size ≤ W'.heap.size + 1) := hide (by omega)
                  have HA := hide a
                  have HB := hide b
                  have HC := hide c
                  have HD := hide d
                  have HE := hide e
                  have HSZ := hide hsz
                  clear a b c d e hsz hpl hx0 hrd
                  gi_wp2_with (gi_at_builtin; refine wpListIn_ap1 rfl _ _ rfl w23.heap.size _ pre.length _ rfl OWN.out _ _ (x1, x2) rfl NW.out HPL.out (by have := BS.out; simp; omega) ?_)
                  intro v2 w2 own2 pl2
                  obtain ⟨bb, ST⟩ := odi_step HBo.out HA.out HB.out HC.out HD.out HE.out HSZ.out own2 (by simpa using pl2)
                  have STT := hide ST
                  have g0 := bb.cell
                  have g1 := bb.frozen
                  obtain ⟨_, ⟨_, h0⟩ | ⟨g, cap, cur, rfl, _⟩⟩ := own2
                  · omega
                  clear pl2 ST bb NW OWN HA HB HC HD HE
                  gi_wp2
                  exact STT.out
                case hdone =>   
                  rintro Dm O zs W' hDm hzs hi hK
                  subst hzs
                  obtain ⟨v, a, b, c, d, e⟩ := hi
                  have RO := hide (own_rdA a)
                  have NR := hide (own_no a)
                  obtain ⟨po5, pc5, ev, -, -, -⟩ := RO.out
                  subst ev
                  have BX := hide b
                  have hB := HBo.out
                  have OF := owns_belx O21.out c (fun k hk => ⟨by have := OLo.out k hk; omega, by have := OLo.out k hk; omega⟩)
                  have RFs := hide (own_rdA OF)
                  have NF := hide (own_no OF)
                  have RA5 : Hid (ItRd (fun _ => True) W' (.slice p1 A.length c1) A) := hide ((RAg.out.belx (X := fun k => k = Bo) c (fun g hg => by have := BoN.out; omega)).mono (fun _ _ _ => trivial))
                  have RB5 : Hid (ItRd (fun _ => True) W' (.slice p2 Q.length c2) Q) := hide ((RBg.out.belx (X := fun k => k = Bo) c (fun g hg => by have := BoN.out; omega)).mono (fun _ _ _ => trivial))
                  have KW5 := hide (KW.out.trans (c.below (B := w.heap.size) (by have := KW.out.size; omega) (fun k hk e => by have := BoN.out; have := ZW.out; omega)))
                  have HKD := hide hK
                  have SZ5 : Hid (F.length ≤ 2097152 ∧ zs.length ≤ 2097152 ∧ A.length ≤ 2097152 ∧ Q.length ≤ 2097152) := hide ⟨by have := HF1.out; have := HLA.out; omega, HDl.out, by have := HLA.out; omega, by have := HLB.out; omega⟩
                  clear a b c d e hK hB OF
                  go_wp2_with fail
                  have CC : ∀ u : World, Below W'.heap.size W' u → u.cell? ⟨Bo, 0, none⟩ = some (.slice po5 zs.length pc5) := fun u hu => (show Boxed u Bo 22 (.slice po5 zs.length pc5) from (hu.block _ BX.out.lt).trans BX.out).cell
                  have K : Below W'.heap.size W' W'.drew := (Below.refl _ _).drew
                  have HC0 := CC _ K
                  refine wp_np ?_
                  refine wpHl.region0 (C := fun u => u.cell? ⟨Bo, 0, none⟩ = some (.slice po5 zs.length pc5)) (by kernel_rfl) (by kernel_rfl) (fun HS => ?_)
                  refine wpHl.tk0 (i := 0) (d := some 161) (v := .slice po5 zs.length pc5) rfl HS (by as_aux_lemma => kernel_rfl) rfl (fun _ _ _ h => nomatch h.1) (Or.inl ⟨by rfl, ?_⟩) HC0 ?_
                  · intro u hC9
                    have z0 := hC9
                    go_simp
                  simp only [Act.put, List.setIfInBounds_toArray, List.set_cons_zero, List.set_cons_succ]
                  refine wpHl.tk0 (i := 1) (d := some 162) (v := .int .i64 o) rfl HS (by as_aux_lemma => kernel_rfl) rfl (fun _ _ _ h => nomatch h.1) (Or.inl ⟨by rfl, ?_⟩) HC0 ?_
                  · intro u hC9
                    go_simp
                  simp only [Act.put, List.setIfInBounds_toArray, List.set_cons_zero, List.set_cons_succ]
                  refine wpHl.one (i := 2) (by as_aux_lemma => kernel_rfl) rfl (fun K1 hK1 => ?_)
                  rw [if_pos (by rfl)]
                  refine wp_call_of (f := 13) (args := #[.slice po5 zs.length pc5, .int .i64 o]) (by kernel_rfl) ?_
                  with_reducible refine (rises_any (o := o) (RO.out.far K) (by have := HDl.out; omega) (fun i h => fun e => by have h1 := (List.pairwise_iff_getElem.1 PW3.out) i (i + 1) (by omega) h (by omega); have h2 := ocmp_lt.1 e; unfold Rs at h1; omega)).mono ?_
                  rintro e wn ⟨rfl, hb⟩
                  have KU := below_trans K hb
                  clear HC0 K
                  have HC0 := CC _ KU
                  obtain ⟨U, hU⟩ : ∃ U, wn = U := ⟨_, rfl⟩
                  subst hU
                  have h2C := C2.start wn
                  refine hK1 (Act.put _ (some 163) _) _ ⟨fun _ => HC0, ?_⟩
                  clear hK1 K1 hb
                  try simp only [Act.put, List.setIfInBounds_toArray, List.set_cons_zero, List.set_cons_succ]
                  refine wpHl.tk0 (i := 3) (d := some 164) (v := .bool true) rfl HS (by as_aux_lemma => kernel_rfl) rfl (fun _ _ _ h => nomatch h.1) (Or.inl ⟨by rfl, ?_⟩) HC0 ?_
                  · intro u hC9
                    go_simp
                  simp only [Act.put, List.setIfInBounds_toArray, List.set_cons_zero, List.set_cons_succ]
                  refine wpHl.tk0 (i := 5) (d := some 166) (v := .slice pv3 j cv3) rfl HS (by as_aux_lemma => kernel_rfl) rfl (fun _ _ _ h => nomatch h.1) (Or.inl ⟨by rfl, ?_⟩) HC0 ?_
                  · intro u hC9
                    go_simp
                  simp only [Act.put, List.setIfInBounds_toArray, List.set_cons_zero, List.set_cons_succ]
                  refine wpHl.tk0 (i := 7) (d := some 168) (v := .slice po5 zs.length pc5) rfl HS (by as_aux_lemma => kernel_rfl) rfl (fun _ _ _ h => nomatch h.1) (Or.inl ⟨by rfl, ?_⟩) HC0 ?_
                  · intro u hC9
                    have z0 := hC9
                    go_simp
                  simp only [Act.put, List.setIfInBounds_toArray, List.set_cons_zero, List.set_cons_succ]
                  refine wpHl.tk0 (i := 10) (d := some 171) (v := .slice p1 A.length c1) rfl HS (by as_aux_lemma => kernel_rfl) rfl (fun _ _ _ h => nomatch h.1) (Or.inl ⟨by rfl, ?_⟩) HC0 ?_
                  · intro u hC9
                    go_simp
                  simp only [Act.put, List.setIfInBounds_toArray, List.set_cons_zero, List.set_cons_succ]
                  refine wpHl.tk0 (i := 12) (d := some 173) (v := .slice p2 Q.length c2) rfl HS (by as_aux_lemma => kernel_rfl) rfl (fun _ _ _ h => nomatch h.1) (Or.inl ⟨by rfl, ?_⟩) HC0 ?_
                  · intro u hC9
                    go_simp
                  simp only [Act.put, List.setIfInBounds_toArray, List.set_cons_zero, List.set_cons_succ]
                  refine wpHl.two (i := 4) (j := 9) (by as_aux_lemma => kernel_rfl) rfl rfl (fun K1 hK1 => ?_) (fun K1 hK1 => ?_)
                  · rw [if_pos (by rfl)]
                    refine op_build rfl ?_
                    replace h2C := h2C.build
                    clear HC0
                    have HC0 := CC _ (below_trans KU h2C.bel)
                    refine hK1 (Act.put _ (some 165) _) _ ⟨fun _ => HC0, ?_⟩
                    clear hK1 K1
                    try simp only [Act.put, List.setIfInBounds_toArray, List.set_cons_zero, List.set_cons_succ]
                    refine wpHl.two (i := 6) (j := 9) (by as_aux_lemma => kernel_rfl) rfl rfl (fun K1 hK1 => ?_) (fun K1 hK1 => ?_)
                    · rw [if_pos (by rfl)]
                      obtain ⟨v6, u6, hrun, h3C⟩ := h2C.app (RFs.out.far (below_trans KU h2C.bel)) NF.out (by have := SZ5.out; simp; omega) _
                      refine op_append (.tmp 165) (.tmp 166) rfl rfl rfl hrun ?_
                      rw [List.nil_append] at h3C
                      clear HC0 h2C hrun
                      have h2C := h3C
                      clear h3C
                      have HC0 := CC _ (below_trans KU h2C.bel)
                      refine hK1 (Act.put _ (some 167) _) _ ⟨fun _ => HC0, ?_⟩
                      clear hK1 K1
                      try simp only [Act.put, List.setIfInBounds_toArray, List.set_cons_zero, List.set_cons_succ]
                      refine wpHl.two (i := 8) (j := 9) (by as_aux_lemma => kernel_rfl) rfl rfl (fun K1 hK1 => ?_) (fun K1 hK1 => ?_)
                      · rw [if_pos (by rfl)]
                        obtain ⟨v8, u8, hrun, h3C⟩ := h2C.app (RO.out.far (below_trans KU h2C.bel)) NR.out (by have := SZ5.out; simp; omega) _
                        refine op_append (.tmp 167) (.tmp 168) rfl rfl rfl hrun ?_
                        clear HC0 h2C hrun
                        have h2C := h3C
                        clear h3C
                        have HC0 := CC _ (below_trans KU h2C.bel)
                        refine hK1 (Act.put _ (some 169) _) _ ⟨fun _ => HC0, ?_⟩
                        clear hK1 K1
                        try simp only [Act.put, List.setIfInBounds_toArray, List.set_cons_zero, List.set_cons_succ]
                        refine wpHl.one (i := 9) (by as_aux_lemma => kernel_rfl) rfl (fun K1 hK1 => ?_)
                        rw [if_pos (by rfl)]
                        refine op_build rfl ?_
                        replace h2C := h2C.symm.build.symm
                        clear HC0
                        have HC0 := CC _ (below_trans KU h2C.bel)
                        refine hK1 (Act.put _ (some 170) _) _ ⟨fun _ => HC0, ?_⟩
                        clear hK1 K1
                        try simp only [Act.put, List.setIfInBounds_toArray, List.set_cons_zero, List.set_cons_succ]
                        refine wpHl.one (i := 11) (by as_aux_lemma => kernel_rfl) rfl (fun K1 hK1 => ?_)
                        rw [if_pos (by rfl)]
                        obtain ⟨v11, u11, hrun, h3C⟩ := h2C.symm.app (RA5.out.far (below_trans KU h2C.bel)) NOA.out (by have := SZ5.out; simp; omega) _
                        refine op_append (.tmp 170) (.tmp 171) rfl rfl rfl hrun ?_
                        rw [List.nil_append] at h3C
                        clear HC0 h2C hrun
                        have h2C := h3C.symm
                        clear h3C
                        have HC0 := CC _ (below_trans KU h2C.bel)
                        refine hK1 (Act.put _ (some 172) _) _ ⟨fun _ => HC0, ?_⟩
                        clear hK1 K1
                        try simp only [Act.put, List.setIfInBounds_toArray, List.set_cons_zero, List.set_cons_succ]
                        refine wpHl.one (i := 13) (by as_aux_lemma => kernel_rfl) rfl (fun K1 hK1 => ?_)
                        rw [if_pos (by rfl)]
                        obtain ⟨v13, u13, hrun, h3C⟩ := h2C.symm.app (RB5.out.far (below_trans KU h2C.bel)) NOB.out (by have := SZ5.out; simp; omega) _
                        refine op_append (.tmp 172) (.tmp 173) rfl rfl rfl hrun ?_
                        clear HC0 h2C hrun
                        have h2C := h3C.symm
                        clear h3C
                        have HC0 := CC _ (below_trans KU h2C.bel)
                        refine hK1 (Act.put _ (some 174) _) _ ⟨fun _ => HC0, ?_⟩
                        clear hK1 K1
                        try simp only [Act.put, List.setIfInBounds_toArray, List.set_cons_zero, List.set_cons_succ]
                        refine wpHl.one (i := 14) (by as_aux_lemma => kernel_rfl) rfl (fun K1 hK1 => ?_)
                        rw [if_pos (by rfl)]
                        refine wp_call_of (f := 14) (args := #[v8, v13]) (by kernel_rfl) ?_
                        with_reducible refine (shuffled_any (own_rdA h2C.ox) (own_rdA h2C.oy) (by have := SZ5.out; simp; omega) HFP3.out).mono ?_
                        rintro e wn ⟨rfl, hb⟩
                        have KF := below_trans (below_trans KU h2C.bel) hb
                        clear HC0 h2C
                        have HC0 := CC _ KF
                        refine hK1 (Act.put _ (some 175) _) _ ⟨fun _ => HC0, ?_⟩
                        clear hK1 K1 hb
                        try simp only [Act.put, List.setIfInBounds_toArray, List.set_cons_zero, List.set_cons_succ]
                        refine wpHl.tk0 (i := 15) (d := some 176) (v := .bool true) rfl HS (by as_aux_lemma => kernel_rfl) rfl (fun _ _ _ h => nomatch h.1) (Or.inl ⟨by rfl, ?_⟩) HC0 ?_
                        · intro u hC9
                          go_simp
                        simp only [Act.put, List.setIfInBounds_toArray, List.set_cons_zero, List.set_cons_succ]
                        refine wpHl.tk0 (i := 16) (d := some 177) (v := .bool true) rfl HS (by as_aux_lemma => kernel_rfl) rfl (fun _ _ _ h => nomatch h.1) (Or.inl ⟨by rfl, ?_⟩) HC0 ?_
                        · intro u hC9
                          go_simp
                        simp only [Act.put, List.setIfInBounds_toArray, List.set_cons_zero, List.set_cons_succ]
                        refine wpHl.one (i := 17) (by as_aux_lemma => kernel_rfl) rfl (fun K1 hK1 => ?_)
                        rw [if_pos (by rfl)]
                        refine wp_call_of (f := 15) (args := #[]) (by kernel_rfl) ?_
                        with_reducible refine (olives).mono ?_
                        rintro e wn ⟨rfl, hb⟩
                        have KG := below_trans KF hb
                        clear HC0 KF
                        have HC0 := CC _ KG
                        refine hK1 (Act.put _ (some 178) _) _ ⟨fun _ => HC0, ?_⟩
                        clear hK1 K1 hb
                        try simp only [Act.put, List.setIfInBounds_toArray, List.set_cons_zero, List.set_cons_succ]
                        refine wpHl.tk0 (i := 18) (d := some 179) (v := .bool true) rfl HS (by as_aux_lemma => kernel_rfl) rfl (fun _ _ _ h => nomatch h.1) (Or.inl ⟨by rfl, ?_⟩) HC0 ?_
                        · intro u hC9
                          go_simp
                        simp only [Act.put, List.setIfInBounds_toArray, List.set_cons_zero, List.set_cons_succ]
                        refine wpHl.tk0 (i := 19) (d := some 2) (v := .bool true) rfl HS (by as_aux_lemma => kernel_rfl) rfl (fun _ _ _ h => nomatch h.1) (Or.inl ⟨by rfl, ?_⟩) HC0 ?_
                        · intro u hC9
                          go_simp
                        simp only [Act.put, List.setIfInBounds_toArray, List.set_cons_zero, List.set_cons_succ]
                        refine wpHl.done (by as_aux_lemma => kernel_rfl) ⟨rfl, ?_⟩ _
                        clear CC HC0 HS
                        have KW9 := hide (below_trans KW5.out KG)
                        have HKD9 := hide ((KG.block _ (Array.getElem?_eq_some_iff.1 HKD.out).1).trans HKD.out)
                        clear KG
                        go_wp2
                        refine marks_leave (A := w23.heap.size) (Inv := fun u => Below w.heap.size w u) ?_ ?_ [Dm] _ (by simp; exact ⟨hDm, HKD9.out⟩) (by simp) KW9.out
                        · rintro u D' i1 hD' hu
                          exact i1.trans ((belx_putObj (X := fun _ => False) (n := w.heap.size) _ (by have := ZW23.out; omega)).below (Nat.le_refl _) (fun _ _ e => e))
                        · rintro u i1
                          exact ⟨_, results_tmp rfl _ _ _, rfl, i1⟩
                      · rw [if_pos (by rfl)]
                        refine op_build rfl ?_
                        replace h2C := h2C.symm.build.symm
                        clear HC0
                        have HC0 := CC _ (below_trans KU h2C.bel)
                        refine hK1 (Act.put _ (some 170) _) _ ⟨fun _ => HC0, ?_⟩
                        clear hK1 K1
                        try simp only [Act.put, List.setIfInBounds_toArray, List.set_cons_zero, List.set_cons_succ]
                        refine wpHl.one (i := 8) (by as_aux_lemma => kernel_rfl) rfl (fun K1 hK1 => ?_)
                        rw [if_pos (by rfl)]
                        obtain ⟨v8, u8, hrun, h3C⟩ := h2C.app (RO.out.far (below_trans KU h2C.bel)) NR.out (by have := SZ5.out; simp; omega) _
                        refine op_append (.tmp 167) (.tmp 168) rfl rfl rfl hrun ?_
                        clear HC0 h2C hrun
                        have h2C := h3C
                        clear h3C
                        have HC0 := CC _ (below_trans KU h2C.bel)
                        refine hK1 (Act.put _ (some 169) _) _ ⟨fun _ => HC0, ?_⟩
                        clear hK1 K1
                        try simp only [Act.put, List.setIfInBounds_toArray, List.set_cons_zero, List.set_cons_succ]
                        refine wpHl.one (i := 11) (by as_aux_lemma => kernel_rfl) rfl (fun K1 hK1 => ?_)
                        rw [if_pos (by rfl)]
                        obtain ⟨v11, u11, hrun, h3C⟩ := h2C.symm.app (RA5.out.far (below_trans KU h2C.bel)) NOA.out (by have := SZ5.out; simp; omega) _
                        refine op_append (.tmp 170) (.tmp 171) rfl rfl rfl hrun ?_
                        rw [List.nil_append] at h3C
                        clear HC0 h2C hrun
                        have h2C := h3C.symm
                        clear h3C
                        have HC0 := CC _ (below_trans KU h2C.bel)
                        refine hK1 (Act.put _ (some 172) _) _ ⟨fun _ => HC0, ?_⟩
                        clear hK1 K1
                        try simp only [Act.put, List.setIfInBounds_toArray, List.set_cons_zero, List.set_cons_succ]
                        refine wpHl.one (i := 13) (by as_aux_lemma => kernel_rfl) rfl (fun K1 hK1 => ?_)
                        rw [if_pos (by rfl)]
                        obtain ⟨v13, u13, hrun, h3C⟩ := h2C.symm.app (RB5.out.far (below_trans KU h2C.bel)) NOB.out (by have := SZ5.out; simp; omega) _
                        refine op_append (.tmp 172) (.tmp 173) rfl rfl rfl hrun ?_
                        clear HC0 h2C hrun
                        have h2C := h3C.symm
                        clear h3C
                        have HC0 := CC _ (below_trans KU h2C.bel)
                        refine hK1 (Act.put _ (some 174) _) _ ⟨fun _ => HC0, ?_⟩
                        clear hK1 K1
                        try simp only [Act.put, List.setIfInBounds_toArray, List.set_cons_zero, List.set_cons_succ]
                        refine wpHl.one (i := 14) (by as_aux_lemma => kernel_rfl) rfl (fun K1 hK1 => ?_)
                        rw [if_pos (by rfl)]
                        refine wp_call_of (f := 14) (args := #[v8, v13]) (by kernel_rfl) ?_
                        with_reducible refine (shuffled_any (own_rdA h2C.ox) (own_rdA h2C.oy) (by have := SZ5.out; simp; omega) HFP3.out).mono ?_
                        rintro e wn ⟨rfl, hb⟩
                        have KF := below_trans (below_trans KU h2C.bel) hb
                        clear HC0 h2C
                        have HC0 := CC _ KF
                        refine hK1 (Act.put _ (some 175) _) _ ⟨fun _ => HC0, ?_⟩
                        clear hK1 K1 hb
                        try simp only [Act.put, List.setIfInBounds_toArray, List.set_cons_zero, List.set_cons_succ]
                        refine wpHl.tk0 (i := 15) (d := some 176) (v := .bool true) rfl HS (by as_aux_lemma => kernel_rfl) rfl (fun _ _ _ h => nomatch h.1) (Or.inl ⟨by rfl, ?_⟩) HC0 ?_
                        · intro u hC9
                          go_simp
                        simp only [Act.put, List.setIfInBounds_toArray, List.set_cons_zero, List.set_cons_succ]
                        refine wpHl.tk0 (i := 16) (d := some 177) (v := .bool true) rfl HS (by as_aux_lemma => kernel_rfl) rfl (fun _ _ _ h => nomatch h.1) (Or.inl ⟨by rfl, ?_⟩) HC0 ?_
                        · intro u hC9
                          go_simp
                        simp only [Act.put, List.setIfInBounds_toArray, List.set_cons_zero, List.set_cons_succ]
                        refine wpHl.one (i := 17) (by as_aux_lemma => kernel_rfl) rfl (fun K1 hK1 => ?_)
                        rw [if_pos (by rfl)]
                        refine wp_call_of (f := 15) (args := #[]) (by kernel_rfl) ?_
                        with_reducible refine (olives).mono ?_
                        rintro e wn ⟨rfl, hb⟩
                        have KG := below_trans KF hb
                        clear HC0 KF
                        have HC0 := CC _ KG
                        refine hK1 (Act.put _ (some 178) _) _ ⟨fun _ => HC0, ?_⟩
                        clear hK1 K1 hb
                        try simp only [Act.put, List.setIfInBounds_toArray, List.set_cons_zero, List.set_cons_succ]
                        refine wpHl.tk0 (i := 18) (d := some 179) (v := .bool true) rfl HS (by as_aux_lemma => kernel_rfl) rfl (fun _ _ _ h => nomatch h.1) (Or.inl ⟨by rfl, ?_⟩) HC0 ?_
                        · intro u hC9
                          go_simp
                        simp only [Act.put, List.setIfInBounds_toArray, List.set_cons_zero, List.set_cons_succ]
                        refine wpHl.tk0 (i := 19) (d := some 2) (v := .bool true) rfl HS (by as_aux_lemma => kernel_rfl) rfl (fun _ _ _ h => nomatch h.1) (Or.inl ⟨by rfl, ?_⟩) HC0 ?_
                        · intro u hC9
                          go_simp
                        simp only [Act.put, List.setIfInBounds_toArray, List.set_cons_zero, List.set_cons_succ]
                        refine wpHl.done (by as_aux_lemma => kernel_rfl) ⟨rfl, ?_⟩ _
                        clear CC HC0 HS
                        have KW9 := hide (below_trans KW5.out KG)
                        have HKD9 := hide ((KG.block _ (Array.getElem?_eq_some_iff.1 HKD.out).1).trans HKD.out)
                        clear KG
                        go_wp2
                        refine marks_leave (A := w23.heap.size) (Inv := fun u => Below w.heap.size w u) ?_ ?_ [Dm] _ (by simp; exact ⟨hDm, HKD9.out⟩) (by simp) KW9.out
                        · rintro u D' i1 hD' hu
                          exact i1.trans ((belx_putObj (X := fun _ => False) (n := w.heap.size) _ (by have := ZW23.out; omega)).below (Nat.le_refl _) (fun _ _ e => e))
                        · rintro u i1
                          exact ⟨_, results_tmp rfl _ _ _, rfl, i1⟩
                    · rw [if_pos (by rfl)]
                      refine op_build rfl ?_
                      replace h2C := h2C.symm.build.symm
                      clear HC0
                      have HC0 := CC _ (below_trans KU h2C.bel)
                      refine hK1 (Act.put _ (some 170) _) _ ⟨fun _ => HC0, ?_⟩
                      clear hK1 K1
                      try simp only [Act.put, List.setIfInBounds_toArray, List.set_cons_zero, List.set_cons_succ]
                      refine wpHl.one (i := 6) (by as_aux_lemma => kernel_rfl) rfl (fun K1 hK1 => ?_)
                      rw [if_pos (by rfl)]
                      obtain ⟨v6, u6, hrun, h3C⟩ := h2C.app (RFs.out.far (below_trans KU h2C.bel)) NF.out (by have := SZ5.out; simp; omega) _
                      refine op_append (.tmp 165) (.tmp 166) rfl rfl rfl hrun ?_
                      rw [List.nil_append] at h3C
                      clear HC0 h2C hrun
                      have h2C := h3C
                      clear h3C
                      have HC0 := CC _ (below_trans KU h2C.bel)
                      refine hK1 (Act.put _ (some 167) _) _ ⟨fun _ => HC0, ?_⟩
                      clear hK1 K1
                      try simp only [Act.put, List.setIfInBounds_toArray, List.set_cons_zero, List.set_cons_succ]
                      refine wpHl.one (i := 8) (by as_aux_lemma => kernel_rfl) rfl (fun K1 hK1 => ?_)
                      rw [if_pos (by rfl)]
                      obtain ⟨v8, u8, hrun, h3C⟩ := h2C.app (RO.out.far (below_trans KU h2C.bel)) NR.out (by have := SZ5.out; simp; omega) _
                      refine op_append (.tmp 167) (.tmp 168) rfl rfl rfl hrun ?_
                      clear HC0 h2C hrun
                      have h2C := h3C
                      clear h3C
                      have HC0 := CC _ (below_trans KU h2C.bel)
                      refine hK1 (Act.put _ (some 169) _) _ ⟨fun _ => HC0, ?_⟩
                      clear hK1 K1
                      try simp only [Act.put, List.setIfInBounds_toArray, List.set_cons_zero, List.set_cons_succ]
                      refine wpHl.one (i := 11) (by as_aux_lemma => kernel_rfl) rfl (fun K1 hK1 => ?_)
                      rw [if_pos (by rfl)]
                      obtain ⟨v11, u11, hrun, h3C⟩ := h2C.symm.app (RA5.out.far (below_trans KU h2C.bel)) NOA.out (by have := SZ5.out; simp; omega) _
                      refine op_append (.tmp 170) (.tmp 171) rfl rfl rfl hrun ?_
                      rw [List.nil_append] at h3C
                      clear HC0 h2C hrun
                      have h2C := h3C.symm
                      clear h3C
                      have HC0 := CC _ (below_trans KU h2C.bel)
                      refine hK1 (Act.put _ (some 172) _) _ ⟨fun _ => HC0, ?_⟩
                      clear hK1 K1
                      try simp only [Act.put, List.setIfInBounds_toArray, List.set_cons_zero, List.set_cons_succ]
                      refine wpHl.one (i := 13) (by as_aux_lemma => kernel_rfl) rfl (fun K1 hK1 => ?_)
                      rw [if_pos (by rfl)]
                      obtain ⟨v13, u13, hrun, h3C⟩ := h2C.symm.app (RB5.out.far (below_trans KU h2C.bel)) NOB.out (by have := SZ5.out; simp; omega) _
                      refine op_append (.tmp 172) (.tmp 173) rfl rfl rfl hrun ?_
                      clear HC0 h2C hrun
                      have h2C := h3C.symm
                      clear h3C
                      have HC0 := CC _ (below_trans KU h2C.bel)
                      refine hK1 (Act.put _ (some 174) _) _ ⟨fun _ => HC0, ?_⟩
                      clear hK1 K1
                      try simp only [Act.put, List.setIfInBounds_toArray, List.set_cons_zero, List.set_cons_succ]
                      refine wpHl.one (i := 14) (by as_aux_lemma => kernel_rfl) rfl (fun K1 hK1 => ?_)
                      rw [if_pos (by rfl)]
                      refine wp_call_of (f := 14) (args := #[v8, v13]) (by kernel_rfl) ?_
                      with_reducible refine (shuffled_any (own_rdA h2C.ox) (own_rdA h2C.oy) (by have := SZ5.out; simp; omega) HFP3.out).mono ?_
                      rintro e wn ⟨rfl, hb⟩
                      have KF := below_trans (below_trans KU h2C.bel) hb
                      clear HC0 h2C
                      have HC0 := CC _ KF
                      refine hK1 (Act.put _ (some 175) _) _ ⟨fun _ => HC0, ?_⟩
                      clear hK1 K1 hb
                      try simp only [Act.put, List.setIfInBounds_toArray, List.set_cons_zero, List.set_cons_succ]
                      refine wpHl.tk0 (i := 15) (d := some 176) (v := .bool true) rfl HS (by as_aux_lemma => kernel_rfl) rfl (fun _ _ _ h => nomatch h.1) (Or.inl ⟨by rfl, ?_⟩) HC0 ?_
                      · intro u hC9
                        go_simp
                      simp only [Act.put, List.setIfInBounds_toArray, List.set_cons_zero, List.set_cons_succ]
                      refine wpHl.tk0 (i := 16) (d := some 177) (v := .bool true) rfl HS (by as_aux_lemma => kernel_rfl) rfl (fun _ _ _ h => nomatch h.1) (Or.inl ⟨by rfl, ?_⟩) HC0 ?_
                      · intro u hC9
                        go_simp
                      simp only [Act.put, List.setIfInBounds_toArray, List.set_cons_zero, List.set_cons_succ]
                      refine wpHl.one (i := 17) (by as_aux_lemma => kernel_rfl) rfl (fun K1 hK1 => ?_)
                      rw [if_pos (by rfl)]
                      refine wp_call_of (f := 15) (args := #[]) (by kernel_rfl) ?_
                      with_reducible refine (olives).mono ?_
                      rintro e wn ⟨rfl, hb⟩
                      have KG := below_trans KF hb
                      clear HC0 KF
                      have HC0 := CC _ KG
                      refine hK1 (Act.put _ (some 178) _) _ ⟨fun _ => HC0, ?_⟩
                      clear hK1 K1 hb
                      try simp only [Act.put, List.setIfInBounds_toArray, List.set_cons_zero, List.set_cons_succ]
                      refine wpHl.tk0 (i := 18) (d := some 179) (v := .bool true) rfl HS (by as_aux_lemma => kernel_rfl) rfl (fun _ _ _ h => nomatch h.1) (Or.inl ⟨by rfl, ?_⟩) HC0 ?_
                      · intro u hC9
                        go_simp
                      simp only [Act.put, List.setIfInBounds_toArray, List.set_cons_zero, List.set_cons_succ]
                      refine wpHl.tk0 (i := 19) (d := some 2) (v := .bool true) rfl HS (by as_aux_lemma => kernel_rfl) rfl (fun _ _ _ h => nomatch h.1) (Or.inl ⟨by rfl, ?_⟩) HC0 ?_
                      · intro u hC9
                        go_simp
                      simp only [Act.put, List.setIfInBounds_toArray, List.set_cons_zero, List.set_cons_succ]
                      refine wpHl.done (by as_aux_lemma => kernel_rfl) ⟨rfl, ?_⟩ _
                      clear CC HC0 HS
                      have KW9 := hide (below_trans KW5.out KG)
                      have HKD9 := hide ((KG.block _ (Array.getElem?_eq_some_iff.1 HKD.out).1).trans HKD.out)
                      clear KG
                      go_wp2
                      refine marks_leave (A := w23.heap.size) (Inv := fun u => Below w.heap.size w u) ?_ ?_ [Dm] _ (by simp; exact ⟨hDm, HKD9.out⟩) (by simp) KW9.out
                      · rintro u D' i1 hD' hu
                        exact i1.trans ((belx_putObj (X := fun _ => False) (n := w.heap.size) _ (by have := ZW23.out; omega)).below (Nat.le_refl _) (fun _ _ e => e))
                      · rintro u i1
                        exact ⟨_, results_tmp rfl _ _ _, rfl, i1⟩
                  · rw [if_pos (by rfl)]
                    refine op_build rfl ?_
                    replace h2C := h2C.symm.build.symm
                    clear HC0
                    have HC0 := CC _ (below_trans KU h2C.bel)
                    refine hK1 (Act.put _ (some 170) _) _ ⟨fun _ => HC0, ?_⟩
                    clear hK1 K1
                    try simp only [Act.put, List.setIfInBounds_toArray, List.set_cons_zero, List.set_cons_succ]
                    refine wpHl.one (i := 4) (by as_aux_lemma => kernel_rfl) rfl (fun K1 hK1 => ?_)
                    rw [if_pos (by rfl)]
                    refine op_build rfl ?_
                    replace h2C := h2C.build
                    clear HC0
                    have HC0 := CC _ (below_trans KU h2C.bel)
                    refine hK1 (Act.put _ (some 165) _) _ ⟨fun _ => HC0, ?_⟩
                    clear hK1 K1
                    try simp only [Act.put, List.setIfInBounds_toArray, List.set_cons_zero, List.set_cons_succ]
                    refine wpHl.one (i := 6) (by as_aux_lemma => kernel_rfl) rfl (fun K1 hK1 => ?_)
                    rw [if_pos (by rfl)]
                    obtain ⟨v6, u6, hrun, h3C⟩ := h2C.app (RFs.out.far (below_trans KU h2C.bel)) NF.out (by have := SZ5.out; simp; omega) _
                    refine op_append (.tmp 165) (.tmp 166) rfl rfl rfl hrun ?_
                    rw [List.nil_append] at h3C
                    clear HC0 h2C hrun
                    have h2C := h3C
                    clear h3C
                    have HC0 := CC _ (below_trans KU h2C.bel)
                    refine hK1 (Act.put _ (some 167) _) _ ⟨fun _ => HC0, ?_⟩
                    clear hK1 K1
                    try simp only [Act.put, List.setIfInBounds_toArray, List.set_cons_zero, List.set_cons_succ]
                    refine wpHl.one (i := 8) (by as_aux_lemma => kernel_rfl) rfl (fun K1 hK1 => ?_)
                    rw [if_pos (by rfl)]
                    obtain ⟨v8, u8, hrun, h3C⟩ := h2C.app (RO.out.far (below_trans KU h2C.bel)) NR.out (by have := SZ5.out; simp; omega) _
                    refine op_append (.tmp 167) (.tmp 168) rfl rfl rfl hrun ?_
                    clear HC0 h2C hrun
                    have h2C := h3C
                    clear h3C
                    have HC0 := CC _ (below_trans KU h2C.bel)
                    refine hK1 (Act.put _ (some 169) _) _ ⟨fun _ => HC0, ?_⟩
                    clear hK1 K1
                    try simp only [Act.put, List.setIfInBounds_toArray, List.set_cons_zero, List.set_cons_succ]
                    refine wpHl.one (i := 11) (by as_aux_lemma => kernel_rfl) rfl (fun K1 hK1 => ?_)
                    rw [if_pos (by rfl)]
                    obtain ⟨v11, u11, hrun, h3C⟩ := h2C.symm.app (RA5.out.far (below_trans KU h2C.bel)) NOA.out (by have := SZ5.out; simp; omega) _
                    refine op_append (.tmp 170) (.tmp 171) rfl rfl rfl hrun ?_
                    rw [List.nil_append] at h3C
                    clear HC0 h2C hrun
                    have h2C := h3C.symm
                    clear h3C
                    have HC0 := CC _ (below_trans KU h2C.bel)
                    refine hK1 (Act.put _ (some 172) _) _ ⟨fun _ => HC0, ?_⟩
                    clear hK1 K1
                    try simp only [Act.put, List.setIfInBounds_toArray, List.set_cons_zero, List.set_cons_succ]
                    refine wpHl.one (i := 13) (by as_aux_lemma => kernel_rfl) rfl (fun K1 hK1 => ?_)
                    rw [if_pos (by rfl)]
                    obtain ⟨v13, u13, hrun, h3C⟩ := h2C.symm.app (RB5.out.far (below_trans KU h2C.bel)) NOB.out (by have := SZ5.out; simp; omega) _
                    refine op_append (.tmp 172) (.tmp 173) rfl rfl rfl hrun ?_
                    clear HC0 h2C hrun
                    have h2C := h3C.symm
                    clear h3C
                    have HC0 := CC _ (below_trans KU h2C.bel)
                    refine hK1 (Act.put _ (some 174) _) _ ⟨fun _ => HC0, ?_⟩
                    clear hK1 K1
                    try simp only [Act.put, List.setIfInBounds_toArray, List.set_cons_zero, List.set_cons_succ]
                    refine wpHl.one (i := 14) (by as_aux_lemma => kernel_rfl) rfl (fun K1 hK1 => ?_)
                    rw [if_pos (by rfl)]
                    refine wp_call_of (f := 14) (args := #[v8, v13]) (by kernel_rfl) ?_
                    with_reducible refine (shuffled_any (own_rdA h2C.ox) (own_rdA h2C.oy) (by have := SZ5.out; simp; omega) HFP3.out).mono ?_
                    rintro e wn ⟨rfl, hb⟩
                    have KF := below_trans (below_trans KU h2C.bel) hb
                    clear HC0 h2C
                    have HC0 := CC _ KF
                    refine hK1 (Act.put _ (some 175) _) _ ⟨fun _ => HC0, ?_⟩
                    clear hK1 K1 hb
                    try simp only [Act.put, List.setIfInBounds_toArray, List.set_cons_zero, List.set_cons_succ]
                    refine wpHl.tk0 (i := 15) (d := some 176) (v := .bool true) rfl HS (by as_aux_lemma => kernel_rfl) rfl (fun _ _ _ h => nomatch h.1) (Or.inl ⟨by rfl, ?_⟩) HC0 ?_
                    · intro u hC9
                      go_simp
                    simp only [Act.put, List.setIfInBounds_toArray, List.set_cons_zero, List.set_cons_succ]
                    refine wpHl.tk0 (i := 16) (d := some 177) (v := .bool true) rfl HS (by as_aux_lemma => kernel_rfl) rfl (fun _ _ _ h => nomatch h.1) (Or.inl ⟨by rfl, ?_⟩) HC0 ?_
                    · intro u hC9
                      go_simp
                    simp only [Act.put, List.setIfInBounds_toArray, List.set_cons_zero, List.set_cons_succ]
                    refine wpHl.one (i := 17) (by as_aux_lemma => kernel_rfl) rfl (fun K1 hK1 => ?_)
                    rw [if_pos (by rfl)]
                    refine wp_call_of (f := 15) (args := #[]) (by kernel_rfl) ?_
                    with_reducible refine (olives).mono ?_
                    rintro e wn ⟨rfl, hb⟩
                    have KG := below_trans KF hb
                    clear HC0 KF
                    have HC0 := CC _ KG
                    refine hK1 (Act.put _ (some 178) _) _ ⟨fun _ => HC0, ?_⟩
                    clear hK1 K1 hb
                    try simp only [Act.put, List.setIfInBounds_toArray, List.set_cons_zero, List.set_cons_succ]
                    refine wpHl.tk0 (i := 18) (d := some 179) (v := .bool true) rfl HS (by as_aux_lemma => kernel_rfl) rfl (fun _ _ _ h => nomatch h.1) (Or.inl ⟨by rfl, ?_⟩) HC0 ?_
                    · intro u hC9
                      go_simp
                    simp only [Act.put, List.setIfInBounds_toArray, List.set_cons_zero, List.set_cons_succ]
                    refine wpHl.tk0 (i := 19) (d := some 2) (v := .bool true) rfl HS (by as_aux_lemma => kernel_rfl) rfl (fun _ _ _ h => nomatch h.1) (Or.inl ⟨by rfl, ?_⟩) HC0 ?_
                    · intro u hC9
                      go_simp
                    simp only [Act.put, List.setIfInBounds_toArray, List.set_cons_zero, List.set_cons_succ]
                    refine wpHl.done (by as_aux_lemma => kernel_rfl) ⟨rfl, ?_⟩ _
                    clear CC HC0 HS
                    have KW9 := hide (below_trans KW5.out KG)
                    have HKD9 := hide ((KG.block _ (Array.getElem?_eq_some_iff.1 HKD.out).1).trans HKD.out)
                    clear KG
                    go_wp2
                    refine marks_leave (A := w23.heap.size) (Inv := fun u => Below w.heap.size w u) ?_ ?_ [Dm] _ (by simp; exact ⟨hDm, HKD9.out⟩) (by simp) KW9.out
                    · rintro u D' i1 hD' hu
                      exact i1.trans ((belx_putObj (X := fun _ => False) (n := w.heap.size) _ (by have := ZW23.out; omega)).below (Nat.le_refl _) (fun _ _ e => e))
                    · rintro u i1
                      exact ⟨_, results_tmp rfl _ _ _, rfl, i1⟩
                case hstop =>
                  rintro Dm c O pre W' hDm hpx h hK
                  exact h.elim
              · go_wp2_with fail
                refine by_any.mono ?_
                rintro e wr ⟨rfl, rfl⟩
                rw [HCV.out]
                have C19 := hide (itsort_any (I := fun _ => True) (w := wr) (by have := HLA.out; omega) (RAg.out.mono (H := fun _ => True) (fun _ _ _ => trivial)) CM.out trivial (fun _ _ _ _ => trivial))
                rw [HSA.out] at C19
                go_wp2_with fail
                refine C19.out.mono ?_
                rintro e w19 ⟨⟨v, rfl, hO19⟩, k19⟩
                replace ZB9 : Hid (b17 ≤ w19.heap.size) := hide (by have := k19.size; have := ZB9.out; omega)
                have O19 := hide (owns_on hO.out (ograwn k19) (fun r e => by cases e))
                have A19 := hide (hA.out.keep (k19.block _ hA.out.lt))
                have R19 := hide (hp_far hR.out k19)
                replace RAg := hide (RAg.out.below k19)
                replace RBg := hide (RBg.out.below k19)
                replace KW := hide (below_trans KW.out k19)
                have LE2 := hide (len_any A19.out (by have := HLA.out; have := HMM.out; omega))
                have RF := hide (own_rdA O19.out)
                have TK : Hid ((SA.take j).length = j) := hide (by have := HSAl.out; rw [List.length_take]; omega)
                have MS := hide (Mine.of_own hO19)
                have RS := hide MS.out.rd
                obtain ⟨vt, hsl, hRT⟩ := cut_any hO19 FF2.out (by have := HSAl.out; omega) (by have := HSAl.out; have := HLA.out; omega)
                obtain ⟨pS, cS, eS, -, -, -⟩ := RS.out
                subst eS
                have RT := hide hRT
                have C20 := hide (osame_any RF.out RT.out)
                have q3 : (j : Int) ≤ (SA.length : Int) := by omega
                have q4 : j ≤ SA.length := by omega
                clear k19 C19 hO hA hR hO19 hRT MS RS
                go_wp2_with fail
                refine LE2.out.mono ?_
                rintro e w19 ⟨rfl, rfl⟩
                go_wp2_with fail
                refine C20.out.mono ?_
                rintro e w20 ⟨rfl, k20⟩
                replace ZB9 : Hid (b17 ≤ w20.heap.size) := hide (by have := k20.size; have := ZB9.out; omega)
                have O20 := hide (owns_on O19.out (ograwn k20) (fun r e => by cases e))
                have A20 := hide (A19.out.keep (k20.block _ A19.out.lt))
                have R20 := hide (hp_far R19.out k20)
                replace RAg := hide (RAg.out.below k20)
                replace RBg := hide (RBg.out.below k20)
                replace KW := hide (below_trans KW.out k20)
                have tlj := tkN_len (byF o) j H0.1 (by have := AL0.out; omega)
                have C21 := hide (add3_any (I := fun _ => True) (w := w20) (base := b17) (st := (tkN (byF o) j H0.1, H0.2)) (l := Q) (f := byF o) A20.out R20.out ZB9.out (RBg.out.mono (fun g _ hg => ⟨by omega, fun e => by have := LVm.out g e; have := Z18.out; omega⟩)) (by have := HLA.out; have := HLB.out; have := AL0.out; show (tkN (byF o) j H0.1).length + Q.length ≤ _; omega) (by have := HCC.out; show 0 ≤ H0.2; omega) (by have := HCC.out; show H0.2 ≤ _; omega) CM.out (fun _ => trivial))
                rw [HCC.out] at C21
                clear k20 C20 LE2 RF O19 A19 R19 tlj
                go_wp2_with fail
                refine C21.out.mono ?_
                rintro e w21 ⟨rfl, ⟨hv3, b21, r21, -⟩, x21⟩
                have sz21 := x21.size
                have zz := Z18.out
                have lva := LVm.out
                have O21 := hide (owns_belx O20.out x21 (fun i hi => by
                  obtain ⟨e1, cur, e2⟩ := owns_row O20.out hi
                  have h3 := (Array.getElem?_eq_some_iff.1 e2).1
                  refine ⟨h3, fun e => e.elim (fun e => by omega) (fun e => ?_)⟩
                  obtain ⟨_, cur2, e5⟩ := own3_row R20.out e
                  rw [e2] at e5
                  cases e5))
                obtain ⟨hs3, hhs3⟩ : ∃ h, adF (byF o) (tkN (byF o) j H0.1, (xs.length : Int)) Q = h := ⟨_, rfl⟩
                have FG3 := FG2.out
                have FP3 := FP2.out
                rw [hhs3] at b21 r21 FG3 FP3
                have ln3 := (adF_cnt (byF o) Q (tkN (byF o) j H0.1, (xs.length : Int))).2
                rw [hhs3] at ln3
                have PW3 := hide (dr_rs FG3)
                have HFP3 := hide FP3
                have HL3 := hide (show hs3.1.length ≤ 2097152 by have := tkN_len (byF o) j H0.1 (by have := AL0.out; omega); have := HLA.out; have := HLB.out; have := AL0.out; simp only at ln3; omega)
                have B21 := hide b21
                have OL21 : Hid (∀ k, (Value.slice pv3 j cv3).ownBlock = some k → k < w21.heap.size) := hide (fun k hk => by
                  obtain ⟨_, cur, e2⟩ := owns_row O21.out hk
                  exact (Array.getElem?_eq_some_iff.1 e2).1)
                have ZB21 : Hid (s0 + 1 < w21.heap.size) := hide b21.lt
                have R21 := hide r21
                replace RAg := hide (RAg.out.belx x21 (fun g hg => ⟨by have := ZB9.out; omega, fun e => e.elim (fun e => by omega) (fun e => by have := lva g e; omega)⟩))
                replace RBg := hide (RBg.out.belx x21 (fun g hg => ⟨by have := ZB9.out; omega, fun e => e.elim (fun e => by omega) (fun e => by have := lva g e; omega)⟩))
                replace KW := hide (KW.out.trans (x21.below (B := w.heap.size) (by have := KW.out.size; omega) (fun i hi e => e.elim (fun e => by have := ZW.out; omega) (fun e => by have := lva i e; have := ZW.out; omega))))
                clear x21 sz21 zz lva hhs3 FG3 FP3 ln3 b21 r21 C21 O20 A20 R20
                obtain ⟨W22, hW22⟩ : ∃ u, w21.alloc (.cells #[.slice none 0 0] 22) = u := ⟨_, rfl⟩
                have k22 : Below w21.heap.size w21 W22 := by rw [← hW22]; exact (Below.refl _ w21).alloc (Nat.le_refl _) _
                have bO : Boxed W22 w21.heap.size 22 (.slice none 0 0) := by rw [← hW22]; exact Boxed.new _ _ _
                have CA := hide (all_box (w := W22) (B := s0 + 1))
                go_wp2_with fail
                try rw [hW22]
                refine CA.out.mono ?_
                rintro e w23 ⟨rfl, hbb, hbl, k⟩
                have k23 := below_trans k22 k
                have BO : Hid (Boxed w23 w21.heap.size 22 (.slice none 0 0)) := hide ((k.block _ bO.lt).trans bO)
                have HBo := hide BO.out.lt
                replace B21 := hide (B21.out.keep (k23.block _ B21.out.lt))
                replace R21 := hide (hp_far R21.out k23)
                replace RAg := hide (RAg.out.below k23)
                replace RBg := hide (RBg.out.below k23)
                replace O21 := hide (owns_on O21.out (ograwn k23) (fun r e => by cases e))
                replace KW := hide (below_trans KW.out k23)
                have HSEQ := hide (all_told (n := 3) (f := byF o) (by omega) hbb hbl B21.out R21.out (by have := HL3.out; omega) CM.out)
                have OLo : Hid (∀ k, (Value.slice pv3 j cv3).ownBlock = some k → k < w21.heap.size) := hide OL21.out
                obtain ⟨Bo, hBO⟩ : ∃ b, w21.heap.size = b := ⟨_, rfl⟩
                rw [hBO] at BO HBo OLo
                have BoN : Hid (s0 + 1 < Bo) := hide (by have := ZB21.out; omega)
                obtain ⟨Bb, hBb⟩ : ∃ b, W22.heap.size = b := ⟨_, rfl⟩
                rw [hBb] at HSEQ
                have HX1 := hide hBO
                have HX2 := hide hBb
                obtain ⟨D, hD⟩ : ∃ D, dr (byF o) hs3.1.length hs3.1 = D := ⟨_, rfl⟩
                rw [hD] at PW3 HFP3 HSEQ
                have HDl : Hid (D.length ≤ 2097152) := hide (by rw [← hD, dr_len]; exact HL3.out)
                have ZW23 := hide KW.out.size
                clear CA k k22 k23 bO hbb hbl hBO hBb hD hW22 B21 R21
                go_wp2_with fail
                try rw [HX1.out]
                try rw [HX2.out]
                clear HX1 HX2
                refine (wpIn_wide (n := 4)).1 ?_
                refine' wpIn_rangeO rfl (by omega) (gf := 25) (lb := #[.pointer (some ⟨Bb, 0, none⟩)]) (by simp [go_sem]) trivial (enters_of Try.func25 (by kernel_rfl) rfl) HSEQ.out (Below.refl _ _) (fun _ => rfl) (OdI Bo w23) (fun _ _ _ _ => False) (odi_ab HBo.out (by omega)) (fun c O pre A B h _ => h) (fun O pre A l r r' h hl hw => odi_put HBo.out h hl hw) (fun c O pre A l r r' h _ _ => h) ⟨_, by simpa [flat] using World.ownsRow_nil _ _ _ _, BO.out, BelX.refl _ _ _, fun k h => (by cases h), fun k h => h.elim⟩
                  (fun x a' W' => ∃ Bx, W'.heap[Bx]? = some (.cells #[.int .i64 x.1, .int .i64 x.2] 29 (0, 0)) ∧ a' = { tmps := #[Value.agg #[Value.slice ao xs.length ca, Value.slice bo ys.length cb, Value.int IntKind.u8 n, Value.int IntKind.i64 o], Value.pointer (some { block := B0, off := 0 }), u2, Value.int IntKind.u8 n, Value.int IntKind.i64 o, Value.slice p1 A.length c1, Value.slice p2 Q.length c2, Value.pointer (some { block := s0, off := 0 }), Value.pointer (some { block := s0 + 1, off := 0 }), Value.int IntKind.i64 ↑Q.length, Value.slice pv k cv, u11, u12, Value.slice pv3 j cv3, Value.int IntKind.i64 ↑j, u15, u16, Value.slice pS SA.length cS, Value.pointer (some { block := Bo, off := 0 }), Value.func (Fn.func 25) #[] #[Value.pointer (some { block := Bb, off := 0 })], Value.pointer (some { block := Bx, off := 0 }), Value.pointer (some { block := B0, off := 2 }), Value.int IntKind.u8 n, Value.pointer (some { block := B0, off := 3 }), Value.int IntKind.i64 o, Value.pointer (some { block := B0, off := 0 }), Value.slice ao xs.length ca, Value.slice p1 A.length c1, Value.pointer (some { block := B0, off := 1 }), Value.slice bo ys.length cb, Value.pointer (some { block := B0, off := 0 }), Value.slice ao xs.length ca, Value.int IntKind.i64 ↑xs.length, Value.slice p2 Q.length c2, Value.int IntKind.i64 o, Value.func (Fn.func cg) #[] cl, Value.pointer (some { block := s0, off := 0 }), Value.int IntKind.i64 o, Value.func (Fn.func cg) #[] cl, Value.pointer (some { block := s0 + 1, off := 0 }), Value.pointer (some { block := s0, off := 0 }), Value.bool false, Value.bool false, Value.pointer (some { block := s0 + 1, off := 0 }), Value.bool false, Value.bool false, Value.pointer (some { block := s0, off := 0 }), Value.slice p1 A.length c1, Value.tuple #[], Value.int IntKind.i64 ↑Q.length, Value.slice p2 Q.length c2, Value.int IntKind.i64 ↑Q.length, Value.bool false, u53, u54, u55, u56, u57, u58, u59, u60, u61, Value.pointer (some { block := s0, off := 0 }), Value.int IntKind.i64 0, Value.bool false, Value.bool false, undef, undef, undef, undef, undef, undef, undef, undef, Value.bool false, u75, u76, u77, u78, u79, u80, u81, u82, u83, u84, u85, Value.slice pv k cv, Value.slice (some { block := wq.heap.size, off := 0 }) 0 0, Value.slice p1 A.length c1, v14, Value.slice p2 Q.length c2, Value.slice pl L.length cl15, Value.int IntKind.i64 o, Value.func (Fn.func cg) #[] cl, Value.slice p16 sL.length c16, Value.bool true, Value.bool false, Value.pointer (some { block := s0 + 1, off := 0 }), Value.slice p1 A.length c1, Value.tuple #[], Value.int IntKind.i64 ↑j, Value.int IntKind.u8 n, Value.int IntKind.i64 n, Value.bool false, Value.bool false, undef, undef, undef, Value.bool false, u109, u110, u111, u112, u113, u114, u115, u116, u117, u118, u119, Value.slice p1 A.length c1, Value.int IntKind.i64 o, Value.func (Fn.func cg) #[] cl, Value.slice pS SA.length cS, Value.slice pS SA.length cS, Value.int IntKind.i64 ↑SA.length, Value.slice pv3 j cv3, Value.int IntKind.i64 ↑j, Value.bool false, Value.bool false, Value.pointer (some { block := s0 + 1, off := 0 }), Value.int IntKind.i64 ↑m, Value.slice p1 A.length c1, Value.int IntKind.i64 ↑A.length, Value.slice pv3 j cv3, Value.int IntKind.i64 ↑j, Value.int IntKind.i64 ↑m, Value.bool false, Value.bool false, Value.bool false, Value.slice pv3 j cv3, Value.slice pS SA.length cS, Value.slice pv3 j cv3, Value.int IntKind.i64 ↑j, vt, Value.bool true, Value.bool false, Value.bool false, Value.pointer (some { block := s0 + 1, off := 0 }), Value.slice p2 Q.length c2, Value.tuple #[], Value.pointer (some { block := s0 + 1, off := 0 }), Value.func (Fn.func 25) #[] #[Value.pointer (some { block := Bb, off := 0 })], Value.func (Fn.func 25) #[] #[Value.pointer (some { block := Bb, off := 0 })], Value.bool false, Value.func (Fn.func 25) #[] #[Value.pointer (some { block := Bb, off := 0 })], itV x, undef, undef, undef, undef, undef, undef, undef, undef, undef, undef, undef, undef, undef, undef, undef, undef, undef, undef, undef, undef, undef, undef, undef], defers := [] }) ?hAt ?hassign ?hbody ?hdone ?hstop
                case hAt => 
                  rintro x a' A l r r' ⟨Bx, h2, h3⟩ hl
                  refine ⟨Bx, (World.putObj_heap_other (fun e => ?_)).trans h2, h3⟩
                  subst e
                  rw [h2] at hl
                  cases hl
                case hassign => 
                  rintro l x W' K hK
                  gi_wp2
                  exact hK _ _ ((Below.refl _ W').alloc (Nat.le_refl _) _) ⟨W'.heap.size, World.alloc_heap_new W' _, rfl⟩
                case hbody => 
                  rintro l O pre x a' W' hi hrd ⟨Bx, hx0, rfl⟩ hsz
                  obtain ⟨x1, x2⟩ := x
                  obtain ⟨v, a, b, c, d, e⟩ := hi
                  have c4 := b.cell
                  have cx0 := cell_of_row W' _ 0 _ _ _ hx0
                  have cx1 := cell_of_row W' _ 1 _ _ _ hx0
                  simp at cx0 cx1
                  have hpl : pre.length + 1 ≤ 8796093022208 := by
                    have h1 := hrd.length_le
                    have h2 := HDl.out
                    simp at h1
                    omega
                  have HPL := hide hpl
                  have OWN := hide (a.alloc (.cells #[.int .i64 x1, .int .i64 x2] 29))
                  have NW := hide (show ∀ j u, (flat [(x1, x2)])[j]? = some u → (W'.alloc (.cells #[.int .i64 x1, .int .i64 x2] 29)).cell? ((⟨W'.heap.size, 0, none⟩ : Addr).add j) = some u from cell_two_new W' _ _ _)
                  have BS : Hid (w23.heap.size ≤ W'.heap.size + 1) := hide (by omega)
                  have HA := hide a
                  have HB := hide b
                  have HC := hide c
                  have HD := hide d
                  have HE := hide e
                  have HSZ := hide hsz
                  clear a b c d e hsz hpl hx0 hrd
                  gi_wp2_with (gi_at_builtin; refine wpListIn_ap1 rfl _ _ rfl w23.heap.size _ pre.length _ rfl OWN.out _ _ (x1, x2) rfl NW.out HPL.out (by have := BS.out; simp; omega) ?_)
                  intro v2 w2 own2 pl2
                  obtain ⟨bb, ST⟩ := odi_step HBo.out HA.out HB.out HC.out HD.out HE.out HSZ.out own2 (by simpa using pl2)
                  have STT := hide ST
                  have g0 := bb.cell
                  have g1 := bb.frozen
                  obtain ⟨_, ⟨_, h0⟩ | ⟨g, cap, cur, rfl, _⟩⟩ := own2
                  · omega
                  clear pl2 ST bb NW OWN HA HB HC HD HE
                  gi_wp2
                  exact STT.out
                case hdone =>   
                  rintro Dm O zs W' hDm hzs hi hK
                  subst hzs
                  obtain ⟨v, a, b, c, d, e⟩ := hi
                  have RO := hide (own_rdA a)
                  have NR := hide (own_no a)
                  obtain ⟨po5, pc5, ev, -, -, -⟩ := RO.out
                  subst ev
                  have BX := hide b
                  have hB := HBo.out
                  have OF := owns_belx O21.out c (fun k hk => ⟨by have := OLo.out k hk; omega, by have := OLo.out k hk; omega⟩)
                  have RFs := hide (own_rdA OF)
                  have NF := hide (own_no OF)
                  have RA5 : Hid (ItRd (fun _ => True) W' (.slice p1 A.length c1) A) := hide ((RAg.out.belx (X := fun k => k = Bo) c (fun g hg => by have := BoN.out; omega)).mono (fun _ _ _ => trivial))
                  have RB5 : Hid (ItRd (fun _ => True) W' (.slice p2 Q.length c2) Q) := hide ((RBg.out.belx (X := fun k => k = Bo) c (fun g hg => by have := BoN.out; omega)).mono (fun _ _ _ => trivial))
                  have KW5 := hide (KW.out.trans (c.below (B := w.heap.size) (by have := KW.out.size; omega) (fun k hk e => by have := BoN.out; have := ZW.out; omega)))
                  have HKD := hide hK
                  have SZ5 : Hid (F.length ≤ 2097152 ∧ zs.length ≤ 2097152 ∧ A.length ≤ 2097152 ∧ Q.length ≤ 2097152) := hide ⟨by have := HF1.out; have := HLA.out; omega, HDl.out, by have := HLA.out; omega, by have := HLB.out; omega⟩
                  clear a b c d e hK hB OF
                  go_wp2_with fail
                  have CC : ∀ u : World, Below W'.heap.size W' u → u.cell? ⟨Bo, 0, none⟩ = some (.slice po5 zs.length pc5) := fun u hu => (show Boxed u Bo 22 (.slice po5 zs.length pc5) from (hu.block _ BX.out.lt).trans BX.out).cell
                  have K : Below W'.heap.size W' W'.drew := (Below.refl _ _).drew
                  have HC0 := CC _ K
                  refine wp_np ?_
                  refine wpHl.region0 (C := fun u => u.cell? ⟨Bo, 0, none⟩ = some (.slice po5 zs.length pc5)) (by kernel_rfl) (by kernel_rfl) (fun HS => ?_)
                  refine wpHl.tk0 (i := 0) (d := some 161) (v := .slice po5 zs.length pc5) rfl HS (by as_aux_lemma => kernel_rfl) rfl (fun _ _ _ h => nomatch h.1) (Or.inl ⟨by rfl, ?_⟩) HC0 ?_
                  · intro u hC9
                    have z0 := hC9
                    go_simp
                  simp only [Act.put, List.setIfInBounds_toArray, List.set_cons_zero, List.set_cons_succ]
                  refine wpHl.tk0 (i := 1) (d := some 162) (v := .int .i64 o) rfl HS (by as_aux_lemma => kernel_rfl) rfl (fun _ _ _ h => nomatch h.1) (Or.inl ⟨by rfl, ?_⟩) HC0 ?_
                  · intro u hC9
                    go_simp
                  simp only [Act.put, List.setIfInBounds_toArray, List.set_cons_zero, List.set_cons_succ]
                  refine wpHl.one (i := 2) (by as_aux_lemma => kernel_rfl) rfl (fun K1 hK1 => ?_)
                  rw [if_pos (by rfl)]
                  refine wp_call_of (f := 13) (args := #[.slice po5 zs.length pc5, .int .i64 o]) (by kernel_rfl) ?_
                  with_reducible refine (rises_any (o := o) (RO.out.far K) (by have := HDl.out; omega) (fun i h => fun e => by have h1 := (List.pairwise_iff_getElem.1 PW3.out) i (i + 1) (by omega) h (by omega); have h2 := ocmp_lt.1 e; unfold Rs at h1; omega)).mono ?_
                  rintro e wn ⟨rfl, hb⟩
                  have KU := below_trans K hb
                  clear HC0 K
                  have HC0 := CC _ KU
                  obtain ⟨U, hU⟩ : ∃ U, wn = U := ⟨_, rfl⟩
                  subst hU
                  have h2C := C2.start wn
                  refine hK1 (Act.put _ (some 163) _) _ ⟨fun _ => HC0, ?_⟩
                  clear hK1 K1 hb
                  try simp only [Act.put, List.setIfInBounds_toArray, List.set_cons_zero, List.set_cons_succ]
                  refine wpHl.tk0 (i := 3) (d := some 164) (v := .bool true) rfl HS (by as_aux_lemma => kernel_rfl) rfl (fun _ _ _ h => nomatch h.1) (Or.inl ⟨by rfl, ?_⟩) HC0 ?_
                  · intro u hC9
                    go_simp
                  simp only [Act.put, List.setIfInBounds_toArray, List.set_cons_zero, List.set_cons_succ]
                  refine wpHl.tk0 (i := 5) (d := some 166) (v := .slice pv3 j cv3) rfl HS (by as_aux_lemma => kernel_rfl) rfl (fun _ _ _ h => nomatch h.1) (Or.inl ⟨by rfl, ?_⟩) HC0 ?_
                  · intro u hC9
                    go_simp
                  simp only [Act.put, List.setIfInBounds_toArray, List.set_cons_zero, List.set_cons_succ]
                  refine wpHl.tk0 (i := 7) (d := some 168) (v := .slice po5 zs.length pc5) rfl HS (by as_aux_lemma => kernel_rfl) rfl (fun _ _ _ h => nomatch h.1) (Or.inl ⟨by rfl, ?_⟩) HC0 ?_
                  · intro u hC9
                    have z0 := hC9
                    go_simp
                  simp only [Act.put, List.setIfInBounds_toArray, List.set_cons_zero, List.set_cons_succ]
                  refine wpHl.tk0 (i := 10) (d := some 171) (v := .slice p1 A.length c1) rfl HS (by as_aux_lemma => kernel_rfl) rfl (fun _ _ _ h => nomatch h.1) (Or.inl ⟨by rfl, ?_⟩) HC0 ?_
                  · intro u hC9
                    go_simp
                  simp only [Act.put, List.setIfInBounds_toArray, List.set_cons_zero, List.set_cons_succ]
                  refine wpHl.tk0 (i := 12) (d := some 173) (v := .slice p2 Q.length c2) rfl HS (by as_aux_lemma => kernel_rfl) rfl (fun _ _ _ h => nomatch h.1) (Or.inl ⟨by rfl, ?_⟩) HC0 ?_
                  · intro u hC9
                    go_simp
                  simp only [Act.put, List.setIfInBounds_toArray, List.set_cons_zero, List.set_cons_succ]
                  refine wpHl.two (i := 4) (j := 9) (by as_aux_lemma => kernel_rfl) rfl rfl (fun K1 hK1 => ?_) (fun K1 hK1 => ?_)
                  · rw [if_pos (by rfl)]
                    refine op_build rfl ?_
                    replace h2C := h2C.build
                    clear HC0
                    have HC0 := CC _ (below_trans KU h2C.bel)
                    refine hK1 (Act.put _ (some 165) _) _ ⟨fun _ => HC0, ?_⟩
                    clear hK1 K1
                    try simp only [Act.put, List.setIfInBounds_toArray, List.set_cons_zero, List.set_cons_succ]
                    refine wpHl.two (i := 6) (j := 9) (by as_aux_lemma => kernel_rfl) rfl rfl (fun K1 hK1 => ?_) (fun K1 hK1 => ?_)
                    · rw [if_pos (by rfl)]
                      obtain ⟨v6, u6, hrun, h3C⟩ := h2C.app (RFs.out.far (below_trans KU h2C.bel)) NF.out (by have := SZ5.out; simp; omega) _
                      refine op_append (.tmp 165) (.tmp 166) rfl rfl rfl hrun ?_
                      rw [List.nil_append] at h3C
                      clear HC0 h2C hrun
                      have h2C := h3C
                      clear h3C
                      have HC0 := CC _ (below_trans KU h2C.bel)
                      refine hK1 (Act.put _ (some 167) _) _ ⟨fun _ => HC0, ?_⟩
                      clear hK1 K1
                      try simp only [Act.put, List.setIfInBounds_toArray, List.set_cons_zero, List.set_cons_succ]
                      refine wpHl.two (i := 8) (j := 9) (by as_aux_lemma => kernel_rfl) rfl rfl (fun K1 hK1 => ?_) (fun K1 hK1 => ?_)
                      · rw [if_pos (by rfl)]
                        obtain ⟨v8, u8, hrun, h3C⟩ := h2C.app (RO.out.far (below_trans KU h2C.bel)) NR.out (by have := SZ5.out; simp; omega) _
                        refine op_append (.tmp 167) (.tmp 168) rfl rfl rfl hrun ?_
                        clear HC0 h2C hrun
                        have h2C := h3C
                        clear h3C
                        have HC0 := CC _ (below_trans KU h2C.bel)
                        refine hK1 (Act.put _ (some 169) _) _ ⟨fun _ => HC0, ?_⟩
                        clear hK1 K1
                        try simp only [Act.put, List.setIfInBounds_toArray, List.set_cons_zero, List.set_cons_succ]
                        refine wpHl.one (i := 9) (by as_aux_lemma => kernel_rfl) rfl (fun K1 hK1 => ?_)
                        rw [if_pos (by rfl)]
                        refine op_build rfl ?_
                        replace h2C := h2C.symm.build.symm
                        clear HC0
                        have HC0 := CC _ (below_trans KU h2C.bel)
                        refine hK1 (Act.put _ (some 170) _) _ ⟨fun _ => HC0, ?_⟩
                        clear hK1 K1
                        try simp only [Act.put, List.setIfInBounds_toArray, List.set_cons_zero, List.set_cons_succ]
                        refine wpHl.one (i := 11) (by as_aux_lemma => kernel_rfl) rfl (fun K1 hK1 => ?_)
                        rw [if_pos (by rfl)]
                        obtain ⟨v11, u11, hrun, h3C⟩ := h2C.symm.app (RA5.out.far (below_trans KU h2C.bel)) NOA.out (by have := SZ5.out; simp; omega) _
                        refine op_append (.tmp 170) (.tmp 171) rfl rfl rfl hrun ?_
                        rw [List.nil_append] at h3C
                        clear HC0 h2C hrun
                        have h2C := h3C.symm
                        clear h3C
                        have HC0 := CC _ (below_trans KU h2C.bel)
                        refine hK1 (Act.put _ (some 172) _) _ ⟨fun _ => HC0, ?_⟩
                        clear hK1 K1
                        try simp only [Act.put, List.setIfInBounds_toArray, List.set_cons_zero, List.set_cons_succ]
                        refine wpHl.one (i := 13) (by as_aux_lemma => kernel_rfl) rfl (fun K1 hK1 => ?_)
                        rw [if_pos (by rfl)]
                        obtain ⟨v13, u13, hrun, h3C⟩ := h2C.symm.app (RB5.out.far (below_trans KU h2C.bel)) NOB.out (by have := SZ5.out; simp; omega) _
                        refine op_append (.tmp 172) (.tmp 173) rfl rfl rfl hrun ?_
                        clear HC0 h2C hrun
                        have h2C := h3C.symm
                        clear h3C
                        have HC0 := CC _ (below_trans KU h2C.bel)
                        refine hK1 (Act.put _ (some 174) _) _ ⟨fun _ => HC0, ?_⟩
                        clear hK1 K1
                        try simp only [Act.put, List.setIfInBounds_toArray, List.set_cons_zero, List.set_cons_succ]
                        refine wpHl.one (i := 14) (by as_aux_lemma => kernel_rfl) rfl (fun K1 hK1 => ?_)
                        rw [if_pos (by rfl)]
                        refine wp_call_of (f := 14) (args := #[v8, v13]) (by kernel_rfl) ?_
                        with_reducible refine (shuffled_any (own_rdA h2C.ox) (own_rdA h2C.oy) (by have := SZ5.out; simp; omega) HFP3.out).mono ?_
                        rintro e wn ⟨rfl, hb⟩
                        have KF := below_trans (below_trans KU h2C.bel) hb
                        clear HC0 h2C
                        have HC0 := CC _ KF
                        refine hK1 (Act.put _ (some 175) _) _ ⟨fun _ => HC0, ?_⟩
                        clear hK1 K1 hb
                        try simp only [Act.put, List.setIfInBounds_toArray, List.set_cons_zero, List.set_cons_succ]
                        refine wpHl.tk0 (i := 15) (d := some 176) (v := .bool true) rfl HS (by as_aux_lemma => kernel_rfl) rfl (fun _ _ _ h => nomatch h.1) (Or.inl ⟨by rfl, ?_⟩) HC0 ?_
                        · intro u hC9
                          go_simp
                        simp only [Act.put, List.setIfInBounds_toArray, List.set_cons_zero, List.set_cons_succ]
                        refine wpHl.tk0 (i := 16) (d := some 177) (v := .bool true) rfl HS (by as_aux_lemma => kernel_rfl) rfl (fun _ _ _ h => nomatch h.1) (Or.inl ⟨by rfl, ?_⟩) HC0 ?_
                        · intro u hC9
                          go_simp
                        simp only [Act.put, List.setIfInBounds_toArray, List.set_cons_zero, List.set_cons_succ]
                        refine wpHl.one (i := 17) (by as_aux_lemma => kernel_rfl) rfl (fun K1 hK1 => ?_)
                        rw [if_pos (by rfl)]
                        refine wp_call_of (f := 15) (args := #[]) (by kernel_rfl) ?_
                        with_reducible refine (olives).mono ?_
                        rintro e wn ⟨rfl, hb⟩
                        have KG := below_trans KF hb
                        clear HC0 KF
                        have HC0 := CC _ KG
                        refine hK1 (Act.put _ (some 178) _) _ ⟨fun _ => HC0, ?_⟩
                        clear hK1 K1 hb
                        try simp only [Act.put, List.setIfInBounds_toArray, List.set_cons_zero, List.set_cons_succ]
                        refine wpHl.tk0 (i := 18) (d := some 179) (v := .bool true) rfl HS (by as_aux_lemma => kernel_rfl) rfl (fun _ _ _ h => nomatch h.1) (Or.inl ⟨by rfl, ?_⟩) HC0 ?_
                        · intro u hC9
                          go_simp
                        simp only [Act.put, List.setIfInBounds_toArray, List.set_cons_zero, List.set_cons_succ]
                        refine wpHl.tk0 (i := 19) (d := some 2) (v := .bool true) rfl HS (by as_aux_lemma => kernel_rfl) rfl (fun _ _ _ h => nomatch h.1) (Or.inl ⟨by rfl, ?_⟩) HC0 ?_
                        · intro u hC9
                          go_simp
                        simp only [Act.put, List.setIfInBounds_toArray, List.set_cons_zero, List.set_cons_succ]
                        refine wpHl.done (by as_aux_lemma => kernel_rfl) ⟨rfl, ?_⟩ _
                        clear CC HC0 HS
                        have KW9 := hide (below_trans KW5.out KG)
                        have HKD9 := hide ((KG.block _ (Array.getElem?_eq_some_iff.1 HKD.out).1).trans HKD.out)
                        clear KG
                        go_wp2
                        refine marks_leave (A := w23.heap.size) (Inv := fun u => Below w.heap.size w u) ?_ ?_ [Dm] _ (by simp; exact ⟨hDm, HKD9.out⟩) (by simp) KW9.out
                        · rintro u D' i1 hD' hu
                          exact i1.trans ((belx_putObj (X := fun _ => False) (n := w.heap.size) _ (by have := ZW23.out; omega)).below (Nat.le_refl _) (fun _ _ e => e))
                        · rintro u i1
                          exact ⟨_, results_tmp rfl _ _ _, rfl, i1⟩
                      · rw [if_pos (by rfl)]
                        refine op_build rfl ?_
                        replace h2C := h2C.symm.build.symm
                        clear HC0
                        have HC0 := CC _ (below_trans KU h2C.bel)
                        refine hK1 (Act.put _ (some 170) _) _ ⟨fun _ => HC0, ?_⟩
                        clear hK1 K1
                        try simp only [Act.put, List.setIfInBounds_toArray, List.set_cons_zero, List.set_cons_succ]
                        refine wpHl.one (i := 8) (by as_aux_lemma => kernel_rfl) rfl (fun K1 hK1 => ?_)
                        rw [if_pos (by rfl)]
                        obtain ⟨v8, u8, hrun, h3C⟩ := h2C.app (RO.out.far (below_trans KU h2C.bel)) NR.out (by have := SZ5.out; simp; omega) _
                        refine op_append (.tmp 167) (.tmp 168) rfl rfl rfl hrun ?_
                        clear HC0 h2C hrun
                        have h2C := h3C
                        clear h3C
                        have HC0 := CC _ (below_trans KU h2C.bel)
                        refine hK1 (Act.put _ (some 169) _) _ ⟨fun _ => HC0, ?_⟩
                        clear hK1 K1
                        try simp only [Act.put, List.setIfInBounds_toArray, List.set_cons_zero, List.set_cons_succ]
                        refine wpHl.one (i := 11) (by as_aux_lemma => kernel_rfl) rfl (fun K1 hK1 => ?_)
                        rw [if_pos (by rfl)]
                        obtain ⟨v11, u11, hrun, h3C⟩ := h2C.symm.app (RA5.out.far (below_trans KU h2C.bel)) NOA.out (by have := SZ5.out; simp; omega) _
                        refine op_append (.tmp 170) (.tmp 171) rfl rfl rfl hrun ?_
                        rw [List.nil_append] at h3C
                        clear HC0 h2C hrun
                        have h2C := h3C.symm
                        clear h3C
                        have HC0 := CC _ (below_trans KU h2C.bel)
                        refine hK1 (Act.put _ (some 172) _) _ ⟨fun _ => HC0, ?_⟩
                        clear hK1 K1
                        try simp only [Act.put, List.setIfInBounds_toArray, List.set_cons_zero, List.set_cons_succ]
                        refine wpHl.one (i := 13) (by as_aux_lemma => kernel_rfl) rfl (fun K1 hK1 => ?_)
                        rw [if_pos (by rfl)]
                        obtain ⟨v13, u13, hrun, h3C⟩ := h2C.symm.app (RB5.out.far (below_trans KU h2C.bel)) NOB.out (by have := SZ5.out; simp; omega) _
                        refine op_append (.tmp 172) (.tmp 173) rfl rfl rfl hrun ?_
                        clear HC0 h2C hrun
                        have h2C := h3C.symm
                        clear h3C
                        have HC0 := CC _ (below_trans KU h2C.bel)
                        refine hK1 (Act.put _ (some 174) _) _ ⟨fun _ => HC0, ?_⟩
                        clear hK1 K1
                        try simp only [Act.put, List.setIfInBounds_toArray, List.set_cons_zero, List.set_cons_succ]
                        refine wpHl.one (i := 14) (by as_aux_lemma => kernel_rfl) rfl (fun K1 hK1 => ?_)
                        rw [if_pos (by rfl)]
                        refine wp_call_of (f := 14) (args := #[v8, v13]) (by kernel_rfl) ?_
                        with_reducible refine (shuffled_any (own_rdA h2C.ox) (own_rdA h2C.oy) (by have := SZ5.out; simp; omega) HFP3.out).mono ?_
                        rintro e wn ⟨rfl, hb⟩
                        have KF := below_trans (below_trans KU h2C.bel) hb
                        clear HC0 h2C
                        have HC0 := CC _ KF
                        refine hK1 (Act.put _ (some 175) _) _ ⟨fun _ => HC0, ?_⟩
                        clear hK1 K1 hb
                        try simp only [Act.put, List.setIfInBounds_toArray, List.set_cons_zero, List.set_cons_succ]
                        refine wpHl.tk0 (i := 15) (d := some 176) (v := .bool true) rfl HS (by as_aux_lemma => kernel_rfl) rfl (fun _ _ _ h => nomatch h.1) (Or.inl ⟨by rfl, ?_⟩) HC0 ?_
                        · intro u hC9
                          go_simp
                        simp only [Act.put, List.setIfInBounds_toArray, List.set_cons_zero, List.set_cons_succ]
                        refine wpHl.tk0 (i := 16) (d := some 177) (v := .bool true) rfl HS (by as_aux_lemma => kernel_rfl) rfl (fun _ _ _ h => nomatch h.1) (Or.inl ⟨by rfl, ?_⟩) HC0 ?_
                        · intro u hC9
                          go_simp
                        simp only [Act.put, List.setIfInBounds_toArray, List.set_cons_zero, List.set_cons_succ]
                        refine wpHl.one (i := 17) (by as_aux_lemma => kernel_rfl) rfl (fun K1 hK1 => ?_)
                        rw [if_pos (by rfl)]
                        refine wp_call_of (f := 15) (args := #[]) (by kernel_rfl) ?_
                        with_reducible refine (olives).mono ?_
                        rintro e wn ⟨rfl, hb⟩
                        have KG := below_trans KF hb
                        clear HC0 KF
                        have HC0 := CC _ KG
                        refine hK1 (Act.put _ (some 178) _) _ ⟨fun _ => HC0, ?_⟩
                        clear hK1 K1 hb
                        try simp only [Act.put, List.setIfInBounds_toArray, List.set_cons_zero, List.set_cons_succ]
                        refine wpHl.tk0 (i := 18) (d := some 179) (v := .bool true) rfl HS (by as_aux_lemma => kernel_rfl) rfl (fun _ _ _ h => nomatch h.1) (Or.inl ⟨by rfl, ?_⟩) HC0 ?_
                        · intro u hC9
                          go_simp
                        simp only [Act.put, List.setIfInBounds_toArray, List.set_cons_zero, List.set_cons_succ]
                        refine wpHl.tk0 (i := 19) (d := some 2) (v := .bool true) rfl HS (by as_aux_lemma => kernel_rfl) rfl (fun _ _ _ h => nomatch h.1) (Or.inl ⟨by rfl, ?_⟩) HC0 ?_
                        · intro u hC9
                          go_simp
                        simp only [Act.put, List.setIfInBounds_toArray, List.set_cons_zero, List.set_cons_succ]
                        refine wpHl.done (by as_aux_lemma => kernel_rfl) ⟨rfl, ?_⟩ _
                        clear CC HC0 HS
                        have KW9 := hide (below_trans KW5.out KG)
                        have HKD9 := hide ((KG.block _ (Array.getElem?_eq_some_iff.1 HKD.out).1).trans HKD.out)
                        clear KG
                        go_wp2
                        refine marks_leave (A := w23.heap.size) (Inv := fun u => Below w.heap.size w u) ?_ ?_ [Dm] _ (by simp; exact ⟨hDm, HKD9.out⟩) (by simp) KW9.out
                        · rintro u D' i1 hD' hu
                          exact i1.trans ((belx_putObj (X := fun _ => False) (n := w.heap.size) _ (by have := ZW23.out; omega)).below (Nat.le_refl _) (fun _ _ e => e))
                        · rintro u i1
                          exact ⟨_, results_tmp rfl _ _ _, rfl, i1⟩
                    · rw [if_pos (by rfl)]
                      refine op_build rfl ?_
                      replace h2C := h2C.symm.build.symm
                      clear HC0
                      have HC0 := CC _ (below_trans KU h2C.bel)
                      refine hK1 (Act.put _ (some 170) _) _ ⟨fun _ => HC0, ?_⟩
                      clear hK1 K1
                      try simp only [Act.put, List.setIfInBounds_toArray, List.set_cons_zero, List.set_cons_succ]
                      refine wpHl.one (i := 6) (by as_aux_lemma => kernel_rfl) rfl (fun K1 hK1 => ?_)
                      rw [if_pos (by rfl)]
                      obtain ⟨v6, u6, hrun, h3C⟩ := h2C.app (RFs.out.far (below_trans KU h2C.bel)) NF.out (by have := SZ5.out; simp; omega) _
                      refine op_append (.tmp 165) (.tmp 166) rfl rfl rfl hrun ?_
                      rw [List.nil_append] at h3C
                      clear HC0 h2C hrun
                      have h2C := h3C
                      clear h3C
                      have HC0 := CC _ (below_trans KU h2C.bel)
                      refine hK1 (Act.put _ (some 167) _) _ ⟨fun _ => HC0, ?_⟩
                      clear hK1 K1
                      try simp only [Act.put, List.setIfInBounds_toArray, List.set_cons_zero, List.set_cons_succ]
                      refine wpHl.one (i := 8) (by as_aux_lemma => kernel_rfl) rfl (fun K1 hK1 => ?_)
                      rw [if_pos (by rfl)]
                      obtain ⟨v8, u8, hrun, h3C⟩ := h2C.app (RO.out.far (below_trans KU h2C.bel)) NR.out (by have := SZ5.out; simp; omega) _
                      refine op_append (.tmp 167) (.tmp 168) rfl rfl rfl hrun ?_
                      clear HC0 h2C hrun
                      have h2C := h3C
                      clear h3C
                      have HC0 := CC _ (below_trans KU h2C.bel)
                      refine hK1 (Act.put _ (some 169) _) _ ⟨fun _ => HC0, ?_⟩
                      clear hK1 K1
                      try simp only [Act.put, List.setIfInBounds_toArray, List.set_cons_zero, List.set_cons_succ]
                      refine wpHl.one (i := 11) (by as_aux_lemma => kernel_rfl) rfl (fun K1 hK1 => ?_)
                      rw [if_pos (by rfl)]
                      obtain ⟨v11, u11, hrun, h3C⟩ := h2C.symm.app (RA5.out.far (below_trans KU h2C.bel)) NOA.out (by have := SZ5.out; simp; omega) _
                      refine op_append (.tmp 170) (.tmp 171) rfl rfl rfl hrun ?_
                      rw [List.nil_append] at h3C
                      clear HC0 h2C hrun
                      have h2C := h3C.symm
                      clear h3C
                      have HC0 := CC _ (below_trans KU h2C.bel)
                      refine hK1 (Act.put _ (some 172) _) _ ⟨fun _ => HC0, ?_⟩
                      clear hK1 K1
                      try simp only [Act.put, List.setIfInBounds_toArray, List.set_cons_zero, List.set_cons_succ]
                      refine wpHl.one (i := 13) (by as_aux_lemma => kernel_rfl) rfl (fun K1 hK1 => ?_)
                      rw [if_pos (by rfl)]
                      obtain ⟨v13, u13, hrun, h3C⟩ := h2C.symm.app (RB5.out.far (below_trans KU h2C.bel)) NOB.out (by have := SZ5.out; simp; omega) _
                      refine op_append (.tmp 172) (.tmp 173) rfl rfl rfl hrun ?_
                      clear HC0 h2C hrun
                      have h2C := h3C.symm
                      clear h3C
                      have HC0 := CC _ (below_trans KU h2C.bel)
                      refine hK1 (Act.put _ (some 174) _) _ ⟨fun _ => HC0, ?_⟩
                      clear hK1 K1
                      try simp only [Act.put, List.setIfInBounds_toArray, List.set_cons_zero, List.set_cons_succ]
                      refine wpHl.one (i := 14) (by as_aux_lemma => kernel_rfl) rfl (fun K1 hK1 => ?_)
                      rw [if_pos (by rfl)]
                      refine wp_call_of (f := 14) (args := #[v8, v13]) (by kernel_rfl) ?_
                      with_reducible refine (shuffled_any (own_rdA h2C.ox) (own_rdA h2C.oy) (by have := SZ5.out; simp; omega) HFP3.out).mono ?_
                      rintro e wn ⟨rfl, hb⟩
                      have KF := below_trans (below_trans KU h2C.bel) hb
                      clear HC0 h2C
                      have HC0 := CC _ KF
                      refine hK1 (Act.put _ (some 175) _) _ ⟨fun _ => HC0, ?_⟩
                      clear hK1 K1 hb
                      try simp only [Act.put, List.setIfInBounds_toArray, List.set_cons_zero, List.set_cons_succ]
                      refine wpHl.tk0 (i := 15) (d := some 176) (v := .bool true) rfl HS (by as_aux_lemma => kernel_rfl) rfl (fun _ _ _ h => nomatch h.1) (Or.inl ⟨by rfl, ?_⟩) HC0 ?_
                      · intro u hC9
                        go_simp
                      simp only [Act.put, List.setIfInBounds_toArray, List.set_cons_zero, List.set_cons_succ]
                      refine wpHl.tk0 (i := 16) (d := some 177) (v := .bool true) rfl HS (by as_aux_lemma => kernel_rfl) rfl (fun _ _ _ h => nomatch h.1) (Or.inl ⟨by rfl, ?_⟩) HC0 ?_
                      · intro u hC9
                        go_simp
                      simp only [Act.put, List.setIfInBounds_toArray, List.set_cons_zero, List.set_cons_succ]
                      refine wpHl.one (i := 17) (by as_aux_lemma => kernel_rfl) rfl (fun K1 hK1 => ?_)
                      rw [if_pos (by rfl)]
                      refine wp_call_of (f := 15) (args := #[]) (by kernel_rfl) ?_
                      with_reducible refine (olives).mono ?_
                      rintro e wn ⟨rfl, hb⟩
                      have KG := below_trans KF hb
                      clear HC0 KF
                      have HC0 := CC _ KG
                      refine hK1 (Act.put _ (some 178) _) _ ⟨fun _ => HC0, ?_⟩
                      clear hK1 K1 hb
                      try simp only [Act.put, List.setIfInBounds_toArray, List.set_cons_zero, List.set_cons_succ]
                      refine wpHl.tk0 (i := 18) (d := some 179) (v := .bool true) rfl HS (by as_aux_lemma => kernel_rfl) rfl (fun _ _ _ h => nomatch h.1) (Or.inl ⟨by rfl, ?_⟩) HC0 ?_
                      · intro u hC9
                        go_simp
                      simp only [Act.put, List.setIfInBounds_toArray, List.set_cons_zero, List.set_cons_succ]
                      refine wpHl.tk0 (i := 19) (d := some 2) (v := .bool true) rfl HS (by as_aux_lemma => kernel_rfl) rfl (fun _ _ _ h => nomatch h.1) (Or.inl ⟨by rfl, ?_⟩) HC0 ?_
                      · intro u hC9
                        go_simp
                      simp only [Act.put, List.setIfInBounds_toArray, List.set_cons_zero, List.set_cons_succ]
                      refine wpHl.done (by as_aux_lemma => kernel_rfl) ⟨rfl, ?_⟩ _
                      clear CC HC0 HS
                      have KW9 := hide (below_trans KW5.out KG)
                      have HKD9 := hide ((KG.block _ (Array.getElem?_eq_some_iff.1 HKD.out).1).trans HKD.out)
                      clear KG
                      go_wp2
                      refine marks_leave (A := w23.heap.size) (Inv := fun u => Below w.heap.size w u) ?_ ?_ [Dm] _ (by simp; exact ⟨hDm, HKD9.out⟩) (by simp) KW9.out
                      · rintro u D' i1 hD' hu
                        exact i1.trans ((belx_putObj (X := fun _ => False) (n := w.heap.size) _ (by have := ZW23.out; omega)).below (Nat.le_refl _) (fun _ _ e => e))
                      · rintro u i1
                        exact ⟨_, results_tmp rfl _ _ _, rfl, i1⟩
                  · rw [if_pos (by rfl)]
                    refine op_build rfl ?_
                    replace h2C := h2C.symm.build.symm
                    clear HC0
                    have HC0 := CC _ (below_trans KU h2C.bel)
                    refine hK1 (Act.put _ (some 170) _) _ ⟨fun _ => HC0, ?_⟩
                    clear hK1 K1
                    try simp only [Act.put, List.setIfInBounds_toArray, List.set_cons_zero, List.set_cons_succ]
                    refine wpHl.one (i := 4) (by as_aux_lemma => kernel_rfl) rfl (fun K1 hK1 => ?_)
                    rw [if_pos (by rfl)]
                    refine op_build rfl ?_
                    replace h2C := h2C.build
                    clear HC0
                    have HC0 := CC _ (below_trans KU h2C.bel)
                    refine hK1 (Act.put _ (some 165) _) _ ⟨fun _ => HC0, ?_⟩
                    clear hK1 K1
                    try simp only [Act.put, List.setIfInBounds_toArray, List.set_cons_zero, List.set_cons_succ]
                    refine wpHl.one (i := 6) (by as_aux_lemma => kernel_rfl) rfl (fun K1 hK1 => ?_)
                    rw [if_pos (by rfl)]
                    obtain ⟨v6, u6, hrun, h3C⟩ := h2C.app (RFs.out.far (below_trans KU h2C.bel)) NF.out (by have := SZ5.out; simp; omega) _
                    refine op_append (.tmp 165) (.tmp 166) rfl rfl rfl hrun ?_
                    rw [List.nil_append] at h3C
                    clear HC0 h2C hrun
                    have h2C := h3C
                    clear h3C
                    have HC0 := CC _ (below_trans KU h2C.bel)
                    refine hK1 (Act.put _ (some 167) _) _ ⟨fun _ => HC0, ?_⟩
                    clear hK1 K1
                    try simp only [Act.put, List.setIfInBounds_toArray, List.set_cons_zero, List.set_cons_succ]
                    refine wpHl.one (i := 8) (by as_aux_lemma => kernel_rfl) rfl (fun K1 hK1 => ?_)
                    rw [if_pos (by rfl)]
                    obtain ⟨v8, u8, hrun, h3C⟩ := h2C.app (RO.out.far (below_trans KU h2C.bel)) NR.out (by have := SZ5.out; simp; omega) _
                    refine op_append (.tmp 167) (.tmp 168) rfl rfl rfl hrun ?_
                    clear HC0 h2C hrun
                    have h2C := h3C
                    clear h3C
                    have HC0 := CC _ (below_trans KU h2C.bel)
                    refine hK1 (Act.put _ (some 169) _) _ ⟨fun _ => HC0, ?_⟩
                    clear hK1 K1
                    try simp only [Act.put, List.setIfInBounds_toArray, List.set_cons_zero, List.set_cons_succ]
                    refine wpHl.one (i := 11) (by as_aux_lemma => kernel_rfl) rfl (fun K1 hK1 => ?_)
                    rw [if_pos (by rfl)]
                    obtain ⟨v11, u11, hrun, h3C⟩ := h2C.symm.app (RA5.out.far (below_trans KU h2C.bel)) NOA.out (by have := SZ5.out; simp; omega) _
                    refine op_append (.tmp 170) (.tmp 171) rfl rfl rfl hrun ?_
                    rw [List.nil_append] at h3C
                    clear HC0 h2C hrun
                    have h2C := h3C.symm
                    clear h3C
                    have HC0 := CC _ (below_trans KU h2C.bel)
                    refine hK1 (Act.put _ (some 172) _) _ ⟨fun _ => HC0, ?_⟩
                    clear hK1 K1
                    try simp only [Act.put, List.setIfInBounds_toArray, List.set_cons_zero, List.set_cons_succ]
                    refine wpHl.one (i := 13) (by as_aux_lemma => kernel_rfl) rfl (fun K1 hK1 => ?_)
                    rw [if_pos (by rfl)]
                    obtain ⟨v13, u13, hrun, h3C⟩ := h2C.symm.app (RB5.out.far (below_trans KU h2C.bel)) NOB.out (by have := SZ5.out; simp; omega) _
                    refine op_append (.tmp 172) (.tmp 173) rfl rfl rfl hrun ?_
                    clear HC0 h2C hrun
                    have h2C := h3C.symm
                    clear h3C
                    have HC0 := CC _ (below_trans KU h2C.bel)
                    refine hK1 (Act.put _ (some 174) _) _ ⟨fun _ => HC0, ?_⟩
                    clear hK1 K1
                    try simp only [Act.put, List.setIfInBounds_toArray, List.set_cons_zero, List.set_cons_succ]
                    refine wpHl.one (i := 14) (by as_aux_lemma => kernel_rfl) rfl (fun K1 hK1 => ?_)
                    rw [if_pos (by rfl)]
                    refine wp_call_of (f := 14) (args := #[v8, v13]) (by kernel_rfl) ?_
                    with_reducible refine (shuffled_any (own_rdA h2C.ox) (own_rdA h2C.oy) (by have := SZ5.out; simp; omega) HFP3.out).mono ?_
                    rintro e wn ⟨rfl, hb⟩
                    have KF := below_trans (below_trans KU h2C.bel) hb
                    clear HC0 h2C
                    have HC0 := CC _ KF
                    refine hK1 (Act.put _ (some 175) _) _ ⟨fun _ => HC0, ?_⟩
                    clear hK1 K1 hb
                    try simp only [Act.put, List.setIfInBounds_toArray, List.set_cons_zero, List.set_cons_succ]
                    refine wpHl.tk0 (i := 15) (d := some 176) (v := .bool true) rfl HS (by as_aux_lemma => kernel_rfl) rfl (fun _ _ _ h => nomatch h.1) (Or.inl ⟨by rfl, ?_⟩) HC0 ?_
                    · intro u hC9
                      go_simp
                    simp only [Act.put, List.setIfInBounds_toArray, List.set_cons_zero, List.set_cons_succ]
                    refine wpHl.tk0 (i := 16) (d := some 177) (v := .bool true) rfl HS (by as_aux_lemma => kernel_rfl) rfl (fun _ _ _ h => nomatch h.1) (Or.inl ⟨by rfl, ?_⟩) HC0 ?_
                    · intro u hC9
                      go_simp
                    simp only [Act.put, List.setIfInBounds_toArray, List.set_cons_zero, List.set_cons_succ]
                    refine wpHl.one (i := 17) (by as_aux_lemma => kernel_rfl) rfl (fun K1 hK1 => ?_)
                    rw [if_pos (by rfl)]
                    refine wp_call_of (f := 15) (args := #[]) (by kernel_rfl) ?_
                    with_reducible refine (olives).mono ?_
                    rintro e wn ⟨rfl, hb⟩
                    have KG := below_trans KF hb
                    clear HC0 KF
                    have HC0 := CC _ KG
                    refine hK1 (Act.put _ (some 178) _) _ ⟨fun _ => HC0, ?_⟩
                    clear hK1 K1 hb
                    try simp only [Act.put, List.setIfInBounds_toArray, List.set_cons_zero, List.set_cons_succ]
                    refine wpHl.tk0 (i := 18) (d := some 179) (v := .bool true) rfl HS (by as_aux_lemma => kernel_rfl) rfl (fun _ _ _ h => nomatch h.1) (Or.inl ⟨by rfl, ?_⟩) HC0 ?_
                    · intro u hC9
                      go_simp
                    simp only [Act.put, List.setIfInBounds_toArray, List.set_cons_zero, List.set_cons_succ]
                    refine wpHl.tk0 (i := 19) (d := some 2) (v := .bool true) rfl HS (by as_aux_lemma => kernel_rfl) rfl (fun _ _ _ h => nomatch h.1) (Or.inl ⟨by rfl, ?_⟩) HC0 ?_
                    · intro u hC9
                      go_simp
                    simp only [Act.put, List.setIfInBounds_toArray, List.set_cons_zero, List.set_cons_succ]
                    refine wpHl.done (by as_aux_lemma => kernel_rfl) ⟨rfl, ?_⟩ _
                    clear CC HC0 HS
                    have KW9 := hide (below_trans KW5.out KG)
                    have HKD9 := hide ((KG.block _ (Array.getElem?_eq_some_iff.1 HKD.out).1).trans HKD.out)
                    clear KG
                    go_wp2
                    refine marks_leave (A := w23.heap.size) (Inv := fun u => Below w.heap.size w u) ?_ ?_ [Dm] _ (by simp; exact ⟨hDm, HKD9.out⟩) (by simp) KW9.out
                    · rintro u D' i1 hD' hu
                      exact i1.trans ((belx_putObj (X := fun _ => False) (n := w.heap.size) _ (by have := ZW23.out; omega)).below (Nat.le_refl _) (fun _ _ e => e))
                    · rintro u i1
                      exact ⟨_, results_tmp rfl _ _ _, rfl, i1⟩
                case hstop =>
                  rintro Dm c O pre W' hDm hpx h hK
                  exact h.elim

end Go.Proofs.Ytboikfcmbfaaeaa
