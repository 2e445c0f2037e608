/- ValueOrders: the walk (mk_vor.py) -/
import Derived.Test.YticmlelalbaalaaGreatDoorR42
import Derived.Test.YticmlelalbaalaaGreatDoorR25
import Derived.Test.YticmlelalbaalaaGreatDoorRVRc
namespace Go.Proofs.YticmlelalbaalaaGreatDoor
open Go.RowKit Go.Shelf
set_option linter.unusedVariables false
set_option linter.unusedSimpArgs false

theorem TwV.cl {B : Nat} {w : World} {v : Value} {x : Va} (h : TwV B w v x) : ∃ c : Cl, v = c.V := by
  obtain ⟨q, rfl, -, -⟩ := h.reads.cl
  exact ⟨clQ q, rfl⟩
theorem wpList_ldVg {ops : Array Oper} {rest : List Oper} {o : Oper} {a : Act} {w : World} {Q : Exit → Act → World → Prop} (hw : Region.wanted o (yielded ops a.tmps) = true) (y : Operand) (ho : o.op = .load 31 y)
    (b f : Nat) (hy : a.eval y = .pointer (some ⟨b, f, none⟩)) (x : Cl) (hx : w.rangeAt b f x.L) (h : wpList Tryz.prog ops Q rest (a.put o.dst x.V) w) : wpList Tryz.prog ops Q (o :: rest) a w := by
  obtain ⟨d, h1, h2⟩ := vaDesc
  refine wpList_step fun K hK => ?_
  rw [if_pos hw]
  exact wp_load_mid _ y ho b f hy x.L d hx h1 h2 va8Info (hK _ _ h)
/-- a call of TwinValue -/
theorem twin_cl {w : World} {c : Cl} {x : Va} (hp : vpts x ≤ 1048576) (h : VaRd w c.V x) : Calls Tryz.prog 11 #[c.V] w fun e w' => (∃ ct : Cl, e = .returned ct.V ∧ TwV w.heap.size w' ct.V x) ∧ Below w.heap.size w w' := by
  refine (twv_any hp h).mono fun e w' h => ⟨?_, h.2⟩
  obtain ⟨⟨u, rfl, hu⟩, -⟩ := h
  obtain ⟨c, rfl⟩ := hu.cl
  exact ⟨c, rfl, hu⟩

set_option maxHeartbeats 16000000 in
set_option maxRecDepth 100000 in
theorem orders14 {w : World} {a : Nat → Addr} (LL : Lays w) (TT : Brn w) (UU : Uss w) (PP : PtW w) (hS : Snt w a) (hH : Hnd w) {x y : Va} {v1 v2 : Value} (h1 : VaRd w v1 x) (h2 : VaRd w v2 y) :
    Calls Tryz.prog 4 #[v1, v2] w fun e w' => e = .returned (.bool true) ∧ Below w.heap.size w w' := by
  obtain ⟨q1, rfl, rfl, g1⟩ := h1.cl
  obtain ⟨q2, rfl, rfl, g2⟩ := h2.cl
  have HLV := hide (fun (W : World) (hW : Below w.heap.size w W) => lives14_any (w := W) (LL.below hW) (TT.below hW) (UU.below hW) (PP.below hW) (hS.below hW) (hH.below hW))
  have HLY := hide LL
  clear LL TT UU PP hS hH
  obtain ⟨W1, hW1⟩ : ∃ W1, (w.alloc (.cells (clQ q1).L.toArray 31)).alloc (.cells (clQ q2).L.toArray 31) = W1 := ⟨_, rfl⟩
  obtain ⟨b1, b2, k1⟩ := box2 h1 h2 hW1
  obtain ⟨W2, hW2⟩ : ∃ W2, W1.alloc (.cells (clF [clQ q1, clQ q2]).toArray 31) = W2 := ⟨_, rfl⟩
  have HBY := hide (bey_row (zs := [q1, q2]) (n := 2) (two_of (g1.far k1) (g2.far k1)) rfl (by decide) hW2)
  have k2 : Below W1.heap.size W1 W2 := by rw [← hW2]; exact bel_new _ _
  have HB1 := hide (fun (u : World) (hu : Below W1.heap.size W1 u) => b1.below hu)
  have HB2 := hide (fun (u : World) (hu : Below W1.heap.size W1 u) => b2.below hu)
  have HK1 := hide k1
  have HK2 := hide k2
  have HV1 := hide h1
  have HV2 := hide h2
  have HW1 := hide hW1
  have HW2 := hide hW2
  clear hW1 hW2 g1 g2 b1 b2 k1 k2 h1 h2
  simp only [List.map_cons, List.map_nil] at HBY
  generalize hc1 : clQ q1 = c1 at *
  generalize hc2 : clQ q2 = c2 at *
  clear hc1 hc2
  generalize q1.1 = x at *
  generalize q2.1 = y at *
  go_enter Tryz.func4, Tryz.ntmps4
  unfold Cl.V
  go_upto_region 1 with fail
  try rw [HW1.out]
  have K : Below W1.heap.size W1 W1 := Below.refl _ _
  go_wp2_with (first | (refine wpList_ldV rfl _ rfl (w.heap.size) 0 rfl c1 (HB1.out _ K).row ?_; try simp only [Act.put, List.setIfInBounds_toArray, List.set_cons_zero, List.set_cons_succ]) | (refine wpList_ldV rfl _ rfl (w.heap.size + 1) 0 rfl c2 (HB2.out _ K).row ?_; try simp only [Act.put, List.setIfInBounds_toArray, List.set_cons_zero, List.set_cons_succ]) | (refine wpList_bsC2 rfl _ _ rfl c1 c2 rfl rfl ?_; rw [HW2.out]; try simp only [Act.put, List.setIfInBounds_toArray, List.set_cons_zero, List.set_cons_succ]))
  with_reducible refine HBY.out.mono ?_
  rintro e w3 ⟨⟨q, rfl, hq⟩, hb⟩
  replace K := below_trans HK2.out hb
  clear hb
  cases q with
  | true =>
    clear hq
    go_wp2
    go_ret
    exact ⟨rfl, HK1.out.trans (K.mono HK1.out.size)⟩
  | false =>
    have hp := hq rfl
    simp only [kpts] at hp
    have HFR := hide (fun (W : World) (hW : Below W1.heap.size W1 W) => HK1.out.trans (hW.mono HK1.out.size))
    have HR12 := hide (fun (W : World) (hW : Below W1.heap.size W1 W) => show Calls Tryz.prog 18 #[c1.V, c2.V] W fun e w' => e = .returned (.int .i64 (vcmp x y)) ∧ Below W.heap.size W w' from (rcompare_any (x := x) (by omega)) W c1.V c2.V y (HV1.out.far (HFR.out _ hW)) (HV2.out.far (HFR.out _ hW)) (by omega))
    have HR21 := hide (fun (W : World) (hW : Below W1.heap.size W1 W) => show Calls Tryz.prog 18 #[c2.V, c1.V] W fun e w' => e = .returned (.int .i64 (vcmp y x)) ∧ Below W.heap.size W w' from (rcompare_any (x := y) (by omega)) W c2.V c1.V x (HV2.out.far (HFR.out _ hW)) (HV1.out.far (HFR.out _ hW)) (by omega))
    have HCM := hide (fun (W : World) (hW : Below W1.heap.size W1 W) (ca cb : Cl) (p q : Va) (hp : vpts p ≤ 1048576) (hq : vpts q ≤ 1048576) (ha : VaRd W ca.V p) (hb : VaRd W cb.V q) => show Calls Tryz.prog 19 #[ca.V, cb.V] W fun e w' => e = .returned (.int .i64 (vcmp p q)) ∧ Below W.heap.size W w' from (vcompare_any hp) W ca.V cb.V q (HLY.out.below (HFR.out _ hW)) ha hb hq)
    have HT1 := hide (fun (W : World) (hW : Below W1.heap.size W1 W) => twin_cl (w := W) (c := c1) (x := x) (by omega) (HV1.out.far (HFR.out _ hW)))
    have HT2 := hide (fun (W : World) (hW : Below W1.heap.size W1 W) => twin_cl (w := W) (c := c2) (x := y) (by omega) (HV2.out.far (HFR.out _ hW)))
    have hpx : vpts x ≤ 1048576 := by omega
    have hpy : vpts y ≤ 1048576 := by omega
    clear hp hq
    have HPX := hide hpx
    have HPY := hide hpy
    clear hpx hpy
    go_upto_region 4 with (first | (refine wpList_ldV rfl _ rfl (w.heap.size) 0 rfl c1 (HB1.out _ K).row ?_; try simp only [Act.put, List.setIfInBounds_toArray, List.set_cons_zero, List.set_cons_succ]) | (go_at_call 11; (with_reducible refine (HT1.out _ K).mono ?_); rintro e wt ⟨⟨ct1, rfl, ht⟩, hb⟩; replace K := below_trans K hb; have HTH := hide (there_new wt 31 #[.int .i8 0, .int .u64 0, .bool false, .slice none 0 0, .int .u64 0, .int .i8 0, .string ⟨#[]⟩, .slice none 0 0] (n := 8) (by decide)); obtain ⟨w4, hw8⟩ : ∃ u, (wt.alloc (.cells #[.int .i8 0, .int .u64 0, .bool false, .slice none 0 0, .int .u64 0, .int .i8 0, .string ⟨#[]⟩, .slice none 0 0] 31)).setCells wt.heap.size 0 ct1.L = u := ⟨_, rfl⟩; have HBX := hide (box_new hw8 ht.reads); have HTW := hide (ht.far HBX.out.2); have HW8 := hide hw8; have HBA := hide hb; clear ht hb hw8) | (refine wpList_stV rfl _ _ rfl wt.heap.size 0 rfl ct1 rfl HTH.out ?_; rw [HW8.out]; try simp only [Act.put, List.setIfInBounds_toArray, List.set_cons_zero, List.set_cons_succ]))
    replace K := below_trans K HBX.out.2
    have HST1 := hide (below_trans HBA.out HBX.out.2)
    have HX1 := hide (fun (u : World) (hu : Below w4.heap.size w4 u) => HBX.out.1.below hu)
    have HY1 := hide (fun (u : World) (hu : Below w4.heap.size w4 u) => HTW.out.far hu)
    have HLE1 := hide HBX.out.1.lt
    generalize hbt : wt.heap.size = bt1 at *
    clear hbt HTH HBX HTW HW8 HBA
    have HK4 := hide K
    go_upto_region 5 with (first | (refine wpList_ldV rfl _ rfl (w.heap.size + 1) 0 rfl c2 (HB2.out _ K).row ?_; try simp only [Act.put, List.setIfInBounds_toArray, List.set_cons_zero, List.set_cons_succ]) | (go_at_call 11; (with_reducible refine (HT2.out _ K).mono ?_); rintro e wt ⟨⟨ct2, rfl, ht⟩, hb⟩; replace K := below_trans K hb; have HTH := hide (there_new wt 31 #[.int .i8 0, .int .u64 0, .bool false, .slice none 0 0, .int .u64 0, .int .i8 0, .string ⟨#[]⟩, .slice none 0 0] (n := 8) (by decide)); obtain ⟨w5, hw8⟩ : ∃ u, (wt.alloc (.cells #[.int .i8 0, .int .u64 0, .bool false, .slice none 0 0, .int .u64 0, .int .i8 0, .string ⟨#[]⟩, .slice none 0 0] 31)).setCells wt.heap.size 0 ct2.L = u := ⟨_, rfl⟩; have HBX := hide (box_new hw8 ht.reads); have HTW := hide (ht.far HBX.out.2); have HW8 := hide hw8; have HBA := hide hb; clear ht hb hw8) | (refine wpList_stV rfl _ _ rfl wt.heap.size 0 rfl ct2 rfl HTH.out ?_; rw [HW8.out]; try simp only [Act.put, List.setIfInBounds_toArray, List.set_cons_zero, List.set_cons_succ]))
    replace K := below_trans K HBX.out.2
    have HST2 := hide (below_trans HBA.out HBX.out.2)
    have HX2 := hide (fun (u : World) (hu : Below w5.heap.size w5 u) => HBX.out.1.below hu)
    have HY2 := hide (fun (u : World) (hu : Below w5.heap.size w5 u) => HTW.out.far hu)
    have HLE2 := hide HBX.out.1.lt
    generalize hbt : wt.heap.size = bt2 at *
    clear hbt HTH HBX HTW HW8 HBA
    have HK5 := hide K
    have Z1 := hide (fun (u : World) (hu : Below w5.heap.size w5 u) => HX1.out u (HST2.out.trans (hu.mono HST2.out.size)))
    have Z2 := hide (fun (u : World) (hu : Below w5.heap.size w5 u) => HY1.out u (HST2.out.trans (hu.mono HST2.out.size)))
    have HLF1 := hide (fun (W : World) (hW : Below w5.heap.size w5 W) => show Calls Tryz.prog 20 #[ct1.V, c1.V] W fun e w' => e = .returned (.bool true) ∧ Below W.heap.size W w' from lfv_any W _ _ _ (Z2.out _ hW) (HV1.out.far (HFR.out _ (HK5.out.trans (hW.mono HK5.out.size)))))
    have HLF2 := hide (fun (W : World) (hW : Below w5.heap.size w5 W) => show Calls Tryz.prog 20 #[ct2.V, c2.V] W fun e w' => e = .returned (.bool true) ∧ Below W.heap.size W w' from lfv_any W _ _ _ (HY2.out _ hW) (HV2.out.far (HFR.out _ (HK5.out.trans (hW.mono HK5.out.size)))))
    have HC12 := hide (fun (W : World) (hW : Below w5.heap.size w5 W) => show Calls Tryz.prog 19 #[ct1.V, ct2.V] W fun e w' => e = .returned (.int .i64 (vcmp x y)) ∧ Below W.heap.size W w' from HCM.out W (HK5.out.trans (hW.mono HK5.out.size)) _ _ _ _ HPX.out HPY.out (Z1.out _ hW).rd (HX2.out _ hW).rd)
    have HC21 := hide (fun (W : World) (hW : Below w5.heap.size w5 W) => show Calls Tryz.prog 19 #[ct2.V, ct1.V] W fun e w' => e = .returned (.int .i64 (vcmp y x)) ∧ Below W.heap.size W w' from HCM.out W (HK5.out.trans (hW.mono HK5.out.size)) _ _ _ _ HPY.out HPX.out (HX2.out _ hW).rd (Z1.out _ hW).rd)
    have HC11 := hide (fun (W : World) (hW : Below w5.heap.size w5 W) => show Calls Tryz.prog 19 #[ct1.V, ct1.V] W fun e w' => e = .returned (.int .i64 0) ∧ Below W.heap.size W w' from by
      have h := HCM.out W (HK5.out.trans (hW.mono HK5.out.size)) _ _ _ _ HPX.out HPX.out (Z1.out _ hW).rd (Z1.out _ hW).rd
      rw [vcmp_self] at h
      exact h)
    generalize vcmp x y = d at *
    generalize vcmp y x = d2 at *
    clear HX1 HY1 HST1 HST2 HK4 HLE1 HCM HT1 HT2
    go_upto_region 6 with (first | (refine wpList_ldV rfl _ rfl (w.heap.size) 0 rfl c1 (HB1.out _ K).row ?_; try simp only [Act.put, List.setIfInBounds_toArray, List.set_cons_zero, List.set_cons_succ]) | (refine wpList_ldV rfl _ rfl (w.heap.size + 1) 0 rfl c2 (HB2.out _ K).row ?_; try simp only [Act.put, List.setIfInBounds_toArray, List.set_cons_zero, List.set_cons_succ]) | (go_at_call 18; (with_reducible refine (HR12.out _ K).mono ?_); rintro e wn ⟨rfl, hb⟩; have HBA := hide hb; replace K := below_trans K hb; clear hb))
    rename World => w6
    have H56 := hide HBA.out
    have HK6 := hide K
    clear K HBA
    go_cut [45] from 8 (fun s45 w' => s45 = .bool false ∧ Below w6.heap.size w6 w')
    case first =>
      have CC : ∀ u : World, Below w6.heap.size w6 u → u.rangeAt bt1 0 ct1.L ∧ u.rangeAt bt2 0 ct2.L ∧ u.rangeAt w.heap.size 0 c1.L ∧ u.rangeAt (w.heap.size + 1) 0 c2.L := fun u hu => ⟨(Z1.out _ (H56.out.trans (hu.mono H56.out.size))).row, (HX2.out _ (H56.out.trans (hu.mono H56.out.size))).row, (HB1.out _ (HK6.out.trans (hu.mono HK6.out.size))).row, (HB2.out _ (HK6.out.trans (hu.mono HK6.out.size))).row⟩
      have K : Below w6.heap.size w6 w6.drew := (Below.refl _ _).drew
      have HC0 := CC _ K
      refine wpHl.region0 (C := fun u => u.rangeAt bt1 0 ct1.L ∧ u.rangeAt bt2 0 ct2.L ∧ u.rangeAt w.heap.size 0 c1.L ∧ u.rangeAt (w.heap.size + 1) 0 c2.L) (by kernel_rfl) (by kernel_rfl) (fun HS => ?_)
      refine wpHl.tk0 (i := 0) (d := some 19) (v := ct1.V) rfl HS (by as_aux_lemma => kernel_rfl) rfl (fun _ _ _ h => h) (Or.inl ⟨by rfl, ?_⟩) HC0 ?_
      · intro u hC
        exact run_ldV rfl rfl hC.1
      simp only [Act.put, List.setIfInBounds_toArray, List.set_cons_zero, List.set_cons_succ]
      refine wpHl.tk0 (i := 1) (d := some 20) (v := ct2.V) rfl HS (by as_aux_lemma => kernel_rfl) rfl (fun _ _ _ h => h) (Or.inl ⟨by rfl, ?_⟩) HC0 ?_
      · intro u hC
        exact run_ldV rfl rfl hC.2.1
      simp only [Act.put, List.setIfInBounds_toArray, List.set_cons_zero, List.set_cons_succ]
      refine wpHl.tk0 (i := 3) (d := some 22) (v := .int .i64 d) rfl HS (by as_aux_lemma => kernel_rfl) rfl (fun _ _ _ h => h) (Or.inl ⟨by rfl, ?_⟩) HC0 ?_
      · intro u hC
        go_simp
      simp only [Act.put, List.setIfInBounds_toArray, List.set_cons_zero, List.set_cons_succ]
      refine wpHl.one (i := 2) (by as_aux_lemma => kernel_rfl) rfl (fun K1 hK1 => ?_)
      rw [if_pos (by rfl)]
      refine wp_call_of (f := 19) (args := #[ct1.V, ct2.V]) (by kernel_rfl) ?_
      with_reducible refine (HC12.out _ (H56.out.trans (K.mono H56.out.size))).mono ?_
      rintro e wn ⟨rfl, hb⟩
      replace K := below_trans K hb
      clear HC0
      have HC0 := CC _ K
      refine hK1 (Act.put _ (some 21) _) _ ⟨fun _ => HC0, ?_⟩
      clear hK1 K1 hb
      try simp only [Act.put, List.setIfInBounds_toArray, List.set_cons_zero, List.set_cons_succ]
      refine wpHl.tk0 (i := 4) (d := some 23) (v := .bool false) rfl HS (by as_aux_lemma => kernel_rfl) rfl (fun _ _ _ h => h) (Or.inl ⟨by rfl, ?_⟩) HC0 ?_
      · intro u hC
        go_simp
      simp only [Act.put, List.setIfInBounds_toArray, List.set_cons_zero, List.set_cons_succ]
      refine wpHl.tk0 (i := 5) (d := some 24) (v := .bool false) rfl HS (by as_aux_lemma => kernel_rfl) rfl (fun _ _ _ h => h) (Or.inl ⟨by rfl, ?_⟩) HC0 ?_
      · intro u hC
        go_simp
      simp only [Act.put, List.setIfInBounds_toArray, List.set_cons_zero, List.set_cons_succ]
      refine wpHl.tk0 (i := 6) (d := some 25) (v := ct2.V) rfl HS (by as_aux_lemma => kernel_rfl) rfl (fun _ _ _ h => h) (Or.inl ⟨by rfl, ?_⟩) HC0 ?_
      · intro u hC
        exact run_ldV rfl rfl hC.2.1
      simp only [Act.put, List.setIfInBounds_toArray, List.set_cons_zero, List.set_cons_succ]
      refine wpHl.tk0 (i := 7) (d := some 26) (v := ct1.V) rfl HS (by as_aux_lemma => kernel_rfl) rfl (fun _ _ _ h => h) (Or.inl ⟨by rfl, ?_⟩) HC0 ?_
      · intro u hC
        exact run_ldV rfl rfl hC.1
      simp only [Act.put, List.setIfInBounds_toArray, List.set_cons_zero, List.set_cons_succ]
      refine wpHl.tk0 (i := 9) (d := some 28) (v := c2.V) rfl HS (by as_aux_lemma => kernel_rfl) rfl (fun _ _ _ h => h) (Or.inl ⟨by rfl, ?_⟩) HC0 ?_
      · intro u hC
        exact run_ldV rfl rfl hC.2.2.2
      simp only [Act.put, List.setIfInBounds_toArray, List.set_cons_zero, List.set_cons_succ]
      refine wpHl.tk0 (i := 10) (d := some 29) (v := c1.V) rfl HS (by as_aux_lemma => kernel_rfl) rfl (fun _ _ _ h => h) (Or.inl ⟨by rfl, ?_⟩) HC0 ?_
      · intro u hC
        exact run_ldV rfl rfl hC.2.2.1
      simp only [Act.put, List.setIfInBounds_toArray, List.set_cons_zero, List.set_cons_succ]
      refine wpHl.one (i := 8) (by as_aux_lemma => kernel_rfl) rfl (fun K1 hK1 => ?_)
      rw [if_pos (by rfl)]
      refine wp_call_of (f := 19) (args := #[ct2.V, ct1.V]) (by kernel_rfl) ?_
      with_reducible refine (HC21.out _ (H56.out.trans (K.mono H56.out.size))).mono ?_
      rintro e wn ⟨rfl, hb⟩
      replace K := below_trans K hb
      clear HC0
      have HC0 := CC _ K
      refine hK1 (Act.put _ (some 27) _) _ ⟨fun _ => HC0, ?_⟩
      clear hK1 K1 hb
      try simp only [Act.put, List.setIfInBounds_toArray, List.set_cons_zero, List.set_cons_succ]
      refine wpHl.one (i := 11) (by as_aux_lemma => kernel_rfl) rfl (fun K1 hK1 => ?_)
      rw [if_pos (by rfl)]
      refine wp_call_of (f := 18) (args := #[c2.V, c1.V]) (by kernel_rfl) ?_
      with_reducible refine (HR21.out _ (HK6.out.trans (K.mono HK6.out.size))).mono ?_
      rintro e wn ⟨rfl, hb⟩
      replace K := below_trans K hb
      clear HC0
      have HC0 := CC _ K
      refine hK1 (Act.put _ (some 30) _) _ ⟨fun _ => HC0, ?_⟩
      clear hK1 K1 hb
      try simp only [Act.put, List.setIfInBounds_toArray, List.set_cons_zero, List.set_cons_succ]
      refine wpHl.tk0 (i := 12) (d := some 31) (v := .bool false) rfl HS (by as_aux_lemma => kernel_rfl) rfl (fun _ _ _ h => h) (Or.inl ⟨by rfl, ?_⟩) HC0 ?_
      · intro u hC
        go_simp
      simp only [Act.put, List.setIfInBounds_toArray, List.set_cons_zero, List.set_cons_succ]
      refine wpHl.tk0 (i := 13) (d := some 32) (v := .bool false) rfl HS (by as_aux_lemma => kernel_rfl) rfl (fun _ _ _ h => h) (Or.inl ⟨by rfl, ?_⟩) HC0 ?_
      · intro u hC
        go_simp
      simp only [Act.put, List.setIfInBounds_toArray, List.set_cons_zero, List.set_cons_succ]
      refine wpHl.tk0 (i := 14) (d := some 33) (v := .bool false) rfl HS (by as_aux_lemma => kernel_rfl) rfl (fun _ _ _ h => h) (Or.inl ⟨by rfl, ?_⟩) HC0 ?_
      · intro u hC
        go_simp
      simp only [Act.put, List.setIfInBounds_toArray, List.set_cons_zero, List.set_cons_succ]
      refine wpHl.tk0 (i := 15) (d := some 34) (v := ct1.V) rfl HS (by as_aux_lemma => kernel_rfl) rfl (fun _ _ _ h => h) (Or.inl ⟨by rfl, ?_⟩) HC0 ?_
      · intro u hC
        exact run_ldV rfl rfl hC.1
      simp only [Act.put, List.setIfInBounds_toArray, List.set_cons_zero, List.set_cons_succ]
      refine wpHl.tk0 (i := 16) (d := some 35) (v := ct1.V) rfl HS (by as_aux_lemma => kernel_rfl) rfl (fun _ _ _ h => h) (Or.inl ⟨by rfl, ?_⟩) HC0 ?_
      · intro u hC
        exact run_ldV rfl rfl hC.1
      simp only [Act.put, List.setIfInBounds_toArray, List.set_cons_zero, List.set_cons_succ]
      refine wpHl.one (i := 17) (by as_aux_lemma => kernel_rfl) rfl (fun K1 hK1 => ?_)
      rw [if_pos (by rfl)]
      refine wp_call_of (f := 19) (args := #[ct1.V, ct1.V]) (by kernel_rfl) ?_
      with_reducible refine (HC11.out _ (H56.out.trans (K.mono H56.out.size))).mono ?_
      rintro e wn ⟨rfl, hb⟩
      replace K := below_trans K hb
      clear HC0
      have HC0 := CC _ K
      refine hK1 (Act.put _ (some 36) _) _ ⟨fun _ => HC0, ?_⟩
      clear hK1 K1 hb
      try simp only [Act.put, List.setIfInBounds_toArray, List.set_cons_zero, List.set_cons_succ]
      refine wpHl.tk0 (i := 18) (d := some 37) (v := .bool false) rfl HS (by as_aux_lemma => kernel_rfl) rfl (fun _ _ _ h => h) (Or.inl ⟨by rfl, ?_⟩) HC0 ?_
      · intro u hC
        go_simp
      simp only [Act.put, List.setIfInBounds_toArray, List.set_cons_zero, List.set_cons_succ]
      refine wpHl.tk0 (i := 19) (d := some 38) (v := .bool false) rfl HS (by as_aux_lemma => kernel_rfl) rfl (fun _ _ _ h => h) (Or.inl ⟨by rfl, ?_⟩) HC0 ?_
      · intro u hC
        go_simp
      simp only [Act.put, List.setIfInBounds_toArray, List.set_cons_zero, List.set_cons_succ]
      refine wpHl.tk0 (i := 20) (d := some 39) (v := .bool false) rfl HS (by as_aux_lemma => kernel_rfl) rfl (fun _ _ _ h => h) (Or.inl ⟨by rfl, ?_⟩) HC0 ?_
      · intro u hC
        go_simp
      simp only [Act.put, List.setIfInBounds_toArray, List.set_cons_zero, List.set_cons_succ]
      refine wpHl.tk0 (i := 21) (d := some 40) (v := ct1.V) rfl HS (by as_aux_lemma => kernel_rfl) rfl (fun _ _ _ h => h) (Or.inl ⟨by rfl, ?_⟩) HC0 ?_
      · intro u hC
        exact run_ldV rfl rfl hC.1
      simp only [Act.put, List.setIfInBounds_toArray, List.set_cons_zero, List.set_cons_succ]
      refine wpHl.tk0 (i := 22) (d := some 41) (v := ct2.V) rfl HS (by as_aux_lemma => kernel_rfl) rfl (fun _ _ _ h => h) (Or.inl ⟨by rfl, ?_⟩) HC0 ?_
      · intro u hC
        exact run_ldV rfl rfl hC.2.1
      simp only [Act.put, List.setIfInBounds_toArray, List.set_cons_zero, List.set_cons_succ]
      refine wpHl.tk0 (i := 24) (d := some 43) (v := .int .i64 d) rfl HS (by as_aux_lemma => kernel_rfl) rfl (fun _ _ _ h => h) (Or.inl ⟨by rfl, ?_⟩) HC0 ?_
      · intro u hC
        go_simp
      simp only [Act.put, List.setIfInBounds_toArray, List.set_cons_zero, List.set_cons_succ]
      refine wpHl.one (i := 23) (by as_aux_lemma => kernel_rfl) rfl (fun K1 hK1 => ?_)
      rw [if_pos (by rfl)]
      refine wp_call_of (f := 19) (args := #[ct1.V, ct2.V]) (by kernel_rfl) ?_
      with_reducible refine (HC12.out _ (H56.out.trans (K.mono H56.out.size))).mono ?_
      rintro e wn ⟨rfl, hb⟩
      replace K := below_trans K hb
      clear HC0
      have HC0 := CC _ K
      refine hK1 (Act.put _ (some 42) _) _ ⟨fun _ => HC0, ?_⟩
      clear hK1 K1 hb
      try simp only [Act.put, List.setIfInBounds_toArray, List.set_cons_zero, List.set_cons_succ]
      refine wpHl.tk0 (i := 25) (d := some 44) (v := .bool false) rfl HS (by as_aux_lemma => kernel_rfl) rfl (fun _ _ _ h => h) (Or.inl ⟨by rfl, ?_⟩) HC0 ?_
      · intro u hC
        go_simp
      simp only [Act.put, List.setIfInBounds_toArray, List.set_cons_zero, List.set_cons_succ]
      refine wpHl.tk0 (i := 26) (d := some 45) (v := .bool false) rfl HS (by as_aux_lemma => kernel_rfl) rfl (fun _ _ _ h => h) (Or.inl ⟨by rfl, ?_⟩) HC0 ?_
      · intro u hC
        go_simp
      simp only [Act.put, List.setIfInBounds_toArray, List.set_cons_zero, List.set_cons_succ]
      refine wpHl.done (by as_aux_lemma => kernel_rfl) ?_ _
      clear CC HC0 HS
      have HK := hide K
      clear K
      go_wp2_with fail
      go_meet
      case rel => exact ⟨rfl, HK.out⟩
    case rest =>
      obtain ⟨rfl, hb⟩ := hcut
      rename World => w7
      have K0 := HK6.out.trans (hb.mono HK6.out.size)
      have K := H56.out.trans (hb.mono H56.out.size)
      clear hb HC12 HC21 HC11 HR12 HR21
      go_wp2_with (first | (refine wpList_ldV rfl _ rfl (bt1) 0 rfl ct1 (Z1.out _ K).row ?_; try simp only [Act.put, List.setIfInBounds_toArray, List.set_cons_zero, List.set_cons_succ]) | (refine wpList_ldVg (by rfl) _ rfl (bt2) 0 rfl ct2 (HX2.out _ K).row ?_; try simp only [Act.put, List.setIfInBounds_toArray, List.set_cons_zero, List.set_cons_succ]) | (refine wpList_ldV rfl _ rfl (w.heap.size) 0 rfl c1 (HB1.out _ K0).row ?_; try simp only [Act.put, List.setIfInBounds_toArray, List.set_cons_zero, List.set_cons_succ]) | (refine wpList_ldVg (by rfl) _ rfl (w.heap.size + 1) 0 rfl c2 (HB2.out _ K0).row ?_; try simp only [Act.put, List.setIfInBounds_toArray, List.set_cons_zero, List.set_cons_succ]) | (go_at_call 20; (first | (with_reducible refine (HLF1.out _ K).mono ?_) | (with_reducible refine (HLF2.out _ K).mono ?_)); rintro e wn ⟨rfl, hb⟩; replace K := below_trans K hb; replace K0 := below_trans K0 hb; clear hb) | (go_at_call 14; (with_reducible refine (HLV.out _ (HFR.out _ K0)).mono ?_); rintro e wn ⟨rfl, hb⟩; replace K := below_trans K hb; replace K0 := below_trans K0 hb; clear hb))
      go_ret
      exact ⟨rfl, HFR.out _ K0⟩

end Go.Proofs.YticmlelalbaalaaGreatDoor
