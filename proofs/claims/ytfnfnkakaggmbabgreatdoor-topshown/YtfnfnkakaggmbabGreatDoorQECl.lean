/- TopShown: closer -/
import Derived.Test.YtfnfnkakaggmbabGreatDoorQESg
namespace Go.Proofs.YtfnfnkakaggmbabGreatDoor
open Go.RowKit
set_option linter.unusedVariables false

theorem Cell3.put {w : World} {b : Nat} {x y z : Value} (h : Cell3 w b 0 x y z) (x' y' z' : Value) : Cell3 (((w.setCell ⟨b, 0, none⟩ x').setCell ⟨b, 1, none⟩ y').setCell ⟨b, 2, none⟩ z') b 0 x' y' z' := by
  have n01 : (⟨b, 0, none⟩ : Addr) ≠ ⟨b, 1, none⟩ := by intro h; injection h with _ h2; omega
  have n02 : (⟨b, 0, none⟩ : Addr) ≠ ⟨b, 2, none⟩ := by intro h; injection h with _ h2; omega
  have n12 : (⟨b, 1, none⟩ : Addr) ≠ ⟨b, 2, none⟩ := by intro h; injection h with _ h2; omega
  have h0 := h.c0; have h1 := h.c1; have h2 := h.c2
  refine ⟨?_, ?_, ?_, by simpa using h.lt⟩
  · rw [World.cell?_setCell_other _ _ _ _ n02.symm, World.cell?_setCell_other _ _ _ _ n01.symm]
    exact World.cell?_setCell_same' _ _ _ (by rw [h0]; rfl)
  · rw [World.cell?_setCell_other _ _ _ _ n12.symm]
    exact World.cell?_setCell_same' _ _ _ (by rw [World.cell?_setCell_other _ _ _ _ n01, h1]; rfl)
  · exact World.cell?_setCell_same' _ _ _ (by rw [World.cell?_setCell_other _ _ _ _ n12, World.cell?_setCell_other _ _ _ _ n02, h2]; rfl)
theorem Cell3.other {w : World} {b g n : Nat} {x y z v : Value} (h : Cell3 w b 0 x y z) (hne : g ≠ b) : Cell3 (w.setCell ⟨g, n, none⟩ v) b 0 x y z := by
  have ne : ∀ i, (⟨g, n, none⟩ : Addr) ≠ ⟨b, i, none⟩ := fun i e => hne (by injection e)
  exact ⟨(World.cell?_setCell_other _ _ _ _ (ne 0)).trans h.c0, (World.cell?_setCell_other _ _ _ _ (ne 1)).trans h.c1, (World.cell?_setCell_other _ _ _ _ (ne 2)).trans h.c2, by simpa using h.lt⟩
/-- the nines at the end -/
structure Nine (D : List Int) (k j : Nat) (Ls : List Int) : Prop where
  le : j ≤ k
  ls : Ls = D.take j ++ List.replicate (k - j) 48
  nine : D.drop j = List.replicate (k - j) 57
theorem dg_nines (m : Nat) : dg (List.replicate m 57) = tn m - 1 := by
  induction m with
  | zero => rfl
  | succ m ih => rw [List.replicate_succ, dg, ih, List.length_replicate, tn_succ]; omega
theorem lb_app (A R : List Int) (b : Int) : Nt.lb (A ++ b :: R) A.length = b := by simp [Nt.lb]
theorem Nine.all {D Ls : List Int} {k : Nat} (h : Nine D k 0 Ls) (hD : D.length = k) : Ls = List.replicate k 48 ∧ dg (49 :: Ls) = dg D + 1 := by
  have e1 : Ls = List.replicate k 48 := by have := h.ls; simpa using this
  have e2 : D = List.replicate k 57 := by have := h.nine; simpa using this
  refine ⟨e1, ?_⟩
  rw [e1, dg, dg_noughts, e2, dg_nines, List.length_replicate]; omega
theorem Nine.down {D Ls : List Int} {k j : Nat} (h : Nine D k (j + 1) Ls) (hD : D.length = k) (h9 : Nt.lb D j = 57) : Nine D k j (Ls.set j 48) ∧ Nt.lb Ls j = Nt.lb D j := by
  have hl := h.le
  have hj : j < D.length := by omega
  have et : D.take (j + 1) = D.take j ++ [Nt.lb D j] := by rw [List.take_succ_eq_append_getElem hj, lb_get hj]
  have hlt : (D.take j).length = j := by rw [List.length_take]; omega
  have e1 : Ls = D.take j ++ Nt.lb D j :: List.replicate (k - (j + 1)) 48 := by rw [h.ls, et]; simp
  refine ⟨⟨by omega, ?_, ?_⟩, ?_⟩
  · rw [e1, List.set_append_right _ _ (by omega), hlt, Nat.sub_self, List.set_cons_zero, show k - j = (k - (j + 1)) + 1 by omega, List.replicate_succ]
  · rw [List.drop_eq_getElem_cons hj, h.nine, ← lb_get hj, h9, show k - j = (k - (j + 1)) + 1 by omega, List.replicate_succ]
  · have := lb_app (D.take j) (List.replicate (k - (j + 1)) 48) (Nt.lb D j)
    rw [hlt, ← e1] at this; exact this
theorem Nine.at_ {D Ls : List Int} {k j : Nat} (h : Nine D k (j + 1) Ls) (hD : D.length = k) : Nt.lb Ls j = Nt.lb D j ∧ dg (Ls.set j (Nt.lb D j + 1)) = dg D + 1 := by
  have hl := h.le
  have hj : j < D.length := by omega
  have et : D.take (j + 1) = D.take j ++ [Nt.lb D j] := by rw [List.take_succ_eq_append_getElem hj, lb_get hj]
  have hlt : (D.take j).length = j := by rw [List.length_take]; omega
  have e1 : Ls = D.take j ++ Nt.lb D j :: List.replicate (k - (j + 1)) 48 := by rw [h.ls, et]; simp
  have e2 : D = D.take j ++ Nt.lb D j :: List.replicate (k - (j + 1)) 57 := by
    conv => lhs; rw [← List.take_append_drop (j + 1) D, h.nine, et]
    simp
  refine ⟨by have := lb_app (D.take j) (List.replicate (k - (j + 1)) 48) (Nt.lb D j); rw [hlt, ← e1] at this; exact this, ?_⟩
  rw [e1, List.set_append_right _ _ (by omega), hlt, Nat.sub_self, List.set_cons_zero]
  conv => rhs; rw [e2]
  generalize D.take j = A
  generalize Nt.lb D j = b
  rw [dg_append, dg_append, dg, dg, dg_noughts, dg_nines, List.length_cons, List.length_cons, List.length_replicate, List.length_replicate]
  grind
set_option maxHeartbeats 16000000 in
set_option maxRecDepth 100000 in
theorem closer_any {w : World} (T : Lays w) {es : List Int} {s : ByteArray} {ng : Bool} {P x : Int} {k : Nat} (hd : Dgt es) (hs : s = strOfNums es) (hl : es.length ≤ 2000) (k1 : 1 ≤ k) (kl : k ≤ es.length) (P0 : -3000 ≤ P) (P1 : P ≤ 3000)
    (hno : ∀ X r, (X = dg (es.take k) ∨ X = dg (es.take k) + 1) → DV 4503599627370496 (-1074) 9218868437227405312 X (P - k) r → r + b2i ng * 9223372036854775808 ≠ x) :
    Calls Tryz.prog 15 #[.agg #[.bool ng, .string s, .int .i64 P], .int .i64 k, .int .u64 x] w fun e w' => e = .returned (.bool false) ∧ Below w.heap.size w w' := by
  have hsz : s.size = es.length := by rw [hs, strOfNums_size]
  have ksz : k ≤ s.size := by omega
  have k2000 : k ≤ 2000 := by omega
  have ks2 : (k : Int) ≤ (s.size : Int) := by omega
  have hcut : s.extract 0 k = strOfNums (es.take k) := by rw [hs, txt_cut, List.drop_zero]
  have hdl : (es.take k).length = k := by rw [List.length_take]; omega
  obtain ⟨tl, htl⟩ : ∃ tl, strOfNums (es.take k) = tl := ⟨_, rfl⟩
  rw [htl] at hcut
  have htz : tl.size = k := by rw [← htl, strOfNums_size, hdl]
  have C := cell3_new w (.bool ng) (.string s) (.int .i64 P) 32
  have K0 := bel_new w (.cells #[.bool ng, .string s, .int .i64 P] 32)
  have HD := hide (And.intro (hd.take k) (And.intro htl hdl))
  have HNO := hide hno
  have HT := hide T
  clear hs hl hd hno htl hdl
  go_enter Tryz.func15, Tryz.ntmps15
  go_upto_region 1 with fail
  generalize w.alloc (.cells #[.bool ng, .string s, .int .i64 P] 32) = w1 at *
  have CC := fun o => C.below (bel_new w1 o)
  go_region_held3 (fun w' => w'.cell? ⟨w.heap.size, 0, none⟩ = some (.bool ng) ∧ w'.cell? ⟨w.heap.size, 1, none⟩ = some (.string s) ∧ w'.cell? ⟨w.heap.size, 2, none⟩ = some (.int .i64 P))
    (first | exact ⟨C.c0, C.c1, C.c2⟩ | exact ⟨(CC _).c0, (CC _).c1, (CC _).c2⟩)
    (fail)
  have C2 := (C.below (bel_new w1 (.cells #[.bool ng, .string tl, .int .i64 P] 32))).below (Below.refl _ _).drew
  have D2 := (cell3_new w1 (.bool ng) (.string tl) (.int .i64 P) 32).below (Below.refl _ _).drew
  have K2 : Below w.heap.size w (w1.alloc (.cells #[.bool ng, .string tl, .int .i64 P] 32)).drew := below_trans K0 (bel_new w1 _).drew
  clear C CC K0
  generalize (w1.alloc (.cells #[.bool ng, .string tl, .int .i64 P] 32)).drew = w2 at *
  obtain ⟨bc, hbc⟩ : ∃ bc, bc = w1.heap.size := ⟨_, rfl⟩
  rw [← hbc] at D2 ⊢
  clear hbc
  have c1 := C2.c1
  have hcb := run_bytes_of_string (P := Tryz.prog) w2 9 73 5 tl Tryz.underlying9 Tryz.underlying73 Tryz.underlying5
  obtain ⟨Cc, hC⟩ : ∃ C, C = grownCap w2 tl.size 0 5 := ⟨_, rfl⟩
  rw [← hC, htz] at hcb
  clear hC
  have SG : Sgm (w2.alloc (Obj.cells (bytesRow tl Cc) 5 ((bytesRow tl Cc).size, (bytesRow tl Cc).size + 1))).drew w2.heap.size (es.take k) := by
    have h := sgm_bytes (w := w2) HD.out.1.byt Cc ((bytesRow tl Cc).size, (bytesRow tl Cc).size + 1) (by rw [← HD.out.2.1]; simp [bytesRow, strOfNums])
    rw [HD.out.2.1] at h
    exact h
  have K8 : Below w2.heap.size w2 (w2.alloc (Obj.cells (bytesRow tl Cc) 5 ((bytesRow tl Cc).size, (bytesRow tl Cc).size + 1))).drew := (bel_new _ _).drew
  have G8 : w2.heap.size < (w2.alloc (Obj.cells (bytesRow tl Cc) 5 ((bytesRow tl Cc).size, (bytesRow tl Cc).size + 1))).drew.heap.size := by
    show w2.heap.size < (w2.heap.push _).size
    simp
  have HSG := hide SG
  have HK8 := hide K8
  have HC2 := hide C2
  have HD2 := hide D2
  clear SG K8 C2 D2
  go_upto_region 3 with fail
  clear hcb hcut c1
  generalize (w2.alloc (Obj.cells (bytesRow tl Cc) 5 ((bytesRow tl Cc).size, (bytesRow tl Cc).size + 1))).drew = w3 at *
  obtain ⟨g, hg⟩ : ∃ g, g = w2.heap.size := ⟨_, rfl⟩
  rw [← hg] at HSG G8 ⊢
  have HG := hide hg
  clear hg
  obtain ⟨D, hDD⟩ : ∃ D, es.take k = D := ⟨_, rfl⟩
  rw [hDD] at HSG HD HNO
  clear hDD
  have wk1 : IntKind.i64.wrap ((k : Int) - 1) = (k : Int) - 1 := by rw [IntKind.wrap_i64]; omega
  go_wp2
  go_loopw [9] (fun i wr => ∃ (j : Nat) (v : Int) (Ls : List Int), i = .int .i64 v ∧ v = (j : Int) - 1 ∧ j ≤ k ∧ Ls.length = k ∧ Hid (Nine D k j Ls) ∧ Hid (Sgm wr g Ls) ∧ Hid (Below w2.heap.size w2 wr) ∧ g < wr.heap.size) (fun i _ => (intOf i + 1).toNat)
  case atStart => exact ⟨k, (k : Int) - 1, D, rfl, rfl, Nat.le_refl _, HD.out.2.2, hide ⟨Nat.le_refl _, by rw [Nat.sub_self, List.take_of_length_le (by rw [HD.out.2.2]; exact Nat.le_refl _)]; simp, by rw [Nat.sub_self, List.drop_of_length_le (by rw [HD.out.2.2]; exact Nat.le_refl _)]; rfl⟩, HSG, HK8, G8⟩
  case round =>
    obtain ⟨j, v, Ls, rfl, hv, hj, hLl, HN, HSL, HBL, hgl⟩ := hrel
    cases j with
    | zero =>
      have q0 : ¬ (0 : Int) ≤ v := by omega
      have qd : decide ((0 : Int) ≤ v) = false := decide_eq_false q0
      clear hv
      obtain ⟨hrep, hdg⟩ := HN.out.all HD.out.2.2
      have KW := below_trans K2 HBL.out
      have cw := HC2.out.below HBL.out
      have c0 := cw.c0; have c2 := cw.c2
      have hcv := run_convert_bytes_arg (P := Tryz.prog) wr 73 5 Tryz.underlying73 Tryz.underlying5 g 0 k Cc Ls hLl (fun i hi => by rw [Nat.zero_add]; exact (HSL.out i (by rw [hLl]; exact hi)).1) 9 Tryz.underlying9
      have hadd : (⟨#[49]⟩ : ByteArray) ++ strOfNums Ls = strOfNums (49 :: Ls) := txt_join [49] Ls
      have hzL : (strOfNums Ls).size = k := by rw [strOfNums_size, hLl]
      obtain ⟨tL, htL⟩ : ∃ tL, strOfNums Ls = tL := ⟨_, rfl⟩
      obtain ⟨tM, htM⟩ : ∃ tM, strOfNums (49 :: Ls) = tM := ⟨_, rfl⟩
      rw [htL] at hcv hadd hzL
      rw [htM] at hadd
      have a1 : ¬ 9223372036854775807 < (1 : Nat) + tL.size := by omega
      have wP : IntKind.i64.wrap (P + 1) = P + 1 := by rw [IntKind.wrap_i64]; omega
      have CM := cell3_new wr (.bool ng) (.string tM) (.int .i64 (P + 1)) 32
      have KA := bel_new wr (.cells #[.bool ng, .string tM, .int .i64 (P + 1)] 32)
      have HTL := hide htL
      have HTM := hide htM
      clear htL htM cw
      go_upto_region 8 with fail
      clear hcv hadd c0 c2
      have HBA := hide (HBL.out.trans (KA.mono HBL.out.size))
      generalize wr.alloc (.cells #[.bool ng, .string tM, .int .i64 (P + 1)] 32) = wA at *
      obtain ⟨bM, hbM⟩ : ∃ bM, bM = wr.heap.size := ⟨_, rfl⟩
      rw [← hbM] at CM ⊢
      clear hbM KA
      have TA := HT.out.below (below_trans K2 HBA.out)
      have cD := HD2.out.below HBA.out
      have d0 := cD.c0; have d1 := cD.c1; have d2 := cD.c2
      have HR1 := hide (dread_d TA (es := D) (s := tl) (N := k) (ng := ng) (P := P) HD.out.1.byt HD.out.2.1.symm HD.out.2.2 (by omega) (by omega) (by omega))
      have HM := hide CM
      clear CM TA cD
      go_wp2_with fail
      refine HR1.out.mono ?_
      rintro e wB ⟨bB, ⟨h, rfl⟩ | ⟨h, r1, rfl, hv1⟩⟩
      · exact absurd HD.out.1 h
      have n1 := HNO.out (dg D) r1 (Or.inl rfl) hv1
      have e1 : (r1 + b2i ng * 9223372036854775808 == x) = false := beq_eq_false_iff_ne.2 n1
      obtain ⟨y1, hy1⟩ : ∃ y, r1 + b2i ng * 9223372036854775808 = y := ⟨_, rfl⟩
      rw [hy1] at e1 ⊢
      have HBB := hide (HBA.out.trans (bB.mono HBA.out.size))
      have cM := HM.out.below bB
      have m0 := cM.c0; have m1 := cM.c1; have m2 := cM.c2
      have TB := HT.out.below (below_trans K2 HBB.out)
      have HDM : Dgt (49 :: Ls) := fun z hz => by
        rcases List.mem_cons.1 hz with rfl | hz
        · omega
        · rw [hrep] at hz; rw [List.eq_of_mem_replicate hz]; omega
      have HR2 := hide (dread_d TB (es := 49 :: Ls) (s := tM) (N := k + 1) (ng := ng) (P := P + 1) HDM.byt HTM.out.symm (by rw [List.length_cons, hLl]) (by omega) (by omega) (by omega))
      have HDM' := hide HDM
      have HDG := hide hdg
      clear n1 hv1 hy1 h bB cM TB HDM hdg hrep d0 d1 d2 HR1
      go_wp2_with fail
      refine HR2.out.mono ?_
      rintro e wC ⟨bC, ⟨h, rfl⟩ | ⟨h, r2, rfl, hv2⟩⟩
      · exact absurd HDM'.out h
      have n2 := HNO.out (dg D + 1) r2 (Or.inr rfl) (by rw [HDG.out] at hv2; rw [show P + 1 - ((k + 1 : Nat) : Int) = P - k by omega] at hv2; exact hv2)
      have e2 : (r2 + b2i ng * 9223372036854775808 == x) = false := beq_eq_false_iff_ne.2 n2
      obtain ⟨y2, hy2⟩ : ∃ y, r2 + b2i ng * 9223372036854775808 = y := ⟨_, rfl⟩
      rw [hy2] at e2 ⊢
      have KL := hide (below_trans (below_trans K2 HBB.out) bC)
      clear n2 hv2 hy2 h bC m0 m1 m2 HR2
      go_wp2
      go_ret
      exact ⟨rfl, KL.out⟩
    | succ j =>
      have hvj : v = (j : Int) := by omega
      subst hvj
      have q0 : (0 : Int) ≤ (j : Int) := by omega
      have jk : j < k := by omega
      have cq := (HSL.out j (by omega)).1
      have fq := (HSL.out j (by omega)).2
      obtain ⟨eq1, eq2⟩ := HN.out.at_ HD.out.2.2
      rw [eq1] at cq
      obtain ⟨bq, hbq⟩ : ∃ bq, Nt.lb D j = bq := ⟨_, rfl⟩
      have hbr : 48 ≤ bq ∧ bq ≤ 57 := by rw [← hbq]; exact HD.out.1 _ (lb_in (by rw [HD.out.2.2]; omega))
      rw [hbq] at cq eq2
      have HQ := hide (And.intro hbq eq2)
      clear eq1 eq2 hbq hv
      by_cases h9 : bq = 57
      · subst h9
        have wj : IntKind.i64.wrap ((j : Int) - 1) = (j : Int) - 1 := by rw [IntKind.wrap_i64]; omega
        go_wp2
        go_roundw
        case rel =>
          exact ⟨j, (j : Int) - 1, Ls.set j 48, rfl, rfl, by omega, by rw [List.length_set]; exact hLl, hide (HN.out.down HD.out.2.2 HQ.out.1).1, hide (HSL.out.set (by omega) 48), hide (HBL.out.setCell (p := ⟨g, j, none⟩) (by rw [← HG.out]; exact Nat.le_refl _) _), by simpa using hgl⟩
        case measure => simp [intOf]
      · have e9 : (bq == 57) = false := beq_eq_false_iff_ne.2 h9
        have wb : IntKind.u8.wrap (bq + 1) = bq + 1 := by rw [IntKind.wrap_u8]; omega
        have KW := below_trans K2 HBL.out
        have cw := HC2.out.below HBL.out
        have c0 := cw.c0; have c2 := cw.c2
        have hcv := run_convert_bytes_arg (P := Tryz.prog) wr 73 5 Tryz.underlying73 Tryz.underlying5 g 0 k Cc Ls hLl (fun i hi => by rw [Nat.zero_add]; exact (HSL.out i (by rw [hLl]; exact hi)).1) 9 Tryz.underlying9
        have hadd : (⟨#[49]⟩ : ByteArray) ++ strOfNums Ls = strOfNums (49 :: Ls) := txt_join [49] Ls
        have hzL : (strOfNums Ls).size = k := by rw [strOfNums_size, hLl]
        obtain ⟨tL, htL⟩ : ∃ tL, strOfNums Ls = tL := ⟨_, rfl⟩
        obtain ⟨tM, htM⟩ : ∃ tM, strOfNums (49 :: Ls) = tM := ⟨_, rfl⟩
        rw [htL] at hcv hadd hzL
        rw [htM] at hadd
        have a1 : ¬ 9223372036854775807 < (1 : Nat) + tL.size := by omega
        have wP : IntKind.i64.wrap (P + 1) = P + 1 := by rw [IntKind.wrap_i64]; omega
        have CM := cell3_new wr (.bool ng) (.string tM) (.int .i64 (P + 1)) 32
        have KA := bel_new wr (.cells #[.bool ng, .string tM, .int .i64 (P + 1)] 32)
        have HTL := hide htL
        have HTM := hide htM
        clear htL htM cw
        go_upto_region 8 with fail
        clear hcv hadd c0 c2 cq fq
        have HBA := hide (HBL.out.trans (KA.mono HBL.out.size))
        have SA := HSL.out.below KA hgl
        have fM : ∀ i, (wr.alloc (.cells #[.bool ng, .string tM, .int .i64 (P + 1)] 32)).frozen? ⟨wr.heap.size, i, none⟩ = false := fun i => World.frozen?_alloc_at _ _ _ _ rfl
        have gA : g < (wr.alloc (.cells #[.bool ng, .string tM, .int .i64 (P + 1)] 32)).heap.size := Nat.lt_of_lt_of_le hgl KA.size
        generalize wr.alloc (.cells #[.bool ng, .string tM, .int .i64 (P + 1)] 32) = wA at *
        obtain ⟨bM, hbM⟩ : ∃ bM, bM = wr.heap.size := ⟨_, rfl⟩
        rw [← hbM] at CM fM ⊢
        have gM : g ≠ bM := by omega
        have wgM : w2.heap.size ≤ bM := by rw [hbM]; exact HBL.out.size
        clear hbM KA
        have cq := (SA j (by omega)).1
        have fq := (SA j (by omega)).2
        rw [(HN.out.at_ HD.out.2.2).1, HQ.out.1] at cq
        go_upto_region 10 with fail
        have SB := SA.set (i := j) (by omega) (bq + 1)
        have CB := CM.other (g := g) (n := j) (v := .int .u8 (bq + 1)) gM
        have fB : ∀ i, (wA.setCell ⟨g, j, none⟩ (.int .u8 (bq + 1))).frozen? ⟨bM, i, none⟩ = false := fun i => by rw [World.frozen?_setCell]; exact fM i
        have HBB := hide (HBA.out.setCell (p := ⟨g, j, none⟩) (by rw [← HG.out]; exact Nat.le_refl _) (.int .u8 (bq + 1)))
        clear cq fq fM CM SA HBA
        generalize wA.setCell ⟨g, j, none⟩ (.int .u8 (bq + 1)) = wB at *
        have cw := HC2.out.below HBB.out
        have c0 := cw.c0; have c2 := cw.c2
        have hLs : (Ls.set j (bq + 1)).length = k := by rw [List.length_set]; exact hLl
        have hcv := run_convert_bytes_arg (P := Tryz.prog) wB 73 5 Tryz.underlying73 Tryz.underlying5 g 0 k Cc (Ls.set j (bq + 1)) hLs (fun i hi => by rw [Nat.zero_add]; exact (SB i (by rw [hLs]; exact hi)).1) 9 Tryz.underlying9
        obtain ⟨tS, htS⟩ : ∃ tS, strOfNums (Ls.set j (bq + 1)) = tS := ⟨_, rfl⟩
        rw [htS] at hcv
        have m0 := CB.c0; have m1 := CB.c1; have m2 := CB.c2
        have f0 := fB 0; have f1 := fB 1; have f2 := fB 2
        go_upto_region 11 with fail
        have CP := CB.put (.bool ng) (.string tS) (.int .i64 P)
        have HBC := hide (((HBB.out.setCell (p := ⟨bM, 0, none⟩) wgM (.bool ng)).setCell (p := ⟨bM, 1, none⟩) wgM (.string tS)).setCell (p := ⟨bM, 2, none⟩) wgM (.int .i64 P))
        clear hcv c0 c2 m0 m1 m2 f0 f1 f2 CB fB HBB SB cw
        generalize ((wB.setCell ⟨bM, 0, none⟩ (.bool ng)).setCell ⟨bM, 1, none⟩ (.string tS)).setCell ⟨bM, 2, none⟩ (.int .i64 P) = wC at *
        have HTS := hide htS
        clear htS
        have TC := HT.out.below (below_trans K2 HBC.out)
        have cD := HD2.out.below HBC.out
        have d0 := cD.c0; have d1 := cD.c1; have d2 := cD.c2
        have HR1 := hide (dread_d TC (es := D) (s := tl) (N := k) (ng := ng) (P := P) HD.out.1.byt HD.out.2.1.symm HD.out.2.2 (by omega) (by omega) (by omega))
        have HM := hide CP
        clear CP TC cD
        go_wp2_with fail
        refine HR1.out.mono ?_
        rintro e wE ⟨bE, ⟨h, rfl⟩ | ⟨h, r1, rfl, hv1⟩⟩
        · exact absurd HD.out.1 h
        have n1 := HNO.out (dg D) r1 (Or.inl rfl) hv1
        have e1 : (r1 + b2i ng * 9223372036854775808 == x) = false := beq_eq_false_iff_ne.2 n1
        obtain ⟨y1, hy1⟩ : ∃ y, r1 + b2i ng * 9223372036854775808 = y := ⟨_, rfl⟩
        rw [hy1] at e1 ⊢
        have HBE := hide (HBC.out.trans (bE.mono HBC.out.size))
        have cM := HM.out.below bE
        have m0 := cM.c0; have m1 := cM.c1; have m2 := cM.c2
        have TE := HT.out.below (below_trans K2 HBE.out)
        have HLs := HN.out.ls
        have HDM : Dgt (Ls.set j (bq + 1)) := fun z hz => by
          rcases List.mem_or_eq_of_mem_set hz with h | h
          · rw [HLs] at h
            rcases List.mem_append.1 h with h | h
            · exact HD.out.1 z (List.mem_of_mem_take h)
            · rw [List.eq_of_mem_replicate h]; omega
          · omega
        have HR2 := hide (dread_d TE (es := Ls.set j (bq + 1)) (s := tS) (N := k) (ng := ng) (P := P) HDM.byt HTS.out.symm hLs (by omega) (by omega) (by omega))
        have HDM' := hide HDM
        clear n1 hv1 hy1 h bE cM TE HDM HLs d0 d1 d2 HR1
        go_wp2_with fail
        refine HR2.out.mono ?_
        rintro e wF ⟨bF, ⟨h, rfl⟩ | ⟨h, r2, rfl, hv2⟩⟩
        · exact absurd HDM'.out h
        have n2 := HNO.out (dg D + 1) r2 (Or.inr rfl) (by rw [HQ.out.2] at hv2; exact hv2)
        have e2 : (r2 + b2i ng * 9223372036854775808 == x) = false := beq_eq_false_iff_ne.2 n2
        obtain ⟨y2, hy2⟩ : ∃ y, r2 + b2i ng * 9223372036854775808 = y := ⟨_, rfl⟩
        rw [hy2] at e2 ⊢
        have KL := hide (below_trans (below_trans K2 HBE.out) bF)
        clear n2 hv2 hy2 h bF m0 m1 m2 HR2
        go_wp2
        go_ret
        exact ⟨rfl, KL.out⟩

end Go.Proofs.YtfnfnkakaggmbabGreatDoor
