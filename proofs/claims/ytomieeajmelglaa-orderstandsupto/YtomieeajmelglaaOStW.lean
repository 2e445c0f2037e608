/- OrderStands: the walk -/
import Derived.Test.YtomieeajmelglaaOUnW
import Derived.Test.YtomieeajmelglaaOStM
import Derived.Test.YtomieeajmelglaaOMrgC
import Derived.Test.YtomieeajmelglaaOFi0
import Derived.Test.YtomieeajmelglaaOHk
namespace Go.Proofs.Ytomieeajmelglaa
open Go.RowKit Go.Shelf
set_option linter.unusedVariables false
set_option linter.unusedSimpArgs false

theorem owns_rd {W : World} {base n : Nat} {v : Value} {l : List It} (h : W.ownsRow base 27 2 v n (flat l)) (hn : n = l.length) : ItRd (fun g => base ≤ g) W v l ∧ ∀ c, v = .slice none 0 c → c = 0 := by
  subst hn
  obtain ⟨h0, ⟨rfl, h1⟩ | ⟨g, cap, cur, rfl, h2, h3, h4, h5, h6, h7⟩⟩ := h
  · refine ⟨⟨none, 0, by rw [h1], by omega, by unfold maxLen; omega, fun hp => by omega⟩, fun c h => by cases h; rfl⟩
  · refine ⟨⟨_, cap, rfl, h4, h5, fun hp => ⟨g, 0, rfl, h2, (Array.getElem?_eq_some_iff.1 h3).1, fun i hi => ?_⟩⟩, fun c h => by cases h⟩
    obtain ⟨f1, f2⟩ := flat_get l i hi
    have l2 := flat_len l
    have t1 : ∀ j u, (flat l)[j]? = some u → W.cell? ⟨g, j, none⟩ = some u := fun j u hj => by
      have hjl : j < (flat l).length := (List.getElem?_eq_some_iff.1 hj).1
      have e : cur[j]? = some u := by
        rw [← h7, List.getElem?_take] at hj
        split at hj
        · simpa using hj
        · cases hj
      have := cell_of_row W g j cur _ _ h3
      rw [this]
      exact e
    have a1 := t1 _ _ f1
    have a2 := t1 _ _ f2
    simp only [Nat.zero_add]
    exact ⟨a1, a2⟩
theorem own12_no {B : Nat} {W : World} {v : Value} {l : List It} (h : Own12 B W v l) : ∀ c, v = .slice none 0 c → c = 0 := by
  rcases h with ⟨_, rfl⟩ | ⟨g, rfl, _⟩
  · intro c h
    cases h
    rfl
  · intro c h
    cases h
theorem ItRd.any {G : Nat → Prop} {W : World} {v : Value} {l : List It} (h : ItRd G W v l) : ItRd (fun _ => True) W v l := h.mono (fun _ _ _ => trivial)

set_option maxRecDepth 100000 in
set_option maxHeartbeats 8000000 in
theorem stands_any {w : World} {va vb : Value} {xs ys : List It} {o : Int} (ha : ItRd (fun _ => True) w va xs) (hb : ItRd (fun _ => True) w vb ys) (hl : xs.length ≤ 1048576) (hm : ys.length ≤ 1048576) :
    Calls Try.prog 5 #[va, vb, .int .i64 o] w fun e w' => e = .returned (.bool true) ∧ Below w.heap.size w w' := by
  have HB := hide hb
  have C1 := hide (numbered_any (d := 0) ha (by omega) (by omega))
  obtain ⟨ao, ca, rfl, -, -, -⟩ := ha
  obtain ⟨bo, cb, rfl, -, -, -⟩ := hb
  go_enter Try.func5, Try.ntmps5
  go_wp2_with fail
  refine C1.out.mono ?_
  rintro e w1 ⟨⟨v1, rfl, hO1⟩, k1⟩
  have PW := hide (nmb_both xs ys)
  have hAl := nmb_len 0 xs
  have hBl := nmb_len xs.length ys
  obtain ⟨R1, N1⟩ := owns_rd hO1 hAl.symm
  have C2 := hide (numbered_any (d := xs.length) (HB.out.far k1) (by omega) (by omega))
  obtain ⟨A, hA⟩ : ∃ A, nmb 0 xs = A := ⟨_, rfl⟩
  obtain ⟨B, hB⟩ : ∃ B, nmb xs.length ys = B := ⟨_, rfl⟩
  rw [hA] at PW R1 hAl
  rw [hB] at PW hBl C2
  have HAL := hide hAl
  have HBL := hide hBl
  have RA1 := hide R1.any
  have NA := hide N1
  have K1 := hide k1
  obtain ⟨a1, c1, rfl, -, -, -⟩ := R1
  clear k1 C1 HB hO1 hA N1 hAl
  go_wp2_with fail
  refine C2.out.mono ?_
  rintro e w2 ⟨⟨v2, rfl, hO2⟩, k2⟩
  obtain ⟨R2, N2⟩ := owns_rd hO2 HBL.out.symm
  have RA2 := hide (RA1.out.far k2)
  have RB2 := hide R2.any
  have NB := hide N2
  have K2 := hide (below_trans K1.out k2)
  obtain ⟨b2, c2, rfl, -, -, -⟩ := R2
  clear k2 C2 RA1 K1 hO2 hB N2 hBl
  have OW : Hid ((w2.alloc (.cells #[] 27)).ownsRow w2.heap.size 27 2 (.slice (some ⟨w2.heap.size, 0, none⟩) 0 0) 0 []) := hide (World.ownsRow_made w2 _ 0 (Nat.le_refl _) (by unfold maxLen; omega) (by simp))
  have SZ2 : Hid (A.length + B.length ≤ 2097152) := hide (by have := HAL.out; have := HBL.out; omega)
  go_wp2_with (at_builtin; refine wpList_append_items rfl _ _ rfl w2.heap.size _ 0 [] rfl OW.out _ A rfl (RA2.out.far ((Below.refl _ _).alloc (Nat.le_refl _) _)) NA.out (by have := SZ2.out; unfold maxLen; omega) (by have := SZ2.out; omega) (by simp) ?_)
  intro v3 w3 own3 bel3
  have OW3 := hide own3
  have K3 : Hid (Below w2.heap.size w2 w3) := hide (((Below.refl _ w2).alloc (Nat.le_refl _) _).trans bel3)
  clear own3 bel3 OW
  go_wp2_with (at_builtin; refine wpList_append_items rfl _ _ rfl w2.heap.size _ A.length _ rfl OW3.out _ B rfl (RB2.out.far K3.out) NB.out (by have := SZ2.out; unfold maxLen; omega) (by have := SZ2.out; omega) K3.out.size ?_)
  intro v4 w4 own4 bel4
  rw [← flat_append] at own4
  obtain ⟨L, hL⟩ : ∃ L, A ++ B = L := ⟨_, rfl⟩
  have hLl : L.length = A.length + B.length := by rw [← hL, List.length_append]
  have MW := hide (mrg_whole (o := o) PW.out)
  have PWL := PW.out
  rw [hL] at own4 MW PWL
  obtain ⟨R4, N4⟩ := owns_rd own4 (by omega)
  have RL4 := hide R4.any
  have K24 : Below w2.heap.size w2 w4 := K3.out.trans bel4
  have RA4 := hide (RA2.out.far K24)
  have RB4 := hide (RB2.out.far K24)
  have K4 := hide (below_trans K2.out K24)
  obtain ⟨l4, c4, rfl, -, -, -⟩ := R4
  have SL : Hid (L.length ≤ 2097152) := hide (by have := SZ2.out; omega)
  have HLL := hide hLl
  have PL := hide PWL
  clear own4 bel4 OW3 K3 K24 RA2 RB2 K2 PW PWL hL hLl NA NB N4
  have KK := K4
  clear K4
  go_wp2_with (go_at_call 10; (with_reducible refine by_any.mono ?_); rintro e w4 ⟨rfl, rfl⟩)
  have CC := hide (itsort_any (I := fun _ => True) (w := w4) (by have := SZ2.out; have := SL.out; omega) RA4.out (by_is o) trivial (fun _ _ _ _ => trivial))
  go_wp2_with fail
  refine CC.out.mono ?_
  rintro e w5 ⟨⟨v, rfl, hO⟩, k⟩
  replace RA4 := hide (RA4.out.far k)
  replace RB4 := hide (RB4.out.far k)
  replace RL4 := hide (RL4.out.far k)
  replace KK := hide (below_trans KK.out k)
  have RS := hide hO.rd.any
  have NORS := hide (own12_no hO)
  clear CC k
  obtain ⟨S, hS⟩ : ∃ z, srt (byF o) 1 A = z := ⟨_, rfl⟩
  have hSl : S.length = A.length := by rw [← hS]; exact (srt_perm (byF o) 1 A).length_eq
  have HLS := hide hSl
  rw [hS] at RS
  obtain ⟨pS, qS, eS, -, -, -⟩ := RS.out
  subst eS
  clear hO hSl
  rw [hS] at MW
  clear hS RA4
  go_wp2_with (go_at_call 10; (with_reducible refine by_any.mono ?_); rintro e w5 ⟨rfl, rfl⟩)
  have CC := hide (itsort_any (I := fun _ => True) (w := w5) (by have := SZ2.out; have := SL.out; omega) RB4.out (by_is o) trivial (fun _ _ _ _ => trivial))
  go_wp2_with fail
  refine CC.out.mono ?_
  rintro e w6 ⟨⟨v, rfl, hO⟩, k⟩
  replace RB4 := hide (RB4.out.far k)
  replace RL4 := hide (RL4.out.far k)
  replace RS := hide (RS.out.far k)
  replace KK := hide (below_trans KK.out k)
  have RT := hide hO.rd.any
  have NORT := hide (own12_no hO)
  clear CC k
  obtain ⟨T, hT⟩ : ∃ z, srt (byF o) 1 B = z := ⟨_, rfl⟩
  have hTl : T.length = B.length := by rw [← hT]; exact (srt_perm (byF o) 1 B).length_eq
  have HLT := hide hTl
  rw [hT] at RT
  obtain ⟨pT, qT, eT, -, -, -⟩ := RT.out
  subst eT
  clear hO hTl
  rw [hT] at MW
  clear hT RB4
  go_wp2_with (go_at_call 10; (with_reducible refine by_any.mono ?_); rintro e w6 ⟨rfl, rfl⟩)
  have CC := hide (itsort_any (I := fun _ => True) (w := w6) (by have := SZ2.out; have := SL.out; omega) RL4.out (by_is o) trivial (fun _ _ _ _ => trivial))
  go_wp2_with fail
  refine CC.out.mono ?_
  rintro e w7 ⟨⟨v, rfl, hO⟩, k⟩
  replace RL4 := hide (RL4.out.far k)
  replace RS := hide (RS.out.far k)
  replace RT := hide (RT.out.far k)
  replace KK := hide (below_trans KK.out k)
  have RU := hide hO.rd.any
  have NORU := hide (own12_no hO)
  clear CC k
  obtain ⟨U, hU⟩ : ∃ z, srt (byF o) 1 L = z := ⟨_, rfl⟩
  have hUl : U.length = L.length := by rw [← hU]; exact (srt_perm (byF o) 1 L).length_eq
  have HLU := hide hUl
  rw [hU] at RU
  obtain ⟨pU, qU, eU, -, -, -⟩ := RU.out
  subst eU
  clear hO hUl
  have SU : Hid (U.length ≤ 2097152) := hide (by have := SL.out; have := HLU.out; omega)
  have FU := hide (sort_rises o L)
  have FR := hide (srt_rs (o := o) PL.out)
  have FA := hide (srt_again (o := o) PL.out)
  have FT := hide (tw_once o L)
  have FP := hide (srt_perm (byF o) 1 L)
  rw [hU] at MW FU FR FA FT FP
  have NU := NORU
  clear hU
  have CC := hide (rises_any (o := o) RU.out (by have := SU.out; omega) (fun i h => fun e => by have h1 := (List.pairwise_iff_getElem.1 FU.out) i (i + 1) (by omega) h (by omega); have h2 := ocmp_lt.1 e; omega))
  go_wp2_with fail
  refine CC.out.mono ?_
  rintro e w8 ⟨rfl, k⟩
  replace RL4 := hide (RL4.out.far k)
  replace RS := hide (RS.out.far k)
  replace RT := hide (RT.out.far k)
  replace RU := hide (RU.out.far k)
  replace KK := hide (below_trans KK.out k)
  clear CC k
  have CC := hide (shuffled_any RU.out RL4.out (by have := SU.out; omega) FP.out)
  go_wp2_with fail
  refine CC.out.mono ?_
  rintro e w9 ⟨rfl, k⟩
  replace RL4 := hide (RL4.out.far k)
  replace RS := hide (RS.out.far k)
  replace RT := hide (RT.out.far k)
  replace RU := hide (RU.out.far k)
  replace KK := hide (below_trans KK.out k)
  clear CC k
  go_wp2_with (go_at_call 10; (with_reducible refine by_any.mono ?_); rintro e w9 ⟨rfl, rfl⟩)
  have CC := hide (itsort_any (I := fun _ => True) (w := w9) (by have := SU.out; omega) RU.out (by_is o) trivial (fun _ _ _ _ => trivial))
  go_wp2_with fail
  refine CC.out.mono ?_
  rintro e w10 ⟨⟨v, rfl, hO⟩, k⟩
  replace RL4 := hide (RL4.out.far k)
  replace RS := hide (RS.out.far k)
  replace RT := hide (RT.out.far k)
  replace RU := hide (RU.out.far k)
  replace KK := hide (below_trans KK.out k)
  rw [FA.out] at hO
  have RV := hide hO.rd.any
  obtain ⟨pV, qV, eV, -, -, -⟩ := RV.out
  subst eV
  clear hO
  clear CC k
  have CC := hide (osame_any RV.out RU.out)
  go_wp2_with fail
  refine CC.out.mono ?_
  rintro e w11 ⟨rfl, k⟩
  replace RL4 := hide (RL4.out.far k)
  replace RS := hide (RS.out.far k)
  replace RT := hide (RT.out.far k)
  replace RU := hide (RU.out.far k)
  replace KK := hide (below_trans KK.out k)
  clear RV
  clear CC k
  go_wp2_with (go_at_call 10; (with_reducible refine by_any.mono ?_); rintro e w11 ⟨rfl, rfl⟩)
  have CC := hide (merge_any (I := fun _ => True) (w := w11) RS.out RT.out (by have := SZ2.out; have := HLS.out; have := HLT.out; omega) (by_is o) trivial (fun _ _ _ _ => trivial))
  go_wp2_with fail
  refine CC.out.mono ?_
  rintro e w12 ⟨⟨v, rfl, hO⟩, k⟩
  replace RL4 := hide (RL4.out.far k)
  replace RU := hide (RU.out.far k)
  replace KK := hide (below_trans KK.out k)
  rw [MW.out] at hO
  have RV := hide hO.rd.any
  obtain ⟨pM, qM, eM, -, -, -⟩ := RV.out
  subst eM
  clear hO
  clear CC k
  have CC := hide (osame_any RV.out RU.out)
  go_wp2_with fail
  refine CC.out.mono ?_
  rintro e w13 ⟨rfl, k⟩
  replace RL4 := hide (RL4.out.far k)
  replace RU := hide (RU.out.far k)
  replace KK := hide (below_trans KK.out k)
  clear RV RS RT
  clear CC k
  have HR := hide (fun i (h : i + 1 < U.length) (e : ocmp o U[i] U[i + 1] = 0) => (show U[i].2 < U[i + 1].2 by
    have h1 := (List.pairwise_iff_getElem.1 FR.out) i (i + 1) (by omega) h (by omega)
    have h2 := ocmp_eq.1 e
    unfold Rs at h1
    omega))
  have QU : Hid (∀ W, ItRd (fun _ => True) W (.slice pU U.length qU) U → 0 < U.length → ∃ g o', pU = some ⟨g, o', none⟩ ∧ g < W.heap.size ∧ ItIn W g o' U) := hide (fun W h hp => by
    obtain ⟨ao', ca', h1, h2, h3, h4⟩ := h
    cases h1
    obtain ⟨g, o', h5, h6, h7, h8⟩ := h4 hp
    exact ⟨g, o', h5, h7, h8⟩)
  clear FA FR FU MW PL SZ2 SL HAL HBL HLS HLT
  go_wp2
  go_loopw [13] (fun p wr => ∃ (i : Nat), p = .int .i64 ((i : Int) + 1) ∧ (i + 1 ≤ U.length ∨ i = 0) ∧ Hid (Below w13.heap.size w13 wr)) (fun p _ => U.length - (intOf p).toNat)
  case atStart => exact ⟨0, rfl, Or.inr rfl, hide (Below.refl _ _)⟩
  case round =>
    obtain ⟨i, rfl, hi, hB⟩ := hrel
    by_cases hil : i + 1 < U.length
    · obtain ⟨ga, oa, rfl, hga, hin⟩ := QU.out _ RU.out (by omega)
      have hlt : i < U.length := by omega
      have HR0 := HR.out i hil
      obtain ⟨⟨y1, y2⟩, hy⟩ : ∃ y, U[i] = y := ⟨_, rfl⟩
      obtain ⟨⟨z1, z2⟩, hz⟩ : ∃ y, U[i + 1] = y := ⟨_, rfl⟩
      have qy := hin i hlt
      have qz := hin (i + 1) hil
      rw [hy] at qy HR0
      rw [hz] at qz HR0
      have CF : Hid (∀ V, Below wr.heap.size wr V → V.cell? ⟨ga, oa + i * 2, none⟩ = some (.int .i64 y1) ∧ V.cell? ⟨ga, oa + i * 2 + 1, none⟩ = some (.int .i64 y2) ∧ V.cell? ⟨ga, oa + (i + 1) * 2, none⟩ = some (.int .i64 z1) ∧ V.cell? ⟨ga, oa + (i + 1) * 2 + 1, none⟩ = some (.int .i64 z2)) := hide (fun V k => by
        have k2 := hB.out.trans (k.mono hB.out.size)
        exact ⟨(k2.cell (p := ⟨ga, _, none⟩) hga).trans qy.1, (k2.cell (p := ⟨ga, _, none⟩) hga).trans qy.2, (k2.cell (p := ⟨ga, _, none⟩) hga).trans qz.1, (k2.cell (p := ⟨ga, _, none⟩) hga).trans qz.2⟩)
      have HC := hide (fun (V : World) => ocmp_any (w := V) (o := o) (a := (y1, y2)) (b := (z1, z2)))
      obtain ⟨c, hc⟩ : ∃ c, ocmp o (y1, y2) (z1, z2) = c := ⟨_, rfl⟩
      rw [hc] at HC HR0
      have w0 : IntKind.i64.wrap ((i : Int) + 1 - 1) = (i : Int) := by have := SU.out; rw [IntKind.wrap_i64]; omega
      have w1 : IntKind.i64.wrap ((i : Int) + 1 + 1) = (i : Int) + 1 + 1 := by have := SU.out; rw [IntKind.wrap_i64]; omega
      have q0 : (i : Int) < (U.length : Int) := by omega
      obtain ⟨j, hj⟩ : ∃ j, i + 1 = j := ⟨_, rfl⟩
      have hjc : (i : Int) + 1 = (j : Int) := by omega
      rw [hj] at CF hil
      have q1 : (j : Int) < (U.length : Int) := by omega
      rw [hjc] at w0 w1 ⊢
      have HR1 := hide HR0
      clear hin qy qz hc hy hz HR0 hi QU
      by_cases hc0 : c = 0
      · subst hc0
        have q2 : ¬ z2 ≤ y2 := by have := HR1.out rfl; simp only at this; omega
        go_wp2
        have CC : ∀ u : World, Below wr.heap.size wr u → u.cell? ⟨ga, oa + i * 2, none⟩ = some (.int .i64 y1) ∧ u.cell? ⟨ga, oa + i * 2 + 1, none⟩ = some (.int .i64 y2) ∧ u.cell? ⟨ga, oa + j * 2, none⟩ = some (.int .i64 z1) ∧ u.cell? ⟨ga, oa + j * 2 + 1, none⟩ = some (.int .i64 z2) := fun u hu => CF.out u hu
        have K : Below wr.heap.size wr wr.drew := (Below.refl _ _).drew
        have HC0 := CC _ K
        refine wpHl.region0 (C := fun u => u.cell? ⟨ga, oa + i * 2, none⟩ = some (.int .i64 y1) ∧ u.cell? ⟨ga, oa + i * 2 + 1, none⟩ = some (.int .i64 y2) ∧ u.cell? ⟨ga, oa + j * 2, none⟩ = some (.int .i64 z1) ∧ u.cell? ⟨ga, oa + j * 2 + 1, none⟩ = some (.int .i64 z2)) (by kernel_rfl) (by kernel_rfl) (fun HS => ?_)
        refine wpHl.tk0 (i := 0) (d := some 75) (v := .int .i64 o) rfl HS (by as_aux_lemma => kernel_rfl) rfl (fun _ _ _ h => h) (Or.inl ⟨by rfl, ?_⟩) HC0 ?_
        · intro u hC
          go_simp
        simp only [Act.put, List.setIfInBounds_toArray, List.set_cons_zero, List.set_cons_succ]
        refine wpHl.tk0 (i := 1) (d := some 76) (v := .slice (some ⟨ga, oa, none⟩) U.length qU) rfl HS (by as_aux_lemma => kernel_rfl) rfl (fun _ _ _ h => h) (Or.inl ⟨by rfl, ?_⟩) HC0 ?_
        · intro u hC
          go_simp
        simp only [Act.put, List.setIfInBounds_toArray, List.set_cons_zero, List.set_cons_succ]
        refine wpHl.tk0 (i := 2) (d := some 77) (v := .int .i64 (j : Int)) rfl HS (by as_aux_lemma => kernel_rfl) rfl (fun _ _ _ h => h) (Or.inl ⟨by rfl, ?_⟩) HC0 ?_
        · intro u hC
          go_simp
        simp only [Act.put, List.setIfInBounds_toArray, List.set_cons_zero, List.set_cons_succ]
        refine wpHl.tk0 (i := 3) (d := some 78) (v := .int .i64 (i : Int)) rfl HS (by as_aux_lemma => kernel_rfl) rfl (fun _ _ _ h => h) (Or.inl ⟨by rfl, ?_⟩) HC0 ?_
        · intro u hC
          go_simp
        simp only [Act.put, List.setIfInBounds_toArray, List.set_cons_zero, List.set_cons_succ]
        refine wpHl.tk0 (i := 4) (d := some 79) (v := .pointer (some ⟨ga, oa + i * 2, none⟩)) rfl HS (by as_aux_lemma => kernel_rfl) rfl (fun _ _ _ h => h) (Or.inl ⟨by rfl, ?_⟩) HC0 ?_
        · intro u hC
          go_simp
        simp only [Act.put, List.setIfInBounds_toArray, List.set_cons_zero, List.set_cons_succ]
        refine wpHl.tk0 (i := 5) (d := some 80) (v := .agg #[.int .i64 y1, .int .i64 y2]) rfl HS (by as_aux_lemma => kernel_rfl) rfl (fun _ _ _ h => h) (Or.inl ⟨by rfl, ?_⟩) HC0 ?_
        · intro u hC
          obtain ⟨z0, z1, z2, z3⟩ := hC
          go_simp
        simp only [Act.put, List.setIfInBounds_toArray, List.set_cons_zero, List.set_cons_succ]
        refine wpHl.tk0 (i := 6) (d := some 81) (v := .slice (some ⟨ga, oa, none⟩) U.length qU) rfl HS (by as_aux_lemma => kernel_rfl) rfl (fun _ _ _ h => h) (Or.inl ⟨by rfl, ?_⟩) HC0 ?_
        · intro u hC
          go_simp
        simp only [Act.put, List.setIfInBounds_toArray, List.set_cons_zero, List.set_cons_succ]
        refine wpHl.tk0 (i := 7) (d := some 82) (v := .int .i64 (j : Int)) rfl HS (by as_aux_lemma => kernel_rfl) rfl (fun _ _ _ h => h) (Or.inl ⟨by rfl, ?_⟩) HC0 ?_
        · intro u hC
          go_simp
        simp only [Act.put, List.setIfInBounds_toArray, List.set_cons_zero, List.set_cons_succ]
        refine wpHl.tk0 (i := 8) (d := some 83) (v := .pointer (some ⟨ga, oa + j * 2, none⟩)) rfl HS (by as_aux_lemma => kernel_rfl) rfl (fun _ _ _ h => h) (Or.inl ⟨by rfl, ?_⟩) HC0 ?_
        · intro u hC
          go_simp
        simp only [Act.put, List.setIfInBounds_toArray, List.set_cons_zero, List.set_cons_succ]
        refine wpHl.tk0 (i := 9) (d := some 84) (v := .agg #[.int .i64 z1, .int .i64 z2]) rfl HS (by as_aux_lemma => kernel_rfl) rfl (fun _ _ _ h => h) (Or.inl ⟨by rfl, ?_⟩) HC0 ?_
        · intro u hC
          obtain ⟨z0, z1, z2, z3⟩ := hC
          go_simp
        simp only [Act.put, List.setIfInBounds_toArray, List.set_cons_zero, List.set_cons_succ]
        refine wpHl.one (i := 10) (by as_aux_lemma => kernel_rfl) rfl (fun K1 hK1 => ?_)
        rw [if_pos (by rfl)]
        refine wp_call_of (f := 23) (args := #[.int .i64 o, .agg #[.int .i64 y1, .int .i64 y2], .agg #[.int .i64 z1, .int .i64 z2]]) (by kernel_rfl) ?_
        with_reducible refine (HC.out _).mono ?_
        rintro e wn ⟨rfl, hb⟩
        replace K := below_trans K hb
        clear HC0
        have HC0 := CC _ K
        refine hK1 (Act.put _ (some 85) _) _ ⟨fun _ => HC0, ?_⟩
        clear hK1 K1 hb
        try simp only [Act.put, List.setIfInBounds_toArray, List.set_cons_zero, List.set_cons_succ]
        refine wpHl.tk0 (i := 11) (d := some 86) (v := .bool true) rfl HS (by as_aux_lemma => kernel_rfl) rfl (fun _ _ _ h => h) (Or.inl ⟨by rfl, ?_⟩) HC0 ?_
        · intro u hC
          go_simp
        simp only [Act.put, List.setIfInBounds_toArray, List.set_cons_zero, List.set_cons_succ]
        refine wpHl.tk0 (i := 12) (d := some 87) (v := .bool true) rfl HS (by as_aux_lemma => kernel_rfl) rfl (fun _ _ _ h => h) (Or.inl ⟨by rfl, ?_⟩) HC0 ?_
        · intro u hC
          go_simp
        simp only [Act.put, List.setIfInBounds_toArray, List.set_cons_zero, List.set_cons_succ]
        refine wpHl.tk0 (i := 13) (d := some 88) (v := .slice (some ⟨ga, oa, none⟩) U.length qU) rfl HS (by as_aux_lemma => kernel_rfl) rfl (fun _ _ _ h => h) (Or.inl ⟨by rfl, ?_⟩) HC0 ?_
        · intro u hC
          go_simp
        simp only [Act.put, List.setIfInBounds_toArray, List.set_cons_zero, List.set_cons_succ]
        refine wpHl.tk0 (i := 14) (d := some 89) (v := .int .i64 (j : Int)) rfl HS (by as_aux_lemma => kernel_rfl) rfl (fun _ _ _ h => h) (Or.inl ⟨by rfl, ?_⟩) HC0 ?_
        · intro u hC
          go_simp
        simp only [Act.put, List.setIfInBounds_toArray, List.set_cons_zero, List.set_cons_succ]
        refine wpHl.tk0 (i := 15) (d := some 90) (v := .int .i64 (i : Int)) rfl HS (by as_aux_lemma => kernel_rfl) rfl (fun _ _ _ h => h) (Or.inl ⟨by rfl, ?_⟩) HC0 ?_
        · intro u hC
          go_simp
        simp only [Act.put, List.setIfInBounds_toArray, List.set_cons_zero, List.set_cons_succ]
        refine wpHl.tk0 (i := 16) (d := some 91) (v := .pointer (some ⟨ga, oa + i * 2, none⟩)) rfl HS (by as_aux_lemma => kernel_rfl) rfl (fun _ _ _ h => h) (Or.inl ⟨by rfl, ?_⟩) HC0 ?_
        · intro u hC
          go_simp
        simp only [Act.put, List.setIfInBounds_toArray, List.set_cons_zero, List.set_cons_succ]
        refine wpHl.tk0 (i := 17) (d := some 92) (v := .pointer (some ⟨ga, oa + i * 2 + 1, none⟩)) rfl HS (by as_aux_lemma => kernel_rfl) rfl (fun _ _ _ h => h) (Or.inl ⟨by rfl, ?_⟩) HC0 ?_
        · intro u hC
          go_simp
        simp only [Act.put, List.setIfInBounds_toArray, List.set_cons_zero, List.set_cons_succ]
        refine wpHl.tk0 (i := 18) (d := some 93) (v := .int .i64 y2) rfl HS (by as_aux_lemma => kernel_rfl) rfl (fun _ _ _ h => h) (Or.inl ⟨by rfl, ?_⟩) HC0 ?_
        · intro u hC
          obtain ⟨z0, z1, z2, z3⟩ := hC
          go_simp
        simp only [Act.put, List.setIfInBounds_toArray, List.set_cons_zero, List.set_cons_succ]
        refine wpHl.tk0 (i := 19) (d := some 94) (v := .slice (some ⟨ga, oa, none⟩) U.length qU) rfl HS (by as_aux_lemma => kernel_rfl) rfl (fun _ _ _ h => h) (Or.inl ⟨by rfl, ?_⟩) HC0 ?_
        · intro u hC
          go_simp
        simp only [Act.put, List.setIfInBounds_toArray, List.set_cons_zero, List.set_cons_succ]
        refine wpHl.tk0 (i := 20) (d := some 95) (v := .int .i64 (j : Int)) rfl HS (by as_aux_lemma => kernel_rfl) rfl (fun _ _ _ h => h) (Or.inl ⟨by rfl, ?_⟩) HC0 ?_
        · intro u hC
          go_simp
        simp only [Act.put, List.setIfInBounds_toArray, List.set_cons_zero, List.set_cons_succ]
        refine wpHl.tk0 (i := 21) (d := some 96) (v := .pointer (some ⟨ga, oa + j * 2, none⟩)) rfl HS (by as_aux_lemma => kernel_rfl) rfl (fun _ _ _ h => h) (Or.inl ⟨by rfl, ?_⟩) HC0 ?_
        · intro u hC
          go_simp
        simp only [Act.put, List.setIfInBounds_toArray, List.set_cons_zero, List.set_cons_succ]
        refine wpHl.tk0 (i := 22) (d := some 97) (v := .pointer (some ⟨ga, oa + j * 2 + 1, none⟩)) rfl HS (by as_aux_lemma => kernel_rfl) rfl (fun _ _ _ h => h) (Or.inl ⟨by rfl, ?_⟩) HC0 ?_
        · intro u hC
          go_simp
        simp only [Act.put, List.setIfInBounds_toArray, List.set_cons_zero, List.set_cons_succ]
        refine wpHl.tk0 (i := 23) (d := some 98) (v := .int .i64 z2) rfl HS (by as_aux_lemma => kernel_rfl) rfl (fun _ _ _ h => h) (Or.inl ⟨by rfl, ?_⟩) HC0 ?_
        · intro u hC
          obtain ⟨z0, z1, z2, z3⟩ := hC
          go_simp
        simp only [Act.put, List.setIfInBounds_toArray, List.set_cons_zero, List.set_cons_succ]
        refine wpHl.tk0 (i := 24) (d := some 99) (v := .bool false) rfl HS (by as_aux_lemma => kernel_rfl) rfl (fun _ _ _ h => h) (Or.inl ⟨by rfl, ?_⟩) HC0 ?_
        · intro u hC
          go_simp
        simp only [Act.put, List.setIfInBounds_toArray, List.set_cons_zero, List.set_cons_succ]
        refine wpHl.tk0 (i := 25) (d := some 100) (v := .bool false) rfl HS (by as_aux_lemma => kernel_rfl) rfl (fun _ _ _ h => h) (Or.inl ⟨by rfl, ?_⟩) HC0 ?_
        · intro u hC
          go_simp
        simp only [Act.put, List.setIfInBounds_toArray, List.set_cons_zero, List.set_cons_succ]
        refine wpHl.done (by as_aux_lemma => kernel_rfl) ?_ _
        clear CC HC0 HS
        have HB9 := hide (hB.out.trans (K.mono hB.out.size))
        clear K
        go_wp2
        go_roundw
        case rel => exact ⟨j, by first | rfl | simp, by omega, HB9⟩
        case measure => simp [intOf]; omega
      · go_wp2
        have CC : ∀ u : World, Below wr.heap.size wr u → u.cell? ⟨ga, oa + i * 2, none⟩ = some (.int .i64 y1) ∧ u.cell? ⟨ga, oa + i * 2 + 1, none⟩ = some (.int .i64 y2) ∧ u.cell? ⟨ga, oa + j * 2, none⟩ = some (.int .i64 z1) ∧ u.cell? ⟨ga, oa + j * 2 + 1, none⟩ = some (.int .i64 z2) := fun u hu => CF.out u hu
        have K : Below wr.heap.size wr wr.drew := (Below.refl _ _).drew
        have HC0 := CC _ K
        refine wpHl.region0 (C := fun u => u.cell? ⟨ga, oa + i * 2, none⟩ = some (.int .i64 y1) ∧ u.cell? ⟨ga, oa + i * 2 + 1, none⟩ = some (.int .i64 y2) ∧ u.cell? ⟨ga, oa + j * 2, none⟩ = some (.int .i64 z1) ∧ u.cell? ⟨ga, oa + j * 2 + 1, none⟩ = some (.int .i64 z2)) (by kernel_rfl) (by kernel_rfl) (fun HS => ?_)
        refine wpHl.tk0 (i := 0) (d := some 75) (v := .int .i64 o) rfl HS (by as_aux_lemma => kernel_rfl) rfl (fun _ _ _ h => h) (Or.inl ⟨by rfl, ?_⟩) HC0 ?_
        · intro u hC
          go_simp
        simp only [Act.put, List.setIfInBounds_toArray, List.set_cons_zero, List.set_cons_succ]
        refine wpHl.tk0 (i := 1) (d := some 76) (v := .slice (some ⟨ga, oa, none⟩) U.length qU) rfl HS (by as_aux_lemma => kernel_rfl) rfl (fun _ _ _ h => h) (Or.inl ⟨by rfl, ?_⟩) HC0 ?_
        · intro u hC
          go_simp
        simp only [Act.put, List.setIfInBounds_toArray, List.set_cons_zero, List.set_cons_succ]
        refine wpHl.tk0 (i := 2) (d := some 77) (v := .int .i64 (j : Int)) rfl HS (by as_aux_lemma => kernel_rfl) rfl (fun _ _ _ h => h) (Or.inl ⟨by rfl, ?_⟩) HC0 ?_
        · intro u hC
          go_simp
        simp only [Act.put, List.setIfInBounds_toArray, List.set_cons_zero, List.set_cons_succ]
        refine wpHl.tk0 (i := 3) (d := some 78) (v := .int .i64 (i : Int)) rfl HS (by as_aux_lemma => kernel_rfl) rfl (fun _ _ _ h => h) (Or.inl ⟨by rfl, ?_⟩) HC0 ?_
        · intro u hC
          go_simp
        simp only [Act.put, List.setIfInBounds_toArray, List.set_cons_zero, List.set_cons_succ]
        refine wpHl.tk0 (i := 4) (d := some 79) (v := .pointer (some ⟨ga, oa + i * 2, none⟩)) rfl HS (by as_aux_lemma => kernel_rfl) rfl (fun _ _ _ h => h) (Or.inl ⟨by rfl, ?_⟩) HC0 ?_
        · intro u hC
          go_simp
        simp only [Act.put, List.setIfInBounds_toArray, List.set_cons_zero, List.set_cons_succ]
        refine wpHl.tk0 (i := 5) (d := some 80) (v := .agg #[.int .i64 y1, .int .i64 y2]) rfl HS (by as_aux_lemma => kernel_rfl) rfl (fun _ _ _ h => h) (Or.inl ⟨by rfl, ?_⟩) HC0 ?_
        · intro u hC
          obtain ⟨z0, z1, z2, z3⟩ := hC
          go_simp
        simp only [Act.put, List.setIfInBounds_toArray, List.set_cons_zero, List.set_cons_succ]
        refine wpHl.tk0 (i := 6) (d := some 81) (v := .slice (some ⟨ga, oa, none⟩) U.length qU) rfl HS (by as_aux_lemma => kernel_rfl) rfl (fun _ _ _ h => h) (Or.inl ⟨by rfl, ?_⟩) HC0 ?_
        · intro u hC
          go_simp
        simp only [Act.put, List.setIfInBounds_toArray, List.set_cons_zero, List.set_cons_succ]
        refine wpHl.tk0 (i := 7) (d := some 82) (v := .int .i64 (j : Int)) rfl HS (by as_aux_lemma => kernel_rfl) rfl (fun _ _ _ h => h) (Or.inl ⟨by rfl, ?_⟩) HC0 ?_
        · intro u hC
          go_simp
        simp only [Act.put, List.setIfInBounds_toArray, List.set_cons_zero, List.set_cons_succ]
        refine wpHl.tk0 (i := 8) (d := some 83) (v := .pointer (some ⟨ga, oa + j * 2, none⟩)) rfl HS (by as_aux_lemma => kernel_rfl) rfl (fun _ _ _ h => h) (Or.inl ⟨by rfl, ?_⟩) HC0 ?_
        · intro u hC
          go_simp
        simp only [Act.put, List.setIfInBounds_toArray, List.set_cons_zero, List.set_cons_succ]
        refine wpHl.tk0 (i := 9) (d := some 84) (v := .agg #[.int .i64 z1, .int .i64 z2]) rfl HS (by as_aux_lemma => kernel_rfl) rfl (fun _ _ _ h => h) (Or.inl ⟨by rfl, ?_⟩) HC0 ?_
        · intro u hC
          obtain ⟨z0, z1, z2, z3⟩ := hC
          go_simp
        simp only [Act.put, List.setIfInBounds_toArray, List.set_cons_zero, List.set_cons_succ]
        refine wpHl.one (i := 10) (by as_aux_lemma => kernel_rfl) rfl (fun K1 hK1 => ?_)
        rw [if_pos (by rfl)]
        refine wp_call_of (f := 23) (args := #[.int .i64 o, .agg #[.int .i64 y1, .int .i64 y2], .agg #[.int .i64 z1, .int .i64 z2]]) (by kernel_rfl) ?_
        with_reducible refine (HC.out _).mono ?_
        rintro e wn ⟨rfl, hb⟩
        replace K := below_trans K hb
        clear HC0
        have HC0 := CC _ K
        refine hK1 (Act.put _ (some 85) _) _ ⟨fun _ => HC0, ?_⟩
        clear hK1 K1 hb
        try simp only [Act.put, List.setIfInBounds_toArray, List.set_cons_zero, List.set_cons_succ]
        refine wpHl.tk0 (i := 11) (d := some 86) (v := .bool false) rfl HS (by as_aux_lemma => kernel_rfl) rfl (fun _ _ _ h => h) (Or.inl ⟨by rfl, ?_⟩) HC0 ?_
        · intro u hC
          go_simp
        simp only [Act.put, List.setIfInBounds_toArray, List.set_cons_zero, List.set_cons_succ]
        refine wpHl.tk0 (i := 12) (d := some 87) (v := .bool false) rfl HS (by as_aux_lemma => kernel_rfl) rfl (fun _ _ _ h => h) (Or.inl ⟨by rfl, ?_⟩) HC0 ?_
        · intro u hC
          go_simp
        simp only [Act.put, List.setIfInBounds_toArray, List.set_cons_zero, List.set_cons_succ]
        refine wpHl.tk0 (i := 13) (d := some 88) (v := undef) rfl HS (by as_aux_lemma => kernel_rfl) rfl (fun _ _ _ h => h) (Or.inr ⟨by rfl, rfl⟩) HC0 ?_
        simp only [Act.put, List.setIfInBounds_toArray, List.set_cons_zero, List.set_cons_succ]
        refine wpHl.tk0 (i := 14) (d := some 89) (v := undef) rfl HS (by as_aux_lemma => kernel_rfl) rfl (fun _ _ _ h => h) (Or.inr ⟨by rfl, rfl⟩) HC0 ?_
        simp only [Act.put, List.setIfInBounds_toArray, List.set_cons_zero, List.set_cons_succ]
        refine wpHl.tk0 (i := 15) (d := some 90) (v := undef) rfl HS (by as_aux_lemma => kernel_rfl) rfl (fun _ _ _ h => h) (Or.inr ⟨by rfl, rfl⟩) HC0 ?_
        simp only [Act.put, List.setIfInBounds_toArray, List.set_cons_zero, List.set_cons_succ]
        refine wpHl.tk0 (i := 16) (d := some 91) (v := undef) rfl HS (by as_aux_lemma => kernel_rfl) rfl (fun _ _ _ h => h) (Or.inr ⟨by rfl, rfl⟩) HC0 ?_
        simp only [Act.put, List.setIfInBounds_toArray, List.set_cons_zero, List.set_cons_succ]
        refine wpHl.tk0 (i := 17) (d := some 92) (v := undef) rfl HS (by as_aux_lemma => kernel_rfl) rfl (fun _ _ _ h => h) (Or.inr ⟨by rfl, rfl⟩) HC0 ?_
        simp only [Act.put, List.setIfInBounds_toArray, List.set_cons_zero, List.set_cons_succ]
        refine wpHl.tk0 (i := 18) (d := some 93) (v := undef) rfl HS (by as_aux_lemma => kernel_rfl) rfl (fun _ _ _ h => h) (Or.inr ⟨by rfl, rfl⟩) HC0 ?_
        simp only [Act.put, List.setIfInBounds_toArray, List.set_cons_zero, List.set_cons_succ]
        refine wpHl.tk0 (i := 19) (d := some 94) (v := undef) rfl HS (by as_aux_lemma => kernel_rfl) rfl (fun _ _ _ h => h) (Or.inr ⟨by rfl, rfl⟩) HC0 ?_
        simp only [Act.put, List.setIfInBounds_toArray, List.set_cons_zero, List.set_cons_succ]
        refine wpHl.tk0 (i := 20) (d := some 95) (v := undef) rfl HS (by as_aux_lemma => kernel_rfl) rfl (fun _ _ _ h => h) (Or.inr ⟨by rfl, rfl⟩) HC0 ?_
        simp only [Act.put, List.setIfInBounds_toArray, List.set_cons_zero, List.set_cons_succ]
        refine wpHl.tk0 (i := 21) (d := some 96) (v := undef) rfl HS (by as_aux_lemma => kernel_rfl) rfl (fun _ _ _ h => h) (Or.inr ⟨by rfl, rfl⟩) HC0 ?_
        simp only [Act.put, List.setIfInBounds_toArray, List.set_cons_zero, List.set_cons_succ]
        refine wpHl.tk0 (i := 22) (d := some 97) (v := undef) rfl HS (by as_aux_lemma => kernel_rfl) rfl (fun _ _ _ h => h) (Or.inr ⟨by rfl, rfl⟩) HC0 ?_
        simp only [Act.put, List.setIfInBounds_toArray, List.set_cons_zero, List.set_cons_succ]
        refine wpHl.tk0 (i := 23) (d := some 98) (v := undef) rfl HS (by as_aux_lemma => kernel_rfl) rfl (fun _ _ _ h => h) (Or.inr ⟨by rfl, rfl⟩) HC0 ?_
        simp only [Act.put, List.setIfInBounds_toArray, List.set_cons_zero, List.set_cons_succ]
        refine wpHl.tk0 (i := 24) (d := some 99) (v := undef) rfl HS (by as_aux_lemma => kernel_rfl) rfl (fun _ _ _ h => h) (Or.inr ⟨by rfl, rfl⟩) HC0 ?_
        simp only [Act.put, List.setIfInBounds_toArray, List.set_cons_zero, List.set_cons_succ]
        refine wpHl.tk0 (i := 25) (d := some 100) (v := .bool false) rfl HS (by as_aux_lemma => kernel_rfl) rfl (fun _ _ _ h => h) (Or.inl ⟨by rfl, ?_⟩) HC0 ?_
        · intro u hC
          go_simp
        simp only [Act.put, List.setIfInBounds_toArray, List.set_cons_zero, List.set_cons_succ]
        refine wpHl.done (by as_aux_lemma => kernel_rfl) ?_ _
        clear CC HC0 HS
        have HB9 := hide (hB.out.trans (K.mono hB.out.size))
        clear K
        go_wp2
        go_roundw
        case rel => exact ⟨j, by first | rfl | simp, by omega, HB9⟩
        case measure => simp [intOf]; omega
    · have q1 : ¬ (i : Int) + 1 < (U.length : Int) := by omega
      have KR := hide (KK.out.trans (hB.out.mono KK.out.size))
      have RU2 := hide (RU.out.far hB.out)
      have RL2 := hide (RL4.out.far hB.out)
      clear hB RU RL4 KK HR hi hil
      go_wp2_with (go_at_call 10; (with_reducible refine by_any.mono ?_); rintro e w14 ⟨rfl, rfl⟩)
      have CC := hide (unique_any (I := fun _ => True) (w := w14) RU2.out NU.out (by have := SU.out; omega) (by_is o) trivial (fun _ _ _ _ => trivial))
      go_wp2_with fail
      refine CC.out.mono ?_
      rintro e w15 ⟨⟨v, rfl, hO⟩, k⟩
      rw [unq_fs] at hO FT
      obtain ⟨RE, NE⟩ := owns_rd hO rfl
      have RN := hide RE.any
      have RU := hide (RU2.out.far k)
      have RL := hide (RL2.out.far k)
      have KK := hide (below_trans KR.out k)
      have FL := hide (fs1_le (byF o) U)
      have F1 := hide (fun i (hi : i < U.length) => fs1_at' (byF o) (0, 0) U hi)
      have F2 := hide (fun i (hi : i < U.length) => fs1_not (byF o) (0, 0) U hi)
      obtain ⟨N, hN⟩ : ∃ N, fs1 (byF o) U = N := ⟨_, rfl⟩
      have F3 : Hid (fs1 (byF o) (U.take U.length) = N) := hide (by rw [List.take_length]; exact hN)
      rw [hN] at RE RN FT F1 FL
      obtain ⟨pN, qN, eN, -, -, -⟩ := RE
      subst eN
      have QN : Hid (∀ W, ItRd (fun _ => True) W (.slice pN N.length qN) N → 0 < N.length → ∃ g o', pN = some ⟨g, o', none⟩ ∧ g < W.heap.size ∧ ItIn W g o' N) := hide (fun W h hp => by
        obtain ⟨ao', ca', h1, h2, h3, h4⟩ := h
        cases h1
        obtain ⟨g, o', h5, h6, h7, h8⟩ := h4 hp
        exact ⟨g, o', h5, h7, h8⟩)
      clear CC k RU2 RL2 KR hO NE hN
      go_wp2
      go_loopw [15, 16] (fun q p wr => ∃ (i : Nat), q = .int .i64 ((fs1 (byF o) (U.take i)).length : Nat) ∧ p = .int .i64 i ∧ i ≤ U.length ∧ Hid (Below w15.heap.size w15 wr)) (fun _ p _ => U.length - (intOf p).toNat)
      case atStart => exact ⟨0, by simp [fs1], rfl, by omega, hide (Below.refl _ _)⟩
      case round =>
        obtain ⟨i, rfl, rfl, hi, hB⟩ := hrel
        by_cases hil : i < U.length
        · obtain ⟨ga, oa, rfl, hga, hin⟩ := QU.out _ RU.out (by omega)
          have G1 := F1.out i hil
          have G2 := F2.out i hil
          obtain ⟨n, hn⟩ : ∃ n, (fs1 (byF o) (U.take i)).length = n := ⟨_, rfl⟩
          have hnU : n ≤ U.length := by rw [← hn]; exact Nat.le_trans (fs1_le _ _) (by rw [List.length_take]; omega)
          replace G2 := fun h => (congrArg List.length (G2 h)).trans hn
          rw [hn] at G1
          rw [hn]
          clear hn
          obtain ⟨⟨y1, y2⟩, hy⟩ : ∃ y, U[i] = y := ⟨_, rfl⟩
          have qy := hin i hil
          rw [hy] at qy G1 G2
          have wn1 : IntKind.i64.wrap ((n : Int) + 1) = (n : Int) + 1 := by have := SU.out; rw [IntKind.wrap_i64]; omega
          by_cases h0 : i = 0
          · subst h0
            obtain ⟨hnN, hNy, hns⟩ := G1 (.inl rfl)
            obtain ⟨gb, ob, rfl, hgb, hinb⟩ := QN.out _ RN.out (by omega)
            have qb := hinb n hnN
            rw [get_of hnN hNy] at qb
            simp only [Nat.zero_mul, Nat.add_zero] at qy
            have q1 : (0 : Int) < (U.length : Int) := by omega
            have m1 : (n : Int) < (N.length : Int) := by omega
            have m2 : ¬ (N.length : Int) ≤ (n : Int) := by omega
            have CF : ∀ V, Below wr.heap.size wr V → True := fun _ _ => trivial
            have HNS := hide hns
            have CE := hide (fun V (k : Below w15.heap.size w15 V) => (show V.cell? ⟨ga, oa, none⟩ = some (.int .i64 y1) ∧ V.cell? ⟨ga, oa + 1, none⟩ = some (.int .i64 y2) ∧ V.cell? ⟨gb, ob + n * 2, none⟩ = some (.int .i64 y1) ∧ V.cell? ⟨gb, ob + n * 2 + 1, none⟩ = some (.int .i64 y2) from ⟨(k.cell (p := ⟨ga, _, none⟩) hga).trans qy.1, (k.cell (p := ⟨ga, _, none⟩) hga).trans qy.2, (k.cell (p := ⟨gb, _, none⟩) hgb).trans qb.1, (k.cell (p := ⟨gb, _, none⟩) hgb).trans qb.2⟩))
            clear hin hinb qy qb G1 G2 hNy hy hns QU QN
            go_wp2
            have CC : ∀ u : World, Below wr.heap.size wr u → True := fun u hu => CF u hu
            have K : Below wr.heap.size wr wr.drew := (Below.refl _ _).drew
            have HC0 := CC _ K
            refine wpHl.region0 (C := fun u => True) (by kernel_rfl) (by kernel_rfl) (fun HS => ?_)
            refine wpHl.tk0 (i := 0) (d := some 111) (v := .int .i64 0) rfl HS (by as_aux_lemma => kernel_rfl) rfl (fun _ _ _ h => h) (Or.inl ⟨by rfl, ?_⟩) HC0 ?_
            · intro u hC
              go_simp
            simp only [Act.put, List.setIfInBounds_toArray, List.set_cons_zero, List.set_cons_succ]
            refine wpHl.tk0 (i := 1) (d := some 112) (v := .bool true) rfl HS (by as_aux_lemma => kernel_rfl) rfl (fun _ _ _ h => h) (Or.inl ⟨by rfl, ?_⟩) HC0 ?_
            · intro u hC
              go_simp
            simp only [Act.put, List.setIfInBounds_toArray, List.set_cons_zero, List.set_cons_succ]
            refine wpHl.tk0 (i := 2) (d := some 113) (v := .bool true) rfl HS (by as_aux_lemma => kernel_rfl) rfl (fun _ _ _ h => h) (Or.inl ⟨by rfl, ?_⟩) HC0 ?_
            · intro u hC
              go_simp
            simp only [Act.put, List.setIfInBounds_toArray, List.set_cons_zero, List.set_cons_succ]
            refine wpHl.tk0 (i := 3) (d := some 114) (v := undef) rfl HS (by as_aux_lemma => kernel_rfl) rfl (fun _ _ _ h => h) (Or.inr ⟨by rfl, rfl⟩) HC0 ?_
            simp only [Act.put, List.setIfInBounds_toArray, List.set_cons_zero, List.set_cons_succ]
            refine wpHl.tk0 (i := 4) (d := some 115) (v := undef) rfl HS (by as_aux_lemma => kernel_rfl) rfl (fun _ _ _ h => h) (Or.inr ⟨by rfl, rfl⟩) HC0 ?_
            simp only [Act.put, List.setIfInBounds_toArray, List.set_cons_zero, List.set_cons_succ]
            refine wpHl.tk0 (i := 5) (d := some 116) (v := undef) rfl HS (by as_aux_lemma => kernel_rfl) rfl (fun _ _ _ h => h) (Or.inr ⟨by rfl, rfl⟩) HC0 ?_
            simp only [Act.put, List.setIfInBounds_toArray, List.set_cons_zero, List.set_cons_succ]
            refine wpHl.tk0 (i := 6) (d := some 117) (v := undef) rfl HS (by as_aux_lemma => kernel_rfl) rfl (fun _ _ _ h => h) (Or.inr ⟨by rfl, rfl⟩) HC0 ?_
            simp only [Act.put, List.setIfInBounds_toArray, List.set_cons_zero, List.set_cons_succ]
            refine wpHl.tk0 (i := 7) (d := some 118) (v := undef) rfl HS (by as_aux_lemma => kernel_rfl) rfl (fun _ _ _ h => h) (Or.inr ⟨by rfl, rfl⟩) HC0 ?_
            simp only [Act.put, List.setIfInBounds_toArray, List.set_cons_zero, List.set_cons_succ]
            refine wpHl.tk0 (i := 8) (d := some 119) (v := undef) rfl HS (by as_aux_lemma => kernel_rfl) rfl (fun _ _ _ h => h) (Or.inr ⟨by rfl, rfl⟩) HC0 ?_
            simp only [Act.put, List.setIfInBounds_toArray, List.set_cons_zero, List.set_cons_succ]
            refine wpHl.tk0 (i := 9) (d := some 120) (v := undef) rfl HS (by as_aux_lemma => kernel_rfl) rfl (fun _ _ _ h => h) (Or.inr ⟨by rfl, rfl⟩) HC0 ?_
            simp only [Act.put, List.setIfInBounds_toArray, List.set_cons_zero, List.set_cons_succ]
            refine wpHl.tk0 (i := 10) (d := some 121) (v := undef) rfl HS (by as_aux_lemma => kernel_rfl) rfl (fun _ _ _ h => h) (Or.inr ⟨by rfl, rfl⟩) HC0 ?_
            simp only [Act.put, List.setIfInBounds_toArray, List.set_cons_zero, List.set_cons_succ]
            refine wpHl.tk0 (i := 11) (d := some 122) (v := undef) rfl HS (by as_aux_lemma => kernel_rfl) rfl (fun _ _ _ h => h) (Or.inr ⟨by rfl, rfl⟩) HC0 ?_
            simp only [Act.put, List.setIfInBounds_toArray, List.set_cons_zero, List.set_cons_succ]
            refine wpHl.tk0 (i := 12) (d := some 123) (v := undef) rfl HS (by as_aux_lemma => kernel_rfl) rfl (fun _ _ _ h => h) (Or.inr ⟨by rfl, rfl⟩) HC0 ?_
            simp only [Act.put, List.setIfInBounds_toArray, List.set_cons_zero, List.set_cons_succ]
            refine wpHl.one (i := 13) (by as_aux_lemma => kernel_rfl) rfl (fun K1 hK1 => ?_)
            refine hK1 (Act.put _ (some 124) undef) _ ⟨fun _ => HC0, ?_⟩
            clear hK1 K1
            try simp only [Act.put, List.setIfInBounds_toArray, List.set_cons_zero, List.set_cons_succ]
            refine wpHl.tk0 (i := 14) (d := some 125) (v := undef) rfl HS (by as_aux_lemma => kernel_rfl) rfl (fun _ _ _ h => h) (Or.inr ⟨by rfl, rfl⟩) HC0 ?_
            simp only [Act.put, List.setIfInBounds_toArray, List.set_cons_zero, List.set_cons_succ]
            refine wpHl.tk0 (i := 15) (d := some 126) (v := .bool true) rfl HS (by as_aux_lemma => kernel_rfl) rfl (fun _ _ _ h => h) (Or.inl ⟨by rfl, ?_⟩) HC0 ?_
            · intro u hC
              go_simp
            simp only [Act.put, List.setIfInBounds_toArray, List.set_cons_zero, List.set_cons_succ]
            refine wpHl.done (by as_aux_lemma => kernel_rfl) ?_ _
            clear CC HC0 HS
            have KB := hB.out.trans (K.mono hB.out.size)
            obtain ⟨d1, d2, d3, d4⟩ := CE.out _ KB
            replace KB := hide KB
            clear K CF
            obtain ⟨wz, hwz⟩ : ∃ z, wr.drew = z := ⟨_, rfl⟩
            rw [hwz] at KB ⊢
            have CE2 : Hid (∀ V, Below wz.heap.size wz V → V.cell? ⟨ga, oa, none⟩ = some (.int .i64 y1) ∧ V.cell? ⟨ga, oa + 1, none⟩ = some (.int .i64 y2) ∧ V.cell? ⟨gb, ob + n * 2, none⟩ = some (.int .i64 y1) ∧ V.cell? ⟨gb, ob + n * 2 + 1, none⟩ = some (.int .i64 y2)) := hide (fun V kk => CE.out V (KB.out.trans (kk.mono KB.out.size)))
            clear d1 d2 d3 d4 hwz
            go_wp2
            have CC : ∀ u : World, Below wz.heap.size wz u → u.cell? ⟨ga, oa, none⟩ = some (.int .i64 y1) ∧ u.cell? ⟨ga, oa + 1, none⟩ = some (.int .i64 y2) ∧ u.cell? ⟨gb, ob + n * 2, none⟩ = some (.int .i64 y1) ∧ u.cell? ⟨gb, ob + n * 2 + 1, none⟩ = some (.int .i64 y2) := fun u hu => CE2.out u hu
            have K : Below wz.heap.size wz wz.drew := (Below.refl _ _).drew
            have HC0 := CC _ K
            refine wpHl.region0 (C := fun u => u.cell? ⟨ga, oa, none⟩ = some (.int .i64 y1) ∧ u.cell? ⟨ga, oa + 1, none⟩ = some (.int .i64 y2) ∧ u.cell? ⟨gb, ob + n * 2, none⟩ = some (.int .i64 y1) ∧ u.cell? ⟨gb, ob + n * 2 + 1, none⟩ = some (.int .i64 y2)) (by kernel_rfl) (by kernel_rfl) (fun HS => ?_)
            refine wpHl.tk0 (i := 0) (d := some 127) (v := .int .i64 (n : Int)) rfl HS (by as_aux_lemma => kernel_rfl) rfl (fun _ _ _ h => h) (Or.inl ⟨by rfl, ?_⟩) HC0 ?_
            · intro u hC
              go_simp
            simp only [Act.put, List.setIfInBounds_toArray, List.set_cons_zero, List.set_cons_succ]
            refine wpHl.tk0 (i := 1) (d := some 128) (v := .slice (some ⟨gb, ob, none⟩) N.length qN) rfl HS (by as_aux_lemma => kernel_rfl) rfl (fun _ _ _ h => h) (Or.inl ⟨by rfl, ?_⟩) HC0 ?_
            · intro u hC
              go_simp
            simp only [Act.put, List.setIfInBounds_toArray, List.set_cons_zero, List.set_cons_succ]
            refine wpHl.tk0 (i := 2) (d := some 129) (v := .int .i64 (N.length : Int)) rfl HS (by as_aux_lemma => kernel_rfl) rfl (fun _ _ _ h => h) (Or.inl ⟨by rfl, ?_⟩) HC0 ?_
            · intro u hC
              go_simp
            simp only [Act.put, List.setIfInBounds_toArray, List.set_cons_zero, List.set_cons_succ]
            refine wpHl.tk0 (i := 3) (d := some 130) (v := .bool false) rfl HS (by as_aux_lemma => kernel_rfl) rfl (fun _ _ _ h => h) (Or.inl ⟨by rfl, ?_⟩) HC0 ?_
            · intro u hC
              go_simp
            simp only [Act.put, List.setIfInBounds_toArray, List.set_cons_zero, List.set_cons_succ]
            refine wpHl.tk0 (i := 4) (d := some 131) (v := .bool false) rfl HS (by as_aux_lemma => kernel_rfl) rfl (fun _ _ _ h => h) (Or.inl ⟨by rfl, ?_⟩) HC0 ?_
            · intro u hC
              go_simp
            simp only [Act.put, List.setIfInBounds_toArray, List.set_cons_zero, List.set_cons_succ]
            refine wpHl.tk0 (i := 5) (d := some 132) (v := .slice (some ⟨gb, ob, none⟩) N.length qN) rfl HS (by as_aux_lemma => kernel_rfl) rfl (fun _ _ _ h => h) (Or.inl ⟨by rfl, ?_⟩) HC0 ?_
            · intro u hC
              go_simp
            simp only [Act.put, List.setIfInBounds_toArray, List.set_cons_zero, List.set_cons_succ]
            refine wpHl.tk0 (i := 6) (d := some 133) (v := .int .i64 (n : Int)) rfl HS (by as_aux_lemma => kernel_rfl) rfl (fun _ _ _ h => h) (Or.inl ⟨by rfl, ?_⟩) HC0 ?_
            · intro u hC
              go_simp
            simp only [Act.put, List.setIfInBounds_toArray, List.set_cons_zero, List.set_cons_succ]
            refine wpHl.tk0 (i := 7) (d := some 134) (v := .pointer (some ⟨gb, ob + n * 2, none⟩)) rfl HS (by as_aux_lemma => kernel_rfl) rfl (fun _ _ _ h => h) (Or.inl ⟨by rfl, ?_⟩) HC0 ?_
            · intro u hC
              go_simp
            simp only [Act.put, List.setIfInBounds_toArray, List.set_cons_zero, List.set_cons_succ]
            refine wpHl.tk0 (i := 8) (d := some 135) (v := .agg #[.int .i64 y1, .int .i64 y2]) rfl HS (by as_aux_lemma => kernel_rfl) rfl (fun _ _ _ h => h) (Or.inl ⟨by rfl, ?_⟩) HC0 ?_
            · intro u hC
              obtain ⟨z0, z1, z2, z3⟩ := hC
              go_simp
            simp only [Act.put, List.setIfInBounds_toArray, List.set_cons_zero, List.set_cons_succ]
            refine wpHl.tk0 (i := 9) (d := some 136) (v := .slice (some ⟨ga, oa, none⟩) U.length qU) rfl HS (by as_aux_lemma => kernel_rfl) rfl (fun _ _ _ h => h) (Or.inl ⟨by rfl, ?_⟩) HC0 ?_
            · intro u hC
              go_simp
            simp only [Act.put, List.setIfInBounds_toArray, List.set_cons_zero, List.set_cons_succ]
            refine wpHl.tk0 (i := 10) (d := some 137) (v := .int .i64 0) rfl HS (by as_aux_lemma => kernel_rfl) rfl (fun _ _ _ h => h) (Or.inl ⟨by rfl, ?_⟩) HC0 ?_
            · intro u hC
              go_simp
            simp only [Act.put, List.setIfInBounds_toArray, List.set_cons_zero, List.set_cons_succ]
            refine wpHl.tk0 (i := 11) (d := some 138) (v := .pointer (some ⟨ga, oa, none⟩)) rfl HS (by as_aux_lemma => kernel_rfl) rfl (fun _ _ _ h => h) (Or.inl ⟨by rfl, ?_⟩) HC0 ?_
            · intro u hC
              go_simp
            simp only [Act.put, List.setIfInBounds_toArray, List.set_cons_zero, List.set_cons_succ]
            refine wpHl.tk0 (i := 12) (d := some 139) (v := .agg #[.int .i64 y1, .int .i64 y2]) rfl HS (by as_aux_lemma => kernel_rfl) rfl (fun _ _ _ h => h) (Or.inl ⟨by rfl, ?_⟩) HC0 ?_
            · intro u hC
              obtain ⟨z0, z1, z2, z3⟩ := hC
              go_simp
            simp only [Act.put, List.setIfInBounds_toArray, List.set_cons_zero, List.set_cons_succ]
            refine wpHl.tk0 (i := 13) (d := some 140) (v := .bool false) rfl HS (by as_aux_lemma => kernel_rfl) rfl (fun _ _ _ h => h) (Or.inl ⟨by rfl, ?_⟩) HC0 ?_
            · intro u hC
              go_simp
            simp only [Act.put, List.setIfInBounds_toArray, List.set_cons_zero, List.set_cons_succ]
            refine wpHl.tk0 (i := 14) (d := some 141) (v := .bool false) rfl HS (by as_aux_lemma => kernel_rfl) rfl (fun _ _ _ h => h) (Or.inl ⟨by rfl, ?_⟩) HC0 ?_
            · intro u hC
              go_simp
            simp only [Act.put, List.setIfInBounds_toArray, List.set_cons_zero, List.set_cons_succ]
            refine wpHl.done (by as_aux_lemma => kernel_rfl) ?_ _
            clear CC HC0 HS
            have HB2 := hide (KB.out.trans (K.mono KB.out.size))
            clear K
            go_wp2
            go_roundw
            case rel => exact ⟨1, by rw [HNS.out]; simp, by simp, by omega, HB2⟩
            case measure => simp [intOf]; omega
          · obtain ⟨k, rfl⟩ : ∃ k, i = k + 1 := ⟨i - 1, by omega⟩
            have hkl : k < U.length := by omega
            obtain ⟨⟨x1, x2⟩, hx⟩ : ∃ y, U[k] = y := ⟨_, rfl⟩
            have qx := hin k hkl
            rw [hx] at qx
            have ex : U[k + 1 - 1]?.getD (0, 0) = (x1, x2) := by rw [Nat.add_sub_cancel, List.getElem?_eq_getElem hkl, hx]; rfl
            rw [ex] at G1 G2
            have HC := hide (fun (V : World) => ocmp_any (w := V) (o := o) (a := (x1, x2)) (b := (y1, y2)))
            have BZ := hide (byF_zero o (x1, x2) (y1, y2))
            obtain ⟨c, hc⟩ : ∃ c, ocmp o (x1, x2) (y1, y2) = c := ⟨_, rfl⟩
            rw [hc] at HC BZ
            have w0 : IntKind.i64.wrap ((k : Int) + 1 - 1) = (k : Int) := by have := SU.out; rw [IntKind.wrap_i64]; omega
            have w1 : IntKind.i64.wrap ((k : Int) + 1 + 1) = (k : Int) + 1 + 1 := by have := SU.out; rw [IntKind.wrap_i64]; omega
            have q0 : (k : Int) < (U.length : Int) := by omega
            have q1 : ¬ (k : Int) + 1 = 0 := by omega
            have CD := hide (fun V (kk : Below w15.heap.size w15 V) => (show V.cell? ⟨ga, oa + k * 2, none⟩ = some (.int .i64 x1) ∧ V.cell? ⟨ga, oa + k * 2 + 1, none⟩ = some (.int .i64 x2) ∧ V.cell? ⟨ga, oa + (k + 1) * 2, none⟩ = some (.int .i64 y1) ∧ V.cell? ⟨ga, oa + (k + 1) * 2 + 1, none⟩ = some (.int .i64 y2) from ⟨(kk.cell (p := ⟨ga, _, none⟩) hga).trans qx.1, (kk.cell (p := ⟨ga, _, none⟩) hga).trans qx.2, (kk.cell (p := ⟨ga, _, none⟩) hga).trans qy.1, (kk.cell (p := ⟨ga, _, none⟩) hga).trans qy.2⟩))
            rw [show ((k + 1 : Nat) : Int) = (k : Int) + 1 by omega]
            obtain ⟨j, hj⟩ : ∃ j, k + 1 = j := ⟨_, rfl⟩
            have hjc : (k : Int) + 1 = (j : Int) := by omega
            have hnj : ∀ (h : ¬ byF o (x1, x2) (y1, y2) = 0), True := fun _ => trivial
            have G1' := hide (fun (h : ¬ c = 0) => G1 (.inr (fun e => h (BZ.out.1 e))))
            have G2' := hide (fun (h : c = 0) => G2 (fun hh => hh.elim (fun e => by omega) (fun e => e (BZ.out.2 h))))
            rw [hj] at CD hil
            rw [hjc] at w0 w1 q1 ⊢
            have q2 : (j : Int) < (U.length : Int) := by omega
            have q3 : ¬ j = 0 := by omega
            have CF : Hid (∀ V, Below wr.heap.size wr V → V.cell? ⟨ga, oa + k * 2, none⟩ = some (.int .i64 x1) ∧ V.cell? ⟨ga, oa + k * 2 + 1, none⟩ = some (.int .i64 x2) ∧ V.cell? ⟨ga, oa + j * 2, none⟩ = some (.int .i64 y1) ∧ V.cell? ⟨ga, oa + j * 2 + 1, none⟩ = some (.int .i64 y2)) := hide (fun V kk => CD.out V (hB.out.trans (kk.mono hB.out.size)))
            have QN' := QN
            clear hin qx qy hc hy hx ex G1 G2 BZ QU hnj h0 hi QN
            by_cases hc0 : c = 0
            · have hns := G2'.out hc0
              rw [hj] at hns
              have HNS := hide hns
              subst hc0
              clear G1' G2' hns hj
              go_wp2
              have CC : ∀ u : World, Below wr.heap.size wr u → u.cell? ⟨ga, oa + k * 2, none⟩ = some (.int .i64 x1) ∧ u.cell? ⟨ga, oa + k * 2 + 1, none⟩ = some (.int .i64 x2) ∧ u.cell? ⟨ga, oa + j * 2, none⟩ = some (.int .i64 y1) ∧ u.cell? ⟨ga, oa + j * 2 + 1, none⟩ = some (.int .i64 y2) := fun u hu => CF.out u hu
              have K : Below wr.heap.size wr wr.drew := (Below.refl _ _).drew
              have HC0 := CC _ K
              refine wpHl.region0 (C := fun u => u.cell? ⟨ga, oa + k * 2, none⟩ = some (.int .i64 x1) ∧ u.cell? ⟨ga, oa + k * 2 + 1, none⟩ = some (.int .i64 x2) ∧ u.cell? ⟨ga, oa + j * 2, none⟩ = some (.int .i64 y1) ∧ u.cell? ⟨ga, oa + j * 2 + 1, none⟩ = some (.int .i64 y2)) (by kernel_rfl) (by kernel_rfl) (fun HS => ?_)
              refine wpHl.tk0 (i := 0) (d := some 111) (v := .int .i64 (j : Int)) rfl HS (by as_aux_lemma => kernel_rfl) rfl (fun _ _ _ h => h) (Or.inl ⟨by rfl, ?_⟩) HC0 ?_
              · intro u hC
                go_simp
              simp only [Act.put, List.setIfInBounds_toArray, List.set_cons_zero, List.set_cons_succ]
              refine wpHl.tk0 (i := 1) (d := some 112) (v := .bool false) rfl HS (by as_aux_lemma => kernel_rfl) rfl (fun _ _ _ h => h) (Or.inl ⟨by rfl, ?_⟩) HC0 ?_
              · intro u hC
                go_simp
              simp only [Act.put, List.setIfInBounds_toArray, List.set_cons_zero, List.set_cons_succ]
              refine wpHl.tk0 (i := 2) (d := some 113) (v := .bool false) rfl HS (by as_aux_lemma => kernel_rfl) rfl (fun _ _ _ h => h) (Or.inl ⟨by rfl, ?_⟩) HC0 ?_
              · intro u hC
                go_simp
              simp only [Act.put, List.setIfInBounds_toArray, List.set_cons_zero, List.set_cons_succ]
              refine wpHl.tk0 (i := 3) (d := some 114) (v := .int .i64 o) rfl HS (by as_aux_lemma => kernel_rfl) rfl (fun _ _ _ h => h) (Or.inl ⟨by rfl, ?_⟩) HC0 ?_
              · intro u hC
                go_simp
              simp only [Act.put, List.setIfInBounds_toArray, List.set_cons_zero, List.set_cons_succ]
              refine wpHl.tk0 (i := 4) (d := some 115) (v := .slice (some ⟨ga, oa, none⟩) U.length qU) rfl HS (by as_aux_lemma => kernel_rfl) rfl (fun _ _ _ h => h) (Or.inl ⟨by rfl, ?_⟩) HC0 ?_
              · intro u hC
                go_simp
              simp only [Act.put, List.setIfInBounds_toArray, List.set_cons_zero, List.set_cons_succ]
              refine wpHl.tk0 (i := 5) (d := some 116) (v := .int .i64 (j : Int)) rfl HS (by as_aux_lemma => kernel_rfl) rfl (fun _ _ _ h => h) (Or.inl ⟨by rfl, ?_⟩) HC0 ?_
              · intro u hC
                go_simp
              simp only [Act.put, List.setIfInBounds_toArray, List.set_cons_zero, List.set_cons_succ]
              refine wpHl.tk0 (i := 6) (d := some 117) (v := .int .i64 (k : Int)) rfl HS (by as_aux_lemma => kernel_rfl) rfl (fun _ _ _ h => h) (Or.inl ⟨by rfl, ?_⟩) HC0 ?_
              · intro u hC
                go_simp
              simp only [Act.put, List.setIfInBounds_toArray, List.set_cons_zero, List.set_cons_succ]
              refine wpHl.tk0 (i := 7) (d := some 118) (v := .pointer (some ⟨ga, oa + k * 2, none⟩)) rfl HS (by as_aux_lemma => kernel_rfl) rfl (fun _ _ _ h => h) (Or.inl ⟨by rfl, ?_⟩) HC0 ?_
              · intro u hC
                go_simp
              simp only [Act.put, List.setIfInBounds_toArray, List.set_cons_zero, List.set_cons_succ]
              refine wpHl.tk0 (i := 8) (d := some 119) (v := .agg #[.int .i64 x1, .int .i64 x2]) rfl HS (by as_aux_lemma => kernel_rfl) rfl (fun _ _ _ h => h) (Or.inl ⟨by rfl, ?_⟩) HC0 ?_
              · intro u hC
                obtain ⟨z0, z1, z2, z3⟩ := hC
                go_simp
              simp only [Act.put, List.setIfInBounds_toArray, List.set_cons_zero, List.set_cons_succ]
              refine wpHl.tk0 (i := 9) (d := some 120) (v := .slice (some ⟨ga, oa, none⟩) U.length qU) rfl HS (by as_aux_lemma => kernel_rfl) rfl (fun _ _ _ h => h) (Or.inl ⟨by rfl, ?_⟩) HC0 ?_
              · intro u hC
                go_simp
              simp only [Act.put, List.setIfInBounds_toArray, List.set_cons_zero, List.set_cons_succ]
              refine wpHl.tk0 (i := 10) (d := some 121) (v := .int .i64 (j : Int)) rfl HS (by as_aux_lemma => kernel_rfl) rfl (fun _ _ _ h => h) (Or.inl ⟨by rfl, ?_⟩) HC0 ?_
              · intro u hC
                go_simp
              simp only [Act.put, List.setIfInBounds_toArray, List.set_cons_zero, List.set_cons_succ]
              refine wpHl.tk0 (i := 11) (d := some 122) (v := .pointer (some ⟨ga, oa + j * 2, none⟩)) rfl HS (by as_aux_lemma => kernel_rfl) rfl (fun _ _ _ h => h) (Or.inl ⟨by rfl, ?_⟩) HC0 ?_
              · intro u hC
                go_simp
              simp only [Act.put, List.setIfInBounds_toArray, List.set_cons_zero, List.set_cons_succ]
              refine wpHl.tk0 (i := 12) (d := some 123) (v := .agg #[.int .i64 y1, .int .i64 y2]) rfl HS (by as_aux_lemma => kernel_rfl) rfl (fun _ _ _ h => h) (Or.inl ⟨by rfl, ?_⟩) HC0 ?_
              · intro u hC
                obtain ⟨z0, z1, z2, z3⟩ := hC
                go_simp
              simp only [Act.put, List.setIfInBounds_toArray, List.set_cons_zero, List.set_cons_succ]
              refine wpHl.one (i := 13) (by as_aux_lemma => kernel_rfl) rfl (fun K1 hK1 => ?_)
              rw [if_pos (by rfl)]
              refine wp_call_of (f := 23) (args := #[.int .i64 o, .agg #[.int .i64 x1, .int .i64 x2], .agg #[.int .i64 y1, .int .i64 y2]]) (by kernel_rfl) ?_
              with_reducible refine (HC.out _).mono ?_
              rintro e wn ⟨rfl, hb⟩
              replace K := below_trans K hb
              clear HC0
              have HC0 := CC _ K
              refine hK1 (Act.put _ (some 124) _) _ ⟨fun _ => HC0, ?_⟩
              clear hK1 K1 hb
              try simp only [Act.put, List.setIfInBounds_toArray, List.set_cons_zero, List.set_cons_succ]
              refine wpHl.tk0 (i := 14) (d := some 125) (v := .bool false) rfl HS (by as_aux_lemma => kernel_rfl) rfl (fun _ _ _ h => h) (Or.inl ⟨by rfl, ?_⟩) HC0 ?_
              · intro u hC
                go_simp
              simp only [Act.put, List.setIfInBounds_toArray, List.set_cons_zero, List.set_cons_succ]
              refine wpHl.tk0 (i := 15) (d := some 126) (v := .bool false) rfl HS (by as_aux_lemma => kernel_rfl) rfl (fun _ _ _ h => h) (Or.inl ⟨by rfl, ?_⟩) HC0 ?_
              · intro u hC
                go_simp
              simp only [Act.put, List.setIfInBounds_toArray, List.set_cons_zero, List.set_cons_succ]
              refine wpHl.done (by as_aux_lemma => kernel_rfl) ?_ _
              clear CC HC0 HS
              have KB := hide (hB.out.trans (K.mono hB.out.size))
              clear K
              go_wp2
              go_roundw
              case rel => exact ⟨j + 1, by rw [HNS.out], by simp, by omega, KB⟩
              case measure => simp [intOf]; omega
            · obtain ⟨hnN, hNy, hns⟩ := G1'.out hc0
              rw [hj] at hns
              obtain ⟨gb, ob, rfl, hgb, hinb⟩ := QN'.out _ RN.out (by omega)
              have qb := hinb n hnN
              rw [get_of hnN hNy] at qb
              have m1 : (n : Int) < (N.length : Int) := by omega
              have m2 : ¬ (N.length : Int) ≤ (n : Int) := by omega
              have HNS := hide hns
              have CE := hide (fun V (kk : Below w15.heap.size w15 V) => (show V.cell? ⟨ga, oa + j * 2, none⟩ = some (.int .i64 y1) ∧ V.cell? ⟨ga, oa + j * 2 + 1, none⟩ = some (.int .i64 y2) ∧ V.cell? ⟨gb, ob + n * 2, none⟩ = some (.int .i64 y1) ∧ V.cell? ⟨gb, ob + n * 2 + 1, none⟩ = some (.int .i64 y2) from ⟨(CD.out V kk).2.2.1, (CD.out V kk).2.2.2, (kk.cell (p := ⟨gb, _, none⟩) hgb).trans qb.1, (kk.cell (p := ⟨gb, _, none⟩) hgb).trans qb.2⟩))
              clear hinb qb hNy hns QN' G1' G2' hj
              go_wp2
              have CC : ∀ u : World, Below wr.heap.size wr u → u.cell? ⟨ga, oa + k * 2, none⟩ = some (.int .i64 x1) ∧ u.cell? ⟨ga, oa + k * 2 + 1, none⟩ = some (.int .i64 x2) ∧ u.cell? ⟨ga, oa + j * 2, none⟩ = some (.int .i64 y1) ∧ u.cell? ⟨ga, oa + j * 2 + 1, none⟩ = some (.int .i64 y2) := fun u hu => CF.out u hu
              have K : Below wr.heap.size wr wr.drew := (Below.refl _ _).drew
              have HC0 := CC _ K
              refine wpHl.region0 (C := fun u => u.cell? ⟨ga, oa + k * 2, none⟩ = some (.int .i64 x1) ∧ u.cell? ⟨ga, oa + k * 2 + 1, none⟩ = some (.int .i64 x2) ∧ u.cell? ⟨ga, oa + j * 2, none⟩ = some (.int .i64 y1) ∧ u.cell? ⟨ga, oa + j * 2 + 1, none⟩ = some (.int .i64 y2)) (by kernel_rfl) (by kernel_rfl) (fun HS => ?_)
              refine wpHl.tk0 (i := 0) (d := some 111) (v := .int .i64 (j : Int)) rfl HS (by as_aux_lemma => kernel_rfl) rfl (fun _ _ _ h => h) (Or.inl ⟨by rfl, ?_⟩) HC0 ?_
              · intro u hC
                go_simp
              simp only [Act.put, List.setIfInBounds_toArray, List.set_cons_zero, List.set_cons_succ]
              refine wpHl.tk0 (i := 1) (d := some 112) (v := .bool false) rfl HS (by as_aux_lemma => kernel_rfl) rfl (fun _ _ _ h => h) (Or.inl ⟨by rfl, ?_⟩) HC0 ?_
              · intro u hC
                go_simp
              simp only [Act.put, List.setIfInBounds_toArray, List.set_cons_zero, List.set_cons_succ]
              refine wpHl.tk0 (i := 2) (d := some 113) (v := .bool false) rfl HS (by as_aux_lemma => kernel_rfl) rfl (fun _ _ _ h => h) (Or.inl ⟨by rfl, ?_⟩) HC0 ?_
              · intro u hC
                go_simp
              simp only [Act.put, List.setIfInBounds_toArray, List.set_cons_zero, List.set_cons_succ]
              refine wpHl.tk0 (i := 3) (d := some 114) (v := .int .i64 o) rfl HS (by as_aux_lemma => kernel_rfl) rfl (fun _ _ _ h => h) (Or.inl ⟨by rfl, ?_⟩) HC0 ?_
              · intro u hC
                go_simp
              simp only [Act.put, List.setIfInBounds_toArray, List.set_cons_zero, List.set_cons_succ]
              refine wpHl.tk0 (i := 4) (d := some 115) (v := .slice (some ⟨ga, oa, none⟩) U.length qU) rfl HS (by as_aux_lemma => kernel_rfl) rfl (fun _ _ _ h => h) (Or.inl ⟨by rfl, ?_⟩) HC0 ?_
              · intro u hC
                go_simp
              simp only [Act.put, List.setIfInBounds_toArray, List.set_cons_zero, List.set_cons_succ]
              refine wpHl.tk0 (i := 5) (d := some 116) (v := .int .i64 (j : Int)) rfl HS (by as_aux_lemma => kernel_rfl) rfl (fun _ _ _ h => h) (Or.inl ⟨by rfl, ?_⟩) HC0 ?_
              · intro u hC
                go_simp
              simp only [Act.put, List.setIfInBounds_toArray, List.set_cons_zero, List.set_cons_succ]
              refine wpHl.tk0 (i := 6) (d := some 117) (v := .int .i64 (k : Int)) rfl HS (by as_aux_lemma => kernel_rfl) rfl (fun _ _ _ h => h) (Or.inl ⟨by rfl, ?_⟩) HC0 ?_
              · intro u hC
                go_simp
              simp only [Act.put, List.setIfInBounds_toArray, List.set_cons_zero, List.set_cons_succ]
              refine wpHl.tk0 (i := 7) (d := some 118) (v := .pointer (some ⟨ga, oa + k * 2, none⟩)) rfl HS (by as_aux_lemma => kernel_rfl) rfl (fun _ _ _ h => h) (Or.inl ⟨by rfl, ?_⟩) HC0 ?_
              · intro u hC
                go_simp
              simp only [Act.put, List.setIfInBounds_toArray, List.set_cons_zero, List.set_cons_succ]
              refine wpHl.tk0 (i := 8) (d := some 119) (v := .agg #[.int .i64 x1, .int .i64 x2]) rfl HS (by as_aux_lemma => kernel_rfl) rfl (fun _ _ _ h => h) (Or.inl ⟨by rfl, ?_⟩) HC0 ?_
              · intro u hC
                obtain ⟨z0, z1, z2, z3⟩ := hC
                go_simp
              simp only [Act.put, List.setIfInBounds_toArray, List.set_cons_zero, List.set_cons_succ]
              refine wpHl.tk0 (i := 9) (d := some 120) (v := .slice (some ⟨ga, oa, none⟩) U.length qU) rfl HS (by as_aux_lemma => kernel_rfl) rfl (fun _ _ _ h => h) (Or.inl ⟨by rfl, ?_⟩) HC0 ?_
              · intro u hC
                go_simp
              simp only [Act.put, List.setIfInBounds_toArray, List.set_cons_zero, List.set_cons_succ]
              refine wpHl.tk0 (i := 10) (d := some 121) (v := .int .i64 (j : Int)) rfl HS (by as_aux_lemma => kernel_rfl) rfl (fun _ _ _ h => h) (Or.inl ⟨by rfl, ?_⟩) HC0 ?_
              · intro u hC
                go_simp
              simp only [Act.put, List.setIfInBounds_toArray, List.set_cons_zero, List.set_cons_succ]
              refine wpHl.tk0 (i := 11) (d := some 122) (v := .pointer (some ⟨ga, oa + j * 2, none⟩)) rfl HS (by as_aux_lemma => kernel_rfl) rfl (fun _ _ _ h => h) (Or.inl ⟨by rfl, ?_⟩) HC0 ?_
              · intro u hC
                go_simp
              simp only [Act.put, List.setIfInBounds_toArray, List.set_cons_zero, List.set_cons_succ]
              refine wpHl.tk0 (i := 12) (d := some 123) (v := .agg #[.int .i64 y1, .int .i64 y2]) rfl HS (by as_aux_lemma => kernel_rfl) rfl (fun _ _ _ h => h) (Or.inl ⟨by rfl, ?_⟩) HC0 ?_
              · intro u hC
                obtain ⟨z0, z1, z2, z3⟩ := hC
                go_simp
              simp only [Act.put, List.setIfInBounds_toArray, List.set_cons_zero, List.set_cons_succ]
              refine wpHl.one (i := 13) (by as_aux_lemma => kernel_rfl) rfl (fun K1 hK1 => ?_)
              rw [if_pos (by rfl)]
              refine wp_call_of (f := 23) (args := #[.int .i64 o, .agg #[.int .i64 x1, .int .i64 x2], .agg #[.int .i64 y1, .int .i64 y2]]) (by kernel_rfl) ?_
              with_reducible refine (HC.out _).mono ?_
              rintro e wn ⟨rfl, hb⟩
              replace K := below_trans K hb
              clear HC0
              have HC0 := CC _ K
              refine hK1 (Act.put _ (some 124) _) _ ⟨fun _ => HC0, ?_⟩
              clear hK1 K1 hb
              try simp only [Act.put, List.setIfInBounds_toArray, List.set_cons_zero, List.set_cons_succ]
              refine wpHl.tk0 (i := 14) (d := some 125) (v := .bool true) rfl HS (by as_aux_lemma => kernel_rfl) rfl (fun _ _ _ h => h) (Or.inl ⟨by rfl, ?_⟩) HC0 ?_
              · intro u hC
                go_simp
              simp only [Act.put, List.setIfInBounds_toArray, List.set_cons_zero, List.set_cons_succ]
              refine wpHl.tk0 (i := 15) (d := some 126) (v := .bool true) rfl HS (by as_aux_lemma => kernel_rfl) rfl (fun _ _ _ h => h) (Or.inl ⟨by rfl, ?_⟩) HC0 ?_
              · intro u hC
                go_simp
              simp only [Act.put, List.setIfInBounds_toArray, List.set_cons_zero, List.set_cons_succ]
              refine wpHl.done (by as_aux_lemma => kernel_rfl) ?_ _
              clear CC HC0 HS
              have KB := hB.out.trans (K.mono hB.out.size)
              obtain ⟨d1, d2, d3, d4⟩ := CE.out _ KB
              replace KB := hide KB
              clear K CF
              have CE2 : Hid (∀ V, Below wn.heap.size wn V → V.cell? ⟨ga, oa + j * 2, none⟩ = some (.int .i64 y1) ∧ V.cell? ⟨ga, oa + j * 2 + 1, none⟩ = some (.int .i64 y2) ∧ V.cell? ⟨gb, ob + n * 2, none⟩ = some (.int .i64 y1) ∧ V.cell? ⟨gb, ob + n * 2 + 1, none⟩ = some (.int .i64 y2)) := hide (fun V kk => CE.out V (KB.out.trans (kk.mono KB.out.size)))
              clear d1 d2 d3 d4
              go_wp2
              have CC : ∀ u : World, Below wn.heap.size wn u → u.cell? ⟨ga, oa + j * 2, none⟩ = some (.int .i64 y1) ∧ u.cell? ⟨ga, oa + j * 2 + 1, none⟩ = some (.int .i64 y2) ∧ u.cell? ⟨gb, ob + n * 2, none⟩ = some (.int .i64 y1) ∧ u.cell? ⟨gb, ob + n * 2 + 1, none⟩ = some (.int .i64 y2) := fun u hu => CE2.out u hu
              have K : Below wn.heap.size wn wn.drew := (Below.refl _ _).drew
              have HC0 := CC _ K
              refine wpHl.region0 (C := fun u => u.cell? ⟨ga, oa + j * 2, none⟩ = some (.int .i64 y1) ∧ u.cell? ⟨ga, oa + j * 2 + 1, none⟩ = some (.int .i64 y2) ∧ u.cell? ⟨gb, ob + n * 2, none⟩ = some (.int .i64 y1) ∧ u.cell? ⟨gb, ob + n * 2 + 1, none⟩ = some (.int .i64 y2)) (by kernel_rfl) (by kernel_rfl) (fun HS => ?_)
              refine wpHl.tk0 (i := 0) (d := some 127) (v := .int .i64 (n : Int)) rfl HS (by as_aux_lemma => kernel_rfl) rfl (fun _ _ _ h => h) (Or.inl ⟨by rfl, ?_⟩) HC0 ?_
              · intro u hC
                go_simp
              simp only [Act.put, List.setIfInBounds_toArray, List.set_cons_zero, List.set_cons_succ]
              refine wpHl.tk0 (i := 1) (d := some 128) (v := .slice (some ⟨gb, ob, none⟩) N.length qN) rfl HS (by as_aux_lemma => kernel_rfl) rfl (fun _ _ _ h => h) (Or.inl ⟨by rfl, ?_⟩) HC0 ?_
              · intro u hC
                go_simp
              simp only [Act.put, List.setIfInBounds_toArray, List.set_cons_zero, List.set_cons_succ]
              refine wpHl.tk0 (i := 2) (d := some 129) (v := .int .i64 (N.length : Int)) rfl HS (by as_aux_lemma => kernel_rfl) rfl (fun _ _ _ h => h) (Or.inl ⟨by rfl, ?_⟩) HC0 ?_
              · intro u hC
                go_simp
              simp only [Act.put, List.setIfInBounds_toArray, List.set_cons_zero, List.set_cons_succ]
              refine wpHl.tk0 (i := 3) (d := some 130) (v := .bool false) rfl HS (by as_aux_lemma => kernel_rfl) rfl (fun _ _ _ h => h) (Or.inl ⟨by rfl, ?_⟩) HC0 ?_
              · intro u hC
                go_simp
              simp only [Act.put, List.setIfInBounds_toArray, List.set_cons_zero, List.set_cons_succ]
              refine wpHl.tk0 (i := 4) (d := some 131) (v := .bool false) rfl HS (by as_aux_lemma => kernel_rfl) rfl (fun _ _ _ h => h) (Or.inl ⟨by rfl, ?_⟩) HC0 ?_
              · intro u hC
                go_simp
              simp only [Act.put, List.setIfInBounds_toArray, List.set_cons_zero, List.set_cons_succ]
              refine wpHl.tk0 (i := 5) (d := some 132) (v := .slice (some ⟨gb, ob, none⟩) N.length qN) rfl HS (by as_aux_lemma => kernel_rfl) rfl (fun _ _ _ h => h) (Or.inl ⟨by rfl, ?_⟩) HC0 ?_
              · intro u hC
                go_simp
              simp only [Act.put, List.setIfInBounds_toArray, List.set_cons_zero, List.set_cons_succ]
              refine wpHl.tk0 (i := 6) (d := some 133) (v := .int .i64 (n : Int)) rfl HS (by as_aux_lemma => kernel_rfl) rfl (fun _ _ _ h => h) (Or.inl ⟨by rfl, ?_⟩) HC0 ?_
              · intro u hC
                go_simp
              simp only [Act.put, List.setIfInBounds_toArray, List.set_cons_zero, List.set_cons_succ]
              refine wpHl.tk0 (i := 7) (d := some 134) (v := .pointer (some ⟨gb, ob + n * 2, none⟩)) rfl HS (by as_aux_lemma => kernel_rfl) rfl (fun _ _ _ h => h) (Or.inl ⟨by rfl, ?_⟩) HC0 ?_
              · intro u hC
                go_simp
              simp only [Act.put, List.setIfInBounds_toArray, List.set_cons_zero, List.set_cons_succ]
              refine wpHl.tk0 (i := 8) (d := some 135) (v := .agg #[.int .i64 y1, .int .i64 y2]) rfl HS (by as_aux_lemma => kernel_rfl) rfl (fun _ _ _ h => h) (Or.inl ⟨by rfl, ?_⟩) HC0 ?_
              · intro u hC
                obtain ⟨z0, z1, z2, z3⟩ := hC
                go_simp
              simp only [Act.put, List.setIfInBounds_toArray, List.set_cons_zero, List.set_cons_succ]
              refine wpHl.tk0 (i := 9) (d := some 136) (v := .slice (some ⟨ga, oa, none⟩) U.length qU) rfl HS (by as_aux_lemma => kernel_rfl) rfl (fun _ _ _ h => h) (Or.inl ⟨by rfl, ?_⟩) HC0 ?_
              · intro u hC
                go_simp
              simp only [Act.put, List.setIfInBounds_toArray, List.set_cons_zero, List.set_cons_succ]
              refine wpHl.tk0 (i := 10) (d := some 137) (v := .int .i64 (j : Int)) rfl HS (by as_aux_lemma => kernel_rfl) rfl (fun _ _ _ h => h) (Or.inl ⟨by rfl, ?_⟩) HC0 ?_
              · intro u hC
                go_simp
              simp only [Act.put, List.setIfInBounds_toArray, List.set_cons_zero, List.set_cons_succ]
              refine wpHl.tk0 (i := 11) (d := some 138) (v := .pointer (some ⟨ga, oa + j * 2, none⟩)) rfl HS (by as_aux_lemma => kernel_rfl) rfl (fun _ _ _ h => h) (Or.inl ⟨by rfl, ?_⟩) HC0 ?_
              · intro u hC
                go_simp
              simp only [Act.put, List.setIfInBounds_toArray, List.set_cons_zero, List.set_cons_succ]
              refine wpHl.tk0 (i := 12) (d := some 139) (v := .agg #[.int .i64 y1, .int .i64 y2]) rfl HS (by as_aux_lemma => kernel_rfl) rfl (fun _ _ _ h => h) (Or.inl ⟨by rfl, ?_⟩) HC0 ?_
              · intro u hC
                obtain ⟨z0, z1, z2, z3⟩ := hC
                go_simp
              simp only [Act.put, List.setIfInBounds_toArray, List.set_cons_zero, List.set_cons_succ]
              refine wpHl.tk0 (i := 13) (d := some 140) (v := .bool false) rfl HS (by as_aux_lemma => kernel_rfl) rfl (fun _ _ _ h => h) (Or.inl ⟨by rfl, ?_⟩) HC0 ?_
              · intro u hC
                go_simp
              simp only [Act.put, List.setIfInBounds_toArray, List.set_cons_zero, List.set_cons_succ]
              refine wpHl.tk0 (i := 14) (d := some 141) (v := .bool false) rfl HS (by as_aux_lemma => kernel_rfl) rfl (fun _ _ _ h => h) (Or.inl ⟨by rfl, ?_⟩) HC0 ?_
              · intro u hC
                go_simp
              simp only [Act.put, List.setIfInBounds_toArray, List.set_cons_zero, List.set_cons_succ]
              refine wpHl.done (by as_aux_lemma => kernel_rfl) ?_ _
              clear CC HC0 HS
              have HB2 := hide (KB.out.trans (K.mono KB.out.size))
              clear K
              go_wp2
              go_roundw
              case rel => exact ⟨j + 1, by rw [HNS.out]; simp, by simp, by omega, HB2⟩
              case measure => simp [intOf]; omega
        · obtain rfl : i = U.length := by omega
          rw [F3.out]
          have KR := hide (KK.out.trans (hB.out.mono KK.out.size))
          have RL2 := hide (RL.out.far hB.out)
          have e1 : ∀ x : Nat, ¬ (x : Int) < (x : Int) := fun x => by omega
          clear hB KK RL F1 F2 F3 QU QN RU RN
          go_wp2_with (go_at_call 10; (with_reducible refine by_any.mono ?_); rintro e w16 ⟨rfl, rfl⟩)
          have CC := hide (twice_any (I := fun _ => True) (w := w16) RL2.out (by have := SU.out; have := HLU.out; omega) (by_is o) (fun _ _ => trivial))
          obtain ⟨tl, htl⟩ : ∃ tl, tw (byF o) L = tl := ⟨_, rfl⟩
          rw [htl] at CC FT
          have FT' : Hid (tl < 0 ↔ (N.length : Int) = (L.length : Int)) := hide (FT.out.trans (by omega))
          clear htl FT
          go_wp2_with fail
          refine CC.out.mono ?_
          rintro e w17 ⟨rfl, k⟩
          have KE := hide (below_trans KR.out k)
          clear CC k RL2 KR
          by_cases ht : tl < 0
          · have hll := FT'.out.1 ht
            clear FT'
            go_wp2_with fail
            refine olives.mono ?_
            rintro e w18 ⟨rfl, k⟩
            have KF := hide (below_trans KE.out k)
            clear k
            go_wp2
            go_ret
            exact ⟨rfl, KF.out⟩
          · have hll : ¬ (N.length : Int) = (L.length : Int) := fun e => ht (FT'.out.2 e)
            have hll' : decide (tl < 0) = ((N.length : Int) == (L.length : Int)) := by
              rw [decide_eq_false ht, beq_eq_false_iff_ne.2 hll]
            clear FT'
            go_wp2_with fail
            refine olives.mono ?_
            rintro e w18 ⟨rfl, k⟩
            have KF := hide (below_trans KE.out k)
            clear k
            go_wp2
            go_ret
            exact ⟨rfl, KF.out⟩

end Go.Proofs.Ytomieeajmelglaa
