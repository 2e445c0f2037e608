/- crucibleref07.Cmp; DecimalCompares: the walk -/
import Derived.Test.YtigehipclkoecaaDCmpX
import Derived.Test.YtigehipclkoecaaDRef7X
namespace Go.Proofs.Ytigehipclkoecaa
open Go.RowKit
set_option linter.unusedVariables false

theorem btw_same {es : List Int} {N a b : Nat} {ng : Bool} {P : Int} (hd : Dg es) (hN : es.length = N) (h : Btw es N a b) :
    Nm ((es.take b).drop a) ∧ ((es.take b).drop a).length = b - a ∧ Same10 (sgv ng (dg es)) (P - N) (sgv ng (dg ((es.take b).drop a))) (P - a - (b - a : Nat)) ∧ (a = b ↔ dg es = 0) := by
  obtain ⟨h1, h2, h3, h4, h5, h6⟩ := h
  rcases Nat.lt_or_ge a b with c | c
  · obtain ⟨n1, n2⟩ := nm_between hd hN c h2 (h5 c).1 (h5 c).2
    refine ⟨n1, n2, same_between hN c h2 h3 h4, fun e => absurd e (by omega), fun e => ?_⟩
    exfalso
    have k := dg_between (es := es) (f := a) (e := b) (by omega) (by omega) h3 (fun j hj hk => h4 j hj (by omega))
    rw [e] at k
    have p := dg_lead' n1.1 (by omega) (n1.2.1 (by omega))
    have := tn_pos (((es.take b).drop a).length - 1)
    have := tn_pos (es.length - b)
    rcases Int.mul_eq_zero.1 k.symm with z | z <;> omega
  · have e : a = b := by omega
    subst e
    have hz := h6 rfl
    subst hz
    have hn : (es.take a).drop a = [] := List.drop_eq_nil_of_le (by rw [List.length_take]; omega)
    have hz : dg es = 0 := by rw [dg_all (es := es) (fun j hj => h3 j (by omega)), dg_noughts]
    rw [hn]
    refine ⟨⟨fun x hx => absurd hx (by simp), fun h => absurd h (by simp), fun h => absurd h (by simp)⟩, by simp, ?_, fun _ => hz, fun _ => rfl⟩
    unfold Same10
    rw [hz, show dg [] = 0 from rfl]
    unfold sgv
    split
    · rw [Int.neg_zero, Int.zero_mul, Int.zero_mul]
    · rw [Int.zero_mul, Int.zero_mul]
theorem nm_eq {ds es : List Int} (hd : Nm ds) (he : Nm es) : ((strOfNums ds).toList == (strOfNums es).toList) = decide (sgn (dg ds * tn es.length) (dg es * tn ds.length) = 0) := by
  rcases nm_text hd he with ⟨h1, h2⟩ | ⟨h1, h2, h3⟩ | ⟨h1, h2⟩
  · rw [h2]
    have : (strOfNums ds).toList ≠ (strOfNums es).toList := fun e => by rw [e, less_same] at h1; exact absurd h1 (by decide)
    simpa using this
  · rw [h3]; simpa using h2
  · rw [h1, h2]; simp

theorem td2 (x : Int) : 2 * x.tdiv 2 - 1 ≤ x ∧ x ≤ 2 * x.tdiv 2 + 1 ∧ (0 ≤ x → 2 * x.tdiv 2 ≤ x) ∧ (x ≤ 0 → x ≤ 2 * x.tdiv 2) := by
  rcases Int.lt_or_le x 0 with h | h
  · have e : x.tdiv 2 = -((-x) / 2) := by
      rw [← Int.tdiv_eq_ediv_of_nonneg (by omega), Int.neg_tdiv, Int.neg_neg]
    rw [e]; omega
  · rw [Int.tdiv_eq_ediv_of_nonneg h]; omega

set_option maxRecDepth 100000 in
set_option maxHeartbeats 4000000 in
theorem size7 {w : World} {es es' : List Int} {s s' : ByteArray} {N N' : Nat} {ng ng' : Bool} {P P' : Int} (hd : Dg es) (hs : s = strOfNums es) (hN : es.length = N) (hl : N ≤ 1048576) (hP : -9223372036854775808 ≤ P) (hP2 : P ≤ 9223372036854775807)
    (hd' : Dg es') (hs' : s' = strOfNums es') (hN' : es'.length = N') (hl' : N' ≤ 1048576) (hP' : -9223372036854775808 ≤ P') (hP2' : P' ≤ 9223372036854775807) (hz : dg es ≠ 0) (hz' : dg es' ≠ 0) :
    Calls Try.prog 10 #[.agg #[.bool ng, .string s, .int .i64 P], .agg #[.bool ng', .string s', .int .i64 P']] w fun e w' => e = .returned (.int .i64 (dcmp (dg es) (P - N) (dg es') (P' - N'))) ∧ Below w.heap.size w w' := by
  have H1 := hide (show ∀ w : World, _ from fun w => plain7 (w := w) hd.byt hs hN (by omega))
  have H2 := hide (show ∀ w : World, _ from fun w => plain7 (w := w) hd'.byt hs' hN' (by omega))
  have HD := hide (And.intro hd (And.intro hN (And.intro hd' (And.intro hN' (And.intro hz hz')))))
  clear hd hs hN hd' hs' hN' hz hz'
  obtain ⟨c, hcc⟩ : ∃ c, dcmp (dg es) (P - N) (dg es') (P' - N') = c := ⟨_, rfl⟩
  rw [hcc]
  have HCC := hide hcc
  clear hcc
  have K0 : Below w.heap.size w ((w.alloc (.cells #[.bool ng, .string s, .int .i64 P] 23)).alloc (.cells #[.bool ng', .string s', .int .i64 P'] 23)) := below_trans (al_one _ _) (al_one _ _)
  go_enter Try.func10, Try.ntmps10
  go_wp2_with fail
  refine (H1.out _).mono ?_
  rintro x w1 ⟨rfl, a, b, hB, rfl⟩
  go_wp2_with fail
  refine (H2.out _).mono ?_
  rintro x w2 ⟨rfl, a', b', hB', rfl⟩
  clear H1 H2
  obtain ⟨n1, n2, n3, n4⟩ := btw_same (ng := false) (P := P) HD.out.1 HD.out.2.1 hB
  obtain ⟨m1, m2, m3, m4⟩ := btw_same (ng := false) (P := P') HD.out.2.2.1 HD.out.2.2.2.1 hB'
  have ab : a < b := by
    rcases Nat.lt_or_ge a b with c | c
    · exact c
    · exact absurd (n4.1 (by have := hB.1; omega)) HD.out.2.2.2.2.1
  have ab' : a' < b' := by
    rcases Nat.lt_or_ge a' b' with c | c
    · exact c
    · exact absurd (m4.1 (by have := hB'.1; omega)) HD.out.2.2.2.2.2
  have bN := hB.2.1
  have bN' := hB'.2.1
  have hc : dcmp (dg es) (P - N) (dg es') (P' - N') = if P - (a : Int) < P' - a' then -1 else if P' - (a' : Int) < P - a then 1 else sgn (dg ((es.take b).drop a) * tn ((es'.take b').drop a').length) (dg ((es'.take b').drop a') * tn ((es.take b).drop a).length) := by
    have k := dcmp_same n3 m3
    simp only [sgv] at k
    have k2 := dcmp_places (p := P - a) (q := P' - a') n1 m1 (by omega) (by omega)
    rw [n2, m2] at k2
    rw [n2, m2]
    exact (by simpa using k : dcmp (dg es) (P - N) (dg es') (P' - N') = _).trans k2
  have HT := hide (nm_text n1 m1)
  have HE := hide (nm_eq n1 m1)
  obtain ⟨g, hg⟩ : ∃ g, sgn (dg ((es.take b).drop a) * tn ((es'.take b').drop a').length) (dg ((es'.take b').drop a') * tn ((es.take b).drop a).length) = g := ⟨_, rfl⟩
  rw [hg, HCC.out] at hc
  rw [hg] at HT HE
  obtain ⟨t, ht⟩ : ∃ t, strOfNums ((es.take b).drop a) = t := ⟨_, rfl⟩
  obtain ⟨t', ht'⟩ : ∃ t, strOfNums ((es'.take b').drop a') = t := ⟨_, rfl⟩
  rw [ht, ht'] at HT HE
  rw [ht, ht']
  have HC := hide hc
  clear n1 n2 n3 n4 m1 m2 m3 m4 hB hB' hc hg ht ht' HD HCC
  have tp := td2 P
  have tp' := td2 P'
  obtain ⟨hp2, hhp⟩ : ∃ x, P.tdiv 2 = x := ⟨_, rfl⟩
  obtain ⟨hq2, hhq⟩ : ∃ x, P'.tdiv 2 = x := ⟨_, rfl⟩
  rw [hhp] at tp
  rw [hhq] at tp'
  have q1 : hp2 - hq2 ≤ 9223372036854775807 := by omega
  have q2 : -9223372036854775808 ≤ hp2 - hq2 := by omega
  by_cases c1 : 1099511627776 < hp2 - hq2
  · have hf := hide (show (1 : Int) = c by rw [HC.out, if_neg (by omega), if_pos (by omega)])
    go_wp2
    go_ret
    exact ⟨ret_int hf.out, K0⟩
  · by_cases c2 : hp2 - hq2 < -1099511627776
    · have hf := hide (show (-1 : Int) = c by rw [HC.out, if_pos (by omega)])
      go_wp2
      go_ret
      exact ⟨ret_int hf.out, K0⟩
    · obtain ⟨d, hd⟩ : ∃ d, P - P' - (a : Int) + a' = d := ⟨_, rfl⟩
      have d0 : -9223372036854775808 ≤ P - P' ∧ P - P' ≤ 9223372036854775807 := by omega
      obtain ⟨d1, d2⟩ := d0
      rcases Int.lt_trichotomy d 0 with z | z | z
      · have z1 : (d != 0) = true := by simp; omega
        have hf := hide (show (-1 : Int) = c by rw [HC.out, if_pos (by omega)])
        go_wp2
        go_ret
        exact ⟨ret_int hf.out, K0⟩
      · have z1 : (d != 0) = false := by simp [z]
        have hf := hide (show g = c by rw [HC.out, if_neg (by omega), if_neg (by omega)])
        rcases HT.out with ⟨h1, h2⟩ | ⟨h1, h2, h3⟩ | ⟨h1, h2⟩
        · have h3 : (t.toList == t'.toList) = false := by rw [HE.out, h2]; decide
          go_wp2
          go_ret
          exact ⟨ret_int (h2.symm.trans hf.out), K0⟩
        · have h4 : (t.toList == t'.toList) = false := by rw [HE.out, h3]; decide
          go_wp2
          go_ret
          exact ⟨ret_int (h3.symm.trans hf.out), K0⟩
        · have h3 : (t.toList == t'.toList) = true := by rw [HE.out, h2]; decide
          go_wp2
          go_ret
          exact ⟨ret_int (h2.symm.trans hf.out), K0⟩
      · have z1 : (d != 0) = true := by simp; omega
        have z2 : ¬ d < 0 := by omega
        have hf := hide (show (1 : Int) = c by rw [HC.out, if_neg (by omega), if_pos (by omega)])
        go_wp2
        go_ret
        exact ⟨ret_int hf.out, K0⟩

set_option maxRecDepth 100000 in
set_option maxHeartbeats 8000000 in
theorem rcmp7 {w : World} {es es' : List Int} {s s' : ByteArray} {N N' : Nat} {ng ng' : Bool} {P P' : Int} (hd : Byt es) (hs : s = strOfNums es) (hN : es.length = N) (hl : N ≤ 1048576) (hP : -9223372036854775808 ≤ P) (hP2 : P ≤ 9223372036854775807)
    (hd' : Byt es') (hs' : s' = strOfNums es') (hN' : es'.length = N') (hl' : N' ≤ 1048576) (hP' : -9223372036854775808 ≤ P') (hP2' : P' ≤ 9223372036854775807) :
    Calls Try.prog 5 #[.agg #[.bool ng, .string s, .int .i64 P], .agg #[.bool ng', .string s', .int .i64 P']] w fun e w' => Below w.heap.size w w' ∧
      ((¬ (Dg es ∧ Dg es') ∧ e = .returned (.tuple #[.int .i64 0, .bool false])) ∨ (Dg es ∧ Dg es' ∧ e = .returned (.tuple #[.int .i64 (dcmp (sgv ng (dg es)) (P - N) (sgv ng' (dg es')) (P' - N')), .bool true]))) := by
  have F1 := hide (show ∀ w : World, _ from fun w => fine7 (w := w) (ng := ng) (P := P) hd hs hN (by omega))
  have F2 := hide (show ∀ w : World, _ from fun w => fine7 (w := w) (ng := ng') (P := P') hd' hs' hN' (by omega))
  have H1 := hide (show ∀ w : World, _ from fun w => plain7 (w := w) hd hs hN (by omega))
  have H2 := hide (show ∀ w : World, _ from fun w => plain7 (w := w) hd' hs' hN' (by omega))
  have HD := hide (And.intro hs (And.intro hN (And.intro hs' hN')))
  clear hd hs hN hd' hs' hN'
  obtain ⟨c, hcc⟩ : ∃ c, dcmp (sgv ng (dg es)) (P - N) (sgv ng' (dg es')) (P' - N') = c := ⟨_, rfl⟩
  rw [hcc]
  have HCC := hide hcc
  clear hcc
  have K0 : Below w.heap.size w ((w.alloc (.cells #[.bool ng, .string s, .int .i64 P] 23)).alloc (.cells #[.bool ng', .string s', .int .i64 P'] 23)) := below_trans (al_one _ _) (al_one _ _)
  have C1 := (cell3_new w (.bool ng) (.string s) (.int .i64 P) 23).below (al_one _ (.cells #[.bool ng', .string s', .int .i64 P'] 23))
  have C2 := cell3_new (w.alloc (.cells #[.bool ng, .string s, .int .i64 P] 23)) (.bool ng') (.string s') (.int .i64 P') 23
  rw [show (w.alloc (.cells #[.bool ng, .string s, .int .i64 P] 23)).heap.size = w.heap.size + 1 by simp] at C2
  go_enter Try.func5, Try.ntmps5
  go_wp2_with fail
  refine (F1.out _).mono ?_
  rintro x w1 ⟨b1, hf1⟩
  replace K0 := below_trans K0 b1; replace C1 := C1.below b1; replace C2 := C2.below b1
  clear b1 F1
  rcases hf1 with ⟨D1, rfl⟩ | ⟨D1, rfl⟩
  · have c20 := C2.c0; have c21 := C2.c1; have c22 := C2.c2
    go_wp2_with fail
    refine (F2.out _).mono ?_
    rintro x w2 ⟨b2, hf2⟩
    replace K0 := below_trans K0 b2; replace C1 := C1.below b2; replace C2 := C2.below b2
    clear b2 F2 c20 c21 c22
    rcases hf2 with ⟨D2, rfl⟩ | ⟨D2, rfl⟩
    · have c10 := C1.c0; have c11 := C1.c1; have c12 := C1.c2
      have c20 := C2.c0; have c21 := C2.c1; have c22 := C2.c2
      go_wp2_with fail
      refine (H1.out _).mono ?_
      rintro x w3 ⟨rfl, a, b, hB, rfl⟩
      go_wp2_with fail
      refine (H2.out _).mono ?_
      rintro x w4 ⟨rfl, a', b', hB', rfl⟩
      clear H1 H2
      obtain ⟨n1, n2, n3, n4⟩ := btw_same (ng := ng) (P := P) D1 HD.out.2.1 hB
      obtain ⟨m1, m2, m3, m4⟩ := btw_same (ng := ng') (P := P') D2 HD.out.2.2.2 hB'
      have z1 : (strOfNums ((es.take b).drop a)).size = b - a := by rw [strOfNums_size, n2]
      have z2 : (strOfNums ((es'.take b').drop a')).size = b' - a' := by rw [strOfNums_size, m2]
      obtain ⟨t, ht⟩ : ∃ t, strOfNums ((es.take b).drop a) = t := ⟨_, rfl⟩
      obtain ⟨t', ht'⟩ : ∃ t, strOfNums ((es'.take b').drop a') = t := ⟨_, rfl⟩
      rw [ht] at z1
      rw [ht'] at z2
      rw [ht, ht']
      obtain ⟨s1, s2, s3, s4, s5⟩ := dcmp_signs (X := sgv ng (dg es)) (q := P - N) (Y := sgv ng' (dg es')) (q' := P' - N')
      rw [HCC.out] at s1 s2 s3 s4 s5
      have g1 := (dg_range D1).1
      have g2 := (dg_range D2).1
      have empty : ∀ {u : ByteArray}, u.size = 0 → u.toList.isEmpty = true := fun {u} hu => by
        rw [ByteArray.toList_eq, List.isEmpty_iff]
        exact List.eq_nil_of_length_eq_zero (by rw [Array.length_toList]; exact hu)
      have hab := hB.1
      have hab' := hB'.1
      clear ht ht' n1 n2 n3 m1 m2 m3 hB hB'
      by_cases e1 : a = b
      · have d1 := n4.1 e1
        have x1 := empty (u := t) (by omega)
        have v1 : sgv ng (dg es) = 0 := by rw [d1]; unfold sgv; split <;> rfl
        by_cases e2 : a' = b'
        · have d2 := m4.1 e2
          have x2 := empty (u := t') (by omega)
          have v2 : sgv ng' (dg es') = 0 := by rw [d2]; unfold sgv; split <;> rfl
          have hf := hide (s5 v1 v2)
          have HDD := hide (And.intro D1 D2)
          clear s1 s2 s3 s4 s5 n4 m4 empty D1 D2 HCC
          go_wp2
          go_ret2
          exact ⟨K0, .inr ⟨HDD.out.1, HDD.out.2, by rw [hf.out]; rfl⟩⟩
        · have d2 : 0 < dg es' := by
            rcases Int.lt_or_eq_of_le g2 with h | h
            · exact h
            · exact absurd (m4.2 h.symm) e2
          have x2 : t'.toList.isEmpty = false := txt_full (by omega)
          have HDD := hide (And.intro D1 D2)
          cases ng'
          · have hf := hide (s2 (by omega) (by show 0 < dg es'; exact d2))
            clear s1 s2 s3 s4 s5 n4 m4 empty D1 D2 HCC
            cases ng <;>
            · go_wp2
              go_ret2
              exact ⟨K0, .inr ⟨HDD.out.1, HDD.out.2, by rw [hf.out]; rfl⟩⟩
          · have hf := hide (s3 (by omega) (by show -dg es' < 0; omega))
            clear s1 s2 s3 s4 s5 n4 m4 empty D1 D2 HCC
            cases ng <;>
            · go_wp2
              go_ret2
              exact ⟨K0, .inr ⟨HDD.out.1, HDD.out.2, by rw [hf.out]; rfl⟩⟩
      · have d1 : 0 < dg es := by
          rcases Int.lt_or_eq_of_le g1 with h | h
          · exact h
          · exact absurd (n4.2 h.symm) e1
        have x1 : t.toList.isEmpty = false := txt_full (by omega)
        have HDD := hide (And.intro D1 D2)
        by_cases e2 : a' = b'
        · have d2 := m4.1 e2
          have x2 := empty (u := t') (by omega)
          have v2 : sgv ng' (dg es') = 0 := by rw [d2]; unfold sgv; split <;> rfl
          cases ng
          · have hf := hide (s4 (by show 0 < dg es; exact d1) (by omega))
            clear s1 s2 s3 s4 s5 n4 m4 empty D1 D2 HCC
            cases ng' <;>
            · go_wp2
              go_ret2
              exact ⟨K0, .inr ⟨HDD.out.1, HDD.out.2, by rw [hf.out]; rfl⟩⟩
          · have hf := hide (s1 (by show -dg es < 0; omega) (by omega))
            clear s1 s2 s3 s4 s5 n4 m4 empty D1 D2 HCC
            cases ng' <;>
            · go_wp2
              go_ret2
              exact ⟨K0, .inr ⟨HDD.out.1, HDD.out.2, by rw [hf.out]; rfl⟩⟩
        · have d2 : 0 < dg es' := by
            rcases Int.lt_or_eq_of_le g2 with h | h
            · exact h
            · exact absurd (m4.2 h.symm) e2
          have x2 : t'.toList.isEmpty = false := txt_full (by omega)
          have HSz := hide (show ∀ (w : World) (u u' : Bool), _ from fun w u u' => size7 (w := w) (ng := u) (ng' := u') D1 HD.out.1 HD.out.2.1 hl hP hP2 D2 HD.out.2.2.1 HD.out.2.2.2 hl' hP' hP2' (by omega) (by omega))
          cases ng <;> cases ng'
          · have hf := hide (show dcmp (dg es) (P - N) (dg es') (P' - N') = c from HCC.out)
            clear s1 s2 s3 s4 s5 n4 m4 empty D1 D2 HCC
            go_wp2_with fail
            refine (HSz.out _ _ _).mono ?_
            rintro x w5 ⟨rfl, b5⟩
            replace K0 := below_trans K0 b5
            rw [hf.out]
            clear b5 c10 c11 c12 c20 c21 c22
            go_wp2
            go_ret2
            exact ⟨K0, .inr ⟨HDD.out.1, HDD.out.2, rfl⟩⟩
          · have hf := hide (s4 (by show 0 < dg es; exact d1) (by show -dg es' ≤ 0; omega))
            clear s1 s2 s3 s4 s5 n4 m4 empty D1 D2 HCC
            go_wp2
            go_ret2
            exact ⟨K0, .inr ⟨HDD.out.1, HDD.out.2, by rw [hf.out]; rfl⟩⟩
          · have hf := hide (s1 (by show -dg es < 0; omega) (by show 0 ≤ dg es'; omega))
            clear s1 s2 s3 s4 s5 n4 m4 empty D1 D2 HCC
            go_wp2
            go_ret2
            exact ⟨K0, .inr ⟨HDD.out.1, HDD.out.2, by rw [hf.out]; rfl⟩⟩
          · have hf0 : -dcmp (dg es) (P - N) (dg es') (P' - N') = c := by rw [← dcmp_neg]; exact HCC.out
            obtain ⟨r0, r1⟩ := sgn_range (dg es * tn ((P - N).toNat + (-(P' - N')).toNat)) (dg es' * tn ((P' - N').toNat + (-(P - N)).toNat))
            obtain ⟨k, hk⟩ : ∃ k, dcmp (dg es) (P - N) (dg es') (P' - N') = k := ⟨_, rfl⟩
            have r0' : -1 ≤ k := by rw [← hk]; exact r0
            have r1' : k ≤ 1 := by rw [← hk]; exact r1
            rw [hk] at hf0
            have Hk := hide hk
            have hf := hide hf0
            clear s1 s2 s3 s4 s5 n4 m4 empty D1 D2 HCC r0 r1 hk hf0
            go_wp2_with fail
            refine (HSz.out _ _ _).mono ?_
            rintro x w5 ⟨rfl, b5⟩
            replace K0 := below_trans K0 b5
            rw [Hk.out]
            clear b5 c10 c11 c12 c20 c21 c22
            go_wp2
            go_ret2
            exact ⟨K0, .inr ⟨HDD.out.1, HDD.out.2, by rw [← hf.out]; rfl⟩⟩
    · have HDD := hide D2
      clear D2
      go_wp2
      go_ret2
      exact ⟨K0, .inl ⟨fun h => HDD.out h.2, rfl⟩⟩
  · have HDD := hide D1
    clear D1
    go_wp2
    go_ret2
    exact ⟨K0, .inl ⟨fun h => HDD.out h.1, rfl⟩⟩

set_option maxRecDepth 100000 in
set_option maxHeartbeats 8000000 in
theorem compares_walk {w : World} {es es' : List Int} {s s' : ByteArray} {N N' : Nat} {ng ng' : Bool} {P P' : Int} (hd : Byt es) (hs : s = strOfNums es) (hN : es.length = N) (hl : N ≤ 1048576) (hP : -9223372036854775808 ≤ P) (hP2 : P ≤ 9223372036854775807)
    (hd' : Byt es') (hs' : s' = strOfNums es') (hN' : es'.length = N') (hl' : N' ≤ 1048576) (hP' : -9223372036854775808 ≤ P') (hP2' : P' ≤ 9223372036854775807) :
    Calls Try.prog 3 #[.agg #[.bool ng, .string s, .int .i64 P], .agg #[.bool ng', .string s', .int .i64 P']] w fun e w' => e = .returned (.bool true) ∧ Below w.heap.size w w' := by
  have H1 := hide (show ∀ w : World, _ from fun w => dcmp_any (w := w) (ng := ng) (ng' := ng') hd hs hN (by omega) hP hP2 hd' hs' hN' (by omega) hP' hP2')
  have H2 := hide (show ∀ w : World, _ from fun w => rcmp7 (w := w) (ng := ng) (ng' := ng') hd hs hN hl hP hP2 hd' hs' hN' hl' hP' hP2')
  clear hd hs hN hd' hs' hN'
  have K0 : Below w.heap.size w ((w.alloc (.cells #[.bool ng, .string s, .int .i64 P] 23)).alloc (.cells #[.bool ng', .string s', .int .i64 P'] 23)) := below_trans (al_one _ _) (al_one _ _)
  have C1 := (cell3_new w (.bool ng) (.string s) (.int .i64 P) 23).below (al_one _ (.cells #[.bool ng', .string s', .int .i64 P'] 23))
  have C2 := cell3_new (w.alloc (.cells #[.bool ng, .string s, .int .i64 P] 23)) (.bool ng') (.string s') (.int .i64 P') 23
  rw [show (w.alloc (.cells #[.bool ng, .string s, .int .i64 P] 23)).heap.size = w.heap.size + 1 by simp] at C2
  go_enter Try.func3, Try.ntmps3
  go_wp2_with fail
  refine (H1.out _).mono ?_
  rintro x w1 ⟨b1, h1⟩
  replace K0 := below_trans K0 b1; replace C1 := C1.below b1; replace C2 := C2.below b1
  clear b1 H1
  have c10 := C1.c0; have c11 := C1.c1; have c12 := C1.c2
  have c20 := C2.c0; have c21 := C2.c1; have c22 := C2.c2
  rcases h1 with ⟨n1, rfl⟩ | ⟨n1, n2, rfl⟩
  · go_wp2_with fail
    refine (H2.out _).mono ?_
    rintro x w2 ⟨b2, h2⟩
    replace K0 := below_trans K0 b2
    clear b2 c10 c11 c12 c20 c21 c22
    rcases h2 with ⟨_, rfl⟩ | ⟨m1, m2, _⟩
    · go_wp2
      go_ret
      exact ⟨rfl, K0⟩
    · exact absurd ⟨m1, m2⟩ n1
  · obtain ⟨c, hc⟩ : ∃ c, dcmp (sgv ng (dg es)) (P - N) (sgv ng' (dg es')) (P' - N') = c := ⟨_, rfl⟩
    rw [hc]
    rw [hc] at H2
    clear hc
    go_wp2_with fail
    refine (H2.out _).mono ?_
    rintro x w2 ⟨b2, h2⟩
    replace K0 := below_trans K0 b2
    clear b2 c10 c11 c12 c20 c21 c22
    rcases h2 with ⟨m, _⟩ | ⟨_, _, rfl⟩
    · exact absurd ⟨n1, n2⟩ m
    · go_wp2
      go_ret
      exact ⟨rfl, K0⟩

end Go.Proofs.Ytigehipclkoecaa
