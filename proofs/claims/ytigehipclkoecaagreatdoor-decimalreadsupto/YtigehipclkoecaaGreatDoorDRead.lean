/- decimal.leading, infinite, nearest, Read -/
import Derived.Test.YtigehipclkoecaaGreatDoorDScaled
namespace Go.Proofs.YtigehipclkoecaaGreatDoor
open Go.RowKit
set_option linter.unusedVariables false

theorem dv_first {F L I N q r r' : Int} (W : Wide F L I) (h : DV F L I N q r) (h' : DV F L I N q r') : r = r' := dv_same (by have := W.f0; omega) h h' (dle_refl _ _) (dle_refl _ _)
theorem near_none {F L I r : Int} (W : Wide F L I) (h : Near F L I (2 * 0 + b2i false) (0 - 1) r) : r = 0 := by
  have k := near_dn_up (F := F) (L := L) (I := I) (r := r) (N := 0) (e := 0) (by have := W.f0; omega) W.l1 (by have g := h; rw [show b2i false = 0 from rfl] at g; simpa using g)
  refine dv_first W (N := 0) (q := 0) ?_ (dv_zero W)
  unfold DV
  simpa [tn_zero] using k
theorem near_infinite {F L I r : Int} (W : Wide F L I) (h : Near F L I (2 * 1 + b2i false) (1240 - 1) r) : r = I := by
  have k := near_dn_up (N := 1) (e := 1240) (by have := W.f0; omega) W.l1 h
  refine dv_first W (N := p2 1240) (q := 0) ?_ (dv_large (k := 310) W ?_ (by omega))
  · unfold DV
    simpa [tn_zero] using k
  · rw [p2_pow]; unfold tn; decide +kernel
theorem dg_pos_last {xs : List Int} (h : Dg xs) (hl : 0 < xs.length) (h1 : Nt.lb xs (xs.length - 1) ≠ 48) : 0 < dg xs := by
  rcases List.eq_nil_or_concat xs with e | ⟨l, b, e⟩
  · subst e; simp at hl
  · rw [List.concat_eq_append] at e
    subst e
    have hb : Nt.lb (l ++ [b]) ((l ++ [b]).length - 1) = b := by simp [Nt.lb]
    rw [hb] at h1
    have := h b (by simp)
    have := dg_range (xs := l) (fun x hx => h x (by simp [hx]))
    rw [dg_snoc]; omega
theorem lb_drop {xs : List Int} (k i : Nat) : Nt.lb (xs.drop k) i = Nt.lb xs (k + i) := by simp [Nt.lb, List.getElem?_drop]
theorem lb_take {xs : List Int} {k i : Nat} (h : i < k) : Nt.lb (xs.take k) i = Nt.lb xs i := by simp [Nt.lb, h]
/-- what stands behind 800 digits -/
theorem dv_leading {F L I q r : Int} {ds : List Int} {N : Nat} (W : Wide F L I) (hd : Dg ds) (hN : ds.length = N) (h8 : 800 < N) (h0 : Nt.lb ds 0 ≠ 48) (h1 : Nt.lb ds (N - 1) ≠ 48)
    (hq : q ≤ 800) (h : DV F L I (dg (ds.take 800) * 10 + 1) (q - 801) r) : DV F L I (dg ds) (q - N) r := by
  have e : dg ds = dg (ds.take 800) * tn (N - 800) + dg (ds.drop 800) := by
    have k := dg_append (ds.take 800) (ds.drop 800)
    rw [List.take_append_drop, List.length_drop, hN] at k
    exact k
  have p := dg_pos_last (hd.drop 800) (by rw [List.length_drop]; omega) (by rw [List.length_drop, lb_drop, hN, show 800 + (N - 800 - 1) = N - 1 by omega]; exact h1)
  have s := (dg_range (hd.drop 800)).2
  rw [List.length_drop, hN] at s
  have l := dg_lead' (hd.take 800) (by rw [List.length_take]; omega) (by rw [lb_take (by omega)]; exact h0)
  rw [List.length_take, show min 800 ds.length - 1 = 799 by omega] at l
  have t10 : tn 1 = 10 := by decide
  refine dv_cut (A := dg (ds.take 800)) (j := 1) (j' := N - 800) W l ?_ ?_ ?_ ?_ ?_ ?_ h
  · rw [t10]; omega
  · rw [t10]; omega
  · omega
  · rw [e, Int.add_mul, Int.one_mul]; omega
  · omega
  · omega
theorem join_one (xs : List Int) : strOfNums xs ++ (⟨#[49]⟩ : ByteArray) = strOfNums (xs ++ [49]) := by rw [← txt_join]; rfl

set_option maxRecDepth 100000 in
set_option maxHeartbeats 8000000 in
theorem leading_any {w : World} {ds : List Int} {s : ByteArray} {N : Nat} (hd : Dg ds) (hs : s = strOfNums ds) (hN : ds.length = N) (n0 : 0 < N) (hl : N ≤ 4611686018427387904) (h0 : Nt.lb ds 0 ≠ 48) :
    Calls Tryz.prog 86 #[.string s] w fun e w' => ∃ v M, ∃ K : Nat, e = .returned (.tuple #[v, .int .i64 K]) ∧ Arg w' v M 120 ∧ 0 < M ∧ Below w.heap.size w w' ∧ 1 ≤ K ∧ K ≤ 801 ∧
      ((N ≤ 800 ∧ M = dg ds ∧ K = N) ∨ (800 < N ∧ M = dg (ds.take 800) * 10 + 1 ∧ K = 801)) := by
  have hsz : s.size = N := by rw [hs, strOfNums_size, hN]
  have hpos : 0 < dg ds := by have := dg_lead' hd (by omega) h0; have := tn_pos (ds.length - 1); omega
  by_cases c : 800 < N
  · have x1 : s.extract 0 800 = strOfNums (ds.take 800) := by rw [hs, txt_cut, List.drop_zero]
    have l8 : (ds.take 800).length = 800 := by rw [List.length_take]; omega
    have z8 : (strOfNums (ds.take 800)).size = 800 := by rw [strOfNums_size, l8]
    have x2 := join_one (ds.take 800)
    have z9 : (strOfNums (ds.take 800 ++ [49])).size = 801 := by rw [strOfNums_size, List.length_append, l8]; rfl
    have p8 := (dg_range (hd.take 800)).1
    have H := fun w => qread_few (w := w) (es := ds.take 800 ++ [49]) (s := strOfNums (ds.take 800 ++ [49])) (N := 801) ((hd.take 800).append (fun x hx => by simp at hx; subst hx; decide)) rfl (by rw [List.length_append, l8]; rfl) (by omega) (by omega) (by
      rw [show Nt.lb (ds.take 800 ++ [49]) 0 = Nt.lb ds 0 by rw [lb_append_left (by omega), lb_take (by omega)]]; exact h0)
    rw [dg_snoc] at H
    have c1 : (800 : Int) < (N : Int) := by omega
    have HP := hide (And.intro hpos p8)
    clear hd hs hN h0 hpos p8
    go_enter Tryz.func86, Tryz.ntmps86
    go_wp2_with fail
    with_reducible refine (H _).mono ?_
    clear H
    rintro e w1 ⟨v, rfl, hA, b⟩
    have HA := hide (And.intro hA b)
    clear hA b
    go_wp2
    go_ret2
    exact ⟨v, _, 801, rfl, HA.out.1, by have := HP.out; omega, HA.out.2, by omega, by omega, .inr ⟨c, by omega, rfl⟩⟩
  · have c1 : ¬ (800 : Int) < (N : Int) := by omega
    have H := qread_few (w := w) hd hs hN (by omega) n0 h0
    have HP := hide hpos
    clear hd hs hN h0 hpos
    go_enter Tryz.func86, Tryz.ntmps86
    go_wp2_with fail
    with_reducible refine H.mono ?_
    clear H
    rintro e w1 ⟨v, rfl, hA, b⟩
    have HA := hide (And.intro hA b)
    clear hA b
    go_wp2
    go_ret2
    exact ⟨v, _, N, rfl, HA.out.1, HP.out, HA.out.2, by omega, by omega, .inl ⟨by omega, rfl, rfl⟩⟩

set_option maxRecDepth 100000 in
set_option maxHeartbeats 8000000 in
theorem dinf_h {w : World} (T : Lays w) {ng : Bool} :
    Calls Tryz.prog 94 #[.bool ng] w fun x w' => x = .returned (.int .u16 (31744 + b2i ng * 32768)) ∧ Below w.heap.size w w' := by
  go_enter Tryz.func94, Tryz.ntmps94
  go_wp2_with fail
  with_reducible refine (from_any 1 (by omega) (by omega)).mono ?_
  rintro x w1 ⟨v, rfl, h1, b1⟩
  have H1 := hide h1.arg
  clear h1
  go_wp2_with fail
  with_reducible refine (round_16 (T.below b1) H1.out (by omega) (by omega) (by omega)).mono ?_
  rintro x w2 ⟨r, rfl, hN, b2⟩
  have hr := near_infinite wide_h hN
  subst hr
  have K := below_trans b1 b2
  clear hN b1 b2
  go_wp2
  go_ret
  exact ⟨rfl, K⟩

set_option maxRecDepth 100000 in
set_option maxHeartbeats 8000000 in
theorem dnone_h {w : World} (T : Lays w) {ng : Bool} {P a : Int} (hP : -9223372036854775808 ≤ P) (hP2 : P ≤ 9223372036854775807) (ha0 : 0 ≤ a) (ha : a ≤ 4611686018427387904) :
    Calls Tryz.prog 50 #[.agg #[.bool ng, .string ⟨#[]⟩, .int .i64 P, .int .i64 a]] w fun x w' => x = .returned (.int .u16 (b2i ng * 32768)) ∧ Below w.heap.size w w' := by
  obtain ⟨pl, hpl⟩ : ∃ pl, max P (-331) - a = pl := ⟨_, rfl⟩
  have hpr : -9223372036854775808 ≤ max P (-331) - a ∧ max P (-331) - a ≤ 9223372036854775807 := by omega
  obtain ⟨p0, p1⟩ := hpr
  clear hpl
  go_enter Tryz.func50, Tryz.ntmps50
  by_cases m : P < -331
  · go_wp2_with fail
    with_reducible refine (round_16 (ka := 0) (T.below (al_one _ _)) (arg_none _ 0) (by omega) (by omega) (by omega)).mono ?_
    rintro x w2 ⟨r, rfl, hN, b2⟩
    have hr := near_none wide_h hN
    subst hr
    have K := below_trans (al_one _ _) b2
    clear hN b2
    go_wp2
    go_ret
    exact ⟨rfl, K⟩
  · go_wp2_with fail
    with_reducible refine (round_16 (ka := 0) (T.below (al_one _ _)) (arg_none _ 0) (by omega) (by omega) (by omega)).mono ?_
    rintro x w2 ⟨r, rfl, hN, b2⟩
    have hr := near_none wide_h hN
    subst hr
    have K := below_trans (al_one _ _) b2
    clear hN b2
    go_wp2
    go_ret
    exact ⟨rfl, K⟩

set_option maxRecDepth 100000 in
set_option maxHeartbeats 8000000 in
theorem dnear_h {w : World} (T : Lays w) {ds : List Int} {s : ByteArray} {N a : Nat} {ng : Bool} {P : Int} (hd : Dg ds) (hs : s = strOfNums ds) (hN : ds.length = N) (n0 : 0 < N) (hl : N ≤ 4611686018427387904) (h0 : Nt.lb ds 0 ≠ 48) (h1 : Nt.lb ds (N - 1) ≠ 48)
    (hP : -9223372036854775808 ≤ P) (hP2 : P ≤ 9223372036854775807) (ha : a ≤ 4611686018427387904) :
    Calls Tryz.prog 50 #[.agg #[.bool ng, .string s, .int .i64 P, .int .i64 a]] w fun x w' => ∃ r, x = .returned (.int .u16 (r + b2i ng * 32768)) ∧ DV 1024 (-24) 31744 (dg ds) (P - a - N) r ∧ Below w.heap.size w w' := by
  have hsz : s.size = N := by rw [hs, strOfNums_size, hN]
  have he : s.toList.isEmpty = false := txt_full (by omega)
  obtain ⟨r0, r1⟩ := dg_range hd
  rw [hN] at r1
  have HL := hide (dg_lead' hd (by omega) h0)
  have HS := hide (show P - (a : Int) < -330 → DV 1024 (-24) 31744 (dg ds) (P - a - N) 0 from fun g => dv_small (k := N) wide_h r0 r1 (by omega))
  have HB := hide (show 310 < P - (a : Int) → DV 1024 (-24) 31744 (dg ds) (P - a - N) 31744 from fun g => dv_large (k := N - 1) wide_h (by have := HL.out; rwa [hN] at this) (by omega))
  have HE := hide (show ∀ r, 800 < N → P - (a : Int) ≤ 800 → DV 1024 (-24) 31744 (dg (ds.take 800) * 10 + 1) (P - a - 801) r → DV 1024 (-24) 31744 (dg ds) (P - a - N) r from fun r g g2 h => dv_leading wide_h hd hN g h0 h1 g2 h)
  have HLd := hide (show ∀ w : World, _ from fun w => leading_any (w := w) hd hs hN n0 hl h0)
  clear hd hs hN h0 h1 r0 r1 HL
  have K0 : Below w.heap.size w (w.alloc (.cells #[.bool ng, .string s, .int .i64 P, .int .i64 a] 79)) := al_one _ _
  go_enter Tryz.func50, Tryz.ntmps50
  by_cases m : P < -331
  · have q1 : -331 - (a : Int) < -330 := by omega
    go_wp2_with fail
    with_reducible refine (round_16 (ka := 0) (T.below K0) (arg_none _ 0) (by omega) (by omega) (by omega)).mono ?_
    rintro x w2 ⟨r, rfl, hN, b2⟩
    have hr := near_none wide_h hN
    subst hr
    have K := below_trans K0 b2
    clear hN b2
    go_wp2
    go_ret
    exact ⟨0, ret_int (by omega), HS.out (by omega), K⟩
  · by_cases q1 : P - (a : Int) < -330
    · go_wp2_with fail
      with_reducible refine (round_16 (ka := 0) (T.below K0) (arg_none _ 0) (by omega) (by omega) (by omega)).mono ?_
      rintro x w2 ⟨r, rfl, hN, b2⟩
      have hr := near_none wide_h hN
      subst hr
      have K := below_trans K0 b2
      clear hN b2
      go_wp2
      go_ret
      exact ⟨0, ret_int (by omega), HS.out (by omega), K⟩
    · by_cases q2 : 310 < P - (a : Int)
      · go_wp2_with fail
        with_reducible refine (dinf_h (T.below K0)).mono ?_
        rintro x w2 ⟨rfl, b2⟩
        have K := below_trans K0 b2
        clear b2
        go_wp2
        go_ret
        exact ⟨_, rfl, HB.out (by omega), K⟩
      · go_wp2_with fail
        refine (HLd.out _).mono ?_
        rintro x w2 ⟨v, M, Kn, rfl, hA, m0, b2, k1, k2, hcase⟩
        have HC := hide hcase
        have HA := hide hA
        have Hm := hide m0
        clear hcase hA m0
        have K := below_trans K0 b2
        have c0 : w2.cell? ⟨w.heap.size, 0, none⟩ = some (.bool ng) := (b2.cell (p := ⟨w.heap.size, 0, none⟩) (by simp)).trans (by rw [World.cell?_alloc_at _ _ _ _ rfl]; rfl)
        clear b2
        go_wp2_with fail
        with_reducible refine (scaled_h (T.below K) HA.out Hm.out (by omega) (by omega)).mono ?_
        rintro x w3 ⟨r, rfl, hN, b3⟩
        have HN := hide (show DV 1024 (-24) 31744 (dg ds) (P - a - N) r by
          rcases HC.out with ⟨u1, u2, u3⟩ | ⟨u1, u2, u3⟩
          · rw [← u2, ← u3]; exact hN
          · refine HE.out r u1 (by omega) ?_
            rw [← u2]
            rw [u3] at hN
            exact hN)
        have K3 := below_trans K b3
        clear hN b3 c0
        go_wp2
        go_ret
        exact ⟨r, rfl, HN.out, K3⟩

set_option maxRecDepth 100000 in
set_option maxHeartbeats 8000000 in
theorem dread_h {w : World} (T : Lays w) {es : List Int} {s : ByteArray} {N : Nat} {ng : Bool} {P : Int} (hd : Byt es) (hs : s = strOfNums es) (hN : es.length = N) (hl : N ≤ 4611686018427387904) (hP : -9223372036854775808 ≤ P) (hP2 : P ≤ 9223372036854775807) :
    Calls Tryz.prog 22 #[.agg #[.bool ng, .string s, .int .i64 P]] w fun x w' => Below w.heap.size w w' ∧
      ((¬ Dg es ∧ x = .returned (.tuple #[.int .u16 0, .bool false])) ∨
       (Dg es ∧ ∃ r, x = .returned (.tuple #[.int .u16 (r + b2i ng * 32768), .bool true]) ∧ DV 1024 (-24) 31744 (dg es) (P - N) r)) := by
  have HNum := hide (show ∀ w : World, _ from fun w => numberOf_any (w := w) (ng := ng) (P := P) hd hs hN (by omega))
  have HL := hide hN
  clear hd hs hN
  go_enter Tryz.func22, Tryz.ntmps22
  have K0 : Below w.heap.size w (w.alloc (.cells #[.bool ng, .string s, .int .i64 P] 23)) := al_one _ _
  go_wp2_with fail
  refine (HNum.out _).mono ?_
  rintro x w1 ⟨b1, hcase⟩
  have K1 := below_trans K0 b1
  clear b1 K0 HNum
  rcases hcase with ⟨h1, rfl⟩ | ⟨h1, h2, rfl⟩ | ⟨h1, a, b, h2, h3, h4, h5, h6, h7, rfl⟩
  · have H1 := hide h1
    clear h1
    go_wp2
    go_ret2
    exact ⟨below_trans K1 (al_one _ _), .inl ⟨H1.out, rfl⟩⟩
  · have H1 := hide (And.intro h1 h2)
    clear h1 h2
    go_wp2_with fail
    with_reducible refine (dnone_h (T.below (below_trans K1 (al_one _ _))) (by omega) (by omega) (by omega) (by omega)).mono ?_
    rintro x w2 ⟨rfl, b2⟩
    have K2 := below_trans (below_trans K1 (al_one _ _)) b2
    clear b2
    go_wp2
    go_ret2
    refine ⟨K2, .inr ⟨H1.out.1, 0, by rw [Int.zero_add]; rfl, ?_⟩⟩
    rw [dg_all (es := es) (fun j hj => H1.out.2 j (by rw [HL.out] at hj; exact hj)), dg_noughts]
    exact dv_zero wide_h
  · have H1 := hide (And.intro h1 (And.intro h4 (And.intro h5 (And.intro h6 h7))))
    clear h1 h4 h5 h6 h7
    have hab : ((es.take b).drop a).length = b - a := by rw [List.length_drop, List.length_take, HL.out]; omega
    have HN := hide (show ∀ (w : World) (T : Lays w), _ from fun w T => dnear_h (w := w) (ng := ng) (P := P) (a := a) (s := strOfNums ((es.take b).drop a)) T ((H1.out.1.take b).drop a) rfl hab (by omega) (by omega)
      (by rw [lb_drop, Nat.add_zero, lb_take (by omega)]; exact H1.out.2.1) (by rw [lb_drop, lb_take (by omega), show a + (b - a - 1) = b - 1 by omega]; exact H1.out.2.2.1) hP hP2 (by omega))
    clear hab
    go_wp2_with fail
    refine (HN.out _ (T.below (below_trans K1 (al_one _ _)))).mono ?_
    rintro x w2 ⟨r, rfl, hv, b2⟩
    have HV := hide hv
    have K2 := below_trans (below_trans K1 (al_one _ _)) b2
    clear b2 hv
    go_wp2
    go_ret2
    refine ⟨K2, .inr ⟨H1.out.1, r, rfl, ?_⟩⟩
    have k := dv_behind (N - b) HV.out
    rw [show P - (a : Int) - ((b - a : Nat) : Int) - ((N - b : Nat) : Int) = P - N by omega] at k
    have e := dg_between (es := es) (f := a) (e := b) (by rw [HL.out]; exact h3) (by omega) H1.out.2.2.2.1 (fun j hj hk => H1.out.2.2.2.2 j hj (by rw [HL.out] at hk; exact hk))
    rw [HL.out] at e
    rw [e]
    exact k

set_option maxRecDepth 100000 in
set_option maxHeartbeats 8000000 in
theorem dinf_s {w : World} (T : Lays w) {ng : Bool} :
    Calls Tryz.prog 85 #[.bool ng] w fun x w' => x = .returned (.int .u32 (2139095040 + b2i ng * 2147483648)) ∧ Below w.heap.size w w' := by
  go_enter Tryz.func85, Tryz.ntmps85
  go_wp2_with fail
  with_reducible refine (from_any 1 (by omega) (by omega)).mono ?_
  rintro x w1 ⟨v, rfl, h1, b1⟩
  have H1 := hide h1.arg
  clear h1
  go_wp2_with fail
  with_reducible refine (round_32 (T.below b1) H1.out (by omega) (by omega) (by omega)).mono ?_
  rintro x w2 ⟨r, rfl, hN, b2⟩
  have hr := near_infinite wide_s hN
  subst hr
  have K := below_trans b1 b2
  clear hN b1 b2
  go_wp2
  go_ret
  exact ⟨rfl, K⟩

set_option maxRecDepth 100000 in
set_option maxHeartbeats 8000000 in
theorem dnone_s {w : World} (T : Lays w) {ng : Bool} {P a : Int} (hP : -9223372036854775808 ≤ P) (hP2 : P ≤ 9223372036854775807) (ha0 : 0 ≤ a) (ha : a ≤ 4611686018427387904) :
    Calls Tryz.prog 47 #[.agg #[.bool ng, .string ⟨#[]⟩, .int .i64 P, .int .i64 a]] w fun x w' => x = .returned (.int .u32 (b2i ng * 2147483648)) ∧ Below w.heap.size w w' := by
  obtain ⟨pl, hpl⟩ : ∃ pl, max P (-331) - a = pl := ⟨_, rfl⟩
  have hpr : -9223372036854775808 ≤ max P (-331) - a ∧ max P (-331) - a ≤ 9223372036854775807 := by omega
  obtain ⟨p0, p1⟩ := hpr
  clear hpl
  go_enter Tryz.func47, Tryz.ntmps47
  by_cases m : P < -331
  · go_wp2_with fail
    with_reducible refine (round_32 (ka := 0) (T.below (al_one _ _)) (arg_none _ 0) (by omega) (by omega) (by omega)).mono ?_
    rintro x w2 ⟨r, rfl, hN, b2⟩
    have hr := near_none wide_s hN
    subst hr
    have K := below_trans (al_one _ _) b2
    clear hN b2
    go_wp2
    go_ret
    exact ⟨rfl, K⟩
  · go_wp2_with fail
    with_reducible refine (round_32 (ka := 0) (T.below (al_one _ _)) (arg_none _ 0) (by omega) (by omega) (by omega)).mono ?_
    rintro x w2 ⟨r, rfl, hN, b2⟩
    have hr := near_none wide_s hN
    subst hr
    have K := below_trans (al_one _ _) b2
    clear hN b2
    go_wp2
    go_ret
    exact ⟨rfl, K⟩

set_option maxRecDepth 100000 in
set_option maxHeartbeats 8000000 in
theorem dnear_s {w : World} (T : Lays w) {ds : List Int} {s : ByteArray} {N a : Nat} {ng : Bool} {P : Int} (hd : Dg ds) (hs : s = strOfNums ds) (hN : ds.length = N) (n0 : 0 < N) (hl : N ≤ 4611686018427387904) (h0 : Nt.lb ds 0 ≠ 48) (h1 : Nt.lb ds (N - 1) ≠ 48)
    (hP : -9223372036854775808 ≤ P) (hP2 : P ≤ 9223372036854775807) (ha : a ≤ 4611686018427387904) :
    Calls Tryz.prog 47 #[.agg #[.bool ng, .string s, .int .i64 P, .int .i64 a]] w fun x w' => ∃ r, x = .returned (.int .u32 (r + b2i ng * 2147483648)) ∧ DV 8388608 (-149) 2139095040 (dg ds) (P - a - N) r ∧ Below w.heap.size w w' := by
  have hsz : s.size = N := by rw [hs, strOfNums_size, hN]
  have he : s.toList.isEmpty = false := txt_full (by omega)
  obtain ⟨r0, r1⟩ := dg_range hd
  rw [hN] at r1
  have HL := hide (dg_lead' hd (by omega) h0)
  have HS := hide (show P - (a : Int) < -330 → DV 8388608 (-149) 2139095040 (dg ds) (P - a - N) 0 from fun g => dv_small (k := N) wide_s r0 r1 (by omega))
  have HB := hide (show 310 < P - (a : Int) → DV 8388608 (-149) 2139095040 (dg ds) (P - a - N) 2139095040 from fun g => dv_large (k := N - 1) wide_s (by have := HL.out; rwa [hN] at this) (by omega))
  have HE := hide (show ∀ r, 800 < N → P - (a : Int) ≤ 800 → DV 8388608 (-149) 2139095040 (dg (ds.take 800) * 10 + 1) (P - a - 801) r → DV 8388608 (-149) 2139095040 (dg ds) (P - a - N) r from fun r g g2 h => dv_leading wide_s hd hN g h0 h1 g2 h)
  have HLd := hide (show ∀ w : World, _ from fun w => leading_any (w := w) hd hs hN n0 hl h0)
  clear hd hs hN h0 h1 r0 r1 HL
  have K0 : Below w.heap.size w (w.alloc (.cells #[.bool ng, .string s, .int .i64 P, .int .i64 a] 79)) := al_one _ _
  go_enter Tryz.func47, Tryz.ntmps47
  by_cases m : P < -331
  · have q1 : -331 - (a : Int) < -330 := by omega
    go_wp2_with fail
    with_reducible refine (round_32 (ka := 0) (T.below K0) (arg_none _ 0) (by omega) (by omega) (by omega)).mono ?_
    rintro x w2 ⟨r, rfl, hN, b2⟩
    have hr := near_none wide_s hN
    subst hr
    have K := below_trans K0 b2
    clear hN b2
    go_wp2
    go_ret
    exact ⟨0, ret_int (by omega), HS.out (by omega), K⟩
  · by_cases q1 : P - (a : Int) < -330
    · go_wp2_with fail
      with_reducible refine (round_32 (ka := 0) (T.below K0) (arg_none _ 0) (by omega) (by omega) (by omega)).mono ?_
      rintro x w2 ⟨r, rfl, hN, b2⟩
      have hr := near_none wide_s hN
      subst hr
      have K := below_trans K0 b2
      clear hN b2
      go_wp2
      go_ret
      exact ⟨0, ret_int (by omega), HS.out (by omega), K⟩
    · by_cases q2 : 310 < P - (a : Int)
      · go_wp2_with fail
        with_reducible refine (dinf_s (T.below K0)).mono ?_
        rintro x w2 ⟨rfl, b2⟩
        have K := below_trans K0 b2
        clear b2
        go_wp2
        go_ret
        exact ⟨_, rfl, HB.out (by omega), K⟩
      · go_wp2_with fail
        refine (HLd.out _).mono ?_
        rintro x w2 ⟨v, M, Kn, rfl, hA, m0, b2, k1, k2, hcase⟩
        have HC := hide hcase
        have HA := hide hA
        have Hm := hide m0
        clear hcase hA m0
        have K := below_trans K0 b2
        have c0 : w2.cell? ⟨w.heap.size, 0, none⟩ = some (.bool ng) := (b2.cell (p := ⟨w.heap.size, 0, none⟩) (by simp)).trans (by rw [World.cell?_alloc_at _ _ _ _ rfl]; rfl)
        clear b2
        go_wp2_with fail
        with_reducible refine (scaled_s (T.below K) HA.out Hm.out (by omega) (by omega)).mono ?_
        rintro x w3 ⟨r, rfl, hN, b3⟩
        have HN := hide (show DV 8388608 (-149) 2139095040 (dg ds) (P - a - N) r by
          rcases HC.out with ⟨u1, u2, u3⟩ | ⟨u1, u2, u3⟩
          · rw [← u2, ← u3]; exact hN
          · refine HE.out r u1 (by omega) ?_
            rw [← u2]
            rw [u3] at hN
            exact hN)
        have K3 := below_trans K b3
        clear hN b3 c0
        go_wp2
        go_ret
        exact ⟨r, rfl, HN.out, K3⟩

set_option maxRecDepth 100000 in
set_option maxHeartbeats 8000000 in
theorem dread_s {w : World} (T : Lays w) {es : List Int} {s : ByteArray} {N : Nat} {ng : Bool} {P : Int} (hd : Byt es) (hs : s = strOfNums es) (hN : es.length = N) (hl : N ≤ 4611686018427387904) (hP : -9223372036854775808 ≤ P) (hP2 : P ≤ 9223372036854775807) :
    Calls Tryz.prog 19 #[.agg #[.bool ng, .string s, .int .i64 P]] w fun x w' => Below w.heap.size w w' ∧
      ((¬ Dg es ∧ x = .returned (.tuple #[.int .u32 0, .bool false])) ∨
       (Dg es ∧ ∃ r, x = .returned (.tuple #[.int .u32 (r + b2i ng * 2147483648), .bool true]) ∧ DV 8388608 (-149) 2139095040 (dg es) (P - N) r)) := by
  have HNum := hide (show ∀ w : World, _ from fun w => numberOf_any (w := w) (ng := ng) (P := P) hd hs hN (by omega))
  have HL := hide hN
  clear hd hs hN
  go_enter Tryz.func19, Tryz.ntmps19
  have K0 : Below w.heap.size w (w.alloc (.cells #[.bool ng, .string s, .int .i64 P] 23)) := al_one _ _
  go_wp2_with fail
  refine (HNum.out _).mono ?_
  rintro x w1 ⟨b1, hcase⟩
  have K1 := below_trans K0 b1
  clear b1 K0 HNum
  rcases hcase with ⟨h1, rfl⟩ | ⟨h1, h2, rfl⟩ | ⟨h1, a, b, h2, h3, h4, h5, h6, h7, rfl⟩
  · have H1 := hide h1
    clear h1
    go_wp2
    go_ret2
    exact ⟨below_trans K1 (al_one _ _), .inl ⟨H1.out, rfl⟩⟩
  · have H1 := hide (And.intro h1 h2)
    clear h1 h2
    go_wp2_with fail
    with_reducible refine (dnone_s (T.below (below_trans K1 (al_one _ _))) (by omega) (by omega) (by omega) (by omega)).mono ?_
    rintro x w2 ⟨rfl, b2⟩
    have K2 := below_trans (below_trans K1 (al_one _ _)) b2
    clear b2
    go_wp2
    go_ret2
    refine ⟨K2, .inr ⟨H1.out.1, 0, by rw [Int.zero_add]; rfl, ?_⟩⟩
    rw [dg_all (es := es) (fun j hj => H1.out.2 j (by rw [HL.out] at hj; exact hj)), dg_noughts]
    exact dv_zero wide_s
  · have H1 := hide (And.intro h1 (And.intro h4 (And.intro h5 (And.intro h6 h7))))
    clear h1 h4 h5 h6 h7
    have hab : ((es.take b).drop a).length = b - a := by rw [List.length_drop, List.length_take, HL.out]; omega
    have HN := hide (show ∀ (w : World) (T : Lays w), _ from fun w T => dnear_s (w := w) (ng := ng) (P := P) (a := a) (s := strOfNums ((es.take b).drop a)) T ((H1.out.1.take b).drop a) rfl hab (by omega) (by omega)
      (by rw [lb_drop, Nat.add_zero, lb_take (by omega)]; exact H1.out.2.1) (by rw [lb_drop, lb_take (by omega), show a + (b - a - 1) = b - 1 by omega]; exact H1.out.2.2.1) hP hP2 (by omega))
    clear hab
    go_wp2_with fail
    refine (HN.out _ (T.below (below_trans K1 (al_one _ _)))).mono ?_
    rintro x w2 ⟨r, rfl, hv, b2⟩
    have HV := hide hv
    have K2 := below_trans (below_trans K1 (al_one _ _)) b2
    clear b2 hv
    go_wp2
    go_ret2
    refine ⟨K2, .inr ⟨H1.out.1, r, rfl, ?_⟩⟩
    have k := dv_behind (N - b) HV.out
    rw [show P - (a : Int) - ((b - a : Nat) : Int) - ((N - b : Nat) : Int) = P - N by omega] at k
    have e := dg_between (es := es) (f := a) (e := b) (by rw [HL.out]; exact h3) (by omega) H1.out.2.2.2.1 (fun j hj hk => H1.out.2.2.2.2 j hj (by rw [HL.out] at hk; exact hk))
    rw [HL.out] at e
    rw [e]
    exact k

set_option maxRecDepth 100000 in
set_option maxHeartbeats 8000000 in
theorem dinf_d {w : World} (T : Lays w) {ng : Bool} :
    Calls Tryz.prog 88 #[.bool ng] w fun x w' => x = .returned (.int .u64 (9218868437227405312 + b2i ng * 9223372036854775808)) ∧ Below w.heap.size w w' := by
  go_enter Tryz.func88, Tryz.ntmps88
  go_wp2_with fail
  with_reducible refine (from_any 1 (by omega) (by omega)).mono ?_
  rintro x w1 ⟨v, rfl, h1, b1⟩
  have H1 := hide h1.arg
  clear h1
  go_wp2_with fail
  with_reducible refine (round_64 (T.below b1) H1.out (by omega) (by omega) (by omega)).mono ?_
  rintro x w2 ⟨r, rfl, hN, b2⟩
  have hr := near_infinite wide_d hN
  subst hr
  have K := below_trans b1 b2
  clear hN b1 b2
  go_wp2
  go_ret
  exact ⟨rfl, K⟩

set_option maxRecDepth 100000 in
set_option maxHeartbeats 8000000 in
theorem dnone_d {w : World} (T : Lays w) {ng : Bool} {P a : Int} (hP : -9223372036854775808 ≤ P) (hP2 : P ≤ 9223372036854775807) (ha0 : 0 ≤ a) (ha : a ≤ 4611686018427387904) :
    Calls Tryz.prog 48 #[.agg #[.bool ng, .string ⟨#[]⟩, .int .i64 P, .int .i64 a]] w fun x w' => x = .returned (.int .u64 (b2i ng * 9223372036854775808)) ∧ Below w.heap.size w w' := by
  obtain ⟨pl, hpl⟩ : ∃ pl, max P (-331) - a = pl := ⟨_, rfl⟩
  have hpr : -9223372036854775808 ≤ max P (-331) - a ∧ max P (-331) - a ≤ 9223372036854775807 := by omega
  obtain ⟨p0, p1⟩ := hpr
  clear hpl
  go_enter Tryz.func48, Tryz.ntmps48
  by_cases m : P < -331
  · go_wp2_with fail
    with_reducible refine (round_64 (ka := 0) (T.below (al_one _ _)) (arg_none _ 0) (by omega) (by omega) (by omega)).mono ?_
    rintro x w2 ⟨r, rfl, hN, b2⟩
    have hr := near_none wide_d hN
    subst hr
    have K := below_trans (al_one _ _) b2
    clear hN b2
    go_wp2
    go_ret
    exact ⟨rfl, K⟩
  · go_wp2_with fail
    with_reducible refine (round_64 (ka := 0) (T.below (al_one _ _)) (arg_none _ 0) (by omega) (by omega) (by omega)).mono ?_
    rintro x w2 ⟨r, rfl, hN, b2⟩
    have hr := near_none wide_d hN
    subst hr
    have K := below_trans (al_one _ _) b2
    clear hN b2
    go_wp2
    go_ret
    exact ⟨rfl, K⟩

set_option maxRecDepth 100000 in
set_option maxHeartbeats 8000000 in
theorem dnear_d {w : World} (T : Lays w) {ds : List Int} {s : ByteArray} {N a : Nat} {ng : Bool} {P : Int} (hd : Dg ds) (hs : s = strOfNums ds) (hN : ds.length = N) (n0 : 0 < N) (hl : N ≤ 4611686018427387904) (h0 : Nt.lb ds 0 ≠ 48) (h1 : Nt.lb ds (N - 1) ≠ 48)
    (hP : -9223372036854775808 ≤ P) (hP2 : P ≤ 9223372036854775807) (ha : a ≤ 4611686018427387904) :
    Calls Tryz.prog 48 #[.agg #[.bool ng, .string s, .int .i64 P, .int .i64 a]] w fun x w' => ∃ r, x = .returned (.int .u64 (r + b2i ng * 9223372036854775808)) ∧ DV 4503599627370496 (-1074) 9218868437227405312 (dg ds) (P - a - N) r ∧ Below w.heap.size w w' := by
  have hsz : s.size = N := by rw [hs, strOfNums_size, hN]
  have he : s.toList.isEmpty = false := txt_full (by omega)
  obtain ⟨r0, r1⟩ := dg_range hd
  rw [hN] at r1
  have HL := hide (dg_lead' hd (by omega) h0)
  have HS := hide (show P - (a : Int) < -330 → DV 4503599627370496 (-1074) 9218868437227405312 (dg ds) (P - a - N) 0 from fun g => dv_small (k := N) wide_d r0 r1 (by omega))
  have HB := hide (show 310 < P - (a : Int) → DV 4503599627370496 (-1074) 9218868437227405312 (dg ds) (P - a - N) 9218868437227405312 from fun g => dv_large (k := N - 1) wide_d (by have := HL.out; rwa [hN] at this) (by omega))
  have HE := hide (show ∀ r, 800 < N → P - (a : Int) ≤ 800 → DV 4503599627370496 (-1074) 9218868437227405312 (dg (ds.take 800) * 10 + 1) (P - a - 801) r → DV 4503599627370496 (-1074) 9218868437227405312 (dg ds) (P - a - N) r from fun r g g2 h => dv_leading wide_d hd hN g h0 h1 g2 h)
  have HLd := hide (show ∀ w : World, _ from fun w => leading_any (w := w) hd hs hN n0 hl h0)
  clear hd hs hN h0 h1 r0 r1 HL
  have K0 : Below w.heap.size w (w.alloc (.cells #[.bool ng, .string s, .int .i64 P, .int .i64 a] 79)) := al_one _ _
  go_enter Tryz.func48, Tryz.ntmps48
  by_cases m : P < -331
  · have q1 : -331 - (a : Int) < -330 := by omega
    go_wp2_with fail
    with_reducible refine (round_64 (ka := 0) (T.below K0) (arg_none _ 0) (by omega) (by omega) (by omega)).mono ?_
    rintro x w2 ⟨r, rfl, hN, b2⟩
    have hr := near_none wide_d hN
    subst hr
    have K := below_trans K0 b2
    clear hN b2
    go_wp2
    go_ret
    exact ⟨0, ret_int (by omega), HS.out (by omega), K⟩
  · by_cases q1 : P - (a : Int) < -330
    · go_wp2_with fail
      with_reducible refine (round_64 (ka := 0) (T.below K0) (arg_none _ 0) (by omega) (by omega) (by omega)).mono ?_
      rintro x w2 ⟨r, rfl, hN, b2⟩
      have hr := near_none wide_d hN
      subst hr
      have K := below_trans K0 b2
      clear hN b2
      go_wp2
      go_ret
      exact ⟨0, ret_int (by omega), HS.out (by omega), K⟩
    · by_cases q2 : 310 < P - (a : Int)
      · go_wp2_with fail
        with_reducible refine (dinf_d (T.below K0)).mono ?_
        rintro x w2 ⟨rfl, b2⟩
        have K := below_trans K0 b2
        clear b2
        go_wp2
        go_ret
        exact ⟨_, rfl, HB.out (by omega), K⟩
      · go_wp2_with fail
        refine (HLd.out _).mono ?_
        rintro x w2 ⟨v, M, Kn, rfl, hA, m0, b2, k1, k2, hcase⟩
        have HC := hide hcase
        have HA := hide hA
        have Hm := hide m0
        clear hcase hA m0
        have K := below_trans K0 b2
        have c0 : w2.cell? ⟨w.heap.size, 0, none⟩ = some (.bool ng) := (b2.cell (p := ⟨w.heap.size, 0, none⟩) (by simp)).trans (by rw [World.cell?_alloc_at _ _ _ _ rfl]; rfl)
        clear b2
        go_wp2_with fail
        with_reducible refine (scaled_d (T.below K) HA.out Hm.out (by omega) (by omega)).mono ?_
        rintro x w3 ⟨r, rfl, hN, b3⟩
        have HN := hide (show DV 4503599627370496 (-1074) 9218868437227405312 (dg ds) (P - a - N) r by
          rcases HC.out with ⟨u1, u2, u3⟩ | ⟨u1, u2, u3⟩
          · rw [← u2, ← u3]; exact hN
          · refine HE.out r u1 (by omega) ?_
            rw [← u2]
            rw [u3] at hN
            exact hN)
        have K3 := below_trans K b3
        clear hN b3 c0
        go_wp2
        go_ret
        exact ⟨r, rfl, HN.out, K3⟩

set_option maxRecDepth 100000 in
set_option maxHeartbeats 8000000 in
theorem dread_d {w : World} (T : Lays w) {es : List Int} {s : ByteArray} {N : Nat} {ng : Bool} {P : Int} (hd : Byt es) (hs : s = strOfNums es) (hN : es.length = N) (hl : N ≤ 4611686018427387904) (hP : -9223372036854775808 ≤ P) (hP2 : P ≤ 9223372036854775807) :
    Calls Tryz.prog 20 #[.agg #[.bool ng, .string s, .int .i64 P]] w fun x w' => Below w.heap.size w w' ∧
      ((¬ Dg es ∧ x = .returned (.tuple #[.int .u64 0, .bool false])) ∨
       (Dg es ∧ ∃ r, x = .returned (.tuple #[.int .u64 (r + b2i ng * 9223372036854775808), .bool true]) ∧ DV 4503599627370496 (-1074) 9218868437227405312 (dg es) (P - N) r)) := by
  have HNum := hide (show ∀ w : World, _ from fun w => numberOf_any (w := w) (ng := ng) (P := P) hd hs hN (by omega))
  have HL := hide hN
  clear hd hs hN
  go_enter Tryz.func20, Tryz.ntmps20
  have K0 : Below w.heap.size w (w.alloc (.cells #[.bool ng, .string s, .int .i64 P] 23)) := al_one _ _
  go_wp2_with fail
  refine (HNum.out _).mono ?_
  rintro x w1 ⟨b1, hcase⟩
  have K1 := below_trans K0 b1
  clear b1 K0 HNum
  rcases hcase with ⟨h1, rfl⟩ | ⟨h1, h2, rfl⟩ | ⟨h1, a, b, h2, h3, h4, h5, h6, h7, rfl⟩
  · have H1 := hide h1
    clear h1
    go_wp2
    go_ret2
    exact ⟨below_trans K1 (al_one _ _), .inl ⟨H1.out, rfl⟩⟩
  · have H1 := hide (And.intro h1 h2)
    clear h1 h2
    go_wp2_with fail
    with_reducible refine (dnone_d (T.below (below_trans K1 (al_one _ _))) (by omega) (by omega) (by omega) (by omega)).mono ?_
    rintro x w2 ⟨rfl, b2⟩
    have K2 := below_trans (below_trans K1 (al_one _ _)) b2
    clear b2
    go_wp2
    go_ret2
    refine ⟨K2, .inr ⟨H1.out.1, 0, by rw [Int.zero_add]; rfl, ?_⟩⟩
    rw [dg_all (es := es) (fun j hj => H1.out.2 j (by rw [HL.out] at hj; exact hj)), dg_noughts]
    exact dv_zero wide_d
  · have H1 := hide (And.intro h1 (And.intro h4 (And.intro h5 (And.intro h6 h7))))
    clear h1 h4 h5 h6 h7
    have hab : ((es.take b).drop a).length = b - a := by rw [List.length_drop, List.length_take, HL.out]; omega
    have HN := hide (show ∀ (w : World) (T : Lays w), _ from fun w T => dnear_d (w := w) (ng := ng) (P := P) (a := a) (s := strOfNums ((es.take b).drop a)) T ((H1.out.1.take b).drop a) rfl hab (by omega) (by omega)
      (by rw [lb_drop, Nat.add_zero, lb_take (by omega)]; exact H1.out.2.1) (by rw [lb_drop, lb_take (by omega), show a + (b - a - 1) = b - 1 by omega]; exact H1.out.2.2.1) hP hP2 (by omega))
    clear hab
    go_wp2_with fail
    refine (HN.out _ (T.below (below_trans K1 (al_one _ _)))).mono ?_
    rintro x w2 ⟨r, rfl, hv, b2⟩
    have HV := hide hv
    have K2 := below_trans (below_trans K1 (al_one _ _)) b2
    clear b2 hv
    go_wp2
    go_ret2
    refine ⟨K2, .inr ⟨H1.out.1, r, rfl, ?_⟩⟩
    have k := dv_behind (N - b) HV.out
    rw [show P - (a : Int) - ((b - a : Nat) : Int) - ((N - b : Nat) : Int) = P - N by omega] at k
    have e := dg_between (es := es) (f := a) (e := b) (by rw [HL.out]; exact h3) (by omega) H1.out.2.2.2.1 (fun j hj hk => H1.out.2.2.2.2 j hj (by rw [HL.out] at hk; exact hk))
    rw [HL.out] at e
    rw [e]
    exact k

set_option maxRecDepth 100000 in
set_option maxHeartbeats 8000000 in
theorem dinf_o {w : World} (T : Lays w) {ng : Bool} :
    Calls Tryz.prog 91 #[.bool ng] w fun x w' => x = .returned (.int .u16 (31744 + b2i ng * 32768)) ∧ Below w.heap.size w w' := by
  go_enter Tryz.func91, Tryz.ntmps91
  go_wp2_with fail
  with_reducible refine (from_any 1 (by omega) (by omega)).mono ?_
  rintro x w1 ⟨v, rfl, h1, b1⟩
  have H1 := hide h1.arg
  clear h1
  go_wp2_with fail
  with_reducible refine (round_o (T.below b1) H1.out (by omega) (by omega) (by omega)).mono ?_
  rintro x w2 ⟨r, rfl, hN, b2⟩
  have hr := near_infinite wide_h hN
  subst hr
  have K := below_trans b1 b2
  clear hN b1 b2
  go_wp2
  go_ret
  exact ⟨rfl, K⟩

set_option maxRecDepth 100000 in
set_option maxHeartbeats 8000000 in
theorem dnone_o {w : World} (T : Lays w) {ng : Bool} {P a : Int} (hP : -9223372036854775808 ≤ P) (hP2 : P ≤ 9223372036854775807) (ha0 : 0 ≤ a) (ha : a ≤ 4611686018427387904) :
    Calls Tryz.prog 49 #[.agg #[.bool ng, .string ⟨#[]⟩, .int .i64 P, .int .i64 a]] w fun x w' => x = .returned (.int .u16 (b2i ng * 32768)) ∧ Below w.heap.size w w' := by
  obtain ⟨pl, hpl⟩ : ∃ pl, max P (-331) - a = pl := ⟨_, rfl⟩
  have hpr : -9223372036854775808 ≤ max P (-331) - a ∧ max P (-331) - a ≤ 9223372036854775807 := by omega
  obtain ⟨p0, p1⟩ := hpr
  clear hpl
  go_enter Tryz.func49, Tryz.ntmps49
  by_cases m : P < -331
  · go_wp2_with fail
    with_reducible refine (round_o (ka := 0) (T.below (al_one _ _)) (arg_none _ 0) (by omega) (by omega) (by omega)).mono ?_
    rintro x w2 ⟨r, rfl, hN, b2⟩
    have hr := near_none wide_h hN
    subst hr
    have K := below_trans (al_one _ _) b2
    clear hN b2
    go_wp2
    go_ret
    exact ⟨rfl, K⟩
  · go_wp2_with fail
    with_reducible refine (round_o (ka := 0) (T.below (al_one _ _)) (arg_none _ 0) (by omega) (by omega) (by omega)).mono ?_
    rintro x w2 ⟨r, rfl, hN, b2⟩
    have hr := near_none wide_h hN
    subst hr
    have K := below_trans (al_one _ _) b2
    clear hN b2
    go_wp2
    go_ret
    exact ⟨rfl, K⟩

set_option maxRecDepth 100000 in
set_option maxHeartbeats 8000000 in
theorem dnear_o {w : World} (T : Lays w) {ds : List Int} {s : ByteArray} {N a : Nat} {ng : Bool} {P : Int} (hd : Dg ds) (hs : s = strOfNums ds) (hN : ds.length = N) (n0 : 0 < N) (hl : N ≤ 4611686018427387904) (h0 : Nt.lb ds 0 ≠ 48) (h1 : Nt.lb ds (N - 1) ≠ 48)
    (hP : -9223372036854775808 ≤ P) (hP2 : P ≤ 9223372036854775807) (ha : a ≤ 4611686018427387904) :
    Calls Tryz.prog 49 #[.agg #[.bool ng, .string s, .int .i64 P, .int .i64 a]] w fun x w' => ∃ r, x = .returned (.int .u16 (r + b2i ng * 32768)) ∧ DV 1024 (-24) 31744 (dg ds) (P - a - N) r ∧ Below w.heap.size w w' := by
  have hsz : s.size = N := by rw [hs, strOfNums_size, hN]
  have he : s.toList.isEmpty = false := txt_full (by omega)
  obtain ⟨r0, r1⟩ := dg_range hd
  rw [hN] at r1
  have HL := hide (dg_lead' hd (by omega) h0)
  have HS := hide (show P - (a : Int) < -330 → DV 1024 (-24) 31744 (dg ds) (P - a - N) 0 from fun g => dv_small (k := N) wide_h r0 r1 (by omega))
  have HB := hide (show 310 < P - (a : Int) → DV 1024 (-24) 31744 (dg ds) (P - a - N) 31744 from fun g => dv_large (k := N - 1) wide_h (by have := HL.out; rwa [hN] at this) (by omega))
  have HE := hide (show ∀ r, 800 < N → P - (a : Int) ≤ 800 → DV 1024 (-24) 31744 (dg (ds.take 800) * 10 + 1) (P - a - 801) r → DV 1024 (-24) 31744 (dg ds) (P - a - N) r from fun r g g2 h => dv_leading wide_h hd hN g h0 h1 g2 h)
  have HLd := hide (show ∀ w : World, _ from fun w => leading_any (w := w) hd hs hN n0 hl h0)
  clear hd hs hN h0 h1 r0 r1 HL
  have K0 : Below w.heap.size w (w.alloc (.cells #[.bool ng, .string s, .int .i64 P, .int .i64 a] 79)) := al_one _ _
  go_enter Tryz.func49, Tryz.ntmps49
  by_cases m : P < -331
  · have q1 : -331 - (a : Int) < -330 := by omega
    go_wp2_with fail
    with_reducible refine (round_o (ka := 0) (T.below K0) (arg_none _ 0) (by omega) (by omega) (by omega)).mono ?_
    rintro x w2 ⟨r, rfl, hN, b2⟩
    have hr := near_none wide_h hN
    subst hr
    have K := below_trans K0 b2
    clear hN b2
    go_wp2
    go_ret
    exact ⟨0, ret_int (by omega), HS.out (by omega), K⟩
  · by_cases q1 : P - (a : Int) < -330
    · go_wp2_with fail
      with_reducible refine (round_o (ka := 0) (T.below K0) (arg_none _ 0) (by omega) (by omega) (by omega)).mono ?_
      rintro x w2 ⟨r, rfl, hN, b2⟩
      have hr := near_none wide_h hN
      subst hr
      have K := below_trans K0 b2
      clear hN b2
      go_wp2
      go_ret
      exact ⟨0, ret_int (by omega), HS.out (by omega), K⟩
    · by_cases q2 : 310 < P - (a : Int)
      · go_wp2_with fail
        with_reducible refine (dinf_o (T.below K0)).mono ?_
        rintro x w2 ⟨rfl, b2⟩
        have K := below_trans K0 b2
        clear b2
        go_wp2
        go_ret
        exact ⟨_, rfl, HB.out (by omega), K⟩
      · go_wp2_with fail
        refine (HLd.out _).mono ?_
        rintro x w2 ⟨v, M, Kn, rfl, hA, m0, b2, k1, k2, hcase⟩
        have HC := hide hcase
        have HA := hide hA
        have Hm := hide m0
        clear hcase hA m0
        have K := below_trans K0 b2
        have c0 : w2.cell? ⟨w.heap.size, 0, none⟩ = some (.bool ng) := (b2.cell (p := ⟨w.heap.size, 0, none⟩) (by simp)).trans (by rw [World.cell?_alloc_at _ _ _ _ rfl]; rfl)
        clear b2
        go_wp2_with fail
        with_reducible refine (scaled_o (T.below K) HA.out Hm.out (by omega) (by omega)).mono ?_
        rintro x w3 ⟨r, rfl, hN, b3⟩
        have HN := hide (show DV 1024 (-24) 31744 (dg ds) (P - a - N) r by
          rcases HC.out with ⟨u1, u2, u3⟩ | ⟨u1, u2, u3⟩
          · rw [← u2, ← u3]; exact hN
          · refine HE.out r u1 (by omega) ?_
            rw [← u2]
            rw [u3] at hN
            exact hN)
        have K3 := below_trans K b3
        clear hN b3 c0
        go_wp2
        go_ret
        exact ⟨r, rfl, HN.out, K3⟩

set_option maxRecDepth 100000 in
set_option maxHeartbeats 8000000 in
theorem dread_o {w : World} (T : Lays w) {es : List Int} {s : ByteArray} {N : Nat} {ng : Bool} {P : Int} (hd : Byt es) (hs : s = strOfNums es) (hN : es.length = N) (hl : N ≤ 4611686018427387904) (hP : -9223372036854775808 ≤ P) (hP2 : P ≤ 9223372036854775807) :
    Calls Tryz.prog 21 #[.agg #[.bool ng, .string s, .int .i64 P]] w fun x w' => Below w.heap.size w w' ∧
      ((¬ Dg es ∧ x = .returned (.tuple #[.int .u16 0, .bool false])) ∨
       (Dg es ∧ ∃ r, x = .returned (.tuple #[.int .u16 (r + b2i ng * 32768), .bool true]) ∧ DV 1024 (-24) 31744 (dg es) (P - N) r)) := by
  have HNum := hide (show ∀ w : World, _ from fun w => numberOf_any (w := w) (ng := ng) (P := P) hd hs hN (by omega))
  have HL := hide hN
  clear hd hs hN
  go_enter Tryz.func21, Tryz.ntmps21
  have K0 : Below w.heap.size w (w.alloc (.cells #[.bool ng, .string s, .int .i64 P] 23)) := al_one _ _
  go_wp2_with fail
  refine (HNum.out _).mono ?_
  rintro x w1 ⟨b1, hcase⟩
  have K1 := below_trans K0 b1
  clear b1 K0 HNum
  rcases hcase with ⟨h1, rfl⟩ | ⟨h1, h2, rfl⟩ | ⟨h1, a, b, h2, h3, h4, h5, h6, h7, rfl⟩
  · have H1 := hide h1
    clear h1
    go_wp2
    go_ret2
    exact ⟨below_trans K1 (al_one _ _), .inl ⟨H1.out, rfl⟩⟩
  · have H1 := hide (And.intro h1 h2)
    clear h1 h2
    go_wp2_with fail
    with_reducible refine (dnone_o (T.below (below_trans K1 (al_one _ _))) (by omega) (by omega) (by omega) (by omega)).mono ?_
    rintro x w2 ⟨rfl, b2⟩
    have K2 := below_trans (below_trans K1 (al_one _ _)) b2
    clear b2
    go_wp2
    go_ret2
    refine ⟨K2, .inr ⟨H1.out.1, 0, by rw [Int.zero_add]; rfl, ?_⟩⟩
    rw [dg_all (es := es) (fun j hj => H1.out.2 j (by rw [HL.out] at hj; exact hj)), dg_noughts]
    exact dv_zero wide_h
  · have H1 := hide (And.intro h1 (And.intro h4 (And.intro h5 (And.intro h6 h7))))
    clear h1 h4 h5 h6 h7
    have hab : ((es.take b).drop a).length = b - a := by rw [List.length_drop, List.length_take, HL.out]; omega
    have HN := hide (show ∀ (w : World) (T : Lays w), _ from fun w T => dnear_o (w := w) (ng := ng) (P := P) (a := a) (s := strOfNums ((es.take b).drop a)) T ((H1.out.1.take b).drop a) rfl hab (by omega) (by omega)
      (by rw [lb_drop, Nat.add_zero, lb_take (by omega)]; exact H1.out.2.1) (by rw [lb_drop, lb_take (by omega), show a + (b - a - 1) = b - 1 by omega]; exact H1.out.2.2.1) hP hP2 (by omega))
    clear hab
    go_wp2_with fail
    refine (HN.out _ (T.below (below_trans K1 (al_one _ _)))).mono ?_
    rintro x w2 ⟨r, rfl, hv, b2⟩
    have HV := hide hv
    have K2 := below_trans (below_trans K1 (al_one _ _)) b2
    clear b2 hv
    go_wp2
    go_ret2
    refine ⟨K2, .inr ⟨H1.out.1, r, rfl, ?_⟩⟩
    have k := dv_behind (N - b) HV.out
    rw [show P - (a : Int) - ((b - a : Nat) : Int) - ((N - b : Nat) : Int) = P - N by omega] at k
    have e := dg_between (es := es) (f := a) (e := b) (by rw [HL.out]; exact h3) (by omega) H1.out.2.2.2.1 (fun j hj hk => H1.out.2.2.2.2 j hj (by rw [HL.out] at hk; exact hk))
    rw [HL.out] at e
    rw [e]
    exact k

end Go.Proofs.YtigehipclkoecaaGreatDoor
