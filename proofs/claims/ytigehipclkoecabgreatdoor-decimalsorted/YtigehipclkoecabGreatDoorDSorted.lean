/- DecimalSorted: the walk -/
import Derived.Test.YtigehipclkoecabGreatDoorDLives
namespace Go.Proofs.YtigehipclkoecabGreatDoor
open Go.RowKit
set_option linter.unusedVariables false

/-- what Cmp answers -/
def CmpIs (es : List Int) (X q : Int) (es' : List Int) (Y q' : Int) (c : Int) (ok : Bool) : Prop :=
  (¬ (Dg es ∧ Dg es') ∧ c = 0 ∧ ok = false) ∨ (Dg es ∧ Dg es' ∧ c = dcmp X q Y q' ∧ ok = true)
theorem cmp_is {w : World} {es es' : List Int} {s s' : ByteArray} {N N' : Nat} {ng ng' : Bool} {P P' : Int} (hd : Byt es) (hs : s = strOfNums es) (hN : es.length = N) (hl : N ≤ 2305843009213693952) (hP : -9223372036854775808 ≤ P) (hP2 : P ≤ 9223372036854775807)
    (hd' : Byt es') (hs' : s' = strOfNums es') (hN' : es'.length = N') (hl' : N' ≤ 2305843009213693952) (hP' : -9223372036854775808 ≤ P') (hP2' : P' ≤ 9223372036854775807) :
    Calls Tryz.prog 8 #[.agg #[.bool ng, .string s, .int .i64 P], .agg #[.bool ng', .string s', .int .i64 P']] w fun e w' => Below w.heap.size w w' ∧ ∃ c ok, e = .returned (.tuple #[.int .i64 c, .bool ok]) ∧ CmpIs es (sgv ng (dg es)) (P - N) es' (sgv ng' (dg es')) (P' - N') c ok := by
  refine (dcmp_any hd hs hN (by omega) hP hP2 hd' hs' hN' (by omega) hP' hP2').mono ?_
  rintro e w1 ⟨b, h⟩
  refine ⟨b, ?_⟩
  rcases h with ⟨h, rfl⟩ | ⟨h, h', rfl⟩
  · exact ⟨_, _, rfl, .inl ⟨h, rfl, rfl⟩⟩
  · exact ⟨_, _, rfl, .inr ⟨h, h', rfl, rfl⟩⟩
theorem dcmp_self (X q : Int) : dcmp X q X q = 0 := sgn_eq rfl
theorem dcmp_flip (X q Y q' : Int) : dcmp Y q' X q = - dcmp X q Y q' := by unfold dcmp; rw [← sgn_flip]
theorem dcmp_range (X q Y q' : Int) : -1 ≤ dcmp X q Y q' ∧ dcmp X q Y q' ≤ 1 := sgn_range _ _
theorem sgn_trans (x y z : Int) : (sgn x y ≤ 0 → sgn y z ≤ 0 → sgn x z ≤ 0) ∧ (0 ≤ sgn x y → 0 ≤ sgn y z → 0 ≤ sgn x z) := by
  have le : ∀ {a b : Int}, sgn a b ≤ 0 ↔ a ≤ b := fun {a b} => by
    unfold sgn
    by_cases c : a < b
    · rw [if_pos c]; omega
    · rw [if_neg c]; split <;> omega
  have ge : ∀ {a b : Int}, 0 ≤ sgn a b ↔ b ≤ a := fun {a b} => by
    unfold sgn
    by_cases c : a < b
    · rw [if_pos c]; omega
    · rw [if_neg c]; split <;> omega
  rw [le, le, le, ge, ge, ge]
  omega
theorem dcmp_trans (X q Y q' Z q'' : Int) : (dcmp X q Y q' ≤ 0 → dcmp Y q' Z q'' ≤ 0 → dcmp X q Z q'' ≤ 0) ∧ (0 ≤ dcmp X q Y q' → 0 ≤ dcmp Y q' Z q'' → 0 ≤ dcmp X q Z q'') := by
  obtain ⟨b, b1, b2, b3⟩ : ∃ b : Int, b ≤ q ∧ b ≤ q' ∧ b ≤ q'' := ⟨min q (min q' q''), by omega, by omega, by omega⟩
  rw [dcmp_base b1 b2, dcmp_base b2 b3, dcmp_base b1 b3]
  exact sgn_trans _ _ _
/-- what the five answers have to do with one another -/
theorem sorted_math {ea eb ec : List Int} {X q Y q' Z q'' x y z k m : Int} {o1 o2 o3 o4 o5 : Bool} (h1 : CmpIs ea X q eb Y q' x o1) (h2 : CmpIs eb Y q' ec Z q'' y o2) (h3 : CmpIs ea X q ec Z q'' z o3) (h4 : CmpIs eb Y q' ea X q k o4) (h5 : CmpIs ea X q ea X q m o5) :
    -1 ≤ x ∧ x ≤ 1 ∧ k = -x ∧ m = 0 ∧ o4 = o1 ∧ (o1 = true → o5 = true) ∧ (o1 = false → x = 0) ∧ (o2 = false → y = 0) ∧ (o1 = true → o2 = true → o3 = true) ∧ (x ≤ 0 → y ≤ 0 → o1 = true → o2 = true → z ≤ 0) ∧ (0 ≤ x → 0 ≤ y → o1 = true → o2 = true → 0 ≤ z) ∧ (x = 0 → y = 0 → o1 = true → o2 = true → z = 0) := by
  have tr := dcmp_trans X q Y q' Z q''
  have fl := dcmp_flip X q Y q'
  have rg := dcmp_range X q Y q'
  have sf := dcmp_self X q
  by_cases da : Dg ea <;> by_cases db : Dg eb <;> by_cases dc : Dg ec <;>
    simp only [CmpIs, da, db, dc, and_self, and_true, true_and, and_false, false_and, not_true, not_false_eq_true, or_false, false_or] at h1 h2 h3 h4 h5 <;>
    obtain ⟨rfl, rfl⟩ := h1 <;> obtain ⟨rfl, rfl⟩ := h2 <;> obtain ⟨rfl, rfl⟩ := h3 <;> obtain ⟨rfl, rfl⟩ := h4 <;> obtain ⟨rfl, rfl⟩ := h5 <;>
    simp <;> omega

set_option maxRecDepth 100000 in
set_option maxHeartbeats 8000000 in
theorem sorted_walk {w : World} (TT : Lays w ∧ Brn w) {ea : List Int} {sa : ByteArray} {Na : Nat} {nga : Bool} {Pa : Int} (hda : Byt ea) (hsa : sa = strOfNums ea) (hNa : ea.length = Na) (hla : Na ≤ 2305843009213693952) (hPa : -9223372036854775808 ≤ Pa) (hQa : Pa ≤ 9223372036854775807) {eb : List Int} {sb : ByteArray} {Nb : Nat} {ngb : Bool} {Pb : Int} (hdb : Byt eb) (hsb : sb = strOfNums eb) (hNb : eb.length = Nb) (hlb : Nb ≤ 2305843009213693952) (hPb : -9223372036854775808 ≤ Pb) (hQb : Pb ≤ 9223372036854775807) {ec : List Int} {sc : ByteArray} {Nc : Nat} {ngc : Bool} {Pc : Int} (hdc : Byt ec) (hsc : sc = strOfNums ec) (hNc : ec.length = Nc) (hlc : Nc ≤ 2305843009213693952) (hPc : -9223372036854775808 ≤ Pc) (hQc : Pc ≤ 9223372036854775807) :
    Calls Tryz.prog 3 #[.agg #[.bool nga, .string sa, .int .i64 Pa], .agg #[.bool ngb, .string sb, .int .i64 Pb], .agg #[.bool ngc, .string sc, .int .i64 Pc]] w fun e w' => e = .returned (.bool true) ∧ Below w.heap.size w w' := by
  obtain ⟨T, U⟩ := TT
  have Ha := hide (And.intro hda (And.intro hsa (And.intro hNa (And.intro hla (And.intro hPa hQa)))))
  have Hb := hide (And.intro hdb (And.intro hsb (And.intro hNb (And.intro hlb (And.intro hPb hQb)))))
  have Hc := hide (And.intro hdc (And.intro hsc (And.intro hNc (And.intro hlc (And.intro hPc hQc)))))
  clear hda hsa hNa hla hPa hQa hdb hsb hNb hlb hPb hQb hdc hsc hNc hlc hPc hQc
  have K0 : Below w.heap.size w (((w.alloc (.cells #[.bool nga, .string sa, .int .i64 Pa] 23)).alloc (.cells #[.bool ngb, .string sb, .int .i64 Pb] 23)).alloc (.cells #[.bool ngc, .string sc, .int .i64 Pc] 23)) := below_trans (below_trans (al_one _ _) (al_one _ _)) (al_one _ _)
  have Ca := ((cell3_new w (.bool nga) (.string sa) (.int .i64 Pa) 23).below (al_one _ (.cells #[.bool ngb, .string sb, .int .i64 Pb] 23))).below (al_one _ (.cells #[.bool ngc, .string sc, .int .i64 Pc] 23))
  have Cb := (cell3_new (w.alloc (.cells #[.bool nga, .string sa, .int .i64 Pa] 23)) (.bool ngb) (.string sb) (.int .i64 Pb) 23).below (al_one _ (.cells #[.bool ngc, .string sc, .int .i64 Pc] 23))
  have Cc := cell3_new ((w.alloc (.cells #[.bool nga, .string sa, .int .i64 Pa] 23)).alloc (.cells #[.bool ngb, .string sb, .int .i64 Pb] 23)) (.bool ngc) (.string sc) (.int .i64 Pc) 23
  rw [show (w.alloc (.cells #[.bool nga, .string sa, .int .i64 Pa] 23)).heap.size = w.heap.size + 1 by simp] at Cb
  rw [show ((w.alloc (.cells #[.bool nga, .string sa, .int .i64 Pa] 23)).alloc (.cells #[.bool ngb, .string sb, .int .i64 Pb] 23)).heap.size = w.heap.size + 1 + 1 by simp] at Cc
  go_enter Tryz.func3, Tryz.ntmps3
  go_wp2_with fail
  refine (lives7 (T.below K0) (U.below K0)).mono ?_
  rintro x w1 ⟨rfl, b1⟩
  replace K0 := below_trans K0 b1; replace Ca := Ca.below b1; replace Cb := Cb.below b1; replace Cc := Cc.below b1
  clear b1
  have a0 := Ca.c0
  have a1 := Ca.c1
  have a2 := Ca.c2
  have b0 := Cb.c0
  have b1 := Cb.c1
  have b2 := Cb.c2
  go_wp2_with fail
  refine (cmp_is Ha.out.1 Ha.out.2.1 Ha.out.2.2.1 Ha.out.2.2.2.1 Ha.out.2.2.2.2.1 Ha.out.2.2.2.2.2 Hb.out.1 Hb.out.2.1 Hb.out.2.2.1 Hb.out.2.2.2.1 Hb.out.2.2.2.2.1 Hb.out.2.2.2.2.2).mono ?_
  rintro x v0 ⟨b, x0, o0, rfl, R0⟩
  clear a0 a1 a2 b0 b1 b2
  replace K0 := below_trans K0 b; replace Ca := Ca.below b; replace Cb := Cb.below b; replace Cc := Cc.below b
  clear b
  have R0' := hide R0
  clear R0
  have b0 := Cb.c0
  have b1 := Cb.c1
  have b2 := Cb.c2
  have c0 := Cc.c0
  have c1 := Cc.c1
  have c2 := Cc.c2
  go_wp2_with fail
  refine (cmp_is Hb.out.1 Hb.out.2.1 Hb.out.2.2.1 Hb.out.2.2.2.1 Hb.out.2.2.2.2.1 Hb.out.2.2.2.2.2 Hc.out.1 Hc.out.2.1 Hc.out.2.2.1 Hc.out.2.2.2.1 Hc.out.2.2.2.2.1 Hc.out.2.2.2.2.2).mono ?_
  rintro x v1 ⟨b, x1, o1, rfl, R1⟩
  clear b0 b1 b2 c0 c1 c2
  replace K0 := below_trans K0 b; replace Ca := Ca.below b; replace Cb := Cb.below b; replace Cc := Cc.below b
  clear b
  have R1' := hide R1
  clear R1
  have a0 := Ca.c0
  have a1 := Ca.c1
  have a2 := Ca.c2
  have c0 := Cc.c0
  have c1 := Cc.c1
  have c2 := Cc.c2
  go_wp2_with fail
  refine (cmp_is Ha.out.1 Ha.out.2.1 Ha.out.2.2.1 Ha.out.2.2.2.1 Ha.out.2.2.2.2.1 Ha.out.2.2.2.2.2 Hc.out.1 Hc.out.2.1 Hc.out.2.2.1 Hc.out.2.2.2.1 Hc.out.2.2.2.2.1 Hc.out.2.2.2.2.2).mono ?_
  rintro x v2 ⟨b, x2, o2, rfl, R2⟩
  clear a0 a1 a2 c0 c1 c2
  replace K0 := below_trans K0 b; replace Ca := Ca.below b; replace Cb := Cb.below b; replace Cc := Cc.below b
  clear b
  have R2' := hide R2
  clear R2
  have b0 := Cb.c0
  have b1 := Cb.c1
  have b2 := Cb.c2
  have a0 := Ca.c0
  have a1 := Ca.c1
  have a2 := Ca.c2
  go_wp2_with fail
  refine (cmp_is Hb.out.1 Hb.out.2.1 Hb.out.2.2.1 Hb.out.2.2.2.1 Hb.out.2.2.2.2.1 Hb.out.2.2.2.2.2 Ha.out.1 Ha.out.2.1 Ha.out.2.2.1 Ha.out.2.2.2.1 Ha.out.2.2.2.2.1 Ha.out.2.2.2.2.2).mono ?_
  rintro x v3 ⟨b, x3, o3, rfl, R3⟩
  clear b0 b1 b2 a0 a1 a2
  replace K0 := below_trans K0 b; replace Ca := Ca.below b; replace Cb := Cb.below b; replace Cc := Cc.below b
  clear b
  have R3' := hide R3
  clear R3
  have a0 := Ca.c0
  have a1 := Ca.c1
  have a2 := Ca.c2
  go_wp2_with fail
  refine (cmp_is Ha.out.1 Ha.out.2.1 Ha.out.2.2.1 Ha.out.2.2.2.1 Ha.out.2.2.2.2.1 Ha.out.2.2.2.2.2 Ha.out.1 Ha.out.2.1 Ha.out.2.2.1 Ha.out.2.2.2.1 Ha.out.2.2.2.2.1 Ha.out.2.2.2.2.2).mono ?_
  rintro x v4 ⟨b, x4, o4, rfl, R4⟩
  clear a0 a1 a2
  replace K0 := below_trans K0 b; replace Ca := Ca.below b; replace Cb := Cb.below b; replace Cc := Cc.below b
  clear b
  have R4' := hide R4
  clear R4
  obtain ⟨m1, m2, m3, m4, m5, m6, m7, m8, m9, m10, m11, m12⟩ := sorted_math R0'.out R1'.out R2'.out R3'.out R4'.out
  subst m3 m4 m5
  clear R0' R1' R2' R3' R4' Ca Cb Cc
  have n1 : ¬ x0 < -1 := by omega
  have n2 : ¬ 1 < x0 := by omega
  cases o3
  · have := m7 rfl
    subst this
    cases o1
    · have := m8 rfl
      subst this
      clear m6 m7 m8 m9 m10 m11 m12
      go_wp2
      go_ret
      exact ⟨rfl, K0⟩
    · clear m6 m7 m8 m9 m10 m11 m12
      go_wp2
      go_ret
      exact ⟨rfl, K0⟩
  · have := m6 rfl
    subst this
    cases o1
    · have := m8 rfl
      subst this
      clear m6 m7 m8 m9 m10 m11 m12
      go_wp2
      go_ret
      exact ⟨rfl, K0⟩
    · have := m9 rfl rfl
      subst this
      have t1 := fun a b => m10 a b rfl rfl
      have t2 := fun a b => m11 a b rfl rfl
      clear m6 m7 m8 m9 m10 m11 m12
      have bx : (-x0 != -x0) = false := by simp
      rcases Int.lt_trichotomy x0 0 with h | h | h <;> rcases Int.lt_trichotomy x1 0 with g | g | g
      · have p1 : ¬ 0 < x0 := by omega
        have p2 : x0 < 0 := h
        have p3 : ¬ 0 < x1 := by omega
        have p4 : x1 < 0 := g
        have p5 : x2 ≤ 0 := t1 (by omega) (by omega)
        clear t1 t2 h g
        go_wp2
        go_ret
        exact ⟨rfl, K0⟩
      · have p1 : ¬ 0 < x0 := by omega
        have p2 : x0 < 0 := h
        have p3 : ¬ 0 < x1 := by omega
        have p4 : ¬ x1 < 0 := by omega
        have p5 : x2 ≤ 0 := t1 (by omega) (by omega)
        clear t1 t2 h g
        go_wp2
        go_ret
        exact ⟨rfl, K0⟩
      · have p1 : ¬ 0 < x0 := by omega
        have p2 : x0 < 0 := h
        have p3 : 0 < x1 := g
        have p4 : ¬ x1 < 0 := by omega
        clear t1 t2 h g
        go_wp2
        go_ret
        exact ⟨rfl, K0⟩
      · have p1 : ¬ 0 < x0 := by omega
        have p2 : ¬ x0 < 0 := by omega
        have p3 : ¬ 0 < x1 := by omega
        have p4 : x1 < 0 := g
        have p5 : x2 ≤ 0 := t1 (by omega) (by omega)
        clear t1 t2 h g
        go_wp2
        go_ret
        exact ⟨rfl, K0⟩
      · have p1 : ¬ 0 < x0 := by omega
        have p2 : ¬ x0 < 0 := by omega
        have p3 : ¬ 0 < x1 := by omega
        have p4 : ¬ x1 < 0 := by omega
        have p5 : x2 ≤ 0 := t1 (by omega) (by omega)
        have p6 : 0 ≤ x2 := t2 (by omega) (by omega)
        clear t1 t2 h g
        go_wp2
        go_ret
        exact ⟨rfl, K0⟩
      · have p1 : ¬ 0 < x0 := by omega
        have p2 : ¬ x0 < 0 := by omega
        have p3 : 0 < x1 := g
        have p4 : ¬ x1 < 0 := by omega
        have p6 : 0 ≤ x2 := t2 (by omega) (by omega)
        clear t1 t2 h g
        go_wp2
        go_ret
        exact ⟨rfl, K0⟩
      · have p1 : 0 < x0 := h
        have p2 : ¬ x0 < 0 := by omega
        have p3 : ¬ 0 < x1 := by omega
        have p4 : x1 < 0 := g
        clear t1 t2 h g
        go_wp2
        go_ret
        exact ⟨rfl, K0⟩
      · have p1 : 0 < x0 := h
        have p2 : ¬ x0 < 0 := by omega
        have p3 : ¬ 0 < x1 := by omega
        have p4 : ¬ x1 < 0 := by omega
        have p6 : 0 ≤ x2 := t2 (by omega) (by omega)
        clear t1 t2 h g
        go_wp2
        go_ret
        exact ⟨rfl, K0⟩
      · have p1 : 0 < x0 := h
        have p2 : ¬ x0 < 0 := by omega
        have p3 : 0 < x1 := g
        have p4 : ¬ x1 < 0 := by omega
        have p6 : 0 ≤ x2 := t2 (by omega) (by omega)
        clear t1 t2 h g
        go_wp2
        go_ret
        exact ⟨rfl, K0⟩

end Go.Proofs.YtigehipclkoecabGreatDoor
