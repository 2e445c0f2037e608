/- ref13: code, Code -/
import Derived.Test.YtbkgphglojjllaaDoorFRefA
namespace Go.Proofs.YtbkgphglojjllaaDoor
open Go.RowKit
set_option linter.unusedVariables false

set_option maxHeartbeats 8000000 in
set_option maxRecDepth 100000 in
theorem rcode_all : ∀ (N : Nat) (x : Nd), SizeOf.sizeOf x ≤ N → ∀ (w : World) (v : Value), NdSl w v x.kids →
    Calls Tryd.prog 35 #[ndV x v] w fun e w' => e = .returned (.int .i64 (leastB (fun i => ndB i x) 11)) ∧ Below w.heap.size w w' := by
  intro N
  induction N with
  | zero => intro x hx; cases x; simp at hx
  | succ N ih =>
    intro x hx w v hv
    have hkid := fun i (h : i < x.kids.length) => Nd.kid_lt h
    obtain ⟨k, c, a, p, ks⟩ := x
    obtain ⟨ao, cap, rfl, hcap, hmax⟩ := hv.len
    have HV := hide hv
    have IH := hide ih
    have hsz : SizeOf.sizeOf (Nd.mk k c a p ks) ≤ N + 1 := hx
    simp only [Nd.kids] at hkid HV hcap hmax
    show Calls Tryd.prog 35 #[.agg #[.int .i64 k, .int .i64 c, .int .i64 a, .string p, .slice ao ks.length cap]] w _
    have K0 := hide ((Below.refl w.heap.size w).alloc (Nat.le_refl _) (.cells #[.int .i64 k, .int .i64 c, .int .i64 a, .string p, .slice ao ks.length cap] 24))
    have HKD := hide hkid
    clear hv ih hx hkid
    cases hnil : ndNil (.mk k c a p ks) with
    | true =>
      rw [nd_nil_B hnil]
      go_enter Tryd.func35, Tryd.ntmps35
      go_wp2_with fail
      refine ris_any.mono ?_
      rintro e w1 ⟨rfl, hb1⟩
      rw [hnil]
      have K1 := hide (K0.out.trans (hb1.mono K0.out.size))
      obtain ⟨d0, d1, d2, d3, d4⟩ := box_node w1 hb1
      have C1 := hide hb1
      clear hb1
      clear hnil
      go_wp2
      go_ret
      exact ⟨rfl, K1.out⟩
    | false =>
      have hn := of_decide_eq_false hnil
      simp only [Nd.kind, Nd.code] at hn
      have hb : ∀ i, ndB i (.mk k c a p ks) = if k = 1 ∨ k = 7 then decide (c = (i : Int) + 1) else if k = 3 ∨ k = 4 then hdB i ks else if k = 5 then anyB i ks else false := fun i => ndB_eq i (.mk k c a p ks)
      by_cases k1 : k = 1
      · subst k1
        have hl : leastB (fun i => ndB i (.mk 1 c a p ks)) 11 = c := by
          obtain ⟨m, rfl⟩ : ∃ m : Nat, c = (m : Int) + 1 := ⟨(c - 1).toNat, by omega⟩
          rw [leastB_ext (b' := fun i => decide (i = m)) 11 (fun i hi => by rw [hb, if_pos (Or.inl rfl)]; exact decide_eq_decide.2 (by omega)), leastB_dec (by omega)]
        rw [hl]
        clear hl hb hn
        go_enter Tryd.func35, Tryd.ntmps35
        go_wp2_with fail
        refine ris_any.mono ?_
        rintro e w1 ⟨rfl, hb1⟩
        rw [hnil]
        have K1 := hide (K0.out.trans (hb1.mono K0.out.size))
        obtain ⟨d0, d1, d2, d3, d4⟩ := box_node w1 hb1
        have C1 := hide hb1
        clear hb1
        clear hnil
        go_wp2
        go_ret
        exact ⟨rfl, K1.out⟩
      · have k1' : (k == 1) = false := beq_eq_false_iff_ne.2 k1
        by_cases k7 : k = 7
        · subst k7
          by_cases hc : 1 ≤ c ∧ c ≤ 11
          · have hl : leastB (fun i => ndB i (.mk 7 c a p ks)) 11 = c := by
              obtain ⟨m, rfl⟩ : ∃ m : Nat, c = (m : Int) + 1 := ⟨(c - 1).toNat, by omega⟩
              rw [leastB_ext (b' := fun i => decide (i = m)) 11 (fun i hi => by rw [hb, if_pos (Or.inr rfl)]; exact decide_eq_decide.2 (by omega)), leastB_dec (by omega)]
            rw [hl]
            obtain ⟨e1, e2⟩ := hc
            clear hl hb hn
            go_enter Tryd.func35, Tryd.ntmps35
            go_wp2_with fail
            refine ris_any.mono ?_
            rintro e w1 ⟨rfl, hb1⟩
            rw [hnil]
            have K1 := hide (K0.out.trans (hb1.mono K0.out.size))
            obtain ⟨d0, d1, d2, d3, d4⟩ := box_node w1 hb1
            have C1 := hide hb1
            clear hb1
            clear hnil
            go_wp2
            go_ret
            exact ⟨rfl, K1.out⟩
          · have hl : leastB (fun i => ndB i (.mk 7 c a p ks)) 11 = -1 := by
              rw [leastB_ext (b' := fun _ => false) 11 (fun i hi => by rw [hb, if_pos (Or.inr rfl)]; exact decide_eq_false (by omega)), leastB_false]
            rw [hl]
            by_cases e1 : 1 ≤ c
            · have e2 : ¬ c ≤ 11 := by omega
              clear hl hb hn hc
              go_enter Tryd.func35, Tryd.ntmps35
              go_wp2_with fail
              refine ris_any.mono ?_
              rintro e w1 ⟨rfl, hb1⟩
              rw [hnil]
              have K1 := hide (K0.out.trans (hb1.mono K0.out.size))
              obtain ⟨d0, d1, d2, d3, d4⟩ := box_node w1 hb1
              have C1 := hide hb1
              clear hb1
              clear hnil
              go_wp2
              go_ret
              exact ⟨rfl, K1.out⟩
            · clear hl hb hn hc
              go_enter Tryd.func35, Tryd.ntmps35
              go_wp2_with fail
              refine ris_any.mono ?_
              rintro e w1 ⟨rfl, hb1⟩
              rw [hnil]
              have K1 := hide (K0.out.trans (hb1.mono K0.out.size))
              obtain ⟨d0, d1, d2, d3, d4⟩ := box_node w1 hb1
              have C1 := hide hb1
              clear hb1
              clear hnil
              go_wp2
              go_ret
              exact ⟨rfl, K1.out⟩
        · have k7' : (k == 7) = false := beq_eq_false_iff_ne.2 k7
          by_cases k34 : k = 3 ∨ k = 4
          · have hl : leastB (fun i => ndB i (.mk k c a p ks)) 11 = leastB (fun i => hdB i ks) 11 :=
              leastB_ext 11 (fun i hi => by rw [hb, if_neg (by omega), if_pos k34])
            rw [hl]
            clear hl hb hn
            rcases Nat.eq_zero_or_pos ks.length with h0 | h0
            · have hl2 : leastB (fun i => hdB i ks) 11 = -1 := by
                rw [List.eq_nil_of_length_eq_zero h0]
                simp only [hdB]
                exact leastB_false 11
              rw [hl2]
              have h0' : ¬ ((0 : Int) < (ks.length : Int)) := by omega
              clear hl2 h0
              rcases k34 with rfl | rfl
              · skip
                go_enter Tryd.func35, Tryd.ntmps35
                go_wp2_with fail
                refine ris_any.mono ?_
                rintro e w1 ⟨rfl, hb1⟩
                rw [hnil]
                have K1 := hide (K0.out.trans (hb1.mono K0.out.size))
                obtain ⟨d0, d1, d2, d3, d4⟩ := box_node w1 hb1
                have C1 := hide hb1
                clear hb1
                clear hnil
                go_wp2
                go_ret
                exact ⟨rfl, K1.out⟩
              · skip
                go_enter Tryd.func35, Tryd.ntmps35
                go_wp2_with fail
                refine ris_any.mono ?_
                rintro e w1 ⟨rfl, hb1⟩
                rw [hnil]
                have K1 := hide (K0.out.trans (hb1.mono K0.out.size))
                obtain ⟨d0, d1, d2, d3, d4⟩ := box_node w1 hb1
                have C1 := hide hb1
                clear hb1
                clear hnil
                go_wp2
                go_ret
                exact ⟨rfl, K1.out⟩
            · have h0' : (0 : Int) < (ks.length : Int) := by omega
              have hl2 : leastB (fun i => hdB i ks) 11 = leastB (fun i => ndB i ks[0]) 11 := leastB_ext 11 (fun i hi => hdB_get h0 i)
              rw [hl2]
              have hlt := HKD.out 0 h0
              obtain ⟨y, hy⟩ : ∃ y, y = ks[0] := ⟨_, rfl⟩
              rw [← hy] at hlt ⊢
              clear hl2
              rcases k34 with rfl | rfl
              · skip
                go_enter Tryd.func35, Tryd.ntmps35
                go_wp2_with fail
                refine ris_any.mono ?_
                rintro e w1 ⟨rfl, hb1⟩
                rw [hnil]
                have K1 := hide (K0.out.trans (hb1.mono K0.out.size))
                obtain ⟨d0, d1, d2, d3, d4⟩ := box_node w1 hb1
                have C1 := hide hb1
                clear hb1
                obtain ⟨b, off, vi, rfl, hbl, hcc, hks⟩ := NdSl.at (HV.out.far K1.out) rfl h0
                rw [Nat.zero_mul, Nat.add_zero, ← hy] at hcc
                rw [← hy] at hks
                obtain ⟨z0, z1, z2, z3, z4⟩ := hcc
                have hcall := IH.out y (by omega) w1 vi hks
                unfold ndV at hcall
                have HC := hide hcall
                clear hy
                obtain ⟨ao2, cap2, rfl, _, _⟩ := hks.len
                clear hnil hcall hks hbl
                go_wp2_with fail
                refine HC.out.mono ?_
                rintro e w2 ⟨rfl, hb2⟩
                have K2 := hide (K1.out.trans (hb2.mono K1.out.size))
                clear hb2 HC
                go_wp2
                go_ret
                exact ⟨rfl, K2.out⟩
              · skip
                go_enter Tryd.func35, Tryd.ntmps35
                go_wp2_with fail
                refine ris_any.mono ?_
                rintro e w1 ⟨rfl, hb1⟩
                rw [hnil]
                have K1 := hide (K0.out.trans (hb1.mono K0.out.size))
                obtain ⟨d0, d1, d2, d3, d4⟩ := box_node w1 hb1
                have C1 := hide hb1
                clear hb1
                obtain ⟨b, off, vi, rfl, hbl, hcc, hks⟩ := NdSl.at (HV.out.far K1.out) rfl h0
                rw [Nat.zero_mul, Nat.add_zero, ← hy] at hcc
                rw [← hy] at hks
                obtain ⟨z0, z1, z2, z3, z4⟩ := hcc
                have hcall := IH.out y (by omega) w1 vi hks
                unfold ndV at hcall
                have HC := hide hcall
                clear hy
                obtain ⟨ao2, cap2, rfl, _, _⟩ := hks.len
                clear hnil hcall hks hbl
                go_wp2_with fail
                refine HC.out.mono ?_
                rintro e w2 ⟨rfl, hb2⟩
                have K2 := hide (K1.out.trans (hb2.mono K1.out.size))
                clear hb2 HC
                go_wp2
                go_ret
                exact ⟨rfl, K2.out⟩
          · have k3' : (k == 3) = false := beq_eq_false_iff_ne.2 (by omega)
            have k4' : (k == 4) = false := beq_eq_false_iff_ne.2 (by omega)
            by_cases k5 : k = 5
            · subst k5
              have hl : leastB (fun i => ndB i (.mk 5 c a p ks)) 11 = leastB (fun i => anyB i ks) 11 :=
                leastB_ext 11 (fun i hi => by rw [hb, if_neg (by omega), if_neg (by omega), if_pos rfl])
              rw [hl]
              clear hl hb hn
              go_enter Tryd.func35, Tryd.ntmps35
              go_wp2_with fail
              refine ris_any.mono ?_
              rintro e w1 ⟨rfl, hb1⟩
              rw [hnil]
              have K1 := hide (K0.out.trans (hb1.mono K0.out.size))
              obtain ⟨d0, d1, d2, d3, d4⟩ := box_node w1 hb1
              have C1 := hide hb1
              clear hb1
              clear hnil
              go_wp2_with fail
              go_loopw [3, 4] (fun n q wr => ∃ (i : Nat), q = .int .i64 i ∧ i ≤ ks.length ∧ n = .int .i64 (leastB (fun j => anyB j (ks.take i)) 11) ∧ Hid (Below (w.alloc (.cells #[.int .i64 5, .int .i64 c, .int .i64 a, .string p, .slice ao ks.length cap] 24)).heap.size (w.alloc (.cells #[.int .i64 5, .int .i64 c, .int .i64 a, .string p, .slice ao ks.length cap] 24)) wr)) (fun _ q _ => ks.length - (intOf q).toNat)
              case atStart => exact ⟨0, rfl, by omega, by rw [show leastB (fun j => anyB j (ks.take 0)) 11 = -1 from by simp only [List.take_zero, anyB]; exact leastB_false 11], C1⟩
              case round =>
                obtain ⟨i, rfl, hi, rfl, HB⟩ := hrel
                clear d0 d1 d2 d3 d4
                obtain ⟨d0, d1, d2, d3, d4⟩ := box_node wr HB.out
                by_cases hil : i < ks.length
                · have q1 : (i : Int) < (ks.length : Int) := by omega
                  have q0 : (0 : Int) ≤ (i : Int) := by omega
                  have KR := K0.out.trans (HB.out.mono K0.out.size)
                  obtain ⟨b, off, vi, rfl, hbl, hcc, hks⟩ := NdSl.at (HV.out.far KR) rfl hil
                  obtain ⟨z0, z1, z2, z3, z4⟩ := hcc
                  have hcall := IH.out ks[i] (by have := HKD.out i hil; omega) wr vi hks
                  unfold ndV at hcall
                  have HC := hide hcall
                  have hst := leastB_any ks i
                  rw [leastB_ext (b := fun j => hdB j (ks.drop i)) (b' := fun j => ndB j ks[i]) 11 (fun j _ => hdB_get hil j)] at hst
                  replace hst := hide hst
                  generalize ks[i] = y at *
                  obtain ⟨ao2, cap2, rfl, _, _⟩ := hks.len
                  have w2' : IntKind.i64.wrap ((i : Int) + 1) = (i : Int) + 1 := by rw [IntKind.wrap_i64]; omega
                  clear hcall hks hbl KR
                  go_wp2_with fail
                  refine HC.out.mono ?_
                  rintro e w2 ⟨rfl, hb2⟩
                  have HB2 := hide (HB.out.trans (hb2.mono HB.out.size))
                  clear hb2 HC z0 z1 z2 z3 z4 d0 d1 d2 d3 d4
                  go_wp2_with fail
                  refine least_any.mono ?_
                  rintro e w3 ⟨rfl, rfl⟩
                  go_wp2
                  go_roundw
                  case rel => exact ⟨i + 1, by simp, by omega, by rw [hst.out], HB2⟩
                  case measure => simp [intOf]; omega
                · have q1 : ¬ ((i : Int) < (ks.length : Int)) := by omega
                  rw [List.take_of_length_le (by omega)]
                  have KR := hide (K0.out.trans (HB.out.mono K0.out.size))
                  go_wp2
                  go_ret
                  exact ⟨rfl, KR.out⟩
            · have k5' : (k == 5) = false := beq_eq_false_iff_ne.2 k5
              have hl : leastB (fun i => ndB i (.mk k c a p ks)) 11 = -1 := by
                rw [leastB_ext (b' := fun _ => false) 11 (fun i hi => by rw [hb, if_neg (by omega), if_neg (by omega), if_neg k5]), leastB_false]
              rw [hl]
              clear hl hb hn
              go_enter Tryd.func35, Tryd.ntmps35
              go_wp2_with fail
              refine ris_any.mono ?_
              rintro e w1 ⟨rfl, hb1⟩
              rw [hnil]
              have K1 := hide (K0.out.trans (hb1.mono K0.out.size))
              obtain ⟨d0, d1, d2, d3, d4⟩ := box_node w1 hb1
              have C1 := hide hb1
              clear hb1
              clear hnil
              go_wp2
              go_ret
              exact ⟨rfl, K1.out⟩
theorem rcode_any {w : World} {x : Nd} {v : Value} (h : NdSl w v x.kids) :
    Calls Tryd.prog 35 #[ndV x v] w fun e w' => e = .returned (.int .i64 (leastB (fun i => ndB i x) 11)) ∧ Below w.heap.size w w' := rcode_all _ x (Nat.le_refl _) w v h
theorem rCode_any {w : World} {x : Nd} {v : Value} (h : NdSl w v x.kids) :
    Calls Tryd.prog 13 #[ndV x v] w fun e w' => e = .returned (.int .i64 (if ndNil x then 0 else leastB (fun i => ndB i x) 11)) ∧ Below w.heap.size w w' := by
  have HC := hide (fun (w1 : World) (hb : Below w.heap.size w w1) => rcode_any (h.far hb))
  obtain ⟨k, c, a, p, ks⟩ := x
  obtain ⟨ao, cap, rfl, hcap, hmax⟩ := h.len
  clear h hcap hmax
  show Calls Tryd.prog 13 #[.agg #[.int .i64 k, .int .i64 c, .int .i64 a, .string p, .slice ao ks.length cap]] w _
  unfold ndV at HC
  simp only [Nd.kind, Nd.code, Nd.place, Nd.path, Nd.kids] at HC
  have K0 := hide ((Below.refl w.heap.size w).alloc (Nat.le_refl _) (.cells #[.int .i64 k, .int .i64 c, .int .i64 a, .string p, .slice ao ks.length cap] 24))
  cases hnil : ndNil (.mk k c a p ks) with
  | true =>
    rw [if_pos rfl]
    go_enter Tryd.func13, Tryd.ntmps13
    go_wp2_with fail
    refine ris_any.mono ?_
    rintro e w1 ⟨rfl, hb1⟩
    rw [hnil]
    have K1 := hide (K0.out.trans (hb1.mono K0.out.size))
    clear hnil hb1
    go_wp2
    go_ret
    exact ⟨rfl, K1.out⟩
  | false =>
    rw [if_neg (by decide)]
    go_enter Tryd.func13, Tryd.ntmps13
    go_wp2_with fail
    refine ris_any.mono ?_
    rintro e w1 ⟨rfl, hb1⟩
    rw [hnil]
    have K1 := hide (K0.out.trans (hb1.mono K0.out.size))
    obtain ⟨d0, d1, d2, d3, d4⟩ := box_node w1 hb1
    clear hnil hb1
    go_wp2_with fail
    refine (HC.out _ K1.out).mono ?_
    rintro e w2 ⟨rfl, hb2⟩
    have K2 := hide (K1.out.trans (hb2.mono K1.out.size))
    clear hb2 HC
    go_wp2
    go_ret
    exact ⟨rfl, K2.out⟩

end Go.Proofs.YtbkgphglojjllaaDoor
