/- EcmaBack: the walk -/
import Derived.Test.YtfnfnkakaggmbaaGreatDoorQEBk
namespace Go.Proofs.YtfnfnkakaggmbaaGreatDoor
open Go.RowKit
set_option linter.unusedVariables false

set_option maxHeartbeats 16000000 in
set_option maxRecDepth 100000 in
theorem eback_walk {w : World} {a : Nat → Addr} (E : Ew w a) {x y : Int} (x0 : 0 ≤ x) (x1 : x < 18446744073709551616) (y0 : 0 ≤ y) (y1 : y < 18446744073709551616) :
    Calls Tryz.prog 6 #[.int .u64 x, .int .u64 y] w fun e w' => e = .returned (.bool true) ∧ Below w.heap.size w w' := by
  have HY := hide (And.intro y0 y1)
  have HX := hide (And.intro x0 x1)
  by_cases hf : x % 9223372036854775808 < 9218868437227405312
  · have HF := hide hf
    have HSH := hide (show_w E x0 x1 hf)
    clear hf
    go_enter Tryz.func6, Tryz.ntmps6
    go_wp2_with fail
    refine HSH.out.mono ?_
    clear HSH
    rintro e w1 ⟨⟨T, hT, rfl⟩, b1⟩
    have E1 := E.below b1
    obtain ⟨t, ht⟩ : ∃ t, strOfNums T = t := ⟨_, rfl⟩
    rw [ht]
    have HT := hide (And.intro hT ht)
    clear hT ht E
    go_wp2_with fail
    refine (read_w E1 HX.out.1 HX.out.2 HF.out HT.out.1 HT.out.2.symm).mono ?_
    rintro e w2 ⟨rfl, b2⟩
    by_cases hx63 : x = 9223372036854775808
    · rw [if_pos hx63]
      have ex63 : (x == 9223372036854775808) = true := beq_iff_eq.2 hx63
      have HX63 := hide hx63
      clear hx63
      have E2 := E1.below b2
      have K := below_trans b1 b2
      clear b1 b2 E1
      go_wp2_with fail
      refine (finite_any E2.T HX.out.1 HX.out.2).mono ?_
      rintro e w3 ⟨rfl, b3⟩
      have E3 := E2.below b3
      replace K := below_trans K b3
      clear b3 E2
      rw [decide_eq_true HF.out]
      go_wp2_with fail
      refine code_nil.mono ?_
      rintro e w4 ⟨rfl, rfl⟩
      go_wp2_with fail
      refine (finite_any E3.T HY.out.1 HY.out.2).mono ?_
      rintro e w5 ⟨rfl, b5⟩
      have E5 := E3.below b5
      replace K := below_trans K b5
      clear b5 E3
      by_cases hg : y % 9223372036854775808 < 9218868437227405312
      · have HG := hide hg
        rw [decide_eq_true hg]
        clear hg
        have HSX := hide (show IntKind.u64.wrap (x * 2) = 0 ↔ x % 9223372036854775808 = 0 by rw [IntKind.wrap_u64]; omega)
        have HSY := hide (show IntKind.u64.wrap (y * 2) = 0 ↔ y % 9223372036854775808 = 0 by rw [IntKind.wrap_u64]; omega)
        go_wp2_with fail
        refine (show_w E5 HY.out.1 HY.out.2 HG.out).mono ?_
        rintro e w6 ⟨⟨T2, hT2, rfl⟩, b6⟩
        have E6 := E5.below b6
        replace K := below_trans K b6
        clear b6 E5
        have hiff := shw_iff HX.out.1 HX.out.2 HY.out.1 HY.out.2 HF.out HG.out HT.out.1 hT2
        obtain ⟨t2, ht2⟩ : ∃ t, strOfNums T2 = t := ⟨_, rfl⟩
        rw [ht2]
        have HI := hide (show (t2 = t ↔ (x = y ∨ (x % 9223372036854775808 = 0 ∧ y % 9223372036854775808 = 0))) from by
          rw [← hiff, ← ht2, ← HT.out.2]
          exact ⟨fun h => (str_inj (hT2.shn HG.out).1.by_ (HT.out.1.shn HF.out).1.by_ h).symm, fun h => by rw [h]⟩)
        clear hiff hT2 ht2
        by_cases hxy : x = y
        · obtain rfl := HI.out.2 (Or.inl hxy)
          have exy : (x == y) = true := beq_iff_eq.2 hxy
          clear HI
          go_wp2_with fail
          refine (lives8_any E6).mono ?_
          rintro e wl ⟨rfl, bl⟩
          replace K := below_trans K bl
          clear bl E6
          go_wp2
          go_ret
          exact ⟨rfl, K⟩
        · have exy : (x == y) = false := beq_eq_false_iff_ne.2 hxy
          by_cases zx : x % 9223372036854775808 = 0
          · have sx : IntKind.u64.wrap (x * 2) = 0 := HSX.out.2 zx
            by_cases zy : y % 9223372036854775808 = 0
            · obtain rfl := HI.out.2 (Or.inr ⟨zx, zy⟩)
              have sy : IntKind.u64.wrap (y * 2) = 0 := HSY.out.2 zy
              clear HI zx zy
              go_wp2_with fail
              refine (lives8_any E6).mono ?_
              rintro e wl ⟨rfl, bl⟩
              replace K := below_trans K bl
              clear bl E6
              go_wp2
              go_ret
              exact ⟨rfl, K⟩
            · have hne : (t2.toList == t.toList) = false := beq_eq_false_iff_ne.2 (fun h => by
                have h1 : t2 = t := by
                  rw [ByteArray.toList_eq, ByteArray.toList_eq] at h
                  exact ByteArray.ext (Array.toList_inj.1 h)
                rcases HI.out.1 h1 with h2 | h2
                · exact hxy h2
                · exact zy h2.2)
              have sy : (IntKind.u64.wrap (y * 2) == 0) = false := beq_eq_false_iff_ne.2 (fun h => zy (HSY.out.1 h))
              clear HI zx zy
              go_wp2_with fail
              refine (lives8_any E6).mono ?_
              rintro e wl ⟨rfl, bl⟩
              replace K := below_trans K bl
              clear bl E6
              go_wp2
              go_ret
              exact ⟨rfl, K⟩
          · have hne : (t2.toList == t.toList) = false := beq_eq_false_iff_ne.2 (fun h => by
              have h1 : t2 = t := by
                rw [ByteArray.toList_eq, ByteArray.toList_eq] at h
                exact ByteArray.ext (Array.toList_inj.1 h)
              rcases HI.out.1 h1 with h2 | h2
              · exact hxy h2
              · exact zx h2.1)
            have sx : (IntKind.u64.wrap (x * 2) == 0) = false := beq_eq_false_iff_ne.2 (fun h => zx (HSX.out.1 h))
            clear HI zx
            go_wp2_with fail
            refine (lives8_any E6).mono ?_
            rintro e wl ⟨rfl, bl⟩
            replace K := below_trans K bl
            clear bl E6
            go_wp2
            go_ret
            exact ⟨rfl, K⟩
      · rw [decide_eq_false hg]
        clear hg
        go_wp2
        go_ret
        exact ⟨rfl, K⟩
    · rw [if_neg hx63]
      have ex63 : (x == 9223372036854775808) = false := beq_eq_false_iff_ne.2 hx63
      clear hx63
      have E2 := E1.below b2
      have K := below_trans b1 b2
      clear b1 b2 E1
      go_wp2_with fail
      refine (finite_any E2.T HX.out.1 HX.out.2).mono ?_
      rintro e w3 ⟨rfl, b3⟩
      have E3 := E2.below b3
      replace K := below_trans K b3
      clear b3 E2
      rw [decide_eq_true HF.out]
      go_wp2_with fail
      refine code_nil.mono ?_
      rintro e w4 ⟨rfl, rfl⟩
      go_wp2_with fail
      refine (finite_any E3.T HY.out.1 HY.out.2).mono ?_
      rintro e w5 ⟨rfl, b5⟩
      have E5 := E3.below b5
      replace K := below_trans K b5
      clear b5 E3
      by_cases hg : y % 9223372036854775808 < 9218868437227405312
      · have HG := hide hg
        rw [decide_eq_true hg]
        clear hg
        have HSX := hide (show IntKind.u64.wrap (x * 2) = 0 ↔ x % 9223372036854775808 = 0 by rw [IntKind.wrap_u64]; omega)
        have HSY := hide (show IntKind.u64.wrap (y * 2) = 0 ↔ y % 9223372036854775808 = 0 by rw [IntKind.wrap_u64]; omega)
        go_wp2_with fail
        refine (show_w E5 HY.out.1 HY.out.2 HG.out).mono ?_
        rintro e w6 ⟨⟨T2, hT2, rfl⟩, b6⟩
        have E6 := E5.below b6
        replace K := below_trans K b6
        clear b6 E5
        have hiff := shw_iff HX.out.1 HX.out.2 HY.out.1 HY.out.2 HF.out HG.out HT.out.1 hT2
        obtain ⟨t2, ht2⟩ : ∃ t, strOfNums T2 = t := ⟨_, rfl⟩
        rw [ht2]
        have HI := hide (show (t2 = t ↔ (x = y ∨ (x % 9223372036854775808 = 0 ∧ y % 9223372036854775808 = 0))) from by
          rw [← hiff, ← ht2, ← HT.out.2]
          exact ⟨fun h => (str_inj (hT2.shn HG.out).1.by_ (HT.out.1.shn HF.out).1.by_ h).symm, fun h => by rw [h]⟩)
        clear hiff hT2 ht2
        by_cases hxy : x = y
        · obtain rfl := HI.out.2 (Or.inl hxy)
          have exy : (x == y) = true := beq_iff_eq.2 hxy
          clear HI
          go_wp2_with fail
          refine (lives8_any E6).mono ?_
          rintro e wl ⟨rfl, bl⟩
          replace K := below_trans K bl
          clear bl E6
          go_wp2
          go_ret
          exact ⟨rfl, K⟩
        · have exy : (x == y) = false := beq_eq_false_iff_ne.2 hxy
          by_cases zx : x % 9223372036854775808 = 0
          · have sx : IntKind.u64.wrap (x * 2) = 0 := HSX.out.2 zx
            by_cases zy : y % 9223372036854775808 = 0
            · obtain rfl := HI.out.2 (Or.inr ⟨zx, zy⟩)
              have sy : IntKind.u64.wrap (y * 2) = 0 := HSY.out.2 zy
              clear HI zx zy
              go_wp2_with fail
              refine (lives8_any E6).mono ?_
              rintro e wl ⟨rfl, bl⟩
              replace K := below_trans K bl
              clear bl E6
              go_wp2
              go_ret
              exact ⟨rfl, K⟩
            · have hne : (t2.toList == t.toList) = false := beq_eq_false_iff_ne.2 (fun h => by
                have h1 : t2 = t := by
                  rw [ByteArray.toList_eq, ByteArray.toList_eq] at h
                  exact ByteArray.ext (Array.toList_inj.1 h)
                rcases HI.out.1 h1 with h2 | h2
                · exact hxy h2
                · exact zy h2.2)
              have sy : (IntKind.u64.wrap (y * 2) == 0) = false := beq_eq_false_iff_ne.2 (fun h => zy (HSY.out.1 h))
              clear HI zx zy
              go_wp2_with fail
              refine (lives8_any E6).mono ?_
              rintro e wl ⟨rfl, bl⟩
              replace K := below_trans K bl
              clear bl E6
              go_wp2
              go_ret
              exact ⟨rfl, K⟩
          · have hne : (t2.toList == t.toList) = false := beq_eq_false_iff_ne.2 (fun h => by
              have h1 : t2 = t := by
                rw [ByteArray.toList_eq, ByteArray.toList_eq] at h
                exact ByteArray.ext (Array.toList_inj.1 h)
              rcases HI.out.1 h1 with h2 | h2
              · exact hxy h2
              · exact zx h2.1)
            have sx : (IntKind.u64.wrap (x * 2) == 0) = false := beq_eq_false_iff_ne.2 (fun h => zx (HSX.out.1 h))
            clear HI zx
            go_wp2_with fail
            refine (lives8_any E6).mono ?_
            rintro e wl ⟨rfl, bl⟩
            replace K := below_trans K bl
            clear bl E6
            go_wp2
            go_ret
            exact ⟨rfl, K⟩
      · rw [decide_eq_false hg]
        clear hg
        go_wp2
        go_ret
        exact ⟨rfl, K⟩
  · have HF := hide hf
    have HSH := hide (show_odd E x0 x1 hf)
    clear hf
    go_enter Tryz.func6, Tryz.ntmps6
    go_wp2_with fail
    refine HSH.out.mono ?_
    clear HSH
    rintro e w1 ⟨⟨T, hb, hl, hno, rfl⟩, b1⟩
    have E1 := E.below b1
    have HR := hide (read_badF (s := strOfNums T) hb rfl (by omega) hno E1.S)
    obtain ⟨t, ht⟩ : ∃ t, strOfNums T = t := ⟨_, rfl⟩
    rw [ht] at HR ⊢
    clear hb hl hno ht E
    go_wp2_with fail
    refine HR.out.mono ?_
    rintro e w2 ⟨⟨v, rfl, hfl⟩, b2⟩
    have E2 := E1.below b2
    have HFL := hide hfl
    have K := below_trans b1 b2
    clear b1 b2 E1 HR hfl
    go_wp2_with fail
    refine (finite_any E2.T HX.out.1 HX.out.2).mono ?_
    rintro e w3 ⟨rfl, b3⟩
    have E3 := E2.below b3
    have HFL3 := hide (HFL.out.below b3)
    replace K := below_trans K b3
    clear b3 E2 HFL
    rw [decide_eq_false (by have := HF.out; omega)]
    go_wp2_with fail
    refine (code_flt E3.S HFL3.out).mono ?_
    rintro e w4 ⟨rfl, b4⟩
    have E4 := E3.below b4
    replace K := below_trans K b4
    clear b4 E3 HFL3
    go_wp2_with fail
    refine (lives8_any E4).mono ?_
    rintro e wl ⟨rfl, bl⟩
    replace K := below_trans K bl
    clear bl E4
    go_wp2
    go_ret
    exact ⟨rfl, K⟩

end Go.Proofs.YtfnfnkakaggmbaaGreatDoor
