/- BaseTells -/
import Derived.Test.YtnblpmjgehknaaaBRef
namespace Go.Proofs.Ytnblpmjgehknaaa
open Go.RowKit
set_option linter.unusedVariables false

set_option maxRecDepth 100000 in
set_option maxHeartbeats 8000000 in
theorem tells_any {w : World} {v : Value} {es : List Int} (hr : Reads .u8 w v es) (hb : uByt es) (hl : es.length ≤ 16777216) :
    Calls Try.prog 9 #[v] w fun e w' => e = .returned (.bool true) ∧ Below w.heap.size w w' := by
  have TW := hide (btwin_any hr (by omega))
  have c1 := hide (fun (W : World) (k : Below w.heap.size w W) => hex_any (hr.below k) hb (by omega))
  have c2 := hide (fun (W : World) (u : Value) (h : Reads .u8 W u es) => rhex_any h hb (by omega))
  have c3 := hide (fun (W : World) (k : Below w.heap.size w W) => base64_any (hr.below k) hb (by omega))
  have c4 := hide (fun (W : World) (u : Value) (h : Reads .u8 W u es) => r64_any h hb (by omega))
  have c5 := hide (fun (W : World) (u : Value) (k : Below w.heap.size w W) (h : Reads .u8 W u es) => bsame_any (hr.below k) h)
  obtain ⟨s1, e1⟩ : ∃ s, strOfNums (bHex es) = s := ⟨_, rfl⟩
  obtain ⟨s2, e2⟩ : ∃ s, strOfNums (b64 es) = s := ⟨_, rfl⟩
  rw [e1] at c1 c2
  rw [e2] at c3 c4
  rw [decide_eq_true rfl] at c5
  clear e1 e2 hr hb
  have n1 : (s1.toList == s1.toList) = true := by simp
  have n2 : (s2.toList == s2.toList) = true := by simp
  go_enter Try.func9, Try.ntmps9
  go_wp2_with fail
  refine TW.out.mono ?_
  rintro e w1 ⟨v1, rfl, ht, k1⟩
  have R1 := hide ht.reads
  have B1 := hide k1
  clear ht k1 TW
  go_wp2_with fail
  refine (c1.out _ B1.out).mono ?_
  rintro e w2 ⟨rfl, k2⟩
  have R2 := hide (R1.out.below k2)
  have B2 := hide (bbel_t B1.out k2)
  clear R1 B1 k2 c1
  go_wp2_with fail
  refine (c2.out _ _ R2.out).mono ?_
  rintro e w3 ⟨rfl, k3⟩
  have R3 := hide (R2.out.below k3)
  have B3 := hide (bbel_t B2.out k3)
  clear R2 B2 k3 c2
  go_wp2_with fail
  refine (c3.out _ B3.out).mono ?_
  rintro e w4 ⟨rfl, k4⟩
  have R4 := hide (R3.out.below k4)
  have B4 := hide (bbel_t B3.out k4)
  clear R3 B3 k4 c3
  go_wp2_with fail
  refine (c4.out _ _ R4.out).mono ?_
  rintro e w5 ⟨rfl, k5⟩
  have R5 := hide (R4.out.below k5)
  have B5 := hide (bbel_t B4.out k5)
  clear R4 B4 k5 c4
  go_wp2_with fail
  refine (c5.out _ _ B5.out R5.out).mono ?_
  rintro e w6 ⟨rfl, k6⟩
  go_wp2
  go_ret
  exact ⟨rfl, bbel_t B5.out k6⟩

set_option maxRecDepth 100000 in
set_option maxHeartbeats 8000000 in
theorem btells_walk {w : World} {va vc : Value} {es cs : List Int} (ha : Reads .u8 w va es) (hba : uByt es) (la : es.length ≤ 140737488351232) (hc : Reads .u8 w vc cs) (hbc : uByt cs) (lc : cs.length ≤ 140737488351232) :
    Calls Try.prog 3 #[va, vc] w fun e w' => e = .returned (.bool true) ∧ Below w.heap.size w w' := by
  obtain ⟨ao, ca, rfl, hxl, hxm, hxc⟩ := ha
  obtain ⟨co, cc, rfl, hyl, hym, hyc⟩ := hc
  have RA : Hid (Reads .u8 w (.slice ao es.length ca) es) := ⟨ao, ca, rfl, hxl, hxm, hxc⟩
  have RC : Hid (Reads .u8 w (.slice co cs.length cc) cs) := ⟨co, cc, rfl, hyl, hym, hyc⟩
  have HYC := hide hyc
  clear hxc hyc
  unfold maxLen at hxm hym
  by_cases hbig : 16777216 < es.length + cs.length
  · have q1 : (16777216 : Int) < (es.length : Int) + (cs.length : Int) := by omega
    go_enter Try.func3, Try.ntmps3
    go_wp2
    go_ret
    exact ⟨rfl, Below.refl _ _⟩
  · have q1 : ¬ (16777216 : Int) < (es.length : Int) + (cs.length : Int) := by omega
    have TW := hide (btwin_any RA.out (by omega))
    have TL := hide (fun (W : World) (u : Value) (h : Reads .u8 W u es) => tells_any h hba (by omega))
    have TC := hide (fun (W : World) (k : Below w.heap.size w W) => tells_any (RC.out.below k) hbc (by omega))
    have HCb := hide hbc
    have HE := hide (show uByt (es ++ [28]) from fun x hx => by
      rcases List.mem_append.1 hx with hx | hx
      · exact hba x hx
      · rw [List.mem_singleton.1 hx]; omega)
    have hL : es.length ≤ 16777216 := by omega
    clear hba hbc hbig
    go_enter Try.func3, Try.ntmps3
    go_wp2_with fail
    refine TW.out.mono ?_
    rintro e w1 ⟨v1, rfl, ht1, hb1⟩
    obtain ⟨g, rfl, hg1, hg2, hg3⟩ := ht1
    have T1 : Hid (BTwin w.heap.size w1 (.slice (some ⟨g, 0, none⟩) es.length (es.length + 1)) es) := ⟨g, rfl, hg1, hg2, hg3⟩
    have B1 := hide hb1
    have Hg := hide hg1
    clear TW hb1 hg1 hg2 hg3
    go_wp2_with fail
    refine (TL.out _ _ T1.out.reads).mono ?_
    rintro e w2 ⟨rfl, k2⟩
    have T2 := hide (T1.out.below k2)
    have B2 := hide (bbel_t B1.out k2)
    clear T1 B1 k2
    go_wp2_with fail
    refine (TC.out _ B2.out).mono ?_
    rintro e w3 ⟨rfl, k3⟩
    have T3 := hide (T2.out.below k3)
    have B3 := hide (bbel_t B2.out k3)
    clear T2 B2 k3 TC
    go_wp2_with fail
    refine (TL.out _ _ T3.out.reads).mono ?_
    rintro e w4 ⟨rfl, k4⟩
    have T4 := hide (T3.out.below k4)
    have B4 := hide (bbel_t B3.out k4)
    clear T3 B3 k4 TL
    have LF := hide (bleft_any T4.out (RA.out.below B4.out))
    go_wp2_with fail
    refine LF.out.mono ?_
    rintro e w5 ⟨rfl, k5⟩
    have T5 := hide (T4.out.below k5)
    have B5 := hide (bbel_t B4.out k5)
    obtain ⟨g', e1, _, _, hrow⟩ := T5.out
    cases e1
    have HX := hide hrow
    clear T4 B4 k5 LF T5 hrow
    go_wp2
    go_loopw [6] (fun si wr => ∃ (k : Nat) (zs : List Int), si = .int .i64 k ∧ k ≤ es.length ∧ zs.length = es.length + 1 ∧ Hid (uByt zs) ∧ Hid (Row .u8 5 wr g zs) ∧ Hid (Below w.heap.size w wr)) (fun si _ => es.length - (intOf si).toNat)
    case atStart => exact ⟨0, es ++ [28], rfl, by omega, by simp, HE, HX, B5⟩
    case round =>
      obtain ⟨k, zs, rfl, hk, hzl, HZ, HX, B5⟩ := hrel
      have TZ := hide (tells_any (w := wr) (v := .slice (some ⟨g, 0, none⟩) es.length (es.length + 1)) (es := zs.take es.length) ⟨some ⟨g, 0, none⟩, es.length + 1, by rw [List.length_take]; congr 1; omega, by rw [List.length_take]; omega, by unfold maxLen; omega, (row_cells HX.out).take (by omega)⟩ (fun x hx => HZ.out x (List.mem_of_mem_take hx)) (by rw [List.length_take]; omega))
      by_cases hlt : k < es.length ∧ 0 < cs.length
      · have hlt1 : (k : Int) < (es.length : Int) := by omega
        have hlt2 : (0 : Int) < (cs.length : Int) := by omega
        obtain ⟨m, hm⟩ : ∃ m : Nat, m = k % cs.length := ⟨_, rfl⟩
        have hm1 : m < cs.length := by rw [hm]; exact Nat.mod_lt _ hlt.2
        have q2 : (k : Int) % (cs.length : Int) = (m : Int) := by rw [hm]; rfl
        have hm2 : (m : Int) < (cs.length : Int) := by omega
        obtain ⟨b, off, rfl, _, hcell⟩ := (HYC.out.below B5.out) hlt.2
        have c2 := hcell m hm1
        have cb := lb_byt HCb.out hm1
        have c1 := HX.out.cell (i := k) (by omega)
        have f1 := HX.out.frozen k
        have hne : ((cs.length : Int) == 0) = false := beq_eq_false_iff_ne.2 (by omega)
        obtain ⟨y, hy⟩ : ∃ y, Nt.lb cs m = y := ⟨_, rfl⟩
        rw [hy] at c2 cb
        have HZ2 := hide (show uByt (zs.set k y) from fun x hx => by
          rcases List.mem_or_eq_of_mem_set hx with h | h
          · exact HZ.out x h
          · rw [h]; exact cb)
        clear hcell hm hy TZ
        go_wp2
        go_roundw
        case rel => exact ⟨k + 1, zs.set k y, by go_num, by omega, by rw [List.length_set]; exact hzl, HZ2, hide (HX.out.set k y), hide (B5.out.setCell (p := ⟨g, k, none⟩) Hg.out _)⟩
        case measure => simp [intOf]; omega
      · by_cases hk2 : k < es.length
        · have hlt1 : (k : Int) < (es.length : Int) := by omega
          have hlt2 : ¬ (0 : Int) < (cs.length : Int) := by omega
          go_wp2_with fail
          refine TZ.out.mono ?_
          rintro e w6 ⟨rfl, k6⟩
          go_wp2_with (go_at_call 11; refine blives.mono ?_; rintro e w7 ⟨rfl, k7⟩)
          go_ret
          exact ⟨rfl, bbel_t (bbel_t B5.out k6) k7⟩
        · have hlt1 : ¬ (k : Int) < (es.length : Int) := by omega
          go_wp2_with fail
          refine TZ.out.mono ?_
          rintro e w6 ⟨rfl, k6⟩
          go_wp2_with (go_at_call 11; refine blives.mono ?_; rintro e w7 ⟨rfl, k7⟩)
          go_ret
          exact ⟨rfl, bbel_t (bbel_t B5.out k6) k7⟩

end Go.Proofs.Ytnblpmjgehknaaa
