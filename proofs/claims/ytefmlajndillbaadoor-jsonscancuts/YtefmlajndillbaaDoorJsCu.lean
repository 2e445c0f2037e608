/- JsonscanCuts: the walk -/
import Derived.Test.YtefmlajndillbaaDoorJsV
namespace Go.Proofs.YtefmlajndillbaaDoor
open Go.RowKit
set_option linter.unusedVariables false

theorem write_more (es : List Int) (t n : Nat) (s : Sc) : writeB ((es.take (t + n)).drop t) (writeB (es.take t) s) = writeB (es.take (t + n)) s := by
  rw [← writeB_append]
  congr 1
  have : (es.take (t + n)).take t = es.take t := by rw [List.take_take]; congr 1; omega
  rw [← this, List.take_append_drop]
theorem write_rest (es : List Int) (t : Nat) (s : Sc) : writeB (es.drop t) (writeB (es.take t) s) = writeB es s := by
  rw [← writeB_append, List.take_append_drop]
theorem size_rest {es : List Int} (t : Nat) (h : es.length ≤ 140737488355328) : (writeB (es.take t) sc0).size + (es.drop t).length ≤ 9223372036854775807 := by
  have h1 := (write_size (es.take t) sc0).1
  have h2 : (es.take t).length ≤ es.length := by simp; omega
  have h3 : (es.drop t).length ≤ es.length := by simp
  have h4 : sc0.size = 0 := rfl
  omega
theorem size_more {es : List Int} (t n : Nat) (h : es.length ≤ 140737488355328) : (writeB (es.take t) sc0).size + ((es.take (t + n)).drop t).length ≤ 9223372036854775807 := by
  have h1 := (write_size (es.take t) sc0).1
  have h2 : (es.take t).length ≤ es.length := by simp; omega
  have h3 : ((es.take (t + n)).drop t).length ≤ es.length := by simp; omega
  have h4 : sc0.size = 0 := rfl
  omega
theorem codeC_bad {s : Sc} (h : s.st.bad ≠ 0) : codeC s = s.st.bad := by simp [codeC, h]
theorem uByt_take {es : List Int} (h : uByt es) (t : Nat) : uByt (es.take t) := fun x hx => h x (List.mem_of_mem_take hx)
theorem uByt_drop {es : List Int} (h : uByt es) (t : Nat) : uByt (es.drop t) := fun x hx => h x (List.mem_of_mem_drop hx)
set_option maxRecDepth 100000 in
set_option maxHeartbeats 8000000 in
theorem jcuts {w : World} {a : Nat → Addr} {es cs : List Int} {ch : ByteArray} {vc : Value} (hS : Snt w a) (hH : Hnd w) (hb : uByt es) (hch : ch = strOfNums es) (hl : es.length ≤ 140737488355328) (hv : Reads .u8 w vc cs) (hcs : uByt cs) :
    Calls Tryd.prog 3 #[.string ch, vc] w fun e w' => e = .returned (.bool true) ∧ Below w.heap.size w w' := by
  have C0 := hide (jlives hS hH)
  have HS := hide (sntB_of hS)
  have HH := hide hH
  have HBy := hide hb
  obtain ⟨ao, cap, rfl, hcap, hmx, hcell⟩ := hv
  have HCl := hide hcell
  have HCs := hide hcs
  have hcz : ch.size = es.length := by rw [hch, strOfNums_size]
  obtain ⟨L, hL⟩ : ∃ L, es.length = L := ⟨_, rfl⟩
  obtain ⟨N, hN⟩ : ∃ N, cs.length = N := ⟨_, rfl⟩
  rw [hL] at hcz
  have HC := hide (And.intro hch hcz)
  have HL := hide (And.intro hL hl)
  have HN := hide hN
  have HMx := hide (And.intro hcap hmx)
  have GS := good_write good0 es hb
  obtain ⟨S, hSS⟩ : ∃ S, writeB es sc0 = S := ⟨_, rfl⟩
  have HSS := hide hSS
  rw [hSS] at GS
  have HGS := hide GS
  rw [hN]
  have hLb : L ≤ 140737488355328 := by omega
  have hNb : N ≤ 9223372036854775807 := by unfold maxLen at hmx; omega
  clear hS hH hb hch hl hcs hcell hL hSS GS hcap hmx hN
  go_enter Tryd.func3, Tryd.ntmps3
  go_wp2_with fail
  refine C0.out.mono ?_
  rintro e w0 ⟨rfl, hb0⟩
  have B1 := hide hb0
  have CR := hide (jread (es := es) (ch := ch) (HS.out.below hb0).here HBy.out HC.out.1 (by have := HL.out; omega))
  rw [HSS.out] at CR
  clear hb0 C0
  go_wp2_with fail
  refine CR.out.mono ?_
  rintro e wa ⟨v0, rfl, ht0, hba⟩
  have T0 := hide ht0
  have B2 := hide (B1.out.trans (hba.mono B1.out.size))
  have CN := hide (jNew (w := wa) (a := a))
  clear ht0 hba CR B1
  go_wp2_with fail
  refine CN.out.mono ?_
  rintro e wb ⟨rfl, hp, hbb⟩
  have P0 := hide hp
  have BN := hide hbb
  have HQ := hide B2.out.size
  have HQ2 := hide (Nat.le_refl wa.heap.size)
  have B3 := hide (B2.out.trans (hbb.mono B2.out.size))
  clear hp hbb CN
  go_wp2
  go_loopg [9, 10] N (fun c ta i wr => ∃ (k t : Nat) (ov1 : Value), k ≤ N ∧ t ≤ L ∧ i = .int .i64 k ∧ ta = .int .i64 t ∧ c = N - k ∧ Hid (ScP wr a wa.heap.size wa.heap.size ov1 (writeB (es.take t) sc0)) ∧ Hid (Below wa.heap.size wa wr))
  case atStart => exact ⟨0, 0, _, by omega, by omega, rfl, rfl, by omega, P0, BN⟩
  case round =>
    obtain ⟨k, t, ov1, hk, ht, rfl, rfl, hc, HP, BW0⟩ := hrel
    have B0 := hide (B2.out.trans (BW0.out.mono HQ.out))
    clear P0 BN B3
    by_cases hkn : k < N
    · have p1 : (k : Int) < (N : Int) := by omega
      by_cases htl : t < L
      · have p2 : (t : Int) < (L : Int) := by omega
        obtain ⟨bb, oo, hao, hbb', hcl⟩ := HCl.out (by have := HN.out; omega)
        subst hao
        have ck := hcl k (by have := HN.out; omega)
        have hby : 0 ≤ Nt.lb cs k ∧ Nt.lb cs k < 256 := by
          have hk' : k < cs.length := by have := HN.out; omega
          have := HCs.out _ (List.getElem_mem hk')
          simpa [Nt.lb, hk'] using this
        rw [← B0.out.cell (p := ⟨bb, oo + k, none⟩) hbb'] at ck
        obtain ⟨c9, hc9⟩ : ∃ c9, Nt.lb cs k = c9 := ⟨_, rfl⟩
        rw [hc9] at ck hby
        obtain ⟨q, hq⟩ : ∃ q : Nat, c9 % 9 = (q : Int) := ⟨(c9 % 9).toNat, by omega⟩
        have hq8 : q ≤ 8 := by omega
        have b1 : (0 : Int) ≤ (k : Int) ∧ (k : Int) < (N : Int) := ⟨by omega, p1⟩
        clear hcl hc9
        by_cases hm : (L : Int) - (t : Int) < (q : Int)
        · obtain ⟨n, hn⟩ : ∃ n : Nat, (L : Int) - (t : Int) = (n : Int) := ⟨L - t, by omega⟩
          obtain ⟨m, hmm⟩ : ∃ m, t + n = m := ⟨_, rfl⟩
          have hs1 : (t : Int) + (n : Int) = (m : Int) := by omega
          have b2 : (0 : Int) ≤ (t : Int) := by omega
          have b3 : (t : Int) ≤ (m : Int) := by omega
          have b4 : (m : Int) ≤ (L : Int) := by omega
          have hcut : ch.extract t m = strOfNums ((es.take m).drop t) := by rw [HC.out.1, utxt_cut]
          have hbnd := size_more (es := es) t n (by have := HL.out; omega)
          rw [hmm] at hbnd
          have hwm := write_more es t n sc0
          rw [hmm] at hwm
          have CW := hide (jWrite (es := (es.take m).drop t) (ch := ch.extract t m) HP.out (sntB_mono (HS.out.below B0.out) HQ.out) (uByt_drop (uByt_take HBy.out m) t) hcut hbnd)
          rw [hwm] at CW
          have hws := write_size (es.take m) sc0
          have hwe := write_end (es := es) (s := sc0) (k := m)
          have hln : (es.take m).length = m := by have := HL.out; simp; omega
          obtain ⟨X, hX⟩ : ∃ X, writeB (es.take m) sc0 = X := ⟨_, rfl⟩
          rw [hX] at CW hws hwe
          have hz0 : sc0.size = 0 := rfl
          have HX := hide hX.symm
          rw [hln, hz0] at hws
          have HWS := hide hws
          have HWE := hide hwe
          have HM := hide hmm
          clear hcut hbnd hX hws hwe hln hz0 hwm hmm
          go_wp2_with fail
          refine CW.out.mono ?_
          rintro e w2 ⟨v, ov2, rfl, hp2, ht2, hf2⟩
          have P2 := hide hp2
          have HT2 := hide ht2
          have BQ := hide (HP.out.sc.toBelow hf2)
          have BW := hide (BW0.out.trans (BQ.out.mono HQ2.out))
          have B0b := hide (B0.out.trans (BQ.out.mono HQ.out))
          have S2 := hide (HS.out.below B0b.out)
          clear hp2 ht2 hf2 CW
          by_cases hbad : X.st.bad = 0
          · have hv := HT2.out.none hbad
            subst hv
            have hsz := HWS.out.2.2 hbad
            have CL := hide (jLen P2.out.sc)
            rw [hsz, show ((0 + m : Nat) : Int) = (m : Int) by omega] at CL
            clear hsz HT2
            go_wp2_with fail
            refine CL.out.mono ?_
            rintro e w3 ⟨rfl, rfl⟩
            go_wp2_with fail
            refine CL.out.mono ?_
            rintro e w4 ⟨rfl, rfl⟩
            have CC := hide (jClose P2.out S2.out.here)
            go_wp2_with fail
            refine CC.out.mono ?_
            rintro e w5 ⟨v5, rfl, ht5, hb5⟩
            have CD := hide (jDepth (P2.out.below hb5).sc)
            have P5 := hide (P2.out.below hb5)
            have BW5 := hide (BW.out.trans (hb5.mono BW.out.size))
            clear ht5 hb5 CC
            go_wp2_with fail
            refine CD.out.mono ?_
            rintro e w6 ⟨rfl, rfl⟩
            go_wp2
            go_roundg (N - (k + 1))
            case measure => omega
            case rel => exact ⟨k + 1, m, ov2, by omega, by omega, by go_num, by go_num, rfl, hide (HX.out ▸ P5.out), BW5⟩
          · obtain ⟨u, x, hv⟩ := HT2.out.some hbad
            subst hv
            have hSX : S = X := HSS.out.symm.trans (HWE.out (Or.inr hbad))
            have hcc : codeC S = X.st.bad := by rw [hSX]; exact codeC_bad hbad
            have hle : X.st.bad ≤ 11 := by rw [← hcc]; exact codeC_le HGS.out
            have T1 := T0.out.below BW.out
            rw [hcc, hSX] at T1
            have CS := hide (jsame HT2.out T1 hle hle S2.out.here (HH.out.below B0b.out))
            rw [decide_eq_true (show X.st.bad = X.st.bad from rfl), decide_eq_true (show X.st.bad = 0 ∨ (X.size : Int) = (X.size : Int) from Or.inr rfl)] at CS
            have hsz : ¬ ((m : Int) < (X.size : Int)) := by have := HWS.out.1; omega
            have HZ := hide hSX
            clear T1 hcc hle HT2 hSX
            go_wp2_with fail
            refine CS.out.mono ?_
            rintro e w3 ⟨rfl, hb3⟩
            have CL := hide (jLen (P2.out.below hb3).sc)
            have P2 := hide (P2.out.below hb3)
            have BW := hide (BW.out.trans (hb3.mono BW.out.size))
            have B0b := hide (B0b.out.trans (hb3.mono B0b.out.size))
            have S2 := hide (HS.out.below B0b.out)
            clear hb3 CS
            go_wp2_with fail
            refine CL.out.mono ?_
            rintro e w4 ⟨rfl, rfl⟩
            have CC := hide (jClose P2.out S2.out.here)
            go_wp2_with fail
            refine CC.out.mono ?_
            rintro e w5 ⟨v5, rfl, ht5, hb5⟩
            have CD := hide (jDepth (P2.out.below hb5).sc)
            have P5 := hide (P2.out.below hb5)
            have BW5 := hide (BW.out.trans (hb5.mono BW.out.size))
            clear ht5 hb5 CC
            go_wp2_with fail
            refine CD.out.mono ?_
            rintro e w6 ⟨rfl, rfl⟩
            go_wp2
            go_roundg (N - (k + 1))
            case measure => omega
            case rel => exact ⟨k + 1, m, ov2, by omega, by omega, by go_num, by go_num, rfl, hide (HX.out ▸ P5.out), BW5⟩
        · obtain ⟨n, hn⟩ : ∃ n : Nat, (q : Int) = (n : Int) := ⟨q, rfl⟩
          rw [hn] at hq hm
          obtain ⟨m, hmm⟩ : ∃ m, t + n = m := ⟨_, rfl⟩
          have hs1 : (t : Int) + (n : Int) = (m : Int) := by omega
          have b2 : (0 : Int) ≤ (t : Int) := by omega
          have b3 : (t : Int) ≤ (m : Int) := by omega
          have b4 : (m : Int) ≤ (L : Int) := by omega
          have hcut : ch.extract t m = strOfNums ((es.take m).drop t) := by rw [HC.out.1, utxt_cut]
          have hbnd := size_more (es := es) t n (by have := HL.out; omega)
          rw [hmm] at hbnd
          have hwm := write_more es t n sc0
          rw [hmm] at hwm
          have CW := hide (jWrite (es := (es.take m).drop t) (ch := ch.extract t m) HP.out (sntB_mono (HS.out.below B0.out) HQ.out) (uByt_drop (uByt_take HBy.out m) t) hcut hbnd)
          rw [hwm] at CW
          have hws := write_size (es.take m) sc0
          have hwe := write_end (es := es) (s := sc0) (k := m)
          have hln : (es.take m).length = m := by have := HL.out; simp; omega
          obtain ⟨X, hX⟩ : ∃ X, writeB (es.take m) sc0 = X := ⟨_, rfl⟩
          rw [hX] at CW hws hwe
          have hz0 : sc0.size = 0 := rfl
          have HX := hide hX.symm
          rw [hln, hz0] at hws
          have HWS := hide hws
          have HWE := hide hwe
          have HM := hide hmm
          clear hcut hbnd hX hws hwe hln hz0 hwm hmm
          go_wp2_with fail
          refine CW.out.mono ?_
          rintro e w2 ⟨v, ov2, rfl, hp2, ht2, hf2⟩
          have P2 := hide hp2
          have HT2 := hide ht2
          have BQ := hide (HP.out.sc.toBelow hf2)
          have BW := hide (BW0.out.trans (BQ.out.mono HQ2.out))
          have B0b := hide (B0.out.trans (BQ.out.mono HQ.out))
          have S2 := hide (HS.out.below B0b.out)
          clear hp2 ht2 hf2 CW
          by_cases hbad : X.st.bad = 0
          · have hv := HT2.out.none hbad
            subst hv
            have hsz := HWS.out.2.2 hbad
            have CL := hide (jLen P2.out.sc)
            rw [hsz, show ((0 + m : Nat) : Int) = (m : Int) by omega] at CL
            clear hsz HT2
            go_wp2_with fail
            refine CL.out.mono ?_
            rintro e w3 ⟨rfl, rfl⟩
            go_wp2_with fail
            refine CL.out.mono ?_
            rintro e w4 ⟨rfl, rfl⟩
            have CC := hide (jClose P2.out S2.out.here)
            go_wp2_with fail
            refine CC.out.mono ?_
            rintro e w5 ⟨v5, rfl, ht5, hb5⟩
            have CD := hide (jDepth (P2.out.below hb5).sc)
            have P5 := hide (P2.out.below hb5)
            have BW5 := hide (BW.out.trans (hb5.mono BW.out.size))
            clear ht5 hb5 CC
            go_wp2_with fail
            refine CD.out.mono ?_
            rintro e w6 ⟨rfl, rfl⟩
            go_wp2
            go_roundg (N - (k + 1))
            case measure => omega
            case rel => exact ⟨k + 1, m, ov2, by omega, by omega, by go_num, by go_num, rfl, hide (HX.out ▸ P5.out), BW5⟩
          · obtain ⟨u, x, hv⟩ := HT2.out.some hbad
            subst hv
            have hSX : S = X := HSS.out.symm.trans (HWE.out (Or.inr hbad))
            have hcc : codeC S = X.st.bad := by rw [hSX]; exact codeC_bad hbad
            have hle : X.st.bad ≤ 11 := by rw [← hcc]; exact codeC_le HGS.out
            have T1 := T0.out.below BW.out
            rw [hcc, hSX] at T1
            have CS := hide (jsame HT2.out T1 hle hle S2.out.here (HH.out.below B0b.out))
            rw [decide_eq_true (show X.st.bad = X.st.bad from rfl), decide_eq_true (show X.st.bad = 0 ∨ (X.size : Int) = (X.size : Int) from Or.inr rfl)] at CS
            have hsz : ¬ ((m : Int) < (X.size : Int)) := by have := HWS.out.1; omega
            have HZ := hide hSX
            clear T1 hcc hle HT2 hSX
            go_wp2_with fail
            refine CS.out.mono ?_
            rintro e w3 ⟨rfl, hb3⟩
            have CL := hide (jLen (P2.out.below hb3).sc)
            have P2 := hide (P2.out.below hb3)
            have BW := hide (BW.out.trans (hb3.mono BW.out.size))
            have B0b := hide (B0b.out.trans (hb3.mono B0b.out.size))
            have S2 := hide (HS.out.below B0b.out)
            clear hb3 CS
            go_wp2_with fail
            refine CL.out.mono ?_
            rintro e w4 ⟨rfl, rfl⟩
            have CC := hide (jClose P2.out S2.out.here)
            go_wp2_with fail
            refine CC.out.mono ?_
            rintro e w5 ⟨v5, rfl, ht5, hb5⟩
            have CD := hide (jDepth (P2.out.below hb5).sc)
            have P5 := hide (P2.out.below hb5)
            have BW5 := hide (BW.out.trans (hb5.mono BW.out.size))
            clear ht5 hb5 CC
            go_wp2_with fail
            refine CD.out.mono ?_
            rintro e w6 ⟨rfl, rfl⟩
            go_wp2
            go_roundg (N - (k + 1))
            case measure => omega
            case rel => exact ⟨k + 1, m, ov2, by omega, by omega, by go_num, by go_num, rfl, hide (HX.out ▸ P5.out), BW5⟩
      · have p2 : ¬ ((t : Int) < (L : Int)) := by omega
        have hrs : writeB (es.drop t) (writeB (es.take t) sc0) = S := (write_rest es t sc0).trans HSS.out
        have hcut : ch.extract t L = strOfNums (es.drop t) := by rw [HC.out.1, utxt_cut, ← HL.out.1, List.take_length]
        have hbnd := size_rest (es := es) t (by have := HL.out; omega)
        have CW := hide (jWrite (es := es.drop t) (ch := ch.extract t L) HP.out (sntB_mono (HS.out.below B0.out) HQ.out) (uByt_drop HBy.out t) hcut hbnd)
        rw [hrs] at CW
        clear hrs hcut hbnd
        go_wp2_with fail
        refine CW.out.mono ?_
        rintro e w2 ⟨v, ov2, rfl, hp2, ht2, hf2⟩
        have P2 := hide hp2
        have HT2 := hide ht2
        have BQ := hide (HP.out.sc.toBelow hf2)
        have BW := hide (BW0.out.trans (BQ.out.mono HQ2.out))
        have B0b := hide (B0.out.trans (BQ.out.mono HQ.out))
        have S2 := hide (HS.out.below B0b.out)
        clear hp2 ht2 hf2 CW
        by_cases hbad : S.st.bad = 0
        · have hv := HT2.out.none hbad
          subst hv
          have CC := hide (jClose P2.out S2.out.here)
          clear HT2
          go_wp2_with fail
          refine CC.out.mono ?_
          rintro e w3 ⟨v3, rfl, ht3, hb3⟩
          have HT2 := hide ht3
          have P3 := hide (P2.out.below hb3)
          have BW3 := hide (BW.out.trans (hb3.mono BW.out.size))
          have B03 := hide (B0b.out.trans (hb3.mono B0b.out.size))
          have CS := hide (jsame HT2.out (T0.out.below BW3.out) (codeC_le HGS.out) (codeC_le HGS.out) (HS.out.below B03.out).here (HH.out.below B03.out))
          have S2 := hide (HS.out.below B03.out)
          clear ht3 hb3 CC
          rw [decide_eq_true (show codeC S = codeC S from rfl), decide_eq_true (show codeC S = 0 ∨ (S.size : Int) = (S.size : Int) from Or.inr rfl)] at CS
          go_wp2_with fail
          refine CS.out.mono ?_
          rintro e w4 ⟨rfl, hb4⟩
          have P4 := hide (P3.out.below hb4)
          have BW4 := hide (BW3.out.trans (hb4.mono BW3.out.size))
          have B04 := hide (B03.out.trans (hb4.mono B03.out.size))
          have CC := hide (jClose P4.out (HS.out.below B04.out).here)
          clear hb4 CS
          go_wp2_with fail
          refine CC.out.mono ?_
          rintro e w5 ⟨v5, rfl, ht5, hb5⟩
          have P5 := hide (P4.out.below hb5)
          have BW5 := hide (BW4.out.trans (hb5.mono BW4.out.size))
          have B05 := hide (B04.out.trans (hb5.mono B04.out.size))
          have CS := hide (jsame ht5 (T0.out.below BW5.out) (codeC_le HGS.out) (codeC_le HGS.out) (HS.out.below B05.out).here (HH.out.below B05.out))
          rw [decide_eq_true (show codeC S = codeC S from rfl), decide_eq_true (show codeC S = 0 ∨ (S.size : Int) = (S.size : Int) from Or.inr rfl)] at CS
          clear ht5 hb5 CC
          go_wp2_with fail
          refine CS.out.mono ?_
          rintro e w6 ⟨rfl, hb6⟩
          have P6 := hide (P5.out.below hb6)
          have B06 := hide (B05.out.trans (hb6.mono B05.out.size))
          have CL := hide (jLen P6.out.sc)
          have CD := hide (jDepth P6.out.sc)
          clear hb6 CS
          go_wp2_with fail
          refine CL.out.mono ?_
          rintro e w7 ⟨rfl, rfl⟩
          go_wp2_with fail
          refine CD.out.mono ?_
          rintro e w7 ⟨rfl, rfl⟩
          go_wp2
          go_ret
          exact ⟨rfl, B06.out⟩
        · obtain ⟨u, x, hv⟩ := HT2.out.some hbad
          subst hv
          have hcc := hide (codeC_bad hbad)
          rw [← hcc.out] at HT2
          have CS := hide (jsame HT2.out (T0.out.below BW.out) (codeC_le HGS.out) (codeC_le HGS.out) (S2.out.here) (HH.out.below B0b.out))
          rw [decide_eq_true (show codeC S = codeC S from rfl), decide_eq_true (show codeC S = 0 ∨ (S.size : Int) = (S.size : Int) from Or.inr rfl)] at CS
          go_wp2_with fail
          refine CS.out.mono ?_
          rintro e w4 ⟨rfl, hb4⟩
          have P4 := hide (P2.out.below hb4)
          have BW4 := hide (BW.out.trans (hb4.mono BW.out.size))
          have B04 := hide (B0b.out.trans (hb4.mono B0b.out.size))
          have CC := hide (jClose P4.out (HS.out.below B04.out).here)
          clear hb4 CS
          go_wp2_with fail
          refine CC.out.mono ?_
          rintro e w5 ⟨v5, rfl, ht5, hb5⟩
          have P5 := hide (P4.out.below hb5)
          have BW5 := hide (BW4.out.trans (hb5.mono BW4.out.size))
          have B05 := hide (B04.out.trans (hb5.mono B04.out.size))
          have CS := hide (jsame ht5 (T0.out.below BW5.out) (codeC_le HGS.out) (codeC_le HGS.out) (HS.out.below B05.out).here (HH.out.below B05.out))
          rw [decide_eq_true (show codeC S = codeC S from rfl), decide_eq_true (show codeC S = 0 ∨ (S.size : Int) = (S.size : Int) from Or.inr rfl)] at CS
          clear ht5 hb5 CC
          go_wp2_with fail
          refine CS.out.mono ?_
          rintro e w6 ⟨rfl, hb6⟩
          have P6 := hide (P5.out.below hb6)
          have B06 := hide (B05.out.trans (hb6.mono B05.out.size))
          have CL := hide (jLen P6.out.sc)
          have CD := hide (jDepth P6.out.sc)
          clear hb6 CS
          go_wp2_with fail
          refine CL.out.mono ?_
          rintro e w7 ⟨rfl, rfl⟩
          go_wp2_with fail
          refine CD.out.mono ?_
          rintro e w7 ⟨rfl, rfl⟩
          go_wp2
          go_ret
          exact ⟨rfl, B06.out⟩
    · have p1 : ¬ ((k : Int) < (N : Int)) := by omega
      have hrs : writeB (es.drop t) (writeB (es.take t) sc0) = S := (write_rest es t sc0).trans HSS.out
      have hcut : ch.extract t L = strOfNums (es.drop t) := by rw [HC.out.1, utxt_cut, ← HL.out.1, List.take_length]
      have hbnd := size_rest (es := es) t (by have := HL.out; omega)
      have CW := hide (jWrite (es := es.drop t) (ch := ch.extract t L) HP.out (sntB_mono (HS.out.below B0.out) HQ.out) (uByt_drop HBy.out t) hcut hbnd)
      rw [hrs] at CW
      clear hrs hcut hbnd
      go_wp2_with fail
      refine CW.out.mono ?_
      rintro e w2 ⟨v, ov2, rfl, hp2, ht2, hf2⟩
      have P2 := hide hp2
      have HT2 := hide ht2
      have BQ := hide (HP.out.sc.toBelow hf2)
      have BW := hide (BW0.out.trans (BQ.out.mono HQ2.out))
      have B0b := hide (B0.out.trans (BQ.out.mono HQ.out))
      have S2 := hide (HS.out.below B0b.out)
      clear hp2 ht2 hf2 CW
      by_cases hbad : S.st.bad = 0
      · have hv := HT2.out.none hbad
        subst hv
        have CC := hide (jClose P2.out S2.out.here)
        clear HT2
        go_wp2_with fail
        refine CC.out.mono ?_
        rintro e w3 ⟨v3, rfl, ht3, hb3⟩
        have HT2 := hide ht3
        have P3 := hide (P2.out.below hb3)
        have BW3 := hide (BW.out.trans (hb3.mono BW.out.size))
        have B03 := hide (B0b.out.trans (hb3.mono B0b.out.size))
        have CS := hide (jsame HT2.out (T0.out.below BW3.out) (codeC_le HGS.out) (codeC_le HGS.out) (HS.out.below B03.out).here (HH.out.below B03.out))
        have S2 := hide (HS.out.below B03.out)
        clear ht3 hb3 CC
        rw [decide_eq_true (show codeC S = codeC S from rfl), decide_eq_true (show codeC S = 0 ∨ (S.size : Int) = (S.size : Int) from Or.inr rfl)] at CS
        go_wp2_with fail
        refine CS.out.mono ?_
        rintro e w4 ⟨rfl, hb4⟩
        have P4 := hide (P3.out.below hb4)
        have BW4 := hide (BW3.out.trans (hb4.mono BW3.out.size))
        have B04 := hide (B03.out.trans (hb4.mono B03.out.size))
        have CC := hide (jClose P4.out (HS.out.below B04.out).here)
        clear hb4 CS
        go_wp2_with fail
        refine CC.out.mono ?_
        rintro e w5 ⟨v5, rfl, ht5, hb5⟩
        have P5 := hide (P4.out.below hb5)
        have BW5 := hide (BW4.out.trans (hb5.mono BW4.out.size))
        have B05 := hide (B04.out.trans (hb5.mono B04.out.size))
        have CS := hide (jsame ht5 (T0.out.below BW5.out) (codeC_le HGS.out) (codeC_le HGS.out) (HS.out.below B05.out).here (HH.out.below B05.out))
        rw [decide_eq_true (show codeC S = codeC S from rfl), decide_eq_true (show codeC S = 0 ∨ (S.size : Int) = (S.size : Int) from Or.inr rfl)] at CS
        clear ht5 hb5 CC
        go_wp2_with fail
        refine CS.out.mono ?_
        rintro e w6 ⟨rfl, hb6⟩
        have P6 := hide (P5.out.below hb6)
        have B06 := hide (B05.out.trans (hb6.mono B05.out.size))
        have CL := hide (jLen P6.out.sc)
        have CD := hide (jDepth P6.out.sc)
        clear hb6 CS
        go_wp2_with fail
        refine CL.out.mono ?_
        rintro e w7 ⟨rfl, rfl⟩
        go_wp2_with fail
        refine CD.out.mono ?_
        rintro e w7 ⟨rfl, rfl⟩
        go_wp2
        go_ret
        exact ⟨rfl, B06.out⟩
      · obtain ⟨u, x, hv⟩ := HT2.out.some hbad
        subst hv
        have hcc := hide (codeC_bad hbad)
        rw [← hcc.out] at HT2
        have CS := hide (jsame HT2.out (T0.out.below BW.out) (codeC_le HGS.out) (codeC_le HGS.out) (S2.out.here) (HH.out.below B0b.out))
        rw [decide_eq_true (show codeC S = codeC S from rfl), decide_eq_true (show codeC S = 0 ∨ (S.size : Int) = (S.size : Int) from Or.inr rfl)] at CS
        go_wp2_with fail
        refine CS.out.mono ?_
        rintro e w4 ⟨rfl, hb4⟩
        have P4 := hide (P2.out.below hb4)
        have BW4 := hide (BW.out.trans (hb4.mono BW.out.size))
        have B04 := hide (B0b.out.trans (hb4.mono B0b.out.size))
        have CC := hide (jClose P4.out (HS.out.below B04.out).here)
        clear hb4 CS
        go_wp2_with fail
        refine CC.out.mono ?_
        rintro e w5 ⟨v5, rfl, ht5, hb5⟩
        have P5 := hide (P4.out.below hb5)
        have BW5 := hide (BW4.out.trans (hb5.mono BW4.out.size))
        have B05 := hide (B04.out.trans (hb5.mono B04.out.size))
        have CS := hide (jsame ht5 (T0.out.below BW5.out) (codeC_le HGS.out) (codeC_le HGS.out) (HS.out.below B05.out).here (HH.out.below B05.out))
        rw [decide_eq_true (show codeC S = codeC S from rfl), decide_eq_true (show codeC S = 0 ∨ (S.size : Int) = (S.size : Int) from Or.inr rfl)] at CS
        clear ht5 hb5 CC
        go_wp2_with fail
        refine CS.out.mono ?_
        rintro e w6 ⟨rfl, hb6⟩
        have P6 := hide (P5.out.below hb6)
        have B06 := hide (B05.out.trans (hb6.mono B05.out.size))
        have CL := hide (jLen P6.out.sc)
        have CD := hide (jDepth P6.out.sc)
        clear hb6 CS
        go_wp2_with fail
        refine CL.out.mono ?_
        rintro e w7 ⟨rfl, rfl⟩
        go_wp2_with fail
        refine CD.out.mono ?_
        rintro e w7 ⟨rfl, rfl⟩
        go_wp2
        go_ret
        exact ⟨rfl, B06.out⟩

end Go.Proofs.YtefmlajndillbaaDoor
