/- crucibleref11: FromHex, FromBase64 -/
import Derived.Test.YtlpddfocihlbcaaGreatDoorYRefA
namespace Go.Proofs.YtlpddfocihlbcaaGreatDoor
open Go.RowKit
set_option linter.unusedVariables false

set_option maxRecDepth 100000 in
set_option maxHeartbeats 1000000 in
theorem rfromhex_any {w : World} {s : ByteArray} {es : List Int} (hs : s = strOfNums es) (hb : uByt es) (hl : es.length ≤ 16777216) :
    Calls Tryz.prog 4 #[.string s] w fun e w' => BAns (HexOf es) w w' e := by
  have c1 := hide (rread_any (w := w) (n := 4) (al := bDigs) hs hb (by omega) (by omega) (by omega) bDigs_s (uByt_lt bDigs_lt) (by decide))
  have hbr := rRead_byt 4 bDigs es
  have hlr : (rRead 4 bDigs es).length ≤ 67108864 := by unfold rRead; rw [rdB_len, rBits_len]; omega
  have c2 := hide (fun (W : World) (u : Value) (h : Reads .u8 W u (rRead 4 bDigs es)) => rhex_any h hbr hlr)
  have hq := eq_decY (uByt_lt (bHex_byt (rRead 4 bDigs es))) hb
  rw [← hs] at hq
  obtain ⟨b, hbb⟩ : ∃ b, rRead 4 bDigs es = b := ⟨_, rfl⟩
  have HB := hide hbb
  rw [hbb] at c1 c2 hq hbr
  by_cases he : bHex b = es
  · rw [decide_eq_true he] at hq
    have HT := hide (show HexOf es b from ⟨hbr, he⟩)
    have n1 : ((strOfNums (bHex b)).toList == s.toList) = true := hq
    obtain ⟨t, ht⟩ : ∃ t, strOfNums (bHex b) = t := ⟨_, rfl⟩
    rw [ht] at c2 n1
    clear hq he hbr hbb ht hs hb
    go_enter Tryz.func4, Tryz.ntmps4
    go_wp2_with fail
    refine c1.out.mono ?_
    rintro e w1 ⟨u, rfl, ho, k1⟩
    have O1 := hide ho
    have R1 := hide (breads_of_own rfl ho)
    have B1 := hide k1
    clear ho k1
    go_wp2_with fail
    refine (c2.out _ _ R1.out).mono ?_
    rintro e w2 ⟨rfl, k2⟩
    have O2 := hide (own_keep O1.out k2)
    have B2 := hide (bbel_t B1.out k2)
    clear k2
    go_wp2
    go_ret2
    exact ⟨.inl ⟨_, b, HT.out, rfl, O2.out⟩, B2.out⟩
  · rw [decide_eq_false he] at hq
    have HT := hide (show ∀ xs, ¬ HexOf es xs from fun xs h => he (by
      have e1 := rRead_hex h.1
      rw [h.2, HB.out] at e1
      rw [e1]; exact h.2))
    have n1 : ((strOfNums (bHex b)).toList == s.toList) = false := hq
    obtain ⟨t, ht⟩ : ∃ t, strOfNums (bHex b) = t := ⟨_, rfl⟩
    rw [ht] at c2 n1
    clear hq he hbr hbb ht hs hb
    go_enter Tryz.func4, Tryz.ntmps4
    go_wp2_with fail
    refine c1.out.mono ?_
    rintro e w1 ⟨u, rfl, ho, k1⟩
    have R1 := hide (breads_of_own rfl ho)
    have B1 := hide k1
    clear ho k1
    go_wp2_with fail
    refine (c2.out _ _ R1.out).mono ?_
    rintro e w2 ⟨rfl, k2⟩
    have B2 := hide (bbel_t B1.out k2)
    clear k2
    go_wp2
    go_ret2
    exact ⟨.inr ⟨HT.out, rfl⟩, B2.out⟩

set_option maxRecDepth 100000 in
set_option maxHeartbeats 1000000 in
theorem rfrom64_any {w : World} {s : ByteArray} {es : List Int} (hs : s = strOfNums es) (hb : uByt es) (hl : es.length ≤ 16777216) :
    Calls Tryz.prog 8 #[.string s] w fun e w' => BAns (SixOf es) w w' e := by
  have c1 := hide (rread_any (w := w) (n := 6) (al := bLets) hs hb (by omega) (by omega) (by omega) bLets_s (uByt_lt bLets_lt) (by decide))
  have hbr := rRead_byt 6 bLets es
  have hlr : (rRead 6 bLets es).length ≤ 67108864 := by unfold rRead; rw [rdB_len, rBits_len]; omega
  have c2 := hide (fun (W : World) (u : Value) (h : Reads .u8 W u (rRead 6 bLets es)) => r64_any h hbr hlr)
  have hq := eq_decY (uByt_lt (b64_byt (rRead 6 bLets es))) hb
  rw [← hs] at hq
  obtain ⟨b, hbb⟩ : ∃ b, rRead 6 bLets es = b := ⟨_, rfl⟩
  have HB := hide hbb
  rw [hbb] at c1 c2 hq hbr
  by_cases he : b64 b = es
  · rw [decide_eq_true he] at hq
    have HT := hide (show SixOf es b from ⟨hbr, he⟩)
    have n1 : ((strOfNums (b64 b)).toList == s.toList) = true := hq
    obtain ⟨t, ht⟩ : ∃ t, strOfNums (b64 b) = t := ⟨_, rfl⟩
    rw [ht] at c2 n1
    clear hq he hbr hbb ht hs hb
    go_enter Tryz.func8, Tryz.ntmps8
    go_wp2_with fail
    refine c1.out.mono ?_
    rintro e w1 ⟨u, rfl, ho, k1⟩
    have O1 := hide ho
    have R1 := hide (breads_of_own rfl ho)
    have B1 := hide k1
    clear ho k1
    go_wp2_with fail
    refine (c2.out _ _ R1.out).mono ?_
    rintro e w2 ⟨rfl, k2⟩
    have O2 := hide (own_keep O1.out k2)
    have B2 := hide (bbel_t B1.out k2)
    clear k2
    go_wp2
    go_ret2
    exact ⟨.inl ⟨_, b, HT.out, rfl, O2.out⟩, B2.out⟩
  · rw [decide_eq_false he] at hq
    have HT := hide (show ∀ xs, ¬ SixOf es xs from fun xs h => he (by
      have e1 := rRead_six h.1
      rw [h.2, HB.out] at e1
      rw [e1]; exact h.2))
    have n1 : ((strOfNums (b64 b)).toList == s.toList) = false := hq
    obtain ⟨t, ht⟩ : ∃ t, strOfNums (b64 b) = t := ⟨_, rfl⟩
    rw [ht] at c2 n1
    clear hq he hbr hbb ht hs hb
    go_enter Tryz.func8, Tryz.ntmps8
    go_wp2_with fail
    refine c1.out.mono ?_
    rintro e w1 ⟨u, rfl, ho, k1⟩
    have R1 := hide (breads_of_own rfl ho)
    have B1 := hide k1
    clear ho k1
    go_wp2_with fail
    refine (c2.out _ _ R1.out).mono ?_
    rintro e w2 ⟨rfl, k2⟩
    have B2 := hide (bbel_t B1.out k2)
    clear k2
    go_wp2
    go_ret2
    exact ⟨.inr ⟨HT.out, rfl⟩, B2.out⟩

end Go.Proofs.YtlpddfocihlbcaaGreatDoor
