/- BaseBack -/
import Derived.Test.YtnblpmjgehknaaaBLess
namespace Go.Proofs.Ytnblpmjgehknaaa
open Go.RowKit
set_option linter.unusedVariables false

theorem nine_max {n : Nat} (h : n ≤ 100000000) (m : Nat) (hm : m ≤ 10) : ¬ 9223372036854775807 < n + m := by omega
theorem txt_more {xs ys : List Int} {s : ByteArray} (hs : s = strOfNums ys) : strOfNums xs ++ s = strOfNums (xs ++ ys) := by rw [hs, utxt_join]
theorem byt_app {xs ys : List Int} (hx : ∀ x ∈ xs, 0 ≤ x ∧ x < 128) (hy : ∀ x ∈ ys, 0 ≤ x ∧ x < 128) : uByt (xs ++ ys) := fun x h => by
  rcases List.mem_append.1 h with h | h
  · have := hx x h; omega
  · have := hy x h; omega

set_option maxRecDepth 100000 in
set_option maxHeartbeats 16000000 in
theorem bback_walk {w : World} {va vc : Value} {es cs : List Int} (ha : Reads .u8 w va es) (hba : uByt es) (la : es.length ≤ 140737488351232) (hc : Reads .u8 w vc cs) (hbc : uByt cs) (lc : cs.length ≤ 140737488351232) :
    Calls Try.prog 5 #[va, vc] w fun e w' => e = .returned (.bool true) ∧ Below w.heap.size w w' := by
  obtain ⟨ao, ca, rfl, hxl, hxm, hxc⟩ := ha
  obtain ⟨co, cc, rfl, hyl, hym, hyc⟩ := hc
  have RA : Hid (Reads .u8 w (.slice ao es.length ca) es) := ⟨ao, ca, rfl, hxl, hxm, hxc⟩
  have RC : Hid (Reads .u8 w (.slice co cs.length cc) cs) := ⟨co, cc, rfl, hyl, hym, hyc⟩
  clear hxc hyc
  unfold maxLen at hxm hym
  by_cases hbig : 16777216 < es.length + cs.length
  · have q1 : (16777216 : Int) < (es.length : Int) + (cs.length : Int) := by omega
    go_enter Try.func5, Try.ntmps5
    go_wp2
    go_ret
    exact ⟨rfl, Below.refl _ _⟩
  · have q1 : ¬ (16777216 : Int) < (es.length : Int) + (cs.length : Int) := by omega
    have l5 := bHex_len es
    have l6 := b64_len es
    have b5 := bHex_byt es
    have b6 := b64_byt es
    have TW := hide (fun (W : World) (k : Below w.heap.size w W) => btwin_any (RA.out.below k) (by omega))
    have HX := hide (fun (W : World) (v : Value) (h : Reads .u8 W v es) => hex_any h hba (by omega))
    have HS := hide (fun (W : World) (v : Value) (h : Reads .u8 W v es) => base64_any h hba (by omega))
    have FH := hide (fun (W : World) => hex_yes (w := W) rfl (uByt_lt b5) (by omega) ⟨hba, rfl⟩)
    have FS := hide (fun (W : World) => six_yes (w := W) rfl (uByt_lt b6) (by omega) ⟨hba, rfl⟩)
    have HXC := hide (fun (W : World) (k : Below w.heap.size w W) => hex_any (RC.out.below k) hbc (by omega))
    have HSC := hide (fun (W : World) (k : Below w.heap.size w W) => base64_any (RC.out.below k) hbc (by omega))
    have CVA := hide (fun (W : World) (k : Below w.heap.size w W) => reads_conv (RA.out.below k))
    have CVC := hide (fun (W : World) (k : Below w.heap.size w W) => reads_conv (RC.out.below k))
    have CV := hide (fun (W : World) (v : Value) (h : Reads .u8 W v es) => reads_conv h)
    have LS1 := hide (fun (W : World) => less_any (w := W) (uByt_lt b5) (uByt_lt (bHex_byt cs)))
    have LS2 := hide (fun (W : World) => less_any (w := W) hba hbc)
    rw [bLs_hex hba hbc] at LS1
    have e91 := eq_dec (uByt_lt b6) (uByt_lt (b64_byt cs))
    have e96 := eq_dec hba hbc
    rw [show decide (b64 es = b64 cs) = decide (es = cs) from decide_eq_decide.2 ⟨b64_inj hba hbc, fun h => by rw [h]⟩] at e91
    have NO1 := hide (fun (W : World) => hex_no (w := W) (es := bHex es ++ [48]) rfl (byt_app b5 (by decide)) (by rw [List.length_append, List.length_singleton]; omega) (fun xs => hex_odd (by rw [List.length_append, List.length_singleton]; omega)))
    have NO2 := hide (fun (W : World) => six_no (w := W) (es := b64 es ++ [61]) rfl (byt_app b6 (by decide)) (by rw [List.length_append, List.length_singleton]; omega) (fun xs => six_bad (c := 61) (by simp) (by decide)))
    have N5 := hide (fun (W : World) (h : (b64 es).length % 4 = 0) => six_no (w := W) (es := b64 es ++ [65, 65, 65, 65, 65]) rfl (byt_app b6 (by decide)) (by rw [List.length_append]; simp only [List.length_cons, List.length_nil]; omega) (fun xs => six_lone (by rw [List.length_append]; simp only [List.length_cons, List.length_nil]; omega)))
    have N3 := hide (fun (W : World) (h : (b64 es).length % 4 = 2) => six_no (w := W) (es := b64 es ++ [65, 65, 65]) rfl (byt_app b6 (by decide)) (by rw [List.length_append]; simp only [List.length_cons, List.length_nil]; omega) (fun xs => six_lone (by rw [List.length_append]; simp only [List.length_cons, List.length_nil]; omega)))
    have N2 := hide (fun (W : World) (h : (b64 es).length % 4 = 3) => six_no (w := W) (es := b64 es ++ [65, 65]) rfl (byt_app b6 (by decide)) (by rw [List.length_append]; simp only [List.length_cons, List.length_nil]; omega) (fun xs => six_lone (by rw [List.length_append]; simp only [List.length_cons, List.length_nil]; omega)))
    have j1 : strOfNums (bHex es) ++ ⟨#[48]⟩ = strOfNums (bHex es ++ [48]) := txt_more rfl
    have j2 : strOfNums (b64 es) ++ ⟨#[61]⟩ = strOfNums (b64 es ++ [61]) := txt_more rfl
    have i5 : strOfNums (b64 es) ++ ⟨#[65, 65, 65, 65, 65]⟩ = strOfNums (b64 es ++ [65, 65, 65, 65, 65]) := txt_more rfl
    have i3 : strOfNums (b64 es) ++ ⟨#[65, 65, 65]⟩ = strOfNums (b64 es ++ [65, 65, 65]) := txt_more rfl
    have i2 : strOfNums (b64 es) ++ ⟨#[65, 65]⟩ = strOfNums (b64 es ++ [65, 65]) := txt_more rfl
    have z5 : (strOfNums (bHex es)).size = 2 * es.length := by rw [strOfNums_size, l5]
    have z7 : (strOfNums (b64 es)).size = (b64 es).length := strOfNums_size _
    have z6 : (strOfNums (b64 es)).size = (8 * es.length + 5) / 6 := by rw [strOfNums_size, l6]
    obtain ⟨sb, f1⟩ : ∃ s, strOfNums es = s := ⟨_, rfl⟩
    obtain ⟨sc, f2⟩ : ∃ s, strOfNums cs = s := ⟨_, rfl⟩
    obtain ⟨s5, f3⟩ : ∃ s, strOfNums (bHex es) = s := ⟨_, rfl⟩
    obtain ⟨s6, f4⟩ : ∃ s, strOfNums (b64 es) = s := ⟨_, rfl⟩
    obtain ⟨s7, f5⟩ : ∃ s, strOfNums (bHex cs) = s := ⟨_, rfl⟩
    obtain ⟨s8, f6⟩ : ∃ s, strOfNums (b64 cs) = s := ⟨_, rfl⟩
    obtain ⟨t1, f7⟩ : ∃ s, strOfNums (bHex es ++ [48]) = s := ⟨_, rfl⟩
    obtain ⟨t2, f8⟩ : ∃ s, strOfNums (b64 es ++ [61]) = s := ⟨_, rfl⟩
    obtain ⟨u5, g5⟩ : ∃ s, strOfNums (b64 es ++ [65, 65, 65, 65, 65]) = s := ⟨_, rfl⟩
    rw [g5] at N5 i5
    clear g5
    obtain ⟨u3, g3⟩ : ∃ s, strOfNums (b64 es ++ [65, 65, 65]) = s := ⟨_, rfl⟩
    rw [g3] at N3 i3
    clear g3
    obtain ⟨u2, g2⟩ : ∃ s, strOfNums (b64 es ++ [65, 65]) = s := ⟨_, rfl⟩
    rw [g2] at N2 i2
    clear g2
    obtain ⟨D, f9⟩ : ∃ D, decide (es = cs) = D := ⟨_, rfl⟩
    obtain ⟨l, f10⟩ : ∃ l, bLs es cs = l := ⟨_, rfl⟩
    rw [f1] at CVA CV e96 LS2
    rw [f2] at CVC e96 LS2
    rw [f3] at HX FH LS1 z5 j1
    rw [f4] at HS FS e91 z6 z7 j2 i5 i3 i2
    rw [f5] at HXC LS1
    rw [f6] at HSC e91
    rw [f7] at NO1 j1
    rw [f8] at NO2 j2
    rw [f9] at e91 e96
    rw [f10] at LS1 LS2
    clear f1 f2 f3 f4 f5 f6 f7 f8 f9 f10 b5 b6 l5 l6 hba hbc
    have y5 : ((s5.size : Int) != 2 * (es.length : Int)) = false := by simp; omega
    have y6 : ((s6.size : Int) != (8 * (es.length : Int) + 5) / 6) = false := by simp; omega
    have yl : (l != l) = false := by simp
    have yD : (D != D) = false := by simp
    have yb : (sb.toList != sb.toList) = false := by simp
    have zz1 : ¬ 9223372036854775807 < s5.size + (⟨#[48]⟩ : ByteArray).size := by show ¬ _ < _ + 1; omega
    have zz2 : ¬ 9223372036854775807 < s6.size + (⟨#[61]⟩ : ByteArray).size := by show ¬ _ < _ + 1; omega
    have Hz := hide z7
    clear z7
    have hr : s6.size % 4 = 0 ∨ s6.size % 4 = 2 ∨ s6.size % 4 = 3 := by omega
    have h64 : s6.size ≤ 23000000 := by omega
    have h65 : s5.size ≤ 34000000 := by omega
    have Hr := hide hr
    clear z5 z6 hr hbig
    go_enter Try.func5, Try.ntmps5
    go_wp2_with fail
    refine (TW.out _ (Below.refl _ _)).mono ?_
    rintro e w1 ⟨v1, rfl, ht, k1⟩
    have R1 := hide ht.reads
    have B1 := hide k1
    clear ht k1
    go_wp2_with fail
    refine (HX.out _ _ R1.out).mono ?_
    rintro e w2 ⟨rfl, k2⟩
    have B2 := hide (bbel_trans B1.out k2)
    clear B1 R1 k2 HX
    go_wp2_with fail
    refine (TW.out _ B2.out).mono ?_
    rintro e w3 ⟨v3, rfl, ht, k3⟩
    have R3 := hide ht.reads
    have B3 := hide (bbel_trans B2.out k3)
    clear ht k3 B2 TW
    go_wp2_with fail
    refine (HS.out _ _ R3.out).mono ?_
    rintro e w4 ⟨rfl, k4⟩
    have B4 := hide (bbel_trans B3.out k4)
    clear B3 R3 k4 HS
    go_wp2_with fail
    refine (FH.out _).mono ?_
    rintro e w5 ⟨v5, rfl, ho5, k5⟩
    have R5 := hide (breads_of_own rfl ho5)
    have B5 := hide (bbel_trans B4.out k5)
    clear B4 k5 ho5 FH
    go_wp2_with fail
    refine (FS.out _).mono ?_
    rintro e w6 ⟨v6, rfl, ho6, k6⟩
    have R6 := hide (breads_of_own rfl ho6)
    have S6 := hide (R5.out.below k6)
    have B6 := hide (bbel_trans B5.out k6)
    clear B5 k6 ho6 FS R5
    have x1 := CV.out _ _ S6.out
    have x2 := CV.out _ _ R6.out
    have x3 := CVA.out _ B6.out
    clear CV
    go_wp2_with fail
    clear x1 x2 x3
    have K : Below w6.heap.size w6 w6.drew := (Below.refl _ _).drew
    have CA := hide (fun (W : World) (k : Below w6.heap.size w6 W) => CVA.out W (bbel_trans B6.out k))
    have CC := hide (fun (W : World) (k : Below w6.heap.size w6 W) => CVC.out W (bbel_trans B6.out k))
    have HXD := hide (fun (W : World) (k : Below w6.heap.size w6 W) => HXC.out W (bbel_trans B6.out k))
    have HSD := hide (fun (W : World) (k : Below w6.heap.size w6 W) => HSC.out W (bbel_trans B6.out k))
    clear CVA CVC HXC HSC
    go_region_held3 (fun u => (convert 22 9 (.slice ao es.length ca)).run Try.prog u = .ok (.string sb) u ∧ (convert 22 9 (.slice co cs.length cc)).run Try.prog u = .ok (.string sc) u)
      (first | with_reducible exact ⟨CA.out _ K, CC.out _ K⟩ | go_keep)
      (first
        | (go_at_call 13; (with_reducible refine (HXD.out _ K).mono ?_); rintro e w8 ⟨rfl, hb⟩; replace K := bbel_trans K hb; clear hb)
        | (go_at_call 14; (with_reducible refine (HSD.out _ K).mono ?_); rintro e w8 ⟨rfl, hb⟩; replace K := bbel_trans K hb; clear hb)
        | (go_at_call 17; (first | (with_reducible refine (LS1.out _).mono ?_) | (with_reducible refine (LS2.out _).mono ?_)); rintro e w8 ⟨rfl, rfl⟩))
    have B7 := hide (bbel_trans B6.out K)
    clear K B6 CA CC HXD HSD LS1 LS2 e91 e96 R6 S6
    go_wp2_with fail
    refine (NO1.out _).mono ?_
    rintro e w9 ⟨rfl, k9⟩
    have B9 := hide (bbel_trans B7.out k9)
    clear B7 k9 NO1
    go_wp2_with fail
    refine (NO2.out _).mono ?_
    rintro e w10 ⟨rfl, k10⟩
    have B10 := hide (bbel_trans B9.out k10)
    clear B9 k10 NO2 j1 j2 zz1 zz2
    rcases Hr.out with hr | hr | hr
    · have q5 : (s6.size : Int) % 4 = 0 := by omega
      have N := N5.out w10 (by rw [← Hz.out]; exact hr)
      have HN := hide N
      have ex : (⟨#[65, 65, 65, 65, 65]⟩ : ByteArray).extract 0 5 = ⟨#[65, 65, 65, 65, 65]⟩ := by kernel_rfl
      have zz : ¬ 9223372036854775807 < s6.size + (⟨#[65, 65, 65, 65, 65]⟩ : ByteArray).size := by show ¬ _ < _ + 5; omega
      clear N hr N5 N3 N2 Hr
      go_wp2_with fail
      refine HN.out.mono ?_
      rintro e w11 ⟨rfl, k11⟩
      have B11 := hide (bbel_trans B10.out k11)
      clear k11 B10 HN
      go_wp2_with (go_at_call 11; refine blives.mono ?_; rintro e w12 ⟨rfl, hb12⟩)
      go_ret
      exact ⟨rfl, bbel_trans B11.out hb12⟩
    · have q5 : (s6.size : Int) % 4 = 2 := by omega
      have N := N3.out w10 (by rw [← Hz.out]; exact hr)
      have HN := hide N
      have ex : (⟨#[65, 65, 65, 65, 65]⟩ : ByteArray).extract 0 3 = ⟨#[65, 65, 65]⟩ := by kernel_rfl
      have zz : ¬ 9223372036854775807 < s6.size + (⟨#[65, 65, 65]⟩ : ByteArray).size := by show ¬ _ < _ + 3; omega
      clear N hr N5 N3 N2 Hr
      go_wp2_with fail
      refine HN.out.mono ?_
      rintro e w11 ⟨rfl, k11⟩
      have B11 := hide (bbel_trans B10.out k11)
      clear k11 B10 HN
      go_wp2_with (go_at_call 11; refine blives.mono ?_; rintro e w12 ⟨rfl, hb12⟩)
      go_ret
      exact ⟨rfl, bbel_trans B11.out hb12⟩
    · have q5 : (s6.size : Int) % 4 = 3 := by omega
      have N := N2.out w10 (by rw [← Hz.out]; exact hr)
      have HN := hide N
      have ex : (⟨#[65, 65, 65, 65, 65]⟩ : ByteArray).extract 0 2 = ⟨#[65, 65]⟩ := by kernel_rfl
      have zz : ¬ 9223372036854775807 < s6.size + (⟨#[65, 65]⟩ : ByteArray).size := by show ¬ _ < _ + 2; omega
      clear N hr N5 N3 N2 Hr
      go_wp2_with fail
      refine HN.out.mono ?_
      rintro e w11 ⟨rfl, k11⟩
      have B11 := hide (bbel_trans B10.out k11)
      clear k11 B10 HN
      go_wp2_with (go_at_call 11; refine blives.mono ?_; rintro e w12 ⟨rfl, hb12⟩)
      go_ret
      exact ⟨rfl, bbel_trans B11.out hb12⟩

end Go.Proofs.Ytnblpmjgehknaaa
