/- BaseJoins -/
import Derived.Test.YtnblpmjgehknaaaBLives
import Derived.Deep.RegionHeld3
namespace Go.Proofs.Ytnblpmjgehknaaa
open Go.RowKit
set_option linter.unusedVariables false

theorem bbel_trans {B w1 w2 : World} (h : Below B.heap.size B w1) (g : Below w1.heap.size w1 w2) : Below B.heap.size B w2 := h.trans (g.mono h.size)
theorem own_twin {B : Nat} {w : World} {v : Value} {xs : List Int} (h : BTwin B w v xs) : w.ownsRow B 5 1 v xs.length (xs.map (Value.int .u8)) := by
  obtain ⟨g, rfl, h2, h3, h4⟩ := h
  exact ⟨by simp, .inr ⟨g, xs.length + 1, _, rfl, h2, h4, by omega, h3, by simp, by simp⟩⟩
theorem b64_cut (es cs : List Int) : b64 (es ++ cs) = b64 (es.take (es.length / 3 * 3)) ++ b64 ((es ++ cs).drop (es.length / 3 * 3)) := by
  have h : es ++ cs = es.take (es.length / 3 * 3) ++ (es ++ cs).drop (es.length / 3 * 3) := by
    have e := List.take_append_drop (es.length / 3 * 3) (es ++ cs)
    rw [List.take_append_of_le_length (by omega)] at e
    exact e.symm
  rw [h, b64_app _ (by rw [List.length_take]; omega), ← h]
theorem reads_take {k : IntKind} {w : World} {ao : Option Addr} {cap n : Nat} {xs : List Int} (h : Reads k w (.slice ao xs.length cap) xs) (hn : n ≤ xs.length) : Reads k w (.slice ao n cap) (xs.take n) := by
  obtain ⟨ao', cap', e, h1, h2, h3⟩ := h
  cases e
  refine ⟨ao, cap, by rw [List.length_take, Nat.min_eq_left hn], by rw [List.length_take]; omega, h2, h3.take hn⟩
theorem reads_drop {k : IntKind} {w : World} {b off cap n T : Nat} {xs : List Int} (hT : xs.length = T) (h : Reads k w (.slice (some ⟨b, off, none⟩) xs.length cap) xs) (hn : n ≤ xs.length) : Reads k w (.slice (some ⟨b, off + n, none⟩) (T - n) (cap - n)) (xs.drop n) := by
  obtain ⟨ao', cap', e, h1, h2, h3⟩ := h
  cases e
  refine ⟨_, _, by rw [List.length_drop, hT], by rw [List.length_drop]; omega, by omega, cells_drop h3 hn⟩
theorem reads_none {k : IntKind} {w : World} {a : Option Addr} {n c : Nat} {xs : List Int} (h : xs = []) (hn : n = 0) (hc : c ≤ maxLen) : Reads k w (.slice a n c) xs := by
  subst h hn
  exact ⟨a, c, rfl, by simp, hc, fun h => absurd h (by simp)⟩

set_option maxRecDepth 100000 in
set_option maxHeartbeats 8000000 in
theorem bjoins_walk {w : World} {va vc : Value} {es cs : List Int} (ha : Reads .u8 w va es) (hba : uByt es) (la : es.length ≤ 140737488351232) (hc : Reads .u8 w vc cs) (hbc : uByt cs) (lc : cs.length ≤ 140737488351232) :
    Calls Try.prog 6 #[va, vc] w fun e w' => e = .returned (.bool true) ∧ Below w.heap.size w w' := by
  obtain ⟨ao, ca, rfl, hxl, hxm, hxc⟩ := ha
  obtain ⟨co, cc, rfl, hyl, hym, hyc⟩ := hc
  have RA : Hid (Reads .u8 w (.slice ao es.length ca) es) := ⟨ao, ca, rfl, hxl, hxm, hxc⟩
  have RC : Hid (Reads .u8 w (.slice co cs.length cc) cs) := ⟨co, cc, rfl, hyl, hym, hyc⟩
  have HYC := hide hyc
  clear hxc hyc
  unfold maxLen at hxm hym
  by_cases hbig : 16777216 < es.length + cs.length
  · have q1 : (16777216 : Int) < (es.length : Int) + (cs.length : Int) := by omega
    go_enter Try.func6, Try.ntmps6
    go_wp2
    go_ret
    exact ⟨rfl, Below.refl _ _⟩
  · have q1 : ¬ (16777216 : Int) < (es.length : Int) + (cs.length : Int) := by omega
    have X1 := hide (fun W (k : Below w.heap.size w W) => hex_any (RA.out.below k) hba (by omega))
    have X2 := hide (fun W (k : Below w.heap.size w W) => hex_any (RC.out.below k) hbc (by omega))
    have hbb : uByt (es ++ cs) := fun x hx => by
      rcases List.mem_append.1 hx with hx | hx
      · exact hba x hx
      · exact hbc x hx
    have X3 := hide (fun (W : World) (v : Value) (h : Reads .u8 W v (es ++ cs)) => hex_any h hbb (by rw [List.length_append]; omega))
    have X4 := hide (fun (W : World) (v : Value) (h : Reads .u8 W v (es ++ cs)) => base64_any h hbb (by rw [List.length_append]; omega))
    obtain ⟨n, hn⟩ : ∃ n : Nat, n = es.length / 3 * 3 := ⟨_, rfl⟩
    have hn1 : n ≤ es.length := by omega
    have X5 := hide (fun W (k : Below w.heap.size w W) => base64_any (reads_take (RA.out.below k) hn1) (fun x hx => hba x (List.mem_of_mem_take hx)) (by rw [List.length_take]; omega))
    have X6 := hide (fun (W : World) (v : Value) (h : Reads .u8 W v ((es ++ cs).drop n)) => base64_any h (fun x hx => hbb x (List.mem_of_mem_drop hx)) (by rw [List.length_drop, List.length_append]; omega))
    have j1 : strOfNums (bHex es) ++ strOfNums (bHex cs) = strOfNums (bHex (es ++ cs)) := by rw [utxt_join, bHex_app]
    have j2 : strOfNums (b64 (es.take n)) ++ strOfNums (b64 ((es ++ cs).drop n)) = strOfNums (b64 (es ++ cs)) := by rw [utxt_join, hn, ← b64_cut]
    have z1 : ¬ 9223372036854775807 < (strOfNums (bHex es)).size + (strOfNums (bHex cs)).size := by rw [strOfNums_size, strOfNums_size, bHex_len, bHex_len]; omega
    have z2 : ¬ 9223372036854775807 < (strOfNums (b64 (es.take n))).size + (strOfNums (b64 ((es ++ cs).drop n))).size := by rw [strOfNums_size, strOfNums_size, b64_len, b64_len, List.length_take, List.length_drop, List.length_append]; omega
    obtain ⟨s1, e1⟩ : ∃ s, strOfNums (bHex es) = s := ⟨_, rfl⟩
    obtain ⟨s2, e2⟩ : ∃ s, strOfNums (bHex cs) = s := ⟨_, rfl⟩
    obtain ⟨s3, e3⟩ : ∃ s, strOfNums (bHex (es ++ cs)) = s := ⟨_, rfl⟩
    obtain ⟨s4, e4⟩ : ∃ s, strOfNums (b64 (es.take n)) = s := ⟨_, rfl⟩
    obtain ⟨s5, e5⟩ : ∃ s, strOfNums (b64 ((es ++ cs).drop n)) = s := ⟨_, rfl⟩
    obtain ⟨s6, e6⟩ : ∃ s, strOfNums (b64 (es ++ cs)) = s := ⟨_, rfl⟩
    rw [e1] at X1 j1 z1
    rw [e2] at X2 j1 z1
    rw [e3] at X3 j1
    rw [e4] at X5 j2 z2
    rw [e5] at X6 j2 z2
    rw [e6] at X4 j2
    have E56 := hide (And.intro e5 e6)
    clear e1 e2 e3 e4 e5 e6
    have n1 : (s3.toList != s3.toList) = false := by simp
    have n2 : (s6.toList == s6.toList) = true := by simp
    have q3 : (es.length : Int) / 3 * 3 = (n : Int) := by omega
    have q4 : (n : Int) ≤ (es.length : Int) := by omega
    have tw := hide (btwin_any RA.out (by omega))
    have HM := hide (show es.length + cs.length ≤ maxLen ∧ (es.length + cs.length) * 1 ≤ 140737488355328 from ⟨by unfold maxLen; omega, by omega⟩)
    have Hn := hide hn
    clear hn hba hbc hbb
    go_enter Try.func6, Try.ntmps6
    go_wp2_with fail
    refine tw.out.mono ?_
    rintro e w1 ⟨v1, rfl, ht1, hb1⟩
    have O1 := hide (own_twin ht1)
    have B1 := hide hb1
    have C1 := hide (HYC.out.below hb1)
    clear ht1 hb1 tw
    go_wp2_with (at_builtin; refine uwpList_append_ints _ rfl _ _ 22 rfl w.heap.size 5 .u8 1 Try.underlying22 Try.infoY8 _ _ _ rfl O1.out _ _ cs rfl C1.out HM.out.1 HM.out.2 B1.out.size ?_)
    intro v2 w2 hown2 hgrow2
    have O2 := hide (show Reads .u8 w2 v2 (es ++ cs) from breads_of_own (zs := es ++ cs) (by rw [List.length_append]) (by rw [List.map_append]; exact hown2))
    have O3 := hide hown2
    have B2 := hide (bown_below B1.out B1.out.size O1.out hgrow2)
    clear hown2 hgrow2 O1 B1 C1 HM
    go_wp2_with fail
    refine (X3.out _ _ O2.out).mono ?_
    rintro e w3 ⟨rfl, k3⟩
    have B3 := hide (bbel_trans B2.out k3)
    go_wp2_with fail
    refine (X1.out _ B3.out).mono ?_
    rintro e w4 ⟨rfl, k4⟩
    have B4 := hide (bbel_trans B3.out k4)
    go_wp2_with fail
    refine (X2.out _ B4.out).mono ?_
    rintro e w5 ⟨rfl, k5⟩
    have B5 := hide (bbel_trans B4.out k5)
    have R5 := hide (((O2.out.below k3).below k4).below k5)
    have O5 := hide (own_keep (own_keep (own_keep O3.out k3) k4) k5)
    clear X1 X2 X3 O2 O3 B2 B3 B4 k3 k4 k5
    have hnT : n ≤ es.length + cs.length := by omega
    have hnT1 : (n : Int) ≤ (es.length : Int) + (cs.length : Int) := by omega
    have hnc : n ≤ ca := by omega
    have hnc1 : (n : Int) ≤ (ca : Int) := by omega
    have Y2 := hide (fun (W : World) (k : Below w5.heap.size w5 W) => X5.out W (bbel_trans B5.out k))
    obtain ⟨_, ⟨hv, hz⟩ | ⟨g, cap, cur, hv, _, _, hcap, hcm, _⟩⟩ := O5.out
    · subst hv
      have hc0 : cs = [] := List.eq_nil_of_length_eq_zero (by omega)
      have he0 : es = [] := List.eq_nil_of_length_eq_zero (by omega)
      obtain rfl : n = 0 := by omega
      obtain rfl : s5 = s6 := by rw [← E56.out.1, ← E56.out.2]; rfl
      have Y1 := hide (fun (W : World) => X4.out W (.slice none 0 0) (reads_none (by rw [hc0, he0]; rfl) rfl (by unfold maxLen; omega)))
      have Y3 := hide (fun (W : World) => X6.out W (.slice none 0 0) (reads_none (by rw [hc0, he0]; rfl) rfl (by unfold maxLen; omega)))
      have hl0 : cs.length = 0 := by rw [hc0]; rfl
      have hl1 : es.length = 0 := by rw [he0]; rfl
      clear X4 X5 X6 R5 O5
      go_wp2
      have K : Below w5.heap.size w5 w5.drew := (Below.refl _ _).drew
      go_region_held3 (fun _ => True) (first | with_reducible trivial | go_keep)
        (first
          | (go_at_call 14; (first | (with_reducible refine (Y1.out _).mono ?_) | (with_reducible refine (Y2.out _ K).mono ?_) | (with_reducible refine (Y3.out _).mono ?_)); rintro e w8 ⟨rfl, hb⟩; replace K := bbel_trans K hb; clear hb)
          | (go_at_call 14; trace_state; fail)
          | (go_at_call 11; (with_reducible refine blives.mono ?_); rintro e w9 ⟨rfl, hb⟩; replace K := bbel_trans K hb; clear hb))
      all_goals go_wp2
      all_goals go_ret
      all_goals exact ⟨rfl, bbel_trans B5.out K⟩
    · subst hv
      unfold maxLen at hcm
      clear O5
      have hlT : (es ++ cs).length = es.length + cs.length := List.length_append
      have R5' : Reads .u8 w5 (.slice (some ⟨g, 0, none⟩) (es ++ cs).length cap) (es ++ cs) := by rw [hlT]; exact R5.out
      have Y1 := hide (fun (W : World) (k : Below w5.heap.size w5 W) => X4.out W _ (R5.out.below k))
      have hcap1 : (es.length : Int) + (cs.length : Int) ≤ (cap : Int) := by omega
      have hncp : n ≤ cap := by omega
      have hncp1 : (n : Int) ≤ (cap : Int) := by omega
      by_cases hcn : cap = n
      · have hc0 : cs = [] := List.eq_nil_of_length_eq_zero (by omega)
        obtain rfl : n = es.length := by omega
        obtain rfl : cap = es.length := by omega
        have Y1 := hide (fun (W : World) (k : Below w5.heap.size w5 W) => X4.out W (.slice (some ⟨g, 0, none⟩) es.length es.length) ((show Reads .u8 w5 (.slice (some ⟨g, 0, none⟩) es.length es.length) (es ++ cs) by have h := R5.out; rw [show es.length + cs.length = es.length by rw [hc0]; rfl] at h; exact h).below k))
        have Y3 := hide (fun (W : World) => X6.out W (.slice (some ⟨g, 0, none⟩) 0 0) (reads_none (List.drop_eq_nil_of_le (by rw [List.length_append, hc0]; simp)) rfl (by unfold maxLen; omega)))
        have hl0 : cs.length = 0 := by rw [hc0]; rfl
        clear X4 X5 X6 hlT R5' R5
        go_wp2
        have K : Below w5.heap.size w5 w5.drew := (Below.refl _ _).drew
        go_region_held3 (fun _ => True) (first | with_reducible trivial | go_keep)
          (first
            | (go_at_call 14; (first | (with_reducible refine (Y1.out _ K).mono ?_) | (with_reducible refine (Y2.out _ K).mono ?_) | (with_reducible refine (Y3.out _).mono ?_)); rintro e w8 ⟨rfl, hb⟩; replace K := bbel_trans K hb; clear hb)
            | (go_at_call 14; trace_state; fail)
            | (go_at_call 11; (with_reducible refine blives.mono ?_); rintro e w9 ⟨rfl, hb⟩; replace K := bbel_trans K hb; clear hb))
        all_goals go_wp2
        all_goals go_ret
        all_goals exact ⟨rfl, bbel_trans B5.out K⟩
      · have hcn1 : ¬ (cap : Int) = (n : Int) := by omega
        have Y3 := hide (fun (W : World) (k : Below w5.heap.size w5 W) => X6.out W _ ((reads_drop (n := n) hlT R5' (by rw [hlT]; omega)).below k))
        rw [Nat.zero_add] at Y3
        clear X4 X5 X6 hlT R5' R5
        go_wp2
        have K : Below w5.heap.size w5 w5.drew := (Below.refl _ _).drew
        go_region_held3 (fun _ => True) (first | with_reducible trivial | go_keep)
          (first
            | (go_at_call 14; (first | (with_reducible refine (Y1.out _ K).mono ?_) | (with_reducible refine (Y2.out _ K).mono ?_) | (with_reducible refine (Y3.out _ K).mono ?_)); rintro e w8 ⟨rfl, hb⟩; replace K := bbel_trans K hb; clear hb)
            | (go_at_call 11; (with_reducible refine blives.mono ?_); rintro e w9 ⟨rfl, hb⟩; replace K := bbel_trans K hb; clear hb))
        all_goals go_wp2
        all_goals go_ret
        all_goals exact ⟨rfl, bbel_trans B5.out K⟩

end Go.Proofs.Ytnblpmjgehknaaa
