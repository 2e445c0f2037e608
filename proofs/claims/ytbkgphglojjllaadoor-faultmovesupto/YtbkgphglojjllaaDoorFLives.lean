/- lives; FaultMakes' walk -/
import Derived.Test.YtbkgphglojjllaaDoorFLaw
namespace Go.Proofs.YtbkgphglojjllaaDoor
open Go.RowKit
set_option linter.unusedVariables false

theorem bareN_dec {m : Nat} (hm : m < 12) : bareN (fun i => decide (i = m)) = m := by
  unfold bareN
  by_cases h : m < 11
  · rw [leastB_dec h, if_neg (by omega)]; omega
  · rw [leastB_none (by omega), if_pos rfl]; omega
set_option maxHeartbeats 4000000 in
set_option maxRecDepth 100000 in
theorem lives13 {w : World} {a : Nat → Addr} (hS : Snt w a) (hH : Hnd w) :
    Calls Tryd.prog 14 #[] w fun e w' => e = .returned (.bool true) ∧ Below w.heap.size w w' := by
  have c2 := hS.cell 2 (by omega)
  simp only [sG, List.getD_cons_zero, List.getD_cons_succ] at c2
  have K0 := hide ((Below.refl w.heap.size w).alloc (Nat.le_refl _) (.cells #[.iface 95 (.pointer (some (a 2))), .int .i64 7, .string ⟨#[47, 97]⟩] 45))
  have E0 := hide (er_flt (hS.below K0.out) (hH.below K0.out) (g := w.heap.size) (m := 2) (k := 7) (s := ⟨#[47, 97]⟩) (by omega) (heap_alloc_new w _))
  have HS := hide hS
  have HH := hide hH
  clear hS hH
  go_enter Tryd.func14, Tryd.ntmps14
  go_wp2_with fail
  refine (fshift_some (HS.out.below K0.out) E0.out).mono ?_
  rintro e w1 ⟨g1, hg1, rfl, F1, hb1⟩
  rw [bareN_dec (by omega), show IntKind.i64.wrap (7 + 5) = 12 from by decide] at F1
  have K1 := hide (K0.out.trans (hb1.mono K0.out.size))
  have E1 := hide (er_flt (HS.out.below K1.out) (HH.out.below K1.out) (by omega) F1)
  clear hb1 F1 E0 K0
  go_wp2_with fail
  refine (fin_any (HS.out.below K1.out) E1.out wr_b (by decide)).mono ?_
  rintro e w2 ⟨g2, hg2, rfl, F2, hb2⟩
  rw [bareN_dec (by omega), show oA (some (12, (⟨#[47, 97]⟩ : ByteArray))) = 12 from rfl, show (⟨#[47, 98]⟩ : ByteArray) ++ oS (some (12, (⟨#[47, 97]⟩ : ByteArray))) = ⟨#[47, 98, 47, 97]⟩ from by decide] at F2
  have K2 := hide (K1.out.trans (hb2.mono K1.out.size))
  have E2 := er_flt (HS.out.below K2.out) (HH.out.below K2.out) (by omega) F2
  clear hb2 F2 E1 K1
  obtain ⟨u, x, r, he, h1, h2, h3⟩ := E2
  rw [he]
  have HA := hide (fat_any h2 h3)
  have HP := hide (fun (w3 : World) (hb : Below w2.heap.size w2 w3) => fpath_any (h2.below hb) (h3.below hb))
  have HC := hide (fun (w3 : World) (hb : Below w2.heap.size w2 w3) => hcode_any ((HS.out.below K2.out).below hb) (h1.below hb))
  have HD := hide (fun (w3 : World) (hb : Below w2.heap.size w2 w3) => fcode_any ((HS.out.below K2.out).below hb) (h1.below hb))
  have e1 : hcB (fun i => decide (i = 2)) 11 = 3 := by rw [hcB_dec]; rfl
  have e2 : leastB (fun i => decide (i = 2)) 11 = 3 := by rw [leastB_dec (by omega)]; rfl
  simp only [e1] at HC
  simp only [e2] at HD
  simp only [atV] at HA
  simp only [pathV] at HP
  clear h1 h2 h3 he e1 e2
  go_wp2_with fail
  refine HA.out.mono ?_
  rintro e w3 ⟨rfl, hb3⟩
  have K3 := hide hb3
  clear hb3 HA
  go_wp2_with fail
  refine (HP.out _ K3.out).mono ?_
  rintro e w4 ⟨rfl, hb4⟩
  have K4 := hide (K3.out.trans (hb4.mono K3.out.size))
  clear hb4 HP K3
  go_wp2_with fail
  refine (HC.out _ K4.out).mono ?_
  rintro e w5 ⟨rfl, hb5⟩
  have K5 := hide (K4.out.trans (hb5.mono K4.out.size))
  clear hb5 HC K4
  go_wp2_with fail
  refine (HD.out _ K5.out).mono ?_
  rintro e w6 ⟨rfl, hb6⟩
  have K6 := hide (K5.out.trans (hb6.mono K5.out.size))
  clear hb6 HD K5
  go_wp2_with fail
  refine (fnew_none ((HS.out.below K2.out).below K6.out) (Or.inr (by decide))).mono ?_
  rintro e w7 ⟨rfl, hb7⟩
  have K7 := hide (K2.out.trans ((K6.out.trans (hb7.mono K6.out.size)).mono K2.out.size))
  clear hb7
  go_wp2
  go_ret
  exact ⟨rfl, K7.out⟩
set_option maxHeartbeats 4000000 in
set_option maxRecDepth 100000 in
theorem makes_none {w : World} {a : Nat → Addr} {c k : Int} {s : ByteArray} (hS : Snt w a) (hH : Hnd w) (hc : c < 1 ∨ 11 < c) :
    Calls Tryd.prog 4 #[.int .i64 c, .int .i64 k, .string s] w fun e w' => e = .returned (.bool true) ∧ Below w.heap.size w w' := by
  have HN := hide (fnew_none (k := k) (s := s) hS hc)
  have HS := hide hS
  have HH := hide hH
  clear hS hH
  rcases hc with h | h
  · go_enter Tryd.func4, Tryd.ntmps4
    go_wp2_with fail
    refine HN.out.mono ?_
    rintro e w1 ⟨rfl, hb1⟩
    have K1 := hide hb1
    clear hb1 HN
    go_wp2_with fail
    refine (lives13 (HS.out.below K1.out) (HH.out.below K1.out)).mono ?_
    rintro e w2 ⟨rfl, hb2⟩
    have K2 := hide (K1.out.trans (hb2.mono K1.out.size))
    clear hb2
    go_wp2
    go_ret
    exact ⟨rfl, K2.out⟩
  · have h2 : ¬ c < 1 := by omega
    go_enter Tryd.func4, Tryd.ntmps4
    go_wp2_with fail
    refine HN.out.mono ?_
    rintro e w1 ⟨rfl, hb1⟩
    have K1 := hide hb1
    clear hb1 HN
    go_wp2_with fail
    refine (lives13 (HS.out.below K1.out) (HH.out.below K1.out)).mono ?_
    rintro e w2 ⟨rfl, hb2⟩
    have K2 := hide (K1.out.trans (hb2.mono K1.out.size))
    clear hb2
    go_wp2
    go_ret
    exact ⟨rfl, K2.out⟩
set_option maxHeartbeats 4000000 in
set_option maxRecDepth 100000 in
theorem makes_some {w : World} {a : Nat → Addr} {m : Nat} {k : Int} {s : ByteArray} (hS : Snt w a) (hH : Hnd w) (hm : m < 11) :
    Calls Tryd.prog 4 #[.int .i64 ((m : Int) + 1), .int .i64 k, .string s] w fun e w' => e = .returned (.bool true) ∧ Below w.heap.size w w' := by
  have HN := hide (fnew_some (k := k) (s := s) hS hm)
  have HS := hide hS
  have HH := hide hH
  have p1 : ¬ ((m : Int) + 1 < 1) := by omega
  have p2 : ¬ (11 < (m : Int) + 1) := by omega
  clear hS hH
  go_enter Tryd.func4, Tryd.ntmps4
  go_wp2_with fail
  refine HN.out.mono ?_
  rintro e w1 ⟨g, hg, rfl, F1, hb1⟩
  have K1 := hide hb1
  have E1 := er_flt (HS.out.below K1.out) (HH.out.below K1.out) (by omega) F1
  have HE := hide E1
  have eA : oA (some (k, s)) = k := rfl
  have eS : oS (some (k, s)) = s := rfl
  have eB : oB (some (k, s)) = true := rfl
  have e2 : leastB (fun i => decide (i = m)) 11 = (m : Int) + 1 := leastB_dec hm
  have HT := hide (fun (w3 : World) (hb : Below w1.heap.size w1 w3) => tells_true ((HS.out.below K1.out).below hb) (E1.below hb))
  have HQ := hide (fun (w3 : World) (hb : Below w1.heap.size w1 w3) => has_true ((HS.out.below K1.out).below hb) (E1.below hb))
  simp only [e2, eA, eS, eB] at HT HQ
  obtain ⟨u, x, r, he, h1, h2, h3⟩ := E1
  have HC := hide (hcode_any (HS.out.below K1.out) h1)
  have e1 : hcB (fun i => decide (i = m)) 11 = (m : Int) + 1 := by rw [hcB_dec, if_pos hm]
  rw [e1, ← he] at HC
  clear h1 h2 h3 he e1 e2 eA eS eB hb1 HN F1 hg
  go_wp2_with fail
  refine HC.out.mono ?_
  rintro e w2 ⟨rfl, hb2⟩
  have K2 := hide hb2
  clear hb2 HC
  go_wp2_with fail
  refine (HQ.out _ K2.out).mono ?_
  rintro e w3 ⟨rfl, hb3⟩
  have K3 := hide (K2.out.trans (hb3.mono K2.out.size))
  clear hb3 HQ K2
  go_wp2_with fail
  refine (HT.out _ K3.out).mono ?_
  rintro e w4 ⟨rfl, hb4⟩
  have K4 := hide (K1.out.trans ((K3.out.trans (hb4.mono K3.out.size)).mono K1.out.size))
  clear hb4 HT K3
  go_wp2_with fail
  refine (lives13 (HS.out.below K4.out) (HH.out.below K4.out)).mono ?_
  rintro e w5 ⟨rfl, hb5⟩
  have K5 := hide (K4.out.trans (hb5.mono K4.out.size))
  clear hb5
  go_wp2
  go_ret
  exact ⟨rfl, K5.out⟩
theorem makes_walk {w : World} {a : Nat → Addr} {c k : Int} {s : ByteArray} (hS : Snt w a) (hH : Hnd w) :
    Calls Tryd.prog 4 #[.int .i64 c, .int .i64 k, .string s] w fun e w' => e = .returned (.bool true) ∧ Below w.heap.size w w' := by
  by_cases h : c < 1 ∨ 11 < c
  · exact makes_none hS hH h
  · obtain ⟨m, rfl⟩ : ∃ m : Nat, c = (m : Int) + 1 := ⟨(c - 1).toNat, by omega⟩
    exact makes_some hS hH (by omega)

end Go.Proofs.YtbkgphglojjllaaDoor
