/- layer 16: lives -/
import Derived.Test.YtefmlajndillbaaGreatDoorJsH
namespace Go.Proofs.YtefmlajndillbaaGreatDoor
open Go.RowKit
set_option linter.unusedVariables false

def lv1 : Sc := writeB [32, 91, 49, 44, 32, 123, 34, 97, 34, 58, 32, 116, 114] sc0
def lv2 : Sc := writeB [117, 101, 125, 93] lv1
def lv3 : Sc := writeB [91] lv2
theorem lv1_f : lv1.st.bad = 0 ∧ lv1.size = 13 ∧ lv1.st.opn.length = 2 ∧ codeC lv1 = 3 := ⟨by kernel_rfl, by kernel_rfl, by kernel_rfl, by kernel_rfl⟩
theorem lv2_f : lv2.st.bad = 0 ∧ lv2.size = 17 ∧ lv2.st.opn.length = 0 ∧ codeC lv2 = 0 := ⟨by kernel_rfl, by kernel_rfl, by kernel_rfl, by kernel_rfl⟩
theorem lv3_f : lv3.st.bad = 3 ∧ lv3.size = 17 := ⟨by kernel_rfl, by kernel_rfl⟩
theorem Tl.none {w : World} {a : Nat → Addr} {L n : Nat} {k : Int} {v : Value} (h : Tl w a L n k v) (hn : n = 0) : v = .nilIface := by
  rcases h with ⟨_, e⟩ | ⟨m, g, e, _⟩
  · exact e
  · omega
theorem Tl.some {w : World} {a : Nat → Addr} {L n : Nat} {k : Int} {v : Value} (h : Tl w a L n k v) (hn : n ≠ 0) : ∃ u x, v = .iface u x := by
  rcases h with ⟨e, _⟩ | ⟨m, g, _, _, _, e, _⟩
  · exact absurd e hn
  · exact ⟨_, _, e⟩
/-- the handle lies below B -/
theorem hnd_below {w w' : World} (h : Hnd w) (hb : Below w.heap.size w w') : Hnd w' := h.below hb
set_option maxRecDepth 100000 in
set_option maxHeartbeats 4000000 in
theorem jlives {w : World} {a : Nat → Addr} (hS : Snt w a) (hH : Hnd w) :
    Calls Tryz.prog 10 #[] w fun e w' => e = .returned (.bool true) ∧ Below w.heap.size w w' := by
  have CN := hide (jNew (w := w) (a := a))
  have HS := hide (sntB_of hS)
  have HH := hide hH
  clear hS hH
  go_enter Tryz.func10, Tryz.ntmps10
  go_wp2_with fail
  refine CN.out.mono ?_
  rintro e w1 ⟨rfl, hp, hb1⟩
  have B1 := hide hb1
  have P1 := hide hp
  have CW := hide (jWrite (ch := ⟨#[32, 91, 49, 44, 32, 123, 34, 97, 34, 58, 32, 116, 114]⟩) (es := [32, 91, 49, 44, 32, 123, 34, 97, 34, 58, 32, 116, 114]) hp (HS.out.below hb1) (fun x hx => by simp at hx; omega) rfl (by simp [sc0]))
  clear hp hb1 CN
  go_wp2_with fail
  refine CW.out.mono ?_
  rintro e w2 ⟨v, ov2, rfl, hp2, ht2, hf2⟩
  have hv := ht2.none lv1_f.1
  subst hv
  have P2 := hide (show ScP w2 a w.heap.size w.heap.size ov2 lv1 from hp2)
  have B2 := hide (B1.out.trans (P1.out.sc.toBelow hf2))
  clear hp2 ht2 hf2 CW P1 B1
  have CD := hide (jDepth P2.out.sc)
  have CL := hide (jLen P2.out.sc)
  have CC := hide (jClose P2.out (HS.out.below B2.out).here)
  rw [lv1_f.2.2.1] at CD
  rw [lv1_f.2.1] at CL CC
  rw [lv1_f.2.2.2] at CC
  go_wp2_with fail
  refine CD.out.mono ?_
  rintro e w3 ⟨rfl, rfl⟩
  go_wp2_with fail
  refine CL.out.mono ?_
  rintro e w3 ⟨rfl, rfl⟩
  go_wp2_with fail
  refine CC.out.mono ?_
  rintro e w4 ⟨v, rfl, ht4, hb4⟩
  have B4 := hide (B2.out.trans (hb4.mono B2.out.size))
  have P4 := hide (P2.out.below hb4)
  have CI := hide (jisat 3 13 ht4 (by omega) (by omega) (by omega) (HS.out.below B4.out).here (HH.out.below B4.out))
  clear ht4 hb4 CD CL CC P2 B2
  go_wp2_with fail
  refine CI.out.mono ?_
  rintro e w5 ⟨rfl, hb5⟩
  have B5 := hide (B4.out.trans (hb5.mono B4.out.size))
  have P5 := hide (P4.out.below hb5)
  have CW := hide (jWrite (ch := ⟨#[117, 101, 125, 93]⟩) (es := [117, 101, 125, 93]) P5.out (HS.out.below B5.out) (fun x hx => by simp at hx; omega) rfl (by rw [lv1_f.2.1]; simp))
  clear hb5 CI P4 B4
  go_wp2_with fail
  refine CW.out.mono ?_
  rintro e w6 ⟨v, ov6, rfl, hp6, ht6, hf6⟩
  have hv := ht6.none lv2_f.1
  subst hv
  have P6 := hide (show ScP w6 a w.heap.size w.heap.size ov6 lv2 from hp6)
  have B6 := hide (B5.out.trans (P5.out.sc.toBelow hf6))
  clear hp6 ht6 hf6 CW P5 B5
  have CC := hide (jClose P6.out (HS.out.below B6.out).here)
  go_wp2_with fail
  refine CC.out.mono ?_
  rintro e w7 ⟨v, rfl, ht7, hb7⟩
  have hv := ht7.none lv2_f.2.2.2
  subst hv
  have B7 := hide (B6.out.trans (hb7.mono B6.out.size))
  have P7 := hide (P6.out.below hb7)
  clear ht7 hb7 CC P6 B6
  have CD := hide (jDepth P7.out.sc)
  rw [lv2_f.2.2.1] at CD
  go_wp2_with fail
  refine CD.out.mono ?_
  rintro e w8 ⟨rfl, rfl⟩
  have CW := hide (jWrite (ch := ⟨#[91]⟩) (es := [91]) P7.out (HS.out.below B7.out) (fun x hx => by simp at hx; omega) rfl (by rw [lv2_f.2.1]; simp))
  clear CD
  go_wp2_with fail
  refine CW.out.mono ?_
  rintro e w9 ⟨v, ov9, rfl, hp9, ht9, hf9⟩
  have P9 := hide (show ScP w9 a w.heap.size w.heap.size ov9 lv3 from hp9)
  have B9 := hide (B7.out.trans (P7.out.sc.toBelow hf9))
  have T9 := hide (show Tl w9 a _ lv3.st.bad lv3.size v from ht9)
  clear hp9 ht9 hf9 CW P7 B7
  rw [lv3_f.1, lv3_f.2] at T9
  have CI := hide (jisat 3 17 T9.out (by omega) (by omega) (by omega) (HS.out.below B9.out).here (HH.out.below B9.out))
  clear T9
  go_wp2_with fail
  refine CI.out.mono ?_
  rintro e w10 ⟨rfl, hb10⟩
  have B10 := hide (B9.out.trans (hb10.mono B9.out.size))
  have CL := hide (jLen (P9.out.below hb10).sc)
  rw [lv3_f.2] at CL
  clear hb10 CI P9 B9
  go_wp2_with fail
  refine CL.out.mono ?_
  rintro e w11 ⟨rfl, rfl⟩
  go_wp2
  go_ret
  exact ⟨rfl, B10.out⟩

end Go.Proofs.YtefmlajndillbaaGreatDoor
