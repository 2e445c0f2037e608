/- ref16 on the document's scanner: sign -/
import Derived.Test.YtefmlajndillbaaGreatDoorDnB
import Derived.Test.YtefmlajndillbaaGreatDoorDnN
namespace Go.Proofs.YtefmlajndillbaaGreatDoor
open Go.RowKit
set_option linter.unusedVariables false

theorem DOut.after {w w1 w' : World} {B p : Nat} {tv tv1 : Value} {d d1 : Dc} {v : Value} {n : Dn} {lit : Bool} {e : Ending} (hf : Fr p tv tv1 w w1) (h1 : d1.size = d.size) (h2 : d1.code = d.code) (h3 : d1.at_ = d.at_) (h : DOut w1 B p tv1 d1 v n lit e w') : DOut w B p tv d v n lit e w' := by
  obtain ⟨tv', es', d', q0, q1, q2, q3, q4, q5, q6, q7⟩ := h
  exact ⟨tv', es', d', q0, q1, hf.trans q2, q3, q4.trans h1, q5.trans h2, q6.trans h3, q7⟩
theorem DOut.lit {w w' : World} {B p : Nat} {tv : Value} {d : Dc} {v : Value} {n : Dn} {l l' : Bool} {e : Ending} (h : DOut w B p tv d v n l e w') (hl : l' = true → l = true) : DOut w B p tv d v n l' e w' := by
  obtain ⟨tv', es', d', q0, q1, q2, q3, q4, q5, q6, q7⟩ := h
  exact ⟨tv', es', d', q0, q1, q2, q3, q4, q5, q6, fun e => q7 (hl e)⟩
theorem dVal_lit {c : Int} {n : Dn} (h6 : n.mode ≠ 6) : decide ((dVal c n).2.mode = 6) = true → decide (c = 34) = true := by
  unfold dVal
  intro h
  by_cases k : c = 34
  · simp [k]
  · exfalso
    revert h
    simp only [k, if_false]
    repeat' split
    all_goals simp [h6]

set_option maxRecDepth 100000 in
set_option maxHeartbeats 4000000 in
theorem dsign_0a {w : World} {B p : Nat} {tv : Value} {es : List Int} {d : Dc} {n : Dn} {c : Int} (H : DcS w B p tv es d) (hn : dEq d n) (hu : uByt n.opn) (hl : n.opn.length ≤ 128) (h0 : 0 ≤ c) (h1 : c < 256) (hm : n.mode = 0) (hc : c = 34) : Calls Tryz.prog 50 #[.pointer (some ⟨p, 0, none⟩), .int .u8 c] w (DOut w B p tv d (.int .i64 (dSign c n).1) (dSign c n).2 (decide ((dSign c n).2.mode = 6))) := by
  have E : dSign c n = dVal c n := by unfold dSign; rw [hm]; rw [if_neg (by omega), if_neg (by omega), if_neg (by omega), if_neg (by omega), if_pos (by omega)]
  rw [E]; clear E
  have h6 : n.mode ≠ 6 := by omega
  have C := hide ((dvalue (c := c) H hn (by rw [hn.2.1]; exact hu) (by rw [hn.2.1]; exact hl) h0 h1).mono fun e w' h => h.lit (dVal_lit h6))
  have HS := hide H
  have HN := hide hn
  have HM := hide hm
  have f1 := H.frz 1
  have f2 := H.frz 2
  have c1 := (dg_of H.blk).c1
  have c2 := (dg_of H.blk).c2
  rw [hn.1, hm] at c1
  clear H hn hu hl h6 hm
  subst hc
  go_enter Tryz.func50, Tryz.ntmps50
  go_wp2_with fail
  refine C.out.mono ?_
  rintro e w1 hq
  have Q := hide hq
  obtain ⟨tv', es', d', rfl, q1, q2, q3, q4, q5, q6, q7⟩ := hq
  clear q1 q2 q3 q4 q5 q6 q7 C
  go_wp2
  go_ret
  exact Q.out
set_option maxRecDepth 100000 in
set_option maxHeartbeats 4000000 in
theorem dsign_0b {w : World} {B p : Nat} {tv : Value} {es : List Int} {d : Dc} {n : Dn} {c : Int} (H : DcS w B p tv es d) (hn : dEq d n) (hu : uByt n.opn) (hl : n.opn.length ≤ 128) (h0 : 0 ≤ c) (h1 : c < 256) (hm : n.mode = 0) (hc : c ≠ 34) : Calls Tryz.prog 50 #[.pointer (some ⟨p, 0, none⟩), .int .u8 c] w (DOut w B p tv d (.int .i64 (dSign c n).1) (dSign c n).2 (decide ((dSign c n).2.mode = 6))) := by
  have E : dSign c n = dVal c n := by unfold dSign; rw [hm]; rw [if_neg (by omega), if_neg (by omega), if_neg (by omega), if_neg (by omega), if_pos (by omega)]
  rw [E]; clear E
  have h6 : n.mode ≠ 6 := by omega
  have C := hide ((dvalue (c := c) H hn (by rw [hn.2.1]; exact hu) (by rw [hn.2.1]; exact hl) h0 h1).mono fun e w' h => h.lit (dVal_lit h6))
  have HS := hide H
  have HN := hide hn
  have HM := hide hm
  have f1 := H.frz 1
  have f2 := H.frz 2
  have c1 := (dg_of H.blk).c1
  have c2 := (dg_of H.blk).c2
  rw [hn.1, hm] at c1
  clear H hn hu hl h6 hm
  have b34 : (c == 34) = false := by simp; omega
  go_enter Tryz.func50, Tryz.ntmps50
  go_wp2_with fail
  refine C.out.mono ?_
  rintro e w1 hq
  have Q := hide hq
  obtain ⟨tv', es', d', rfl, q1, q2, q3, q4, q5, q6, q7⟩ := hq
  clear q1 q2 q3 q4 q5 q6 q7 C
  go_wp2
  go_ret
  exact Q.out
theorem dsign_0 {w : World} {B p : Nat} {tv : Value} {es : List Int} {d : Dc} {n : Dn} {c : Int} (H : DcS w B p tv es d) (hn : dEq d n) (hu : uByt n.opn) (hl : n.opn.length ≤ 128) (h0 : 0 ≤ c) (h1 : c < 256) (hm : n.mode = 0) : Calls Tryz.prog 50 #[.pointer (some ⟨p, 0, none⟩), .int .u8 c] w (DOut w B p tv d (.int .i64 (dSign c n).1) (dSign c n).2 (decide ((dSign c n).2.mode = 6))) := by
  by_cases k : c = 34
  · exact dsign_0a H hn hu hl h0 h1 hm k
  · exact dsign_0b H hn hu hl h0 h1 hm k
set_option maxRecDepth 100000 in
set_option maxHeartbeats 4000000 in
theorem dsign_1c93 {w : World} {B p : Nat} {tv : Value} {es : List Int} {d : Dc} {n : Dn} {c : Int} (H : DcS w B p tv es d) (hn : dEq d n) (hu : uByt n.opn) (hl : n.opn.length ≤ 128) (h0 : 0 ≤ c) (h1 : c < 256) (hm : n.mode = 1) (hc : c = 93) (hcl : dCl c n.opn = true) : Calls Tryz.prog 50 #[.pointer (some ⟨p, 0, none⟩), .int .u8 c] w (DOut w B p tv d (.int .i64 (dSign c n).1) (dSign c n).2 (decide ((dSign c n).2.mode = 6))) := by
  subst hc
  have E : dSign 93 n = (0, { n with opn := n.opn.dropLast, mode := 5 }) := by unfold dSign; rw [if_pos ⟨by omega, by omega, hcl⟩]
  rw [E]; clear E
  have C := hide (dcloses (c := 93) H hn (by rw [hn.2.1]; exact hu) (by rw [hn.2.1]; exact hl))
  rw [hcl, if_pos rfl] at C
  have HS := hide H
  have HN := hide hn
  have HM := hide hm
  have f1 := H.frz 1
  have f2 := H.frz 2
  have c1 := (dg_of H.blk).c1
  have c2 := (dg_of H.blk).c2
  rw [hn.1, hm] at c1
  clear H hn hu hl hm hcl
  go_enter Tryz.func50, Tryz.ntmps50
  go_wp2_with fail
  refine C.out.mono ?_
  rintro e w1 hq
  have Q := hide hq
  obtain ⟨tv', es', d', rfl, q1, q2, q3, q4, q5, q6, q7⟩ := hq
  clear q1 q2 q3 q4 q5 q6 q7 C
  go_wp2
  go_ret
  obtain ⟨tv', es', d', _, q1, q2, q3, q4, q5, q6, q7⟩ := Q.out
  exact ⟨tv', es', d', rfl, q1, q2, q3, q4, q5, q6, fun q => absurd q (by simp)⟩
set_option maxRecDepth 100000 in
set_option maxHeartbeats 4000000 in
theorem dsign_1c125 {w : World} {B p : Nat} {tv : Value} {es : List Int} {d : Dc} {n : Dn} {c : Int} (H : DcS w B p tv es d) (hn : dEq d n) (hu : uByt n.opn) (hl : n.opn.length ≤ 128) (h0 : 0 ≤ c) (h1 : c < 256) (hm : n.mode = 1) (hc : c = 125) (hcl : dCl c n.opn = true) : Calls Tryz.prog 50 #[.pointer (some ⟨p, 0, none⟩), .int .u8 c] w (DOut w B p tv d (.int .i64 (dSign c n).1) (dSign c n).2 (decide ((dSign c n).2.mode = 6))) := by
  subst hc
  have E : dSign 125 n = (0, { n with opn := n.opn.dropLast, mode := 5 }) := by unfold dSign; rw [if_pos ⟨by omega, by omega, hcl⟩]
  rw [E]; clear E
  have C := hide (dcloses (c := 125) H hn (by rw [hn.2.1]; exact hu) (by rw [hn.2.1]; exact hl))
  rw [hcl, if_pos rfl] at C
  have HS := hide H
  have HN := hide hn
  have HM := hide hm
  have f1 := H.frz 1
  have f2 := H.frz 2
  have c1 := (dg_of H.blk).c1
  have c2 := (dg_of H.blk).c2
  rw [hn.1, hm] at c1
  clear H hn hu hl hm hcl
  go_enter Tryz.func50, Tryz.ntmps50
  go_wp2_with fail
  refine C.out.mono ?_
  rintro e w1 hq
  have Q := hide hq
  obtain ⟨tv', es', d', rfl, q1, q2, q3, q4, q5, q6, q7⟩ := hq
  clear q1 q2 q3 q4 q5 q6 q7 C
  go_wp2
  go_ret
  obtain ⟨tv', es', d', _, q1, q2, q3, q4, q5, q6, q7⟩ := Q.out
  exact ⟨tv', es', d', rfl, q1, q2, q3, q4, q5, q6, fun q => absurd q (by simp)⟩
set_option maxRecDepth 100000 in
set_option maxHeartbeats 4000000 in
theorem dsign_1n93 {w : World} {B p : Nat} {tv : Value} {es : List Int} {d : Dc} {n : Dn} {c : Int} (H : DcS w B p tv es d) (hn : dEq d n) (hu : uByt n.opn) (hl : n.opn.length ≤ 128) (h0 : 0 ≤ c) (h1 : c < 256) (hm : n.mode = 1) (hc : c = 93) (hcl : dCl c n.opn = false) : Calls Tryz.prog 50 #[.pointer (some ⟨p, 0, none⟩), .int .u8 c] w (DOut w B p tv d (.int .i64 (dSign c n).1) (dSign c n).2 (decide ((dSign c n).2.mode = 6))) := by
  subst hc
  have E : dSign 93 n = dVal 93 n := by unfold dSign; rw [if_neg (by simp [hcl]), if_neg (by omega), if_neg (by omega), if_neg (by omega), if_pos (by omega)]
  rw [E]; clear E
  have h6 : n.mode ≠ 6 := by omega
  have C := hide (dcloses (c := 93) H hn (by rw [hn.2.1]; exact hu) (by rw [hn.2.1]; exact hl))
  rw [hcl, if_neg (by simp)] at C
  have HU := hide (And.intro hu hl)
  have HS := hide H
  have HN := hide hn
  have HM := hide hm
  have f1 := H.frz 1
  have f2 := H.frz 2
  have c1 := (dg_of H.blk).c1
  have c2 := (dg_of H.blk).c2
  rw [hn.1, hm] at c1
  clear H hn hu hl hm hcl f1 f2 c2
  go_enter Tryz.func50, Tryz.ntmps50
  go_wp2_with fail
  refine C.out.mono ?_
  rintro e w1 ⟨tv1, es1, d1, rfl, q1, q2, q3, q4, q5, q6, q7⟩
  have Q := hide (show _ ∧ _ ∧ _ ∧ _ ∧ _ ∧ _ from ⟨q1, q2, q3, q4, q5, q6⟩)
  have c1 := (dg_of q1.blk).c1
  have c2 := (dg_of q1.blk).c2
  rw [q3.1, HM.out] at c1
  have C2 := hide ((dvalue (c := 93) q1 q3 (by rw [q3.2.1]; exact HU.out.1) (by rw [q3.2.1]; exact HU.out.2) h0 h1).mono fun e w' h => h.lit (dVal_lit h6))
  clear q1 q2 q3 q4 q5 q6 q7 C HU h6
  go_wp2_with fail
  refine C2.out.mono ?_
  rintro e w1 hq
  have Q2 := hide hq
  obtain ⟨tv', es', d', rfl, q1, q2, q3, q4, q5, q6, q7⟩ := hq
  clear q1 q2 q3 q4 q5 q6 q7 C2
  go_wp2
  go_ret
  obtain ⟨q1, q2, q3, q4, q5, q6⟩ := Q.out
  exact Q2.out.after q2 q4 q5 q6
set_option maxRecDepth 100000 in
set_option maxHeartbeats 4000000 in
theorem dsign_1n125 {w : World} {B p : Nat} {tv : Value} {es : List Int} {d : Dc} {n : Dn} {c : Int} (H : DcS w B p tv es d) (hn : dEq d n) (hu : uByt n.opn) (hl : n.opn.length ≤ 128) (h0 : 0 ≤ c) (h1 : c < 256) (hm : n.mode = 1) (hc : c = 125) (hcl : dCl c n.opn = false) : Calls Tryz.prog 50 #[.pointer (some ⟨p, 0, none⟩), .int .u8 c] w (DOut w B p tv d (.int .i64 (dSign c n).1) (dSign c n).2 (decide ((dSign c n).2.mode = 6))) := by
  subst hc
  have E : dSign 125 n = dVal 125 n := by unfold dSign; rw [if_neg (by simp [hcl]), if_neg (by omega), if_neg (by omega), if_neg (by omega), if_pos (by omega)]
  rw [E]; clear E
  have h6 : n.mode ≠ 6 := by omega
  have C := hide (dcloses (c := 125) H hn (by rw [hn.2.1]; exact hu) (by rw [hn.2.1]; exact hl))
  rw [hcl, if_neg (by simp)] at C
  have HU := hide (And.intro hu hl)
  have HS := hide H
  have HN := hide hn
  have HM := hide hm
  have f1 := H.frz 1
  have f2 := H.frz 2
  have c1 := (dg_of H.blk).c1
  have c2 := (dg_of H.blk).c2
  rw [hn.1, hm] at c1
  clear H hn hu hl hm hcl f1 f2 c2
  go_enter Tryz.func50, Tryz.ntmps50
  go_wp2_with fail
  refine C.out.mono ?_
  rintro e w1 ⟨tv1, es1, d1, rfl, q1, q2, q3, q4, q5, q6, q7⟩
  have Q := hide (show _ ∧ _ ∧ _ ∧ _ ∧ _ ∧ _ from ⟨q1, q2, q3, q4, q5, q6⟩)
  have c1 := (dg_of q1.blk).c1
  have c2 := (dg_of q1.blk).c2
  rw [q3.1, HM.out] at c1
  have C2 := hide ((dvalue (c := 125) q1 q3 (by rw [q3.2.1]; exact HU.out.1) (by rw [q3.2.1]; exact HU.out.2) h0 h1).mono fun e w' h => h.lit (dVal_lit h6))
  clear q1 q2 q3 q4 q5 q6 q7 C HU h6
  go_wp2_with fail
  refine C2.out.mono ?_
  rintro e w1 hq
  have Q2 := hide hq
  obtain ⟨tv', es', d', rfl, q1, q2, q3, q4, q5, q6, q7⟩ := hq
  clear q1 q2 q3 q4 q5 q6 q7 C2
  go_wp2
  go_ret
  obtain ⟨q1, q2, q3, q4, q5, q6⟩ := Q.out
  exact Q2.out.after q2 q4 q5 q6
set_option maxRecDepth 100000 in
set_option maxHeartbeats 4000000 in
theorem dsign_1q {w : World} {B p : Nat} {tv : Value} {es : List Int} {d : Dc} {n : Dn} {c : Int} (H : DcS w B p tv es d) (hn : dEq d n) (hu : uByt n.opn) (hl : n.opn.length ≤ 128) (h0 : 0 ≤ c) (h1 : c < 256) (hm : n.mode = 1) (hc : c = 34) : Calls Tryz.prog 50 #[.pointer (some ⟨p, 0, none⟩), .int .u8 c] w (DOut w B p tv d (.int .i64 (dSign c n).1) (dSign c n).2 (decide ((dSign c n).2.mode = 6))) := by
  have E : dSign c n = dVal c n := by unfold dSign; rw [hm]; rw [if_neg (by omega), if_neg (by omega), if_neg (by omega), if_neg (by omega), if_pos (by omega)]
  rw [E]; clear E
  have h6 : n.mode ≠ 6 := by omega
  have C := hide ((dvalue (c := c) H hn (by rw [hn.2.1]; exact hu) (by rw [hn.2.1]; exact hl) h0 h1).mono fun e w' h => h.lit (dVal_lit h6))
  have HS := hide H
  have HN := hide hn
  have HM := hide hm
  have f1 := H.frz 1
  have f2 := H.frz 2
  have c1 := (dg_of H.blk).c1
  have c2 := (dg_of H.blk).c2
  rw [hn.1, hm] at c1
  clear H hn hu hl h6 hm
  subst hc
  go_enter Tryz.func50, Tryz.ntmps50
  go_wp2_with fail
  refine C.out.mono ?_
  rintro e w1 hq
  have Q := hide hq
  obtain ⟨tv', es', d', rfl, q1, q2, q3, q4, q5, q6, q7⟩ := hq
  clear q1 q2 q3 q4 q5 q6 q7 C
  go_wp2
  go_ret
  exact Q.out
set_option maxRecDepth 100000 in
set_option maxHeartbeats 4000000 in
theorem dsign_1o {w : World} {B p : Nat} {tv : Value} {es : List Int} {d : Dc} {n : Dn} {c : Int} (H : DcS w B p tv es d) (hn : dEq d n) (hu : uByt n.opn) (hl : n.opn.length ≤ 128) (h0 : 0 ≤ c) (h1 : c < 256) (hm : n.mode = 1) (hc : c ≠ 34) (hc1 : c ≠ 93) (hc2 : c ≠ 125) : Calls Tryz.prog 50 #[.pointer (some ⟨p, 0, none⟩), .int .u8 c] w (DOut w B p tv d (.int .i64 (dSign c n).1) (dSign c n).2 (decide ((dSign c n).2.mode = 6))) := by
  have E : dSign c n = dVal c n := by unfold dSign; rw [hm]; rw [if_neg (by omega), if_neg (by omega), if_neg (by omega), if_neg (by omega), if_pos (by omega)]
  rw [E]; clear E
  have h6 : n.mode ≠ 6 := by omega
  have C := hide ((dvalue (c := c) H hn (by rw [hn.2.1]; exact hu) (by rw [hn.2.1]; exact hl) h0 h1).mono fun e w' h => h.lit (dVal_lit h6))
  have HS := hide H
  have HN := hide hn
  have HM := hide hm
  have f1 := H.frz 1
  have f2 := H.frz 2
  have c1 := (dg_of H.blk).c1
  have c2 := (dg_of H.blk).c2
  rw [hn.1, hm] at c1
  clear H hn hu hl h6 hm
  have b34 : (c == 34) = false := by simp; omega
  have b93 : (c == 93) = false := by simp; omega
  have b125 : (c == 125) = false := by simp; omega
  go_enter Tryz.func50, Tryz.ntmps50
  go_wp2_with fail
  refine C.out.mono ?_
  rintro e w1 hq
  have Q := hide hq
  obtain ⟨tv', es', d', rfl, q1, q2, q3, q4, q5, q6, q7⟩ := hq
  clear q1 q2 q3 q4 q5 q6 q7 C
  go_wp2
  go_ret
  exact Q.out
theorem dsign_1 {w : World} {B p : Nat} {tv : Value} {es : List Int} {d : Dc} {n : Dn} {c : Int} (H : DcS w B p tv es d) (hn : dEq d n) (hu : uByt n.opn) (hl : n.opn.length ≤ 128) (h0 : 0 ≤ c) (h1 : c < 256) (hm : n.mode = 1) : Calls Tryz.prog 50 #[.pointer (some ⟨p, 0, none⟩), .int .u8 c] w (DOut w B p tv d (.int .i64 (dSign c n).1) (dSign c n).2 (decide ((dSign c n).2.mode = 6))) := by
  by_cases k1 : c = 93
  · cases hcl : dCl c n.opn with
    | true => exact dsign_1c93 H hn hu hl h0 h1 hm k1 hcl
    | false => exact dsign_1n93 H hn hu hl h0 h1 hm k1 hcl
  by_cases k2 : c = 125
  · cases hcl : dCl c n.opn with
    | true => exact dsign_1c125 H hn hu hl h0 h1 hm k2 hcl
    | false => exact dsign_1n125 H hn hu hl h0 h1 hm k2 hcl
  by_cases k : c = 34
  · exact dsign_1q H hn hu hl h0 h1 hm k
  · exact dsign_1o H hn hu hl h0 h1 hm k k1 k2
set_option maxRecDepth 100000 in
set_option maxHeartbeats 4000000 in
theorem dsign_2c93 {w : World} {B p : Nat} {tv : Value} {es : List Int} {d : Dc} {n : Dn} {c : Int} (H : DcS w B p tv es d) (hn : dEq d n) (hu : uByt n.opn) (hl : n.opn.length ≤ 128) (h0 : 0 ≤ c) (h1 : c < 256) (hm : n.mode = 2) (hc : c = 93) (hcl : dCl c n.opn = true) : Calls Tryz.prog 50 #[.pointer (some ⟨p, 0, none⟩), .int .u8 c] w (DOut w B p tv d (.int .i64 (dSign c n).1) (dSign c n).2 (decide ((dSign c n).2.mode = 6))) := by
  subst hc
  have E : dSign 93 n = (0, { n with opn := n.opn.dropLast, mode := 5 }) := by unfold dSign; rw [if_pos ⟨by omega, by omega, hcl⟩]
  rw [E]; clear E
  have C := hide (dcloses (c := 93) H hn (by rw [hn.2.1]; exact hu) (by rw [hn.2.1]; exact hl))
  rw [hcl, if_pos rfl] at C
  have HS := hide H
  have HN := hide hn
  have HM := hide hm
  have f1 := H.frz 1
  have f2 := H.frz 2
  have c1 := (dg_of H.blk).c1
  have c2 := (dg_of H.blk).c2
  rw [hn.1, hm] at c1
  clear H hn hu hl hm hcl
  go_enter Tryz.func50, Tryz.ntmps50
  go_wp2_with fail
  refine C.out.mono ?_
  rintro e w1 hq
  have Q := hide hq
  obtain ⟨tv', es', d', rfl, q1, q2, q3, q4, q5, q6, q7⟩ := hq
  clear q1 q2 q3 q4 q5 q6 q7 C
  go_wp2
  go_ret
  obtain ⟨tv', es', d', _, q1, q2, q3, q4, q5, q6, q7⟩ := Q.out
  exact ⟨tv', es', d', rfl, q1, q2, q3, q4, q5, q6, fun q => absurd q (by simp)⟩
set_option maxRecDepth 100000 in
set_option maxHeartbeats 4000000 in
theorem dsign_2c125 {w : World} {B p : Nat} {tv : Value} {es : List Int} {d : Dc} {n : Dn} {c : Int} (H : DcS w B p tv es d) (hn : dEq d n) (hu : uByt n.opn) (hl : n.opn.length ≤ 128) (h0 : 0 ≤ c) (h1 : c < 256) (hm : n.mode = 2) (hc : c = 125) (hcl : dCl c n.opn = true) : Calls Tryz.prog 50 #[.pointer (some ⟨p, 0, none⟩), .int .u8 c] w (DOut w B p tv d (.int .i64 (dSign c n).1) (dSign c n).2 (decide ((dSign c n).2.mode = 6))) := by
  subst hc
  have E : dSign 125 n = (0, { n with opn := n.opn.dropLast, mode := 5 }) := by unfold dSign; rw [if_pos ⟨by omega, by omega, hcl⟩]
  rw [E]; clear E
  have C := hide (dcloses (c := 125) H hn (by rw [hn.2.1]; exact hu) (by rw [hn.2.1]; exact hl))
  rw [hcl, if_pos rfl] at C
  have HS := hide H
  have HN := hide hn
  have HM := hide hm
  have f1 := H.frz 1
  have f2 := H.frz 2
  have c1 := (dg_of H.blk).c1
  have c2 := (dg_of H.blk).c2
  rw [hn.1, hm] at c1
  clear H hn hu hl hm hcl
  go_enter Tryz.func50, Tryz.ntmps50
  go_wp2_with fail
  refine C.out.mono ?_
  rintro e w1 hq
  have Q := hide hq
  obtain ⟨tv', es', d', rfl, q1, q2, q3, q4, q5, q6, q7⟩ := hq
  clear q1 q2 q3 q4 q5 q6 q7 C
  go_wp2
  go_ret
  obtain ⟨tv', es', d', _, q1, q2, q3, q4, q5, q6, q7⟩ := Q.out
  exact ⟨tv', es', d', rfl, q1, q2, q3, q4, q5, q6, fun q => absurd q (by simp)⟩
set_option maxRecDepth 100000 in
set_option maxHeartbeats 4000000 in
theorem dsign_2n93 {w : World} {B p : Nat} {tv : Value} {es : List Int} {d : Dc} {n : Dn} {c : Int} (H : DcS w B p tv es d) (hn : dEq d n) (hu : uByt n.opn) (hl : n.opn.length ≤ 128) (h0 : 0 ≤ c) (h1 : c < 256) (hm : n.mode = 2) (hc : c = 93) (hcl : dCl c n.opn = false) : Calls Tryz.prog 50 #[.pointer (some ⟨p, 0, none⟩), .int .u8 c] w (DOut w B p tv d (.int .i64 (dSign c n).1) (dSign c n).2 (decide ((dSign c n).2.mode = 6))) := by
  subst hc
  have E : dSign 93 n = (3, n) := by unfold dSign; rw [if_neg (by simp [hcl]), if_neg (by omega), if_neg (by omega), if_neg (by omega), if_neg (by omega)]
  rw [E]; clear E
  have C := hide (dcloses (c := 93) H hn (by rw [hn.2.1]; exact hu) (by rw [hn.2.1]; exact hl))
  rw [hcl, if_neg (by simp)] at C
  have HU := hide (And.intro hu hl)
  have HS := hide H
  have HN := hide hn
  have HM := hide hm
  have f1 := H.frz 1
  have f2 := H.frz 2
  have c1 := (dg_of H.blk).c1
  have c2 := (dg_of H.blk).c2
  rw [hn.1, hm] at c1
  clear H hn hu hl hm hcl f1 f2 c2
  go_enter Tryz.func50, Tryz.ntmps50
  go_wp2_with fail
  refine C.out.mono ?_
  rintro e w1 ⟨tv1, es1, d1, rfl, q1, q2, q3, q4, q5, q6, q7⟩
  have Q := hide (show _ ∧ _ ∧ _ ∧ _ ∧ _ ∧ _ from ⟨q1, q2, q3, q4, q5, q6⟩)
  have c1 := (dg_of q1.blk).c1
  have c2 := (dg_of q1.blk).c2
  rw [q3.1, HM.out] at c1
  obtain ⟨sw, hsw⟩ : ∃ sw, strOfNums d1.opn = sw := ⟨_, rfl⟩
  rw [hsw] at c2
  clear hsw
  clear q1 q2 q3 q4 q5 q6 q7 C HU
  go_wp2
  go_ret
  obtain ⟨q1, q2, q3, q4, q5, q6⟩ := Q.out
  exact ⟨tv1, es1, d1, rfl, q1, q2, q3, q4, q5, q6, fun q => absurd q (by simp [HM.out])⟩
set_option maxRecDepth 100000 in
set_option maxHeartbeats 4000000 in
theorem dsign_2n125 {w : World} {B p : Nat} {tv : Value} {es : List Int} {d : Dc} {n : Dn} {c : Int} (H : DcS w B p tv es d) (hn : dEq d n) (hu : uByt n.opn) (hl : n.opn.length ≤ 128) (h0 : 0 ≤ c) (h1 : c < 256) (hm : n.mode = 2) (hc : c = 125) (hcl : dCl c n.opn = false) : Calls Tryz.prog 50 #[.pointer (some ⟨p, 0, none⟩), .int .u8 c] w (DOut w B p tv d (.int .i64 (dSign c n).1) (dSign c n).2 (decide ((dSign c n).2.mode = 6))) := by
  subst hc
  have E : dSign 125 n = (3, n) := by unfold dSign; rw [if_neg (by simp [hcl]), if_neg (by omega), if_neg (by omega), if_neg (by omega), if_neg (by omega)]
  rw [E]; clear E
  have C := hide (dcloses (c := 125) H hn (by rw [hn.2.1]; exact hu) (by rw [hn.2.1]; exact hl))
  rw [hcl, if_neg (by simp)] at C
  have HU := hide (And.intro hu hl)
  have HS := hide H
  have HN := hide hn
  have HM := hide hm
  have f1 := H.frz 1
  have f2 := H.frz 2
  have c1 := (dg_of H.blk).c1
  have c2 := (dg_of H.blk).c2
  rw [hn.1, hm] at c1
  clear H hn hu hl hm hcl f1 f2 c2
  go_enter Tryz.func50, Tryz.ntmps50
  go_wp2_with fail
  refine C.out.mono ?_
  rintro e w1 ⟨tv1, es1, d1, rfl, q1, q2, q3, q4, q5, q6, q7⟩
  have Q := hide (show _ ∧ _ ∧ _ ∧ _ ∧ _ ∧ _ from ⟨q1, q2, q3, q4, q5, q6⟩)
  have c1 := (dg_of q1.blk).c1
  have c2 := (dg_of q1.blk).c2
  rw [q3.1, HM.out] at c1
  obtain ⟨sw, hsw⟩ : ∃ sw, strOfNums d1.opn = sw := ⟨_, rfl⟩
  rw [hsw] at c2
  clear hsw
  clear q1 q2 q3 q4 q5 q6 q7 C HU
  go_wp2
  go_ret
  obtain ⟨q1, q2, q3, q4, q5, q6⟩ := Q.out
  exact ⟨tv1, es1, d1, rfl, q1, q2, q3, q4, q5, q6, fun q => absurd q (by simp [HM.out])⟩
set_option maxRecDepth 100000 in
set_option maxHeartbeats 4000000 in
theorem dsign_2q {w : World} {B p : Nat} {tv : Value} {es : List Int} {d : Dc} {n : Dn} {c : Int} (H : DcS w B p tv es d) (hn : dEq d n) (hu : uByt n.opn) (hl : n.opn.length ≤ 128) (h0 : 0 ≤ c) (h1 : c < 256) (hm : n.mode = 2) (hc : c = 34) : Calls Tryz.prog 50 #[.pointer (some ⟨p, 0, none⟩), .int .u8 c] w (DOut w B p tv d (.int .i64 (dSign c n).1) (dSign c n).2 (decide ((dSign c n).2.mode = 6))) := by
  subst hc
  have E : dSign 34 n = (0, { n with keys := true, mode := 6 }) := by unfold dSign; rw [if_neg (by omega), if_neg (by omega), if_neg (by omega), if_pos (by omega)]
  rw [E]; clear E
  have C := hide (dliteral (k := true) H hn)
  have HS := hide H
  have HN := hide hn
  have HM := hide hm
  have f1 := H.frz 1
  have f2 := H.frz 2
  have c1 := (dg_of H.blk).c1
  have c2 := (dg_of H.blk).c2
  rw [hn.1, hm] at c1
  clear H hn hu hl hm
  go_enter Tryz.func50, Tryz.ntmps50
  go_wp2_with fail
  refine C.out.mono ?_
  rintro e w1 hq
  have Q := hide hq
  obtain ⟨tv', es', d', rfl, q1, q2, q3, q4, q5, q6, q7⟩ := hq
  clear q1 q2 q3 q4 q5 q6 q7 C
  go_wp2
  go_ret
  obtain ⟨tv', es', d', _, q1, q2, q3, q4, q5, q6, q7⟩ := Q.out
  exact ⟨tv', es', d', rfl, q1, q2, q3, q4, q5, q6, fun _ => q7 rfl⟩
set_option maxRecDepth 100000 in
set_option maxHeartbeats 4000000 in
theorem dsign_2o {w : World} {B p : Nat} {tv : Value} {es : List Int} {d : Dc} {n : Dn} {c : Int} (H : DcS w B p tv es d) (hn : dEq d n) (hu : uByt n.opn) (hl : n.opn.length ≤ 128) (h0 : 0 ≤ c) (h1 : c < 256) (hm : n.mode = 2) (hc : c ≠ 34) (hc1 : c ≠ 93) (hc2 : c ≠ 125) : Calls Tryz.prog 50 #[.pointer (some ⟨p, 0, none⟩), .int .u8 c] w (DOut w B p tv d (.int .i64 (dSign c n).1) (dSign c n).2 (decide ((dSign c n).2.mode = 6))) := by
  have E : dSign c n = (3, n) := by unfold dSign; rw [if_neg (by omega), if_neg (by omega), if_neg (by omega), if_neg (by omega), if_neg (by omega)]
  rw [E]; clear E
  have HS := hide H
  have HN := hide hn
  have HM := hide hm
  have f1 := H.frz 1
  have f2 := H.frz 2
  have c1 := (dg_of H.blk).c1
  have c2 := (dg_of H.blk).c2
  rw [hn.1, hm] at c1
  have b34 : (c == 34) = false := by simp; omega
  have b93 : (c == 93) = false := by simp; omega
  have b125 : (c == 125) = false := by simp; omega
  obtain ⟨sw, hsw⟩ : ∃ sw, strOfNums d.opn = sw := ⟨_, rfl⟩
  rw [hsw] at c2
  clear hsw
  clear H hn hu hl hm
  go_enter Tryz.func50, Tryz.ntmps50
  go_wp2
  go_ret
  exact ⟨tv, es, _, rfl, HS.out, Fr.refl _ _ _, HN.out, rfl, rfl, rfl, fun q => absurd q (by simp [HM.out])⟩
theorem dsign_2 {w : World} {B p : Nat} {tv : Value} {es : List Int} {d : Dc} {n : Dn} {c : Int} (H : DcS w B p tv es d) (hn : dEq d n) (hu : uByt n.opn) (hl : n.opn.length ≤ 128) (h0 : 0 ≤ c) (h1 : c < 256) (hm : n.mode = 2) : Calls Tryz.prog 50 #[.pointer (some ⟨p, 0, none⟩), .int .u8 c] w (DOut w B p tv d (.int .i64 (dSign c n).1) (dSign c n).2 (decide ((dSign c n).2.mode = 6))) := by
  by_cases k1 : c = 93
  · cases hcl : dCl c n.opn with
    | true => exact dsign_2c93 H hn hu hl h0 h1 hm k1 hcl
    | false => exact dsign_2n93 H hn hu hl h0 h1 hm k1 hcl
  by_cases k2 : c = 125
  · cases hcl : dCl c n.opn with
    | true => exact dsign_2c125 H hn hu hl h0 h1 hm k2 hcl
    | false => exact dsign_2n125 H hn hu hl h0 h1 hm k2 hcl
  by_cases k : c = 34
  · exact dsign_2q H hn hu hl h0 h1 hm k
  · exact dsign_2o H hn hu hl h0 h1 hm k k1 k2
set_option maxRecDepth 100000 in
set_option maxHeartbeats 4000000 in
theorem dsign_3q {w : World} {B p : Nat} {tv : Value} {es : List Int} {d : Dc} {n : Dn} {c : Int} (H : DcS w B p tv es d) (hn : dEq d n) (hu : uByt n.opn) (hl : n.opn.length ≤ 128) (h0 : 0 ≤ c) (h1 : c < 256) (hm : n.mode = 3) (hc : c = 34) : Calls Tryz.prog 50 #[.pointer (some ⟨p, 0, none⟩), .int .u8 c] w (DOut w B p tv d (.int .i64 (dSign c n).1) (dSign c n).2 (decide ((dSign c n).2.mode = 6))) := by
  subst hc
  have E : dSign 34 n = (0, { n with keys := true, mode := 6 }) := by unfold dSign; rw [if_neg (by omega), if_neg (by omega), if_neg (by omega), if_pos (by omega)]
  rw [E]; clear E
  have C := hide (dliteral (k := true) H hn)
  have HS := hide H
  have HN := hide hn
  have HM := hide hm
  have f1 := H.frz 1
  have f2 := H.frz 2
  have c1 := (dg_of H.blk).c1
  have c2 := (dg_of H.blk).c2
  rw [hn.1, hm] at c1
  clear H hn hu hl hm
  go_enter Tryz.func50, Tryz.ntmps50
  go_wp2_with fail
  refine C.out.mono ?_
  rintro e w1 hq
  have Q := hide hq
  obtain ⟨tv', es', d', rfl, q1, q2, q3, q4, q5, q6, q7⟩ := hq
  clear q1 q2 q3 q4 q5 q6 q7 C
  go_wp2
  go_ret
  obtain ⟨tv', es', d', _, q1, q2, q3, q4, q5, q6, q7⟩ := Q.out
  exact ⟨tv', es', d', rfl, q1, q2, q3, q4, q5, q6, fun _ => q7 rfl⟩
set_option maxRecDepth 100000 in
set_option maxHeartbeats 4000000 in
theorem dsign_3o {w : World} {B p : Nat} {tv : Value} {es : List Int} {d : Dc} {n : Dn} {c : Int} (H : DcS w B p tv es d) (hn : dEq d n) (hu : uByt n.opn) (hl : n.opn.length ≤ 128) (h0 : 0 ≤ c) (h1 : c < 256) (hm : n.mode = 3) (hc : c ≠ 34) : Calls Tryz.prog 50 #[.pointer (some ⟨p, 0, none⟩), .int .u8 c] w (DOut w B p tv d (.int .i64 (dSign c n).1) (dSign c n).2 (decide ((dSign c n).2.mode = 6))) := by
  have E : dSign c n = (3, n) := by unfold dSign; rw [if_neg (by omega), if_neg (by omega), if_neg (by omega), if_neg (by omega), if_neg (by omega)]
  rw [E]; clear E
  have HS := hide H
  have HN := hide hn
  have HM := hide hm
  have f1 := H.frz 1
  have f2 := H.frz 2
  have c1 := (dg_of H.blk).c1
  have c2 := (dg_of H.blk).c2
  rw [hn.1, hm] at c1
  have b34 : (c == 34) = false := by simp; omega
  obtain ⟨sw, hsw⟩ : ∃ sw, strOfNums d.opn = sw := ⟨_, rfl⟩
  rw [hsw] at c2
  clear hsw
  clear H hn hu hl hm
  go_enter Tryz.func50, Tryz.ntmps50
  go_wp2
  go_ret
  exact ⟨tv, es, _, rfl, HS.out, Fr.refl _ _ _, HN.out, rfl, rfl, rfl, fun q => absurd q (by simp [HM.out])⟩
theorem dsign_3 {w : World} {B p : Nat} {tv : Value} {es : List Int} {d : Dc} {n : Dn} {c : Int} (H : DcS w B p tv es d) (hn : dEq d n) (hu : uByt n.opn) (hl : n.opn.length ≤ 128) (h0 : 0 ≤ c) (h1 : c < 256) (hm : n.mode = 3) : Calls Tryz.prog 50 #[.pointer (some ⟨p, 0, none⟩), .int .u8 c] w (DOut w B p tv d (.int .i64 (dSign c n).1) (dSign c n).2 (decide ((dSign c n).2.mode = 6))) := by
  by_cases k : c = 34
  · exact dsign_3q H hn hu hl h0 h1 hm k
  · exact dsign_3o H hn hu hl h0 h1 hm k
set_option maxRecDepth 100000 in
set_option maxHeartbeats 4000000 in
theorem dsign_4c {w : World} {B p : Nat} {tv : Value} {es : List Int} {d : Dc} {n : Dn} {c : Int} (H : DcS w B p tv es d) (hn : dEq d n) (hu : uByt n.opn) (hl : n.opn.length ≤ 128) (h0 : 0 ≤ c) (h1 : c < 256) (hm : n.mode = 4) (hc : c = 58) : Calls Tryz.prog 50 #[.pointer (some ⟨p, 0, none⟩), .int .u8 c] w (DOut w B p tv d (.int .i64 (dSign c n).1) (dSign c n).2 (decide ((dSign c n).2.mode = 6))) := by
  subst hc
  have E : dSign 58 n = (0, { n with mode := 0 }) := by unfold dSign; rw [if_neg (by omega), if_pos (by omega)]
  rw [E]; clear E
  have HS := hide H
  have HN := hide hn
  have HM := hide hm
  have f1 := H.frz 1
  have f2 := H.frz 2
  have c1 := (dg_of H.blk).c1
  have c2 := (dg_of H.blk).c2
  rw [hn.1, hm] at c1
  clear H hn hu hl hm
  go_enter Tryz.func50, Tryz.ntmps50
  go_wp2
  go_ret
  exact ⟨tv, es, _, rfl, HS.out.mode 0, (Fr.refl _ _ _).setP _, ⟨rfl, HN.out.2.1, HN.out.2.2.1, HN.out.2.2.2⟩, rfl, rfl, rfl, fun q => absurd q (by simp)⟩
set_option maxRecDepth 100000 in
set_option maxHeartbeats 4000000 in
theorem dsign_4o {w : World} {B p : Nat} {tv : Value} {es : List Int} {d : Dc} {n : Dn} {c : Int} (H : DcS w B p tv es d) (hn : dEq d n) (hu : uByt n.opn) (hl : n.opn.length ≤ 128) (h0 : 0 ≤ c) (h1 : c < 256) (hm : n.mode = 4) (hc : c ≠ 34) (hc1 : c ≠ 58) : Calls Tryz.prog 50 #[.pointer (some ⟨p, 0, none⟩), .int .u8 c] w (DOut w B p tv d (.int .i64 (dSign c n).1) (dSign c n).2 (decide ((dSign c n).2.mode = 6))) := by
  have E : dSign c n = (3, n) := by unfold dSign; rw [if_neg (by omega), if_neg (by omega), if_neg (by omega), if_neg (by omega), if_neg (by omega)]
  rw [E]; clear E
  have HS := hide H
  have HN := hide hn
  have HM := hide hm
  have f1 := H.frz 1
  have f2 := H.frz 2
  have c1 := (dg_of H.blk).c1
  have c2 := (dg_of H.blk).c2
  rw [hn.1, hm] at c1
  have b34 : (c == 34) = false := by simp; omega
  have b58 : (c == 58) = false := by simp; omega
  obtain ⟨sw, hsw⟩ : ∃ sw, strOfNums d.opn = sw := ⟨_, rfl⟩
  rw [hsw] at c2
  clear hsw
  clear H hn hu hl hm
  go_enter Tryz.func50, Tryz.ntmps50
  go_wp2
  go_ret
  exact ⟨tv, es, _, rfl, HS.out, Fr.refl _ _ _, HN.out, rfl, rfl, rfl, fun q => absurd q (by simp [HM.out])⟩
set_option maxRecDepth 100000 in
set_option maxHeartbeats 4000000 in
theorem dsign_4q {w : World} {B p : Nat} {tv : Value} {es : List Int} {d : Dc} {n : Dn} {c : Int} (H : DcS w B p tv es d) (hn : dEq d n) (hu : uByt n.opn) (hl : n.opn.length ≤ 128) (h0 : 0 ≤ c) (h1 : c < 256) (hm : n.mode = 4) (hc : c = 34) : Calls Tryz.prog 50 #[.pointer (some ⟨p, 0, none⟩), .int .u8 c] w (DOut w B p tv d (.int .i64 (dSign c n).1) (dSign c n).2 (decide ((dSign c n).2.mode = 6))) := by
  have E : dSign c n = (3, n) := by unfold dSign; rw [if_neg (by omega), if_neg (by omega), if_neg (by omega), if_neg (by omega), if_neg (by omega)]
  rw [E]; clear E
  have HS := hide H
  have HN := hide hn
  have HM := hide hm
  have f1 := H.frz 1
  have f2 := H.frz 2
  have c1 := (dg_of H.blk).c1
  have c2 := (dg_of H.blk).c2
  rw [hn.1, hm] at c1

  obtain ⟨sw, hsw⟩ : ∃ sw, strOfNums d.opn = sw := ⟨_, rfl⟩
  rw [hsw] at c2
  clear hsw
  clear H hn hu hl hm
  go_enter Tryz.func50, Tryz.ntmps50
  go_wp2
  go_ret
  exact ⟨tv, es, _, rfl, HS.out, Fr.refl _ _ _, HN.out, rfl, rfl, rfl, fun q => absurd q (by simp [HM.out])⟩
theorem dsign_4 {w : World} {B p : Nat} {tv : Value} {es : List Int} {d : Dc} {n : Dn} {c : Int} (H : DcS w B p tv es d) (hn : dEq d n) (hu : uByt n.opn) (hl : n.opn.length ≤ 128) (h0 : 0 ≤ c) (h1 : c < 256) (hm : n.mode = 4) : Calls Tryz.prog 50 #[.pointer (some ⟨p, 0, none⟩), .int .u8 c] w (DOut w B p tv d (.int .i64 (dSign c n).1) (dSign c n).2 (decide ((dSign c n).2.mode = 6))) := by
  by_cases k : c = 58
  · exact dsign_4c H hn hu hl h0 h1 hm k
  by_cases k2 : c = 34
  · exact dsign_4q H hn hu hl h0 h1 hm k2
  · exact dsign_4o H hn hu hl h0 h1 hm k2 k
set_option maxRecDepth 100000 in
set_option maxHeartbeats 4000000 in
theorem dsign_5c93 {w : World} {B p : Nat} {tv : Value} {es : List Int} {d : Dc} {n : Dn} {c : Int} (H : DcS w B p tv es d) (hn : dEq d n) (hu : uByt n.opn) (hl : n.opn.length ≤ 128) (h0 : 0 ≤ c) (h1 : c < 256) (hm : n.mode = 5) (hc : c = 93) (hcl : dCl c n.opn = true) : Calls Tryz.prog 50 #[.pointer (some ⟨p, 0, none⟩), .int .u8 c] w (DOut w B p tv d (.int .i64 (dSign c n).1) (dSign c n).2 (decide ((dSign c n).2.mode = 6))) := by
  subst hc
  have E : dSign 93 n = (0, { n with opn := n.opn.dropLast, mode := 5 }) := by unfold dSign; rw [if_pos ⟨by omega, by omega, hcl⟩]
  rw [E]; clear E
  have C := hide (dcloses (c := 93) H hn (by rw [hn.2.1]; exact hu) (by rw [hn.2.1]; exact hl))
  rw [hcl, if_pos rfl] at C
  have HS := hide H
  have HN := hide hn
  have HM := hide hm
  have f1 := H.frz 1
  have f2 := H.frz 2
  have c1 := (dg_of H.blk).c1
  have c2 := (dg_of H.blk).c2
  rw [hn.1, hm] at c1
  clear H hn hu hl hm hcl
  go_enter Tryz.func50, Tryz.ntmps50
  go_wp2_with fail
  refine C.out.mono ?_
  rintro e w1 hq
  have Q := hide hq
  obtain ⟨tv', es', d', rfl, q1, q2, q3, q4, q5, q6, q7⟩ := hq
  clear q1 q2 q3 q4 q5 q6 q7 C
  go_wp2
  go_ret
  obtain ⟨tv', es', d', _, q1, q2, q3, q4, q5, q6, q7⟩ := Q.out
  exact ⟨tv', es', d', rfl, q1, q2, q3, q4, q5, q6, fun q => absurd q (by simp)⟩
set_option maxRecDepth 100000 in
set_option maxHeartbeats 4000000 in
theorem dsign_5c125 {w : World} {B p : Nat} {tv : Value} {es : List Int} {d : Dc} {n : Dn} {c : Int} (H : DcS w B p tv es d) (hn : dEq d n) (hu : uByt n.opn) (hl : n.opn.length ≤ 128) (h0 : 0 ≤ c) (h1 : c < 256) (hm : n.mode = 5) (hc : c = 125) (hcl : dCl c n.opn = true) : Calls Tryz.prog 50 #[.pointer (some ⟨p, 0, none⟩), .int .u8 c] w (DOut w B p tv d (.int .i64 (dSign c n).1) (dSign c n).2 (decide ((dSign c n).2.mode = 6))) := by
  subst hc
  have E : dSign 125 n = (0, { n with opn := n.opn.dropLast, mode := 5 }) := by unfold dSign; rw [if_pos ⟨by omega, by omega, hcl⟩]
  rw [E]; clear E
  have C := hide (dcloses (c := 125) H hn (by rw [hn.2.1]; exact hu) (by rw [hn.2.1]; exact hl))
  rw [hcl, if_pos rfl] at C
  have HS := hide H
  have HN := hide hn
  have HM := hide hm
  have f1 := H.frz 1
  have f2 := H.frz 2
  have c1 := (dg_of H.blk).c1
  have c2 := (dg_of H.blk).c2
  rw [hn.1, hm] at c1
  clear H hn hu hl hm hcl
  go_enter Tryz.func50, Tryz.ntmps50
  go_wp2_with fail
  refine C.out.mono ?_
  rintro e w1 hq
  have Q := hide hq
  obtain ⟨tv', es', d', rfl, q1, q2, q3, q4, q5, q6, q7⟩ := hq
  clear q1 q2 q3 q4 q5 q6 q7 C
  go_wp2
  go_ret
  obtain ⟨tv', es', d', _, q1, q2, q3, q4, q5, q6, q7⟩ := Q.out
  exact ⟨tv', es', d', rfl, q1, q2, q3, q4, q5, q6, fun q => absurd q (by simp)⟩
set_option maxRecDepth 100000 in
set_option maxHeartbeats 4000000 in
theorem dsign_5n93 {w : World} {B p : Nat} {tv : Value} {es : List Int} {d : Dc} {n : Dn} {c : Int} (H : DcS w B p tv es d) (hn : dEq d n) (hu : uByt n.opn) (hl : n.opn.length ≤ 128) (h0 : 0 ≤ c) (h1 : c < 256) (hm : n.mode = 5) (hc : c = 93) (hcl : dCl c n.opn = false) : Calls Tryz.prog 50 #[.pointer (some ⟨p, 0, none⟩), .int .u8 c] w (DOut w B p tv d (.int .i64 (dSign c n).1) (dSign c n).2 (decide ((dSign c n).2.mode = 6))) := by
  subst hc
  have E : dSign 93 n = (3, n) := by unfold dSign; rw [if_neg (by simp [hcl]), if_neg (by omega), if_neg (by omega), if_neg (by omega), if_neg (by omega)]
  rw [E]; clear E
  have C := hide (dcloses (c := 93) H hn (by rw [hn.2.1]; exact hu) (by rw [hn.2.1]; exact hl))
  rw [hcl, if_neg (by simp)] at C
  have HU := hide (And.intro hu hl)
  have HS := hide H
  have HN := hide hn
  have HM := hide hm
  have f1 := H.frz 1
  have f2 := H.frz 2
  have c1 := (dg_of H.blk).c1
  have c2 := (dg_of H.blk).c2
  rw [hn.1, hm] at c1
  clear H hn hu hl hm hcl f1 f2 c2
  go_enter Tryz.func50, Tryz.ntmps50
  go_wp2_with fail
  refine C.out.mono ?_
  rintro e w1 ⟨tv1, es1, d1, rfl, q1, q2, q3, q4, q5, q6, q7⟩
  have Q := hide (show _ ∧ _ ∧ _ ∧ _ ∧ _ ∧ _ from ⟨q1, q2, q3, q4, q5, q6⟩)
  have c1 := (dg_of q1.blk).c1
  have c2 := (dg_of q1.blk).c2
  rw [q3.1, HM.out] at c1
  obtain ⟨sw, hsw⟩ : ∃ sw, strOfNums d1.opn = sw := ⟨_, rfl⟩
  rw [hsw] at c2
  clear hsw
  clear q1 q2 q3 q4 q5 q6 q7 C HU
  go_wp2
  go_ret
  obtain ⟨q1, q2, q3, q4, q5, q6⟩ := Q.out
  exact ⟨tv1, es1, d1, rfl, q1, q2, q3, q4, q5, q6, fun q => absurd q (by simp [HM.out])⟩
set_option maxRecDepth 100000 in
set_option maxHeartbeats 4000000 in
theorem dsign_5n125 {w : World} {B p : Nat} {tv : Value} {es : List Int} {d : Dc} {n : Dn} {c : Int} (H : DcS w B p tv es d) (hn : dEq d n) (hu : uByt n.opn) (hl : n.opn.length ≤ 128) (h0 : 0 ≤ c) (h1 : c < 256) (hm : n.mode = 5) (hc : c = 125) (hcl : dCl c n.opn = false) : Calls Tryz.prog 50 #[.pointer (some ⟨p, 0, none⟩), .int .u8 c] w (DOut w B p tv d (.int .i64 (dSign c n).1) (dSign c n).2 (decide ((dSign c n).2.mode = 6))) := by
  subst hc
  have E : dSign 125 n = (3, n) := by unfold dSign; rw [if_neg (by simp [hcl]), if_neg (by omega), if_neg (by omega), if_neg (by omega), if_neg (by omega)]
  rw [E]; clear E
  have C := hide (dcloses (c := 125) H hn (by rw [hn.2.1]; exact hu) (by rw [hn.2.1]; exact hl))
  rw [hcl, if_neg (by simp)] at C
  have HU := hide (And.intro hu hl)
  have HS := hide H
  have HN := hide hn
  have HM := hide hm
  have f1 := H.frz 1
  have f2 := H.frz 2
  have c1 := (dg_of H.blk).c1
  have c2 := (dg_of H.blk).c2
  rw [hn.1, hm] at c1
  clear H hn hu hl hm hcl f1 f2 c2
  go_enter Tryz.func50, Tryz.ntmps50
  go_wp2_with fail
  refine C.out.mono ?_
  rintro e w1 ⟨tv1, es1, d1, rfl, q1, q2, q3, q4, q5, q6, q7⟩
  have Q := hide (show _ ∧ _ ∧ _ ∧ _ ∧ _ ∧ _ from ⟨q1, q2, q3, q4, q5, q6⟩)
  have c1 := (dg_of q1.blk).c1
  have c2 := (dg_of q1.blk).c2
  rw [q3.1, HM.out] at c1
  obtain ⟨sw, hsw⟩ : ∃ sw, strOfNums d1.opn = sw := ⟨_, rfl⟩
  rw [hsw] at c2
  clear hsw
  clear q1 q2 q3 q4 q5 q6 q7 C HU
  go_wp2
  go_ret
  obtain ⟨q1, q2, q3, q4, q5, q6⟩ := Q.out
  exact ⟨tv1, es1, d1, rfl, q1, q2, q3, q4, q5, q6, fun q => absurd q (by simp [HM.out])⟩
set_option maxRecDepth 100000 in
set_option maxHeartbeats 4000000 in
theorem dsign_5o {w : World} {B p : Nat} {tv : Value} {es : List Int} {d : Dc} {n : Dn} {c : Int} (H : DcS w B p tv es d) (hn : dEq d n) (hu : uByt n.opn) (hl : n.opn.length ≤ 128) (h0 : 0 ≤ c) (h1 : c < 256) (hm : n.mode = 5) (hc : c ≠ 34) (hc1 : c ≠ 93) (hc2 : c ≠ 125) (hc3 : c ≠ 44) : Calls Tryz.prog 50 #[.pointer (some ⟨p, 0, none⟩), .int .u8 c] w (DOut w B p tv d (.int .i64 (dSign c n).1) (dSign c n).2 (decide ((dSign c n).2.mode = 6))) := by
  have E : dSign c n = (3, n) := by unfold dSign; rw [if_neg (by omega), if_neg (by omega), if_neg (by rintro ⟨_, e, _⟩; omega), if_neg (by omega), if_neg (by omega)]
  rw [E]; clear E
  have HS := hide H
  have HN := hide hn
  have HM := hide hm
  have f1 := H.frz 1
  have f2 := H.frz 2
  have c1 := (dg_of H.blk).c1
  have c2 := (dg_of H.blk).c2
  rw [hn.1, hm] at c1
  have b34 : (c == 34) = false := by simp; omega
  have b93 : (c == 93) = false := by simp; omega
  have b125 : (c == 125) = false := by simp; omega
  have b44 : (c == 44) = false := by simp; omega
  obtain ⟨sw, hsw⟩ : ∃ sw, strOfNums d.opn = sw := ⟨_, rfl⟩
  rw [hsw] at c2
  clear hsw
  clear H hn hu hl hm
  go_enter Tryz.func50, Tryz.ntmps50
  go_wp2
  go_ret
  exact ⟨tv, es, _, rfl, HS.out, Fr.refl _ _ _, HN.out, rfl, rfl, rfl, fun q => absurd q (by simp [HM.out])⟩
set_option maxRecDepth 100000 in
set_option maxHeartbeats 4000000 in
theorem dsign_5q {w : World} {B p : Nat} {tv : Value} {es : List Int} {d : Dc} {n : Dn} {c : Int} (H : DcS w B p tv es d) (hn : dEq d n) (hu : uByt n.opn) (hl : n.opn.length ≤ 128) (h0 : 0 ≤ c) (h1 : c < 256) (hm : n.mode = 5) (hc : c = 34) : Calls Tryz.prog 50 #[.pointer (some ⟨p, 0, none⟩), .int .u8 c] w (DOut w B p tv d (.int .i64 (dSign c n).1) (dSign c n).2 (decide ((dSign c n).2.mode = 6))) := by
  have E : dSign c n = (3, n) := by unfold dSign; rw [if_neg (by omega), if_neg (by omega), if_neg (by rintro ⟨_, e, _⟩; omega), if_neg (by omega), if_neg (by omega)]
  rw [E]; clear E
  have HS := hide H
  have HN := hide hn
  have HM := hide hm
  have f1 := H.frz 1
  have f2 := H.frz 2
  have c1 := (dg_of H.blk).c1
  have c2 := (dg_of H.blk).c2
  rw [hn.1, hm] at c1

  obtain ⟨sw, hsw⟩ : ∃ sw, strOfNums d.opn = sw := ⟨_, rfl⟩
  rw [hsw] at c2
  clear hsw
  clear H hn hu hl hm
  go_enter Tryz.func50, Tryz.ntmps50
  go_wp2
  go_ret
  exact ⟨tv, es, _, rfl, HS.out, Fr.refl _ _ _, HN.out, rfl, rfl, rfl, fun q => absurd q (by simp [HM.out])⟩
set_option maxRecDepth 100000 in
set_option maxHeartbeats 4000000 in
theorem dsign_5e {w : World} {B p : Nat} {tv : Value} {es : List Int} {d : Dc} {n : Dn} {c : Int} (H : DcS w B p tv es d) (hn : dEq d n) (hu : uByt n.opn) (hl : n.opn.length ≤ 128) (h0 : 0 ≤ c) (h1 : c < 256) (hm : n.mode = 5) (hc : c = 44) (he : n.opn = []) : Calls Tryz.prog 50 #[.pointer (some ⟨p, 0, none⟩), .int .u8 c] w (DOut w B p tv d (.int .i64 (dSign c n).1) (dSign c n).2 (decide ((dSign c n).2.mode = 6))) := by
  subst hc
  have E : dSign 44 n = (3, n) := by unfold dSign; rw [if_neg (by omega), if_neg (by omega), if_neg (by simp [he]), if_neg (by omega), if_neg (by omega)]
  rw [E]; clear E
  have HS := hide H
  have HN := hide hn
  have HM := hide hm
  have f1 := H.frz 1
  have f2 := H.frz 2
  have c1 := (dg_of H.blk).c1
  have c2 := (dg_of H.blk).c2
  rw [hn.1, hm] at c1
  rw [hn.2.1, he, show strOfNums [] = ⟨#[]⟩ from rfl] at c2
  clear H hn hu hl hm he
  go_enter Tryz.func50, Tryz.ntmps50
  go_wp2
  go_ret
  exact ⟨tv, es, _, rfl, HS.out, Fr.refl _ _ _, HN.out, rfl, rfl, rfl, fun q => absurd q (by simp [HM.out])⟩
set_option maxRecDepth 100000 in
set_option maxHeartbeats 4000000 in
theorem dsign_5l {w : World} {B p : Nat} {tv : Value} {es : List Int} {d : Dc} {n : Dn} {c : Int} (H : DcS w B p tv es d) (hn : dEq d n) (hu : uByt n.opn) (hl : n.opn.length ≤ 128) (h0 : 0 ≤ c) (h1 : c < 256) (hm : n.mode = 5) (hc : c = 44) (he : n.opn ≠ []) (hx : n.opn.getLastD 0 ≠ 123) : Calls Tryz.prog 50 #[.pointer (some ⟨p, 0, none⟩), .int .u8 c] w (DOut w B p tv d (.int .i64 (dSign c n).1) (dSign c n).2 (decide ((dSign c n).2.mode = 6))) := by
  subst hc
  have E : dSign 44 n = (0, { n with mode := 0 }) := by unfold dSign; rw [if_neg (by omega), if_neg (by omega), if_pos ⟨hm, rfl, he⟩, if_neg hx]
  rw [E]; clear E
  have HS := hide H
  have HN := hide hn
  have HM := hide hm
  have f1 := H.frz 1
  have f2 := H.frz 2
  have c1 := (dg_of H.blk).c1
  have c2 := (dg_of H.blk).c2
  rw [hn.1, hm] at c1
  rw [hn.2.1] at c2
  obtain ⟨o, x, ho⟩ : ∃ o x, n.opn = o ++ [x] := ⟨n.opn.dropLast, n.opn.getLast he, (List.dropLast_concat_getLast he).symm⟩
  obtain ⟨sw, hsw⟩ : ∃ sw, strOfNums n.opn = sw := ⟨_, rfl⟩
  rw [hsw] at c2
  have hsz : sw.size = o.length + 1 := by rw [← hsw, strOfNums_size, ho]; simp
  obtain ⟨K, hK⟩ : ∃ K, o.length = K := ⟨_, rfl⟩
  have hKl : K ≤ 127 := by rw [ho] at hl; simp at hl; omega
  rw [hK] at hsz
  have hlt : K < sw.size := by omega
  have hix : ((sw[K]'hlt).toNat : Int) = x := by
    subst hsw
    rw [utxt_at hlt hu, ho, ← hK]
    simp [Nt.lb]
  have hgx : n.opn.getLastD 0 = x := by rw [ho]; simp
  rw [hgx] at hx
  have hkk : ((K : Int) + 1 - 1) = K := by omega
  have hemp : sw.toList.isEmpty = false := jtxt_full (by omega)
  have hx2 : (x == 123) = false := by simp; exact hx
  clear H hn hu hl hm he hsw ho hgx hK
  go_enter Tryz.func50, Tryz.ntmps50
  go_wp2_with fail
  first | go_region | go_quiet (fail)
  go_wp2
  go_ret
  exact ⟨tv, es, _, rfl, (HS.out.mode 0).drew, ((Fr.refl _ _ _).setP _).drew, ⟨rfl, HN.out.2.1, HN.out.2.2.1, HN.out.2.2.2⟩, rfl, rfl, rfl, fun q => absurd q (by simp)⟩
set_option maxRecDepth 100000 in
set_option maxHeartbeats 4000000 in
theorem dsign_5m {w : World} {B p : Nat} {tv : Value} {es : List Int} {d : Dc} {n : Dn} {c : Int} (H : DcS w B p tv es d) (hn : dEq d n) (hu : uByt n.opn) (hl : n.opn.length ≤ 128) (h0 : 0 ≤ c) (h1 : c < 256) (hm : n.mode = 5) (hc : c = 44) (he : n.opn ≠ []) (hx : n.opn.getLastD 0 = 123) : Calls Tryz.prog 50 #[.pointer (some ⟨p, 0, none⟩), .int .u8 c] w (DOut w B p tv d (.int .i64 (dSign c n).1) (dSign c n).2 (decide ((dSign c n).2.mode = 6))) := by
  subst hc
  have E : dSign 44 n = (0, { n with mode := 3 }) := by unfold dSign; rw [if_neg (by omega), if_neg (by omega), if_pos ⟨hm, rfl, he⟩, if_pos hx]
  rw [E]; clear E
  have HS := hide H
  have HN := hide hn
  have HM := hide hm
  have f1 := H.frz 1
  have f2 := H.frz 2
  have c1 := (dg_of H.blk).c1
  have c2 := (dg_of H.blk).c2
  rw [hn.1, hm] at c1
  rw [hn.2.1] at c2
  obtain ⟨o, x, ho⟩ : ∃ o x, n.opn = o ++ [x] := ⟨n.opn.dropLast, n.opn.getLast he, (List.dropLast_concat_getLast he).symm⟩
  obtain ⟨sw, hsw⟩ : ∃ sw, strOfNums n.opn = sw := ⟨_, rfl⟩
  rw [hsw] at c2
  have hsz : sw.size = o.length + 1 := by rw [← hsw, strOfNums_size, ho]; simp
  obtain ⟨K, hK⟩ : ∃ K, o.length = K := ⟨_, rfl⟩
  have hKl : K ≤ 127 := by rw [ho] at hl; simp at hl; omega
  rw [hK] at hsz
  have hlt : K < sw.size := by omega
  have hix : ((sw[K]'hlt).toNat : Int) = x := by
    subst hsw
    rw [utxt_at hlt hu, ho, ← hK]
    simp [Nt.lb]
  have hgx : n.opn.getLastD 0 = x := by rw [ho]; simp
  rw [hgx] at hx
  have hkk : ((K : Int) + 1 - 1) = K := by omega
  have hemp : sw.toList.isEmpty = false := jtxt_full (by omega)
  have hx2 : (x == 123) = true := by simp [hx]
  clear H hn hu hl hm he hsw ho hgx hK
  subst hx
  go_enter Tryz.func50, Tryz.ntmps50
  go_wp2_with fail
  first | go_region | go_quiet (fail)
  go_wp2
  go_ret
  exact ⟨tv, es, _, rfl, ((HS.out.mode 0).mode 3).drew, (((Fr.refl _ _ _).setP _).setP _).drew, ⟨rfl, HN.out.2.1, HN.out.2.2.1, HN.out.2.2.2⟩, rfl, rfl, rfl, fun q => absurd q (by simp)⟩
theorem dsign_5 {w : World} {B p : Nat} {tv : Value} {es : List Int} {d : Dc} {n : Dn} {c : Int} (H : DcS w B p tv es d) (hn : dEq d n) (hu : uByt n.opn) (hl : n.opn.length ≤ 128) (h0 : 0 ≤ c) (h1 : c < 256) (hm : n.mode = 5) : Calls Tryz.prog 50 #[.pointer (some ⟨p, 0, none⟩), .int .u8 c] w (DOut w B p tv d (.int .i64 (dSign c n).1) (dSign c n).2 (decide ((dSign c n).2.mode = 6))) := by
  by_cases k1 : c = 93
  · cases hcl : dCl c n.opn with
    | true => exact dsign_5c93 H hn hu hl h0 h1 hm k1 hcl
    | false => exact dsign_5n93 H hn hu hl h0 h1 hm k1 hcl
  by_cases k2 : c = 125
  · cases hcl : dCl c n.opn with
    | true => exact dsign_5c125 H hn hu hl h0 h1 hm k2 hcl
    | false => exact dsign_5n125 H hn hu hl h0 h1 hm k2 hcl
  by_cases k3 : c = 44
  · by_cases he : n.opn = []
    · exact dsign_5e H hn hu hl h0 h1 hm k3 he
    · by_cases hx : n.opn.getLastD 0 = 123
      · exact dsign_5m H hn hu hl h0 h1 hm k3 he hx
      · exact dsign_5l H hn hu hl h0 h1 hm k3 he hx
  by_cases k : c = 34
  · exact dsign_5q H hn hu hl h0 h1 hm k
  · exact dsign_5o H hn hu hl h0 h1 hm k k1 k2 k3
theorem dsign {w : World} {B p : Nat} {tv : Value} {es : List Int} {d : Dc} {n : Dn} {c : Int} (H : DcS w B p tv es d) (hn : dEq d n) (hu : uByt n.opn) (hl : n.opn.length ≤ 128) (h0 : 0 ≤ c) (h1 : c < 256) (hm : n.mode ≤ 5) : Calls Tryz.prog 50 #[.pointer (some ⟨p, 0, none⟩), .int .u8 c] w (DOut w B p tv d (.int .i64 (dSign c n).1) (dSign c n).2 (decide ((dSign c n).2.mode = 6))) := by
  have h : n.mode = 0 ∨ n.mode = 1 ∨ n.mode = 2 ∨ n.mode = 3 ∨ n.mode = 4 ∨ n.mode = 5 := by omega
  rcases h with h | h | h | h | h | h
  · exact dsign_0 H hn hu hl h0 h1 h
  · exact dsign_1 H hn hu hl h0 h1 h
  · exact dsign_2 H hn hu hl h0 h1 h
  · exact dsign_3 H hn hu hl h0 h1 h
  · exact dsign_4 H hn hu hl h0 h1 h
  · exact dsign_5 H hn hu hl h0 h1 h

end Go.Proofs.YtefmlajndillbaaGreatDoor
