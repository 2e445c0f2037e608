/- ref16 on the document's scanner: step -/
import Derived.Test.YtefmlajndillbaaGreatDoorDnC
import Derived.Test.YtefmlajndillbaaGreatDoorDcT
namespace Go.Proofs.YtefmlajndillbaaGreatDoor
open Go.RowKit
set_option linter.unusedVariables false

theorem DOut.lit0 {w w' : World} {B p : Nat} {tv : Value} {d : Dc} {v : Value} {n : Dn} {l : Bool} {e : Ending} (h : DOut w B p tv d v n l e w') (hm : n.mode ≠ 6) : DOut w B p tv d v n (decide (n.mode = 6)) e w' := h.lit (fun e => absurd (by simpa using e) hm)
set_option maxRecDepth 100000 in
set_option maxHeartbeats 4000000 in
theorem dstp_wa {w : World} {B p : Nat} {tv : Value} {es : List Int} {d : Dc} {n : Dn} {c : Int} {a : Int} {l : List Int} (H : DcS w B p tv es d) (hn : dEq d n) (hm : n.mode = 7) (hr : n.rest = a :: l) (hu : uByt (a :: l)) (hz : l.length ≤ 8) (hc : c = a) (hl : l = []) : Calls Tryz.prog 34 #[.pointer (some ⟨p, 0, none⟩), .int .u8 c] w (DOut w B p tv d (.int .i64 (dStp c n).1) (dStp c n).2 (decide ((dStp c n).2.mode = 6))) := by
  have HS := hide H
  have HN := hide hn
  have HM := hide hm
  have f1 := H.frz 1
  have f11 := H.frz 11
  have c1 := (dg_of H.blk).c1
  have c11 := (dg_of H.blk).c11
  rw [hn.1, hm] at c1
  rw [hn.2.2.2, hr] at c11
  obtain ⟨sw, hsw⟩ : ∃ sw, strOfNums (a :: l) = sw := ⟨_, rfl⟩
  rw [hsw] at c11
  have hsz : sw.size = l.length + 1 := by rw [← hsw, strOfNums_size]; simp
  have h0 : 0 < sw.size := by omega
  have hix : ((sw[0]'h0).toNat : Int) = a := by subst hsw; exact utxt_at (p := 0) h0 hu
  have hcut : sw.extract 1 sw.size = strOfNums l := by
    rw [hsz, ← hsw, utxt_cut]; simp
  rw [hsz] at hcut
  have hb1 : (1 : Int) ≤ ((l.length + 1 : Nat) : Int) := by omega
  have E : dStp c n = (0, { n with rest := [], mode := 5 }) := by unfold dStp; rw [if_pos hm, hr]; simp [hc, hl]
  rw [E]; clear E
  subst hl
  subst hc
  have he : strOfNums [] = ⟨#[]⟩ := rfl
  rw [he] at hcut
  have HP := hide (HS.out.rest [])
  rw [he] at HP
  clear H hn hm hr hu hsw he hz
  go_enter Tryz.func34, Tryz.ntmps34
  go_wp2
  go_ret
  exact ⟨tv, es, _, rfl, HP.out.mode 5, ((Fr.refl _ _ _).setP _).setP _, ⟨rfl, HN.out.2.1, HN.out.2.2.1, rfl⟩, rfl, rfl, rfl, fun q => absurd q (by simp)⟩
set_option maxRecDepth 100000 in
set_option maxHeartbeats 4000000 in
theorem dstp_wb {w : World} {B p : Nat} {tv : Value} {es : List Int} {d : Dc} {n : Dn} {c : Int} {a : Int} {l : List Int} (H : DcS w B p tv es d) (hn : dEq d n) (hm : n.mode = 7) (hr : n.rest = a :: l) (hu : uByt (a :: l)) (hz : l.length ≤ 8) (hc : c = a) (hl : l ≠ []) : Calls Tryz.prog 34 #[.pointer (some ⟨p, 0, none⟩), .int .u8 c] w (DOut w B p tv d (.int .i64 (dStp c n).1) (dStp c n).2 (decide ((dStp c n).2.mode = 6))) := by
  have HS := hide H
  have HN := hide hn
  have HM := hide hm
  have f1 := H.frz 1
  have f11 := H.frz 11
  have c1 := (dg_of H.blk).c1
  have c11 := (dg_of H.blk).c11
  rw [hn.1, hm] at c1
  rw [hn.2.2.2, hr] at c11
  obtain ⟨sw, hsw⟩ : ∃ sw, strOfNums (a :: l) = sw := ⟨_, rfl⟩
  rw [hsw] at c11
  have hsz : sw.size = l.length + 1 := by rw [← hsw, strOfNums_size]; simp
  have h0 : 0 < sw.size := by omega
  have hix : ((sw[0]'h0).toNat : Int) = a := by subst hsw; exact utxt_at (p := 0) h0 hu
  have hcut : sw.extract 1 sw.size = strOfNums l := by
    rw [hsz, ← hsw, utxt_cut]; simp
  rw [hsz] at hcut
  have hb1 : (1 : Int) ≤ ((l.length + 1 : Nat) : Int) := by omega
  have E : dStp c n = (0, { n with rest := l, mode := 7 }) := by unfold dStp; rw [if_pos hm, hr]; simp [hc, hl]
  rw [E]; clear E
  subst hc
  have HP := hide (HS.out.rest l)
  have hns : (strOfNums l).toList.isEmpty = false := jtxt_full (by rw [strOfNums_size]; rcases Nat.eq_zero_or_pos l.length with e | e; exact absurd (List.eq_nil_of_length_eq_zero e) hl; exact e)
  generalize strOfNums l = sl at hcut HP hns
  clear H hn hm hr hu hsw hl
  go_enter Tryz.func34, Tryz.ntmps34
  go_wp2
  go_ret
  exact ⟨tv, es, _, rfl, HP.out, (Fr.refl _ _ _).setP _, ⟨by show d.mode = _; rw [HN.out.1, HM.out], HN.out.2.1, HN.out.2.2.1, rfl⟩, rfl, rfl, rfl, fun q => absurd q (by simp)⟩
set_option maxRecDepth 100000 in
set_option maxHeartbeats 4000000 in
theorem dstp_wc {w : World} {B p : Nat} {tv : Value} {es : List Int} {d : Dc} {n : Dn} {c : Int} {a : Int} {l : List Int} (H : DcS w B p tv es d) (hn : dEq d n) (hm : n.mode = 7) (hr : n.rest = a :: l) (hu : uByt (a :: l)) (hz : l.length ≤ 8) (hc : c ≠ a) : Calls Tryz.prog 34 #[.pointer (some ⟨p, 0, none⟩), .int .u8 c] w (DOut w B p tv d (.int .i64 (dStp c n).1) (dStp c n).2 (decide ((dStp c n).2.mode = 6))) := by
  have HS := hide H
  have HN := hide hn
  have HM := hide hm
  have f1 := H.frz 1
  have f11 := H.frz 11
  have c1 := (dg_of H.blk).c1
  have c11 := (dg_of H.blk).c11
  rw [hn.1, hm] at c1
  rw [hn.2.2.2, hr] at c11
  obtain ⟨sw, hsw⟩ : ∃ sw, strOfNums (a :: l) = sw := ⟨_, rfl⟩
  rw [hsw] at c11
  have hsz : sw.size = l.length + 1 := by rw [← hsw, strOfNums_size]; simp
  have h0 : 0 < sw.size := by omega
  have hix : ((sw[0]'h0).toNat : Int) = a := by subst hsw; exact utxt_at (p := 0) h0 hu
  have hcut : sw.extract 1 sw.size = strOfNums l := by
    rw [hsz, ← hsw, utxt_cut]; simp
  rw [hsz] at hcut
  have hb1 : (1 : Int) ≤ ((l.length + 1 : Nat) : Int) := by omega
  have E : dStp c n = (3, n) := by unfold dStp; rw [if_pos hm, hr]; simp [hc]
  rw [E]; clear E
  have hc2 : (c != a) = true := by simpa using hc
  clear H hn hm hr hu hsw hc hcut
  go_enter Tryz.func34, Tryz.ntmps34
  go_wp2
  go_ret
  exact ⟨tv, es, _, rfl, HS.out, Fr.refl _ _ _, HN.out, rfl, rfl, rfl, fun q => absurd q (by simp [HM.out])⟩
theorem dstp_w {w : World} {B p : Nat} {tv : Value} {es : List Int} {d : Dc} {n : Dn} {c : Int} (H : DcS w B p tv es d) (hn : dEq d n) (hm : n.mode = 7) (hr : n.rest ≠ []) (hu : uByt n.rest) (hz : n.rest.length ≤ 8) : Calls Tryz.prog 34 #[.pointer (some ⟨p, 0, none⟩), .int .u8 c] w (DOut w B p tv d (.int .i64 (dStp c n).1) (dStp c n).2 (decide ((dStp c n).2.mode = 6))) := by
  obtain ⟨a, l, hcl⟩ : ∃ a l, n.rest = a :: l := by cases hw : n.rest with | nil => exact absurd hw hr | cons a l => exact ⟨a, l, rfl⟩
  rw [hcl] at hu hz
  have hz' : l.length ≤ 8 := by simp at hz; omega
  by_cases k : c = a
  · by_cases hl : l = []
    · exact dstp_wa H hn hm hcl hu hz' k hl
    · exact dstp_wb H hn hm hcl hu hz' k hl
  · exact dstp_wc H hn hm hcl hu hz' k
set_option maxRecDepth 100000 in
set_option maxHeartbeats 4000000 in
theorem dstp_by {w : World} {B p : Nat} {tv : Value} {es : List Int} {d : Dc} {n : Dn} {c : Int} (H : DcS w B p tv es d) (hn : dEq d n) (hu : uByt n.opn) (hl : n.opn.length ≤ 128) (h0 : 0 ≤ c) (h1 : c < 256) (hm : n.mode ≤ 5) (hb : blankB c = true) : Calls Tryz.prog 34 #[.pointer (some ⟨p, 0, none⟩), .int .u8 c] w (DOut w B p tv d (.int .i64 (dStp c n).1) (dStp c n).2 (decide ((dStp c n).2.mode = 6))) := by
  have E : dStp c n = (0, n) := by unfold dStp dBet; rw [if_neg (by omega), if_neg (by omega), hb]; simp
  rw [E]; clear E
  have C := hide (rblank (w := w) (b := c))
  rw [hb] at C
  have HS := hide H
  have HN := hide hn
  have HM := hide hm
  have c1 := (dg_of H.blk).c1
  rw [hn.1] at c1
  obtain ⟨M, hMM⟩ : ∃ M : Int, (n.mode : Int) = M := ⟨_, rfl⟩
  rw [hMM] at c1
  have m6 : (M == 6) = false := by simp; omega
  have m7 : (M == 7) = false := by simp; omega
  have m8 : ¬ (8 ≤ M) := by omega
  clear H hn hm hb hMM
  go_enter Tryz.func34, Tryz.ntmps34
  go_wp2_with fail
  refine C.out.mono ?_
  rintro e w1 ⟨rfl, rfl⟩
  clear C
  go_wp2
  go_ret
  exact ⟨tv, es, _, rfl, HS.out, Fr.refl _ _ _, HN.out, rfl, rfl, rfl, fun q => absurd q (by have := HM.out; simp; omega)⟩
set_option maxRecDepth 100000 in
set_option maxHeartbeats 4000000 in
theorem dstp_bn {w : World} {B p : Nat} {tv : Value} {es : List Int} {d : Dc} {n : Dn} {c : Int} (H : DcS w B p tv es d) (hn : dEq d n) (hu : uByt n.opn) (hl : n.opn.length ≤ 128) (h0 : 0 ≤ c) (h1 : c < 256) (hm : n.mode ≤ 5) (hb : blankB c = false) : Calls Tryz.prog 34 #[.pointer (some ⟨p, 0, none⟩), .int .u8 c] w (DOut w B p tv d (.int .i64 (dStp c n).1) (dStp c n).2 (decide ((dStp c n).2.mode = 6))) := by
  have E : dStp c n = dSign c n := by unfold dStp dBet; rw [if_neg (by omega), if_neg (by omega), hb]; simp
  rw [E]; clear E
  have C := hide (rblank (w := w) (b := c))
  rw [hb] at C
  have C2 := hide (dsign H hn hu hl h0 h1 hm)
  have HS := hide H
  have HN := hide hn
  have HM := hide hm
  have c1 := (dg_of H.blk).c1
  rw [hn.1] at c1
  obtain ⟨M, hMM⟩ : ∃ M : Int, (n.mode : Int) = M := ⟨_, rfl⟩
  rw [hMM] at c1
  have m6 : (M == 6) = false := by simp; omega
  have m7 : (M == 7) = false := by simp; omega
  have m8 : ¬ (8 ≤ M) := by omega
  clear H hn hm hb hMM
  go_enter Tryz.func34, Tryz.ntmps34
  go_wp2_with fail
  refine C.out.mono ?_
  rintro e w1 ⟨rfl, rfl⟩
  clear C
  go_wp2_with fail
  refine C2.out.mono ?_
  rintro e w2 hq
  have Q := hide hq
  obtain ⟨tv', es', d', rfl, q1, q2, q3, q4, q5, q6, q7⟩ := hq
  clear q1 q2 q3 q4 q5 q6 q7 C2
  go_wp2
  go_ret
  exact Q.out
set_option maxRecDepth 100000 in
set_option maxHeartbeats 4000000 in
theorem dstp_ng {w : World} {B p : Nat} {tv : Value} {es : List Int} {d : Dc} {n : Dn} {c : Int} {m : Nat} (H : DcS w B p tv es d) (hn : dEq d n) (h8 : 8 ≤ n.mode) (h15 : n.mode ≤ 15) (hg : dGo n.mode c = some m) : Calls Tryz.prog 34 #[.pointer (some ⟨p, 0, none⟩), .int .u8 c] w (DOut w B p tv d (.int .i64 (dStp c n).1) (dStp c n).2 (decide ((dStp c n).2.mode = 6))) := by
  have E : dStp c n = (0, { n with mode := m }) := by rw [dStp_num h8, hg]
  rw [E]; clear E
  have hge := dGo_ge hg h8
  have C := hide (dnumber (c := c) H hn h8 h15)
  rw [hg] at C
  simp only [Option.isSome_some, Option.isNone_some, Bool.false_and, Option.getD_some] at C
  have HS := hide H
  have HN := hide hn
  have c1 := (dg_of H.blk).c1
  rw [hn.1] at c1
  obtain ⟨M, hMM⟩ : ∃ M : Int, (n.mode : Int) = M := ⟨_, rfl⟩
  rw [hMM] at c1
  have HMM := hide hMM
  have m6 : (M == 6) = false := by simp; omega
  have m7 : (M == 7) = false := by simp; omega
  have m8 : 8 ≤ M := by omega
  clear H hn h8 h15 hg hMM
  go_enter Tryz.func34, Tryz.ntmps34
  go_wp2_with fail
  refine C.out.mono ?_
  rintro e w1 ⟨tv1, es1, d1, rfl, q1, q2, q3, q4, q5, q6, q7⟩
  have Q := hide (show _ ∧ _ ∧ _ ∧ _ ∧ _ ∧ _ from ⟨q1, q2, q3, q4, q5, q6⟩)
  clear q1 q2 q3 q4 q5 q6 q7 C
  go_wp2
  go_ret
  obtain ⟨q1, q2, q3, q4, q5, q6⟩ := Q.out
  exact ⟨tv1, es1, d1, rfl, q1, q2, q3, q4, q5, q6, fun q => absurd q (by simp; omega)⟩
set_option maxRecDepth 100000 in
set_option maxHeartbeats 4000000 in
theorem dstp_nn {w : World} {B p : Nat} {tv : Value} {es : List Int} {d : Dc} {n : Dn} {c : Int} (H : DcS w B p tv es d) (hn : dEq d n) (h8 : 8 ≤ n.mode) (h15 : n.mode ≤ 15) (hg : dGo n.mode c = none) (hy : dMay n.mode = false) : Calls Tryz.prog 34 #[.pointer (some ⟨p, 0, none⟩), .int .u8 c] w (DOut w B p tv d (.int .i64 (dStp c n).1) (dStp c n).2 (decide ((dStp c n).2.mode = 6))) := by
  have E : dStp c n = (3, n) := by rw [dStp_num h8, hg]; simp [hy]
  rw [E]; clear E
  have C := hide (dnumber (c := c) H hn h8 h15)
  rw [hg, hy] at C
  simp only [Option.isSome_none, Option.isNone_none, Bool.and_false, Option.getD_none] at C
  have HS := hide H
  have HN := hide hn
  have c1 := (dg_of H.blk).c1
  rw [hn.1] at c1
  obtain ⟨M, hMM⟩ : ∃ M : Int, (n.mode : Int) = M := ⟨_, rfl⟩
  rw [hMM] at c1
  have HMM := hide hMM
  have m6 : (M == 6) = false := by simp; omega
  have m7 : (M == 7) = false := by simp; omega
  have m8 : 8 ≤ M := by omega
  have h6 : n.mode ≠ 6 := by omega
  clear H hn h8 h15 hg hMM hy
  go_enter Tryz.func34, Tryz.ntmps34
  go_wp2_with fail
  refine C.out.mono ?_
  rintro e w1 ⟨tv1, es1, d1, rfl, q1, q2, q3, q4, q5, q6, q7⟩
  have Q := hide (show _ ∧ _ ∧ _ ∧ _ ∧ _ ∧ _ from ⟨q1, q2, q3, q4, q5, q6⟩)
  clear q1 q2 q3 q4 q5 q6 q7 C
  go_wp2
  go_ret
  obtain ⟨q1, q2, q3, q4, q5, q6⟩ := Q.out
  exact ⟨tv1, es1, d1, rfl, q1, q2, q3, q4, q5, q6, fun q => absurd q (by simpa using h6)⟩
set_option maxRecDepth 100000 in
set_option maxHeartbeats 4000000 in
theorem dstp_ey {w : World} {B p : Nat} {tv : Value} {es : List Int} {d : Dc} {n : Dn} {c : Int} (H : DcS w B p tv es d) (hn : dEq d n) (hu : uByt n.opn) (hl : n.opn.length ≤ 128) (h0 : 0 ≤ c) (h1 : c < 256) (h8 : 8 ≤ n.mode) (h15 : n.mode ≤ 15) (hg : dGo n.mode c = none) (hy : dMay n.mode = true) (hb : blankB c = true) : Calls Tryz.prog 34 #[.pointer (some ⟨p, 0, none⟩), .int .u8 c] w (DOut w B p tv d (.int .i64 (dStp c n).1) (dStp c n).2 (decide ((dStp c n).2.mode = 6))) := by
  have E : dStp c n = (0, { n with mode := 5 }) := by rw [dStp_num h8, hg]; simp [hy, dBet, hb]
  rw [E]; clear E
  have C := hide (dnumber (c := c) H hn h8 h15)
  rw [hg, hy] at C
  simp only [Option.isSome_none, Option.isNone_none, Bool.and_true, Option.getD_none] at C
  have HS := hide H
  have HN := hide hn
  have c1 := (dg_of H.blk).c1
  rw [hn.1] at c1
  obtain ⟨M, hMM⟩ : ∃ M : Int, (n.mode : Int) = M := ⟨_, rfl⟩
  rw [hMM] at c1
  have HMM := hide hMM
  have m6 : (M == 6) = false := by simp; omega
  have m7 : (M == 7) = false := by simp; omega
  have m8 : 8 ≤ M := by omega
  have HU := hide (And.intro hu hl)
  clear H hn h8 h15 hg hMM hy hu hl
  go_enter Tryz.func34, Tryz.ntmps34
  go_wp2_with fail
  refine C.out.mono ?_
  rintro e w1 ⟨tv1, es1, d1, rfl, q1, q2, q3, q4, q5, q6, q7⟩
  have f1 := q1.frz 1
  have c1 := (dg_of q1.blk).c1
  have z1 := q1.mode 5
  have z3 : dEq { d1 with mode := 5 } { n with mode := 5 } := ⟨rfl, q3.2.1, q3.2.2.1, q3.2.2.2⟩
  have Q := hide (show _ ∧ _ ∧ _ ∧ _ ∧ _ ∧ _ from ⟨q2.setP (i := 1) (.int .i64 5), q4, q5, q6, z1, z3⟩)
  have C2 := hide (rblank (w := w1.setCell ⟨p, 1, none⟩ (.int .i64 5)) (b := c))
  rw [hb] at C2
  clear q1 q2 q3 q4 q5 q6 q7 C z1 z3 HU
  go_wp2_with fail
  refine C2.out.mono ?_
  rintro e w2 ⟨rfl, rfl⟩
  clear C2
  go_wp2
  go_ret
  obtain ⟨q2, q4, q5, q6, z1, z3⟩ := Q.out
  exact ⟨tv1, es1, _, rfl, z1, q2, z3, q4, q5, q6, fun q => absurd q (by simp)⟩
set_option maxRecDepth 100000 in
set_option maxHeartbeats 4000000 in
theorem dstp_en {w : World} {B p : Nat} {tv : Value} {es : List Int} {d : Dc} {n : Dn} {c : Int} (H : DcS w B p tv es d) (hn : dEq d n) (hu : uByt n.opn) (hl : n.opn.length ≤ 128) (h0 : 0 ≤ c) (h1 : c < 256) (h8 : 8 ≤ n.mode) (h15 : n.mode ≤ 15) (hg : dGo n.mode c = none) (hy : dMay n.mode = true) (hb : blankB c = false) : Calls Tryz.prog 34 #[.pointer (some ⟨p, 0, none⟩), .int .u8 c] w (DOut w B p tv d (.int .i64 (dStp c n).1) (dStp c n).2 (decide ((dStp c n).2.mode = 6))) := by
  have E : dStp c n = dSign c { n with mode := 5 } := by rw [dStp_num h8, hg]; simp [hy, dBet, hb]
  rw [E]; clear E
  have C := hide (dnumber (c := c) H hn h8 h15)
  rw [hg, hy] at C
  simp only [Option.isSome_none, Option.isNone_none, Bool.and_true, Option.getD_none] at C
  have HS := hide H
  have HN := hide hn
  have c1 := (dg_of H.blk).c1
  rw [hn.1] at c1
  obtain ⟨M, hMM⟩ : ∃ M : Int, (n.mode : Int) = M := ⟨_, rfl⟩
  rw [hMM] at c1
  have HMM := hide hMM
  have m6 : (M == 6) = false := by simp; omega
  have m7 : (M == 7) = false := by simp; omega
  have m8 : 8 ≤ M := by omega
  have HU := hide (And.intro hu hl)
  clear H hn h8 h15 hg hMM hy hu hl
  go_enter Tryz.func34, Tryz.ntmps34
  go_wp2_with fail
  refine C.out.mono ?_
  rintro e w1 ⟨tv1, es1, d1, rfl, q1, q2, q3, q4, q5, q6, q7⟩
  have f1 := q1.frz 1
  have c1 := (dg_of q1.blk).c1
  have z1 := q1.mode 5
  have z3 : dEq { d1 with mode := 5 } { n with mode := 5 } := ⟨rfl, q3.2.1, q3.2.2.1, q3.2.2.2⟩
  have Q := hide (show _ ∧ _ ∧ _ ∧ _ ∧ _ ∧ _ from ⟨q2.setP (i := 1) (.int .i64 5), q4, q5, q6, z1, z3⟩)
  have C2 := hide (rblank (w := w1.setCell ⟨p, 1, none⟩ (.int .i64 5)) (b := c))
  rw [hb] at C2
  have C3 := hide (dsign (c := c) z1 z3 HU.out.1 HU.out.2 h0 h1 (by simp))
  clear q1 q2 q3 q4 q5 q6 q7 C z1 z3 HU
  go_wp2_with fail
  refine C2.out.mono ?_
  rintro e w2 ⟨rfl, rfl⟩
  clear C2
  go_wp2_with fail
  refine C3.out.mono ?_
  rintro e w2 hq
  have Q2 := hide hq
  obtain ⟨tv', es', d', rfl, q1, q2, q3, q4, q5, q6, q7⟩ := hq
  clear q1 q2 q3 q4 q5 q6 q7 C3
  go_wp2
  go_ret
  obtain ⟨q2, q4, q5, q6, z1, z3⟩ := Q.out
  exact Q2.out.after q2 q4 q5 q6
theorem dstp {w : World} {B p : Nat} {tv : Value} {es : List Int} {d : Dc} {n : Dn} {c : Int} (H : DcS w B p tv es d) (hn : dEq d n) (hu : uByt n.opn) (hl : n.opn.length ≤ 128) (h0 : 0 ≤ c) (h1 : c < 256) (h6 : n.mode ≠ 6) (h15 : n.mode ≤ 15) (hw : n.mode = 7 → n.rest ≠ [] ∧ uByt n.rest ∧ n.rest.length ≤ 8) : Calls Tryz.prog 34 #[.pointer (some ⟨p, 0, none⟩), .int .u8 c] w (DOut w B p tv d (.int .i64 (dStp c n).1) (dStp c n).2 (decide ((dStp c n).2.mode = 6))) := by
  by_cases k7 : n.mode = 7
  · obtain ⟨g1, g2, g3⟩ := hw k7
    exact dstp_w H hn k7 g1 g2 g3
  by_cases k8 : 8 ≤ n.mode
  · cases hg : dGo n.mode c with
    | some m => exact dstp_ng H hn k8 h15 hg
    | none =>
      cases hy : dMay n.mode with
      | false => exact dstp_nn H hn k8 h15 hg hy
      | true =>
        cases hb : blankB c with
        | true => exact dstp_ey H hn hu hl h0 h1 k8 h15 hg hy hb
        | false => exact dstp_en H hn hu hl h0 h1 k8 h15 hg hy hb
  · cases hb : blankB c with
    | true => exact dstp_by H hn hu hl h0 h1 (by omega) hb
    | false => exact dstp_bn H hn hu hl h0 h1 (by omega) hb

end Go.Proofs.YtefmlajndillbaaGreatDoor
