/- ref10 on the document's scanner: inside -/
import Derived.Test.YtefmlajndillbaaGreatDoorDcS
import Derived.Deep.Cut
namespace Go.Proofs.YtefmlajndillbaaGreatDoor
open Go.RowKit
set_option linter.unusedVariables false

theorem dIn_none {c : Int} (h : c < 32 ∨ (127 < c ∧ c < 194) ∨ 244 < c) : xStep .inn c = none := by
  show xIn c = none
  unfold xIn
  rw [if_neg (by omega), if_neg (by omega), if_pos h]
theorem dIn_self {c : Int} (h0 : 32 ≤ c) (h1 : c < 128) (h2 : c ≠ 34) (h3 : c ≠ 92) : xStep .inn c = some (.inn, [c]) := by
  show xIn c = _
  unfold xIn
  rw [if_neg h2, if_neg h3, if_neg (by omega), if_pos h1]
theorem dIn_byts {c : Int} (h0 : 194 ≤ c) (h1 : c ≤ 244) : xStep .inn c = some (.byts (xLeft c) (xLow c) (xMost c), [c]) := by
  show xIn c = _
  unfold xIn
  rw [if_neg (by omega), if_neg (by omega), if_neg (by omega), if_neg (by omega)]
/-- the facts of the cells -/
structure DF (w : World) (p : Nat) (tv : Value) (d : Dc) : Prop where
  c3 : w.cell? ⟨p, 3, none⟩ = some (.int .i64 d.lm)
  c4 : w.cell? ⟨p, 4, none⟩ = some (.int .i64 d.l)
  c5 : w.cell? ⟨p, 5, none⟩ = some (.int .i64 d.n)
  c6 : w.cell? ⟨p, 6, none⟩ = some (.int .i64 d.h)
  c7 : w.cell? ⟨p, 7, none⟩ = some (.int .u8 d.lo)
  c8 : w.cell? ⟨p, 8, none⟩ = some (.int .u8 d.mo)
  c9 : w.cell? ⟨p, 9, none⟩ = some tv
  f3 : w.frozen? ⟨p, 3, none⟩ = false
  f4 : w.frozen? ⟨p, 4, none⟩ = false
  f5 : w.frozen? ⟨p, 5, none⟩ = false
  f6 : w.frozen? ⟨p, 6, none⟩ = false
  f7 : w.frozen? ⟨p, 7, none⟩ = false
  f8 : w.frozen? ⟨p, 8, none⟩ = false
  f9 : w.frozen? ⟨p, 9, none⟩ = false
theorem df_of {w : World} {p : Nat} {tv : Value} {d : Dc} (h : w.heap[p]? = some (.cells (dcC tv d) 41 (0, 0))) : DF w p tv d :=
  ⟨Lib.cell_of_heap h 3, Lib.cell_of_heap h 4, Lib.cell_of_heap h 5, Lib.cell_of_heap h 6, Lib.cell_of_heap h 7, Lib.cell_of_heap h 8, Lib.cell_of_heap h 9, frozen_of_row _ p 3 _ _ h, frozen_of_row _ p 4 _ _ h, frozen_of_row _ p 5 _ _ h, frozen_of_row _ p 6 _ _ h, frozen_of_row _ p 7 _ _ h, frozen_of_row _ p 8 _ _ h, frozen_of_row _ p 9 _ _ h⟩
set_option maxRecDepth 100000 in
theorem din_quote {w : World} {B p : Nat} {tv : Value} {es : List Int} {d : Dc} {c : Int} (H : DcS w B p tv es d) (hh : d.h = 0) (hc : c = 34) : Calls Tryz.prog 62 #[.pointer (some ⟨p, 3, none⟩), .int .u8 c] w (StepOut w B p tv es d .inn c) := by
  have HS := hide H
  obtain ⟨c3, c4, c5, c6, c7, c8, c9, f3, f4, f5, f6, f7, f8, f9⟩ := df_of H.blk
  have HHH := hide hh
  subst hc
  clear H hh
  go_enter Tryz.func62, Tryz.ntmps62
  go_wp2
  go_ret
  exact ⟨true, tv, es, 7, d.l, d.n, d.h, d.lo, d.mo, rfl, HS.out.lm 7, (Fr.refl _ _ _).setP _, Or.inl ⟨rfl, .fin, [], rfl, by simp, rfl⟩⟩
set_option maxRecDepth 100000 in
theorem din_stroke {w : World} {B p : Nat} {tv : Value} {es : List Int} {d : Dc} {c : Int} (H : DcS w B p tv es d) (hh : d.h = 0) (hc : c = 92) : Calls Tryz.prog 62 #[.pointer (some ⟨p, 3, none⟩), .int .u8 c] w (StepOut w B p tv es d .inn c) := by
  have HS := hide H
  obtain ⟨c3, c4, c5, c6, c7, c8, c9, f3, f4, f5, f6, f7, f8, f9⟩ := df_of H.blk
  have HHH := hide hh
  subst hc
  clear H hh
  go_enter Tryz.func62, Tryz.ntmps62
  go_wp2
  go_ret
  exact ⟨true, tv, es, 2, d.l, d.n, d.h, d.lo, d.mo, rfl, HS.out.lm 2, (Fr.refl _ _ _).setP _, Or.inl ⟨rfl, .stroke, [], rfl, by simp, rfl, HHH.out⟩⟩
set_option maxRecDepth 100000 in
theorem din_low {w : World} {B p : Nat} {tv : Value} {es : List Int} {d : Dc} {c : Int} (H : DcS w B p tv es d) (hh : d.h = 0) (h0 : 0 ≤ c) (hc : c < 32) : Calls Tryz.prog 62 #[.pointer (some ⟨p, 3, none⟩), .int .u8 c] w (StepOut w B p tv es d .inn c) := by
  have HS := hide H
  obtain ⟨c3, c4, c5, c6, c7, c8, c9, f3, f4, f5, f6, f7, f8, f9⟩ := df_of H.blk
  have HHH := hide hh
  have n1 : (c == 34) = false := beq_eq_false_iff_ne.2 (by omega)
  have n2 : (c == 92) = false := beq_eq_false_iff_ne.2 (by omega)
  have d1 : decide (c < 32) = true := decide_eq_true hc
  clear H hh
  go_enter Tryz.func62, Tryz.ntmps62
  go_wp2
  go_ret
  exact ⟨false, tv, es, d.lm, d.l, d.n, d.h, d.lo, d.mo, rfl, HS.out, Fr.refl _ _ _, Or.inr ⟨rfl, dIn_none (by omega)⟩⟩
set_option maxRecDepth 100000 in
theorem din_mid {w : World} {B p : Nat} {tv : Value} {es : List Int} {d : Dc} {c : Int} (H : DcS w B p tv es d) (hh : d.h = 0) (hc : 127 < c) (h1 : c < 194) : Calls Tryz.prog 62 #[.pointer (some ⟨p, 3, none⟩), .int .u8 c] w (StepOut w B p tv es d .inn c) := by
  have HS := hide H
  obtain ⟨c3, c4, c5, c6, c7, c8, c9, f3, f4, f5, f6, f7, f8, f9⟩ := df_of H.blk
  have HHH := hide hh
  have n1 : (c == 34) = false := beq_eq_false_iff_ne.2 (by omega)
  have n2 : (c == 92) = false := beq_eq_false_iff_ne.2 (by omega)
  have d1 : decide (c < 32) = false := decide_eq_false (by omega)
  have d2 : decide (127 < c) = true := decide_eq_true hc
  have d3 : decide (c < 194) = true := decide_eq_true h1
  clear H hh
  go_enter Tryz.func62, Tryz.ntmps62
  go_wp2
  go_ret
  exact ⟨false, tv, es, d.lm, d.l, d.n, d.h, d.lo, d.mo, rfl, HS.out, Fr.refl _ _ _, Or.inr ⟨rfl, dIn_none (by omega)⟩⟩
set_option maxRecDepth 100000 in
theorem din_high {w : World} {B p : Nat} {tv : Value} {es : List Int} {d : Dc} {c : Int} (H : DcS w B p tv es d) (hh : d.h = 0) (hc : 244 < c) (h1 : c < 256) : Calls Tryz.prog 62 #[.pointer (some ⟨p, 3, none⟩), .int .u8 c] w (StepOut w B p tv es d .inn c) := by
  have HS := hide H
  obtain ⟨c3, c4, c5, c6, c7, c8, c9, f3, f4, f5, f6, f7, f8, f9⟩ := df_of H.blk
  have HHH := hide hh
  have n1 : (c == 34) = false := beq_eq_false_iff_ne.2 (by omega)
  have n2 : (c == 92) = false := beq_eq_false_iff_ne.2 (by omega)
  have d1 : decide (c < 32) = false := decide_eq_false (by omega)
  have d2 : decide (127 < c) = true := decide_eq_true (by omega)
  have d3 : decide (c < 194) = false := decide_eq_false (by omega)
  have d4 : decide (244 < c) = true := decide_eq_true hc
  clear H hh
  go_enter Tryz.func62, Tryz.ntmps62
  go_wp2
  go_ret
  exact ⟨false, tv, es, d.lm, d.l, d.n, d.h, d.lo, d.mo, rfl, HS.out, Fr.refl _ _ _, Or.inr ⟨rfl, dIn_none (by omega)⟩⟩
set_option maxRecDepth 100000 in
set_option maxHeartbeats 4000000 in
theorem din_self {w : World} {B p : Nat} {tv : Value} {es : List Int} {d : Dc} {c : Int} (H : DcS w B p tv es d) (hh : d.h = 0) (hlm : d.lm = 1) (h0 : 32 ≤ c) (h1 : c < 128) (h2 : c ≠ 34) (h3 : c ≠ 92) (hl : es.length + 1 ≤ 140737488355328) : Calls Tryz.prog 62 #[.pointer (some ⟨p, 3, none⟩), .int .u8 c] w (StepOut w B p tv es d .inn c) := by
  have HS := hide H
  obtain ⟨c3, c4, c5, c6, c7, c8, c9, f3, f4, f5, f6, f7, f8, f9⟩ := df_of H.blk
  have HHH := hide hh
  obtain ⟨ao, L, cap, hform⟩ := own_form H.own
  subst hform
  have HO := hide H.own
  have hsm : B ≤ w.heap.size := by have h1 := H.le; have h2 := H.lt; omega
  have n1 : (c == 34) = false := beq_eq_false_iff_ne.2 (by omega)
  have n2 : (c == 92) = false := beq_eq_false_iff_ne.2 (by omega)
  have d1 : decide (c < 32) = false := decide_eq_false (by omega)
  have d4 : decide (244 < c) = false := decide_eq_false (by omega)
  have d2 : decide (127 < c) = false := decide_eq_false (by omega)
  clear H hh
  go_enter Tryz.func62, Tryz.ntmps62
  go_wp2_with (first
    | (at_builtin; refine dwpList_append _ rfl _ _ 35 rfl B 5 .u8 1 Tryz.underlying35 Tryz.infoY8 _ es.length es rfl (HO.out.alloc _) (some ⟨w.heap.size, 0, none⟩) 1 [c] rfl (jcells_one _ _ _ _) (by simp) (by unfold maxLen; simp; omega) (by simp; omega) (by simp; omega) ?_; intro v' w2 hown' hgrow hsame; obtain ⟨g', cap', rfl⟩ := down_some hown' (by simp); obtain ⟨hG, hF, hK⟩ := dc_grew (us := [c]) HS.out ((Below.refl _ _).alloc (Nat.le_refl _) _) hown' hgrow hsame; obtain ⟨e3, e4, e5, e6, e7, e8, e9, g3, g4, g5, g6, g7, g8, g9⟩ := df_of hK; replace hG := hide hG; replace hF := hide hF; clear hown' hgrow hsame hK)
    | fail)
  go_ret
  exact ⟨true, _, es ++ [c], d.lm, d.l, d.n, d.h, d.lo, d.mo, rfl, hG.out, hF.out.setP _, Or.inl ⟨rfl, .inn, [c], dIn_self h0 h1 h2 h3, rfl, hlm, HHH.out⟩⟩
set_option maxRecDepth 100000 in
set_option maxHeartbeats 1000000 in
theorem din_a {w : World} {B p : Nat} {tv : Value} {es : List Int} {d : Dc} {c : Int} (H : DcS w B p tv es d) (hh : d.h = 0) (h0 : 194 ≤ c) (h1 : c ≤ 223) (hl : es.length + 1 ≤ 140737488355328) : Calls Tryz.prog 62 #[.pointer (some ⟨p, 3, none⟩), .int .u8 c] w (StepOut w B p tv es d .inn c) := by
  have HS := hide H
  obtain ⟨c3, c4, c5, c6, c7, c8, c9, f3, f4, f5, f6, f7, f8, f9⟩ := df_of H.blk
  have HHH := hide hh
  obtain ⟨ao, L, cap, hform⟩ := own_form H.own
  subst hform
  have HO := hide H.own
  have hsm : B ≤ w.heap.size := by have h1 := H.le; have h2 := H.lt; omega
  have n1 : (c == 34) = false := beq_eq_false_iff_ne.2 (by omega)
  have n2 : (c == 92) = false := beq_eq_false_iff_ne.2 (by omega)
  have d1 : decide (c < 32) = false := decide_eq_false (by omega)
  have d4 : decide (244 < c) = false := decide_eq_false (by omega)
  have d2 : decide (127 < c) = true := decide_eq_true (by omega)
  have d3 : decide (c < 194) = false := decide_eq_false (by omega)
  have k1 : ¬ (c < 128) := by omega
  have k2 : ¬ (224 ≤ c) := by omega
  have k3 : ¬ (240 ≤ c) := by omega
  have e224 : (c == 224) = false := beq_eq_false_iff_ne.2 (by omega)
  have e237 : (c == 237) = false := beq_eq_false_iff_ne.2 (by omega)
  have e240 : (c == 240) = false := beq_eq_false_iff_ne.2 (by omega)
  have e244 : (c == 244) = false := beq_eq_false_iff_ne.2 (by omega)
  clear H hh
  go_enter Tryz.func62, Tryz.ntmps62
  go_upto_region 16 with (first
    | (at_builtin; refine dwpList_append _ rfl _ _ 35 rfl B 5 .u8 1 Tryz.underlying35 Tryz.infoY8 _ es.length es rfl (HO.out.alloc _) (some ⟨w.heap.size, 0, none⟩) 1 [c] rfl (jcells_one _ _ _ _) (by simp) (by unfold maxLen; simp; omega) (by simp; omega) (by simp; omega) ?_; intro v' w2 hown' hgrow hsame; obtain ⟨g', cap', rfl⟩ := down_some hown' (by simp); obtain ⟨hG, hF, hK⟩ := dc_grew (us := [c]) HS.out ((Below.refl _ _).alloc (Nat.le_refl _) _) hown' hgrow hsame; obtain ⟨e3, e4, e5, e6, e7, e8, e9, g3, g4, g5, g6, g7, g8, g9⟩ := df_of hK; replace hG := hide hG; replace hF := hide hF; clear hown' hgrow hsame hK)
    | fail)
  have hq := ((((hG.out.lm 6).lo 128).mo 191).l 1)
  have hfq := ((((hF.out.setP (i := 9) (.slice (some ⟨g', 0, none⟩) (es.length + [c].length) cap')).setP (i := 3) (.int .i64 6)).setP (i := 7) (.int .u8 128)).setP (i := 8) (.int .u8 191)).setP (i := 4) (.int .i64 1)
  clear c3 c4 c5 c6 c7 c8 c9 f3 f4 f5 f6 f7 f8 f9 e3 e4 e5 e6 e7 e8 e9 g3 g4 g5 g6 g7 g8 g9 hG hF
  generalize (((((w2.setCell ⟨p, 9, none⟩ (.slice (some ⟨g', 0, none⟩) (es.length + [c].length) cap')).setCell ⟨p, 3, none⟩ (.int .i64 6)).setCell ⟨p, 7, none⟩ (.int .u8 128)).setCell ⟨p, 8, none⟩ (.int .u8 191)).setCell ⟨p, 4, none⟩ (.int .i64 1)) = W at hq hfq ⊢
  obtain ⟨c3, c4, c5, c6, c7, c8, c9, f3, f4, f5, f6, f7, f8, f9⟩ := df_of hq.blk
  have HQ := hide hq
  have HFQ := hide hfq
  clear hq hfq
  go_wp2
  go_ret
  exact ⟨true, _, es ++ [c], 6, 1, d.n, d.h, 128, 191, rfl, HQ.out, HFQ.out, Or.inl ⟨rfl, .byts 1 128 191, [c], by rw [dIn_byts (by omega) (by omega), show xLeft c = 1 by unfold xLeft; split <;> (try split) <;> omega, show xLow c = 128 by unfold xLow; split <;> (try split) <;> omega, show xMost c = 191 by unfold xMost; split <;> (try split) <;> omega], rfl, rfl, rfl, rfl, rfl, HHH.out⟩⟩
set_option maxRecDepth 100000 in
set_option maxHeartbeats 1000000 in
theorem din_b {w : World} {B p : Nat} {tv : Value} {es : List Int} {d : Dc} {c : Int} (H : DcS w B p tv es d) (hh : d.h = 0) (hc : c = 224) (hl : es.length + 1 ≤ 140737488355328) : Calls Tryz.prog 62 #[.pointer (some ⟨p, 3, none⟩), .int .u8 c] w (StepOut w B p tv es d .inn c) := by
  have HS := hide H
  obtain ⟨c3, c4, c5, c6, c7, c8, c9, f3, f4, f5, f6, f7, f8, f9⟩ := df_of H.blk
  have HHH := hide hh
  obtain ⟨ao, L, cap, hform⟩ := own_form H.own
  subst hform
  have HO := hide H.own
  have hsm : B ≤ w.heap.size := by have h1 := H.le; have h2 := H.lt; omega
  subst hc
  clear H hh
  go_enter Tryz.func62, Tryz.ntmps62
  go_upto_region 16 with (first
    | (at_builtin; refine dwpList_append _ rfl _ _ 35 rfl B 5 .u8 1 Tryz.underlying35 Tryz.infoY8 _ es.length es rfl (HO.out.alloc _) (some ⟨w.heap.size, 0, none⟩) 1 [224] rfl (jcells_one _ _ _ _) (by simp) (by unfold maxLen; simp; omega) (by simp; omega) (by simp; omega) ?_; intro v' w2 hown' hgrow hsame; obtain ⟨g', cap', rfl⟩ := down_some hown' (by simp); obtain ⟨hG, hF, hK⟩ := dc_grew (us := [224]) HS.out ((Below.refl _ _).alloc (Nat.le_refl _) _) hown' hgrow hsame; obtain ⟨e3, e4, e5, e6, e7, e8, e9, g3, g4, g5, g6, g7, g8, g9⟩ := df_of hK; replace hG := hide hG; replace hF := hide hF; clear hown' hgrow hsame hK)
    | fail)
  have hq := ((((hG.out.lm 6).lo 128).mo 191).l 1)
  have hfq := ((((hF.out.setP (i := 9) (.slice (some ⟨g', 0, none⟩) (es.length + [224].length) cap')).setP (i := 3) (.int .i64 6)).setP (i := 7) (.int .u8 128)).setP (i := 8) (.int .u8 191)).setP (i := 4) (.int .i64 1)
  clear c3 c4 c5 c6 c7 c8 c9 f3 f4 f5 f6 f7 f8 f9 e3 e4 e5 e6 e7 e8 e9 g3 g4 g5 g6 g7 g8 g9 hG hF
  generalize (((((w2.setCell ⟨p, 9, none⟩ (.slice (some ⟨g', 0, none⟩) (es.length + [224].length) cap')).setCell ⟨p, 3, none⟩ (.int .i64 6)).setCell ⟨p, 7, none⟩ (.int .u8 128)).setCell ⟨p, 8, none⟩ (.int .u8 191)).setCell ⟨p, 4, none⟩ (.int .i64 1)) = W at hq hfq ⊢
  obtain ⟨c3, c4, c5, c6, c7, c8, c9, f3, f4, f5, f6, f7, f8, f9⟩ := df_of hq.blk
  have HQ := hide hq
  have HFQ := hide hfq
  clear hq hfq
  go_wp2
  go_ret
  exact ⟨true, _, es ++ [224], 6, 2, d.n, d.h, 160, 191, rfl, ((HQ.out).l 2).lo 160, ((HFQ.out).setP _).setP _, Or.inl ⟨rfl, .byts 2 160 191, [224], by decide, rfl, rfl, rfl, rfl, rfl, HHH.out⟩⟩
set_option maxRecDepth 100000 in
set_option maxHeartbeats 1000000 in
theorem din_c {w : World} {B p : Nat} {tv : Value} {es : List Int} {d : Dc} {c : Int} (H : DcS w B p tv es d) (hh : d.h = 0) (h0 : 225 ≤ c) (h1 : c ≤ 236) (hl : es.length + 1 ≤ 140737488355328) : Calls Tryz.prog 62 #[.pointer (some ⟨p, 3, none⟩), .int .u8 c] w (StepOut w B p tv es d .inn c) := by
  have HS := hide H
  obtain ⟨c3, c4, c5, c6, c7, c8, c9, f3, f4, f5, f6, f7, f8, f9⟩ := df_of H.blk
  have HHH := hide hh
  obtain ⟨ao, L, cap, hform⟩ := own_form H.own
  subst hform
  have HO := hide H.own
  have hsm : B ≤ w.heap.size := by have h1 := H.le; have h2 := H.lt; omega
  have n1 : (c == 34) = false := beq_eq_false_iff_ne.2 (by omega)
  have n2 : (c == 92) = false := beq_eq_false_iff_ne.2 (by omega)
  have d1 : decide (c < 32) = false := decide_eq_false (by omega)
  have d4 : decide (244 < c) = false := decide_eq_false (by omega)
  have d2 : decide (127 < c) = true := decide_eq_true (by omega)
  have d3 : decide (c < 194) = false := decide_eq_false (by omega)
  have k1 : ¬ (c < 128) := by omega
  have k2 : (224 ≤ c) := by omega
  have k3 : ¬ (240 ≤ c) := by omega
  have e224 : (c == 224) = false := beq_eq_false_iff_ne.2 (by omega)
  have e237 : (c == 237) = false := beq_eq_false_iff_ne.2 (by omega)
  have e240 : (c == 240) = false := beq_eq_false_iff_ne.2 (by omega)
  have e244 : (c == 244) = false := beq_eq_false_iff_ne.2 (by omega)
  clear H hh
  go_enter Tryz.func62, Tryz.ntmps62
  go_upto_region 16 with (first
    | (at_builtin; refine dwpList_append _ rfl _ _ 35 rfl B 5 .u8 1 Tryz.underlying35 Tryz.infoY8 _ es.length es rfl (HO.out.alloc _) (some ⟨w.heap.size, 0, none⟩) 1 [c] rfl (jcells_one _ _ _ _) (by simp) (by unfold maxLen; simp; omega) (by simp; omega) (by simp; omega) ?_; intro v' w2 hown' hgrow hsame; obtain ⟨g', cap', rfl⟩ := down_some hown' (by simp); obtain ⟨hG, hF, hK⟩ := dc_grew (us := [c]) HS.out ((Below.refl _ _).alloc (Nat.le_refl _) _) hown' hgrow hsame; obtain ⟨e3, e4, e5, e6, e7, e8, e9, g3, g4, g5, g6, g7, g8, g9⟩ := df_of hK; replace hG := hide hG; replace hF := hide hF; clear hown' hgrow hsame hK)
    | fail)
  have hq := ((((hG.out.lm 6).lo 128).mo 191).l 1)
  have hfq := ((((hF.out.setP (i := 9) (.slice (some ⟨g', 0, none⟩) (es.length + [c].length) cap')).setP (i := 3) (.int .i64 6)).setP (i := 7) (.int .u8 128)).setP (i := 8) (.int .u8 191)).setP (i := 4) (.int .i64 1)
  clear c3 c4 c5 c6 c7 c8 c9 f3 f4 f5 f6 f7 f8 f9 e3 e4 e5 e6 e7 e8 e9 g3 g4 g5 g6 g7 g8 g9 hG hF
  generalize (((((w2.setCell ⟨p, 9, none⟩ (.slice (some ⟨g', 0, none⟩) (es.length + [c].length) cap')).setCell ⟨p, 3, none⟩ (.int .i64 6)).setCell ⟨p, 7, none⟩ (.int .u8 128)).setCell ⟨p, 8, none⟩ (.int .u8 191)).setCell ⟨p, 4, none⟩ (.int .i64 1)) = W at hq hfq ⊢
  obtain ⟨c3, c4, c5, c6, c7, c8, c9, f3, f4, f5, f6, f7, f8, f9⟩ := df_of hq.blk
  have HQ := hide hq
  have HFQ := hide hfq
  clear hq hfq
  go_wp2
  go_ret
  exact ⟨true, _, es ++ [c], 6, 2, d.n, d.h, 128, 191, rfl, (HQ.out).l 2, (HFQ.out).setP _, Or.inl ⟨rfl, .byts 2 128 191, [c], by rw [dIn_byts (by omega) (by omega), show xLeft c = 2 by unfold xLeft; split <;> (try split) <;> omega, show xLow c = 128 by unfold xLow; split <;> (try split) <;> omega, show xMost c = 191 by unfold xMost; split <;> (try split) <;> omega], rfl, rfl, rfl, rfl, rfl, HHH.out⟩⟩
set_option maxRecDepth 100000 in
set_option maxHeartbeats 1000000 in
theorem din_d {w : World} {B p : Nat} {tv : Value} {es : List Int} {d : Dc} {c : Int} (H : DcS w B p tv es d) (hh : d.h = 0) (hc : c = 237) (hl : es.length + 1 ≤ 140737488355328) : Calls Tryz.prog 62 #[.pointer (some ⟨p, 3, none⟩), .int .u8 c] w (StepOut w B p tv es d .inn c) := by
  have HS := hide H
  obtain ⟨c3, c4, c5, c6, c7, c8, c9, f3, f4, f5, f6, f7, f8, f9⟩ := df_of H.blk
  have HHH := hide hh
  obtain ⟨ao, L, cap, hform⟩ := own_form H.own
  subst hform
  have HO := hide H.own
  have hsm : B ≤ w.heap.size := by have h1 := H.le; have h2 := H.lt; omega
  subst hc
  clear H hh
  go_enter Tryz.func62, Tryz.ntmps62
  go_upto_region 16 with (first
    | (at_builtin; refine dwpList_append _ rfl _ _ 35 rfl B 5 .u8 1 Tryz.underlying35 Tryz.infoY8 _ es.length es rfl (HO.out.alloc _) (some ⟨w.heap.size, 0, none⟩) 1 [237] rfl (jcells_one _ _ _ _) (by simp) (by unfold maxLen; simp; omega) (by simp; omega) (by simp; omega) ?_; intro v' w2 hown' hgrow hsame; obtain ⟨g', cap', rfl⟩ := down_some hown' (by simp); obtain ⟨hG, hF, hK⟩ := dc_grew (us := [237]) HS.out ((Below.refl _ _).alloc (Nat.le_refl _) _) hown' hgrow hsame; obtain ⟨e3, e4, e5, e6, e7, e8, e9, g3, g4, g5, g6, g7, g8, g9⟩ := df_of hK; replace hG := hide hG; replace hF := hide hF; clear hown' hgrow hsame hK)
    | fail)
  have hq := ((((hG.out.lm 6).lo 128).mo 191).l 1)
  have hfq := ((((hF.out.setP (i := 9) (.slice (some ⟨g', 0, none⟩) (es.length + [237].length) cap')).setP (i := 3) (.int .i64 6)).setP (i := 7) (.int .u8 128)).setP (i := 8) (.int .u8 191)).setP (i := 4) (.int .i64 1)
  clear c3 c4 c5 c6 c7 c8 c9 f3 f4 f5 f6 f7 f8 f9 e3 e4 e5 e6 e7 e8 e9 g3 g4 g5 g6 g7 g8 g9 hG hF
  generalize (((((w2.setCell ⟨p, 9, none⟩ (.slice (some ⟨g', 0, none⟩) (es.length + [237].length) cap')).setCell ⟨p, 3, none⟩ (.int .i64 6)).setCell ⟨p, 7, none⟩ (.int .u8 128)).setCell ⟨p, 8, none⟩ (.int .u8 191)).setCell ⟨p, 4, none⟩ (.int .i64 1)) = W at hq hfq ⊢
  obtain ⟨c3, c4, c5, c6, c7, c8, c9, f3, f4, f5, f6, f7, f8, f9⟩ := df_of hq.blk
  have HQ := hide hq
  have HFQ := hide hfq
  clear hq hfq
  go_wp2
  go_ret
  exact ⟨true, _, es ++ [237], 6, 2, d.n, d.h, 128, 159, rfl, ((HQ.out).l 2).mo 159, ((HFQ.out).setP _).setP _, Or.inl ⟨rfl, .byts 2 128 159, [237], by decide, rfl, rfl, rfl, rfl, rfl, HHH.out⟩⟩
set_option maxRecDepth 100000 in
set_option maxHeartbeats 1000000 in
theorem din_e {w : World} {B p : Nat} {tv : Value} {es : List Int} {d : Dc} {c : Int} (H : DcS w B p tv es d) (hh : d.h = 0) (h0 : 238 ≤ c) (h1 : c ≤ 239) (hl : es.length + 1 ≤ 140737488355328) : Calls Tryz.prog 62 #[.pointer (some ⟨p, 3, none⟩), .int .u8 c] w (StepOut w B p tv es d .inn c) := by
  have HS := hide H
  obtain ⟨c3, c4, c5, c6, c7, c8, c9, f3, f4, f5, f6, f7, f8, f9⟩ := df_of H.blk
  have HHH := hide hh
  obtain ⟨ao, L, cap, hform⟩ := own_form H.own
  subst hform
  have HO := hide H.own
  have hsm : B ≤ w.heap.size := by have h1 := H.le; have h2 := H.lt; omega
  have n1 : (c == 34) = false := beq_eq_false_iff_ne.2 (by omega)
  have n2 : (c == 92) = false := beq_eq_false_iff_ne.2 (by omega)
  have d1 : decide (c < 32) = false := decide_eq_false (by omega)
  have d4 : decide (244 < c) = false := decide_eq_false (by omega)
  have d2 : decide (127 < c) = true := decide_eq_true (by omega)
  have d3 : decide (c < 194) = false := decide_eq_false (by omega)
  have k1 : ¬ (c < 128) := by omega
  have k2 : (224 ≤ c) := by omega
  have k3 : ¬ (240 ≤ c) := by omega
  have e224 : (c == 224) = false := beq_eq_false_iff_ne.2 (by omega)
  have e237 : (c == 237) = false := beq_eq_false_iff_ne.2 (by omega)
  have e240 : (c == 240) = false := beq_eq_false_iff_ne.2 (by omega)
  have e244 : (c == 244) = false := beq_eq_false_iff_ne.2 (by omega)
  clear H hh
  go_enter Tryz.func62, Tryz.ntmps62
  go_upto_region 16 with (first
    | (at_builtin; refine dwpList_append _ rfl _ _ 35 rfl B 5 .u8 1 Tryz.underlying35 Tryz.infoY8 _ es.length es rfl (HO.out.alloc _) (some ⟨w.heap.size, 0, none⟩) 1 [c] rfl (jcells_one _ _ _ _) (by simp) (by unfold maxLen; simp; omega) (by simp; omega) (by simp; omega) ?_; intro v' w2 hown' hgrow hsame; obtain ⟨g', cap', rfl⟩ := down_some hown' (by simp); obtain ⟨hG, hF, hK⟩ := dc_grew (us := [c]) HS.out ((Below.refl _ _).alloc (Nat.le_refl _) _) hown' hgrow hsame; obtain ⟨e3, e4, e5, e6, e7, e8, e9, g3, g4, g5, g6, g7, g8, g9⟩ := df_of hK; replace hG := hide hG; replace hF := hide hF; clear hown' hgrow hsame hK)
    | fail)
  have hq := ((((hG.out.lm 6).lo 128).mo 191).l 1)
  have hfq := ((((hF.out.setP (i := 9) (.slice (some ⟨g', 0, none⟩) (es.length + [c].length) cap')).setP (i := 3) (.int .i64 6)).setP (i := 7) (.int .u8 128)).setP (i := 8) (.int .u8 191)).setP (i := 4) (.int .i64 1)
  clear c3 c4 c5 c6 c7 c8 c9 f3 f4 f5 f6 f7 f8 f9 e3 e4 e5 e6 e7 e8 e9 g3 g4 g5 g6 g7 g8 g9 hG hF
  generalize (((((w2.setCell ⟨p, 9, none⟩ (.slice (some ⟨g', 0, none⟩) (es.length + [c].length) cap')).setCell ⟨p, 3, none⟩ (.int .i64 6)).setCell ⟨p, 7, none⟩ (.int .u8 128)).setCell ⟨p, 8, none⟩ (.int .u8 191)).setCell ⟨p, 4, none⟩ (.int .i64 1)) = W at hq hfq ⊢
  obtain ⟨c3, c4, c5, c6, c7, c8, c9, f3, f4, f5, f6, f7, f8, f9⟩ := df_of hq.blk
  have HQ := hide hq
  have HFQ := hide hfq
  clear hq hfq
  go_wp2
  go_ret
  exact ⟨true, _, es ++ [c], 6, 2, d.n, d.h, 128, 191, rfl, (HQ.out).l 2, (HFQ.out).setP _, Or.inl ⟨rfl, .byts 2 128 191, [c], by rw [dIn_byts (by omega) (by omega), show xLeft c = 2 by unfold xLeft; split <;> (try split) <;> omega, show xLow c = 128 by unfold xLow; split <;> (try split) <;> omega, show xMost c = 191 by unfold xMost; split <;> (try split) <;> omega], rfl, rfl, rfl, rfl, rfl, HHH.out⟩⟩
set_option maxRecDepth 100000 in
set_option maxHeartbeats 1000000 in
theorem din_f {w : World} {B p : Nat} {tv : Value} {es : List Int} {d : Dc} {c : Int} (H : DcS w B p tv es d) (hh : d.h = 0) (hc : c = 240) (hl : es.length + 1 ≤ 140737488355328) : Calls Tryz.prog 62 #[.pointer (some ⟨p, 3, none⟩), .int .u8 c] w (StepOut w B p tv es d .inn c) := by
  have HS := hide H
  obtain ⟨c3, c4, c5, c6, c7, c8, c9, f3, f4, f5, f6, f7, f8, f9⟩ := df_of H.blk
  have HHH := hide hh
  obtain ⟨ao, L, cap, hform⟩ := own_form H.own
  subst hform
  have HO := hide H.own
  have hsm : B ≤ w.heap.size := by have h1 := H.le; have h2 := H.lt; omega
  subst hc
  clear H hh
  go_enter Tryz.func62, Tryz.ntmps62
  go_upto_region 16 with (first
    | (at_builtin; refine dwpList_append _ rfl _ _ 35 rfl B 5 .u8 1 Tryz.underlying35 Tryz.infoY8 _ es.length es rfl (HO.out.alloc _) (some ⟨w.heap.size, 0, none⟩) 1 [240] rfl (jcells_one _ _ _ _) (by simp) (by unfold maxLen; simp; omega) (by simp; omega) (by simp; omega) ?_; intro v' w2 hown' hgrow hsame; obtain ⟨g', cap', rfl⟩ := down_some hown' (by simp); obtain ⟨hG, hF, hK⟩ := dc_grew (us := [240]) HS.out ((Below.refl _ _).alloc (Nat.le_refl _) _) hown' hgrow hsame; obtain ⟨e3, e4, e5, e6, e7, e8, e9, g3, g4, g5, g6, g7, g8, g9⟩ := df_of hK; replace hG := hide hG; replace hF := hide hF; clear hown' hgrow hsame hK)
    | fail)
  have hq := ((((hG.out.lm 6).lo 128).mo 191).l 1)
  have hfq := ((((hF.out.setP (i := 9) (.slice (some ⟨g', 0, none⟩) (es.length + [240].length) cap')).setP (i := 3) (.int .i64 6)).setP (i := 7) (.int .u8 128)).setP (i := 8) (.int .u8 191)).setP (i := 4) (.int .i64 1)
  clear c3 c4 c5 c6 c7 c8 c9 f3 f4 f5 f6 f7 f8 f9 e3 e4 e5 e6 e7 e8 e9 g3 g4 g5 g6 g7 g8 g9 hG hF
  generalize (((((w2.setCell ⟨p, 9, none⟩ (.slice (some ⟨g', 0, none⟩) (es.length + [240].length) cap')).setCell ⟨p, 3, none⟩ (.int .i64 6)).setCell ⟨p, 7, none⟩ (.int .u8 128)).setCell ⟨p, 8, none⟩ (.int .u8 191)).setCell ⟨p, 4, none⟩ (.int .i64 1)) = W at hq hfq ⊢
  obtain ⟨c3, c4, c5, c6, c7, c8, c9, f3, f4, f5, f6, f7, f8, f9⟩ := df_of hq.blk
  have HQ := hide hq
  have HFQ := hide hfq
  clear hq hfq
  go_wp2
  go_ret
  exact ⟨true, _, es ++ [240], 6, 3, d.n, d.h, 144, 191, rfl, (((HQ.out).l 2).l 3).lo 144, (((HFQ.out).setP _).setP _).setP _, Or.inl ⟨rfl, .byts 3 144 191, [240], by decide, rfl, rfl, rfl, rfl, rfl, HHH.out⟩⟩
set_option maxRecDepth 100000 in
set_option maxHeartbeats 1000000 in
theorem din_g {w : World} {B p : Nat} {tv : Value} {es : List Int} {d : Dc} {c : Int} (H : DcS w B p tv es d) (hh : d.h = 0) (h0 : 241 ≤ c) (h1 : c ≤ 243) (hl : es.length + 1 ≤ 140737488355328) : Calls Tryz.prog 62 #[.pointer (some ⟨p, 3, none⟩), .int .u8 c] w (StepOut w B p tv es d .inn c) := by
  have HS := hide H
  obtain ⟨c3, c4, c5, c6, c7, c8, c9, f3, f4, f5, f6, f7, f8, f9⟩ := df_of H.blk
  have HHH := hide hh
  obtain ⟨ao, L, cap, hform⟩ := own_form H.own
  subst hform
  have HO := hide H.own
  have hsm : B ≤ w.heap.size := by have h1 := H.le; have h2 := H.lt; omega
  have n1 : (c == 34) = false := beq_eq_false_iff_ne.2 (by omega)
  have n2 : (c == 92) = false := beq_eq_false_iff_ne.2 (by omega)
  have d1 : decide (c < 32) = false := decide_eq_false (by omega)
  have d4 : decide (244 < c) = false := decide_eq_false (by omega)
  have d2 : decide (127 < c) = true := decide_eq_true (by omega)
  have d3 : decide (c < 194) = false := decide_eq_false (by omega)
  have k1 : ¬ (c < 128) := by omega
  have k2 : (224 ≤ c) := by omega
  have k3 : (240 ≤ c) := by omega
  have e224 : (c == 224) = false := beq_eq_false_iff_ne.2 (by omega)
  have e237 : (c == 237) = false := beq_eq_false_iff_ne.2 (by omega)
  have e240 : (c == 240) = false := beq_eq_false_iff_ne.2 (by omega)
  have e244 : (c == 244) = false := beq_eq_false_iff_ne.2 (by omega)
  clear H hh
  go_enter Tryz.func62, Tryz.ntmps62
  go_upto_region 16 with (first
    | (at_builtin; refine dwpList_append _ rfl _ _ 35 rfl B 5 .u8 1 Tryz.underlying35 Tryz.infoY8 _ es.length es rfl (HO.out.alloc _) (some ⟨w.heap.size, 0, none⟩) 1 [c] rfl (jcells_one _ _ _ _) (by simp) (by unfold maxLen; simp; omega) (by simp; omega) (by simp; omega) ?_; intro v' w2 hown' hgrow hsame; obtain ⟨g', cap', rfl⟩ := down_some hown' (by simp); obtain ⟨hG, hF, hK⟩ := dc_grew (us := [c]) HS.out ((Below.refl _ _).alloc (Nat.le_refl _) _) hown' hgrow hsame; obtain ⟨e3, e4, e5, e6, e7, e8, e9, g3, g4, g5, g6, g7, g8, g9⟩ := df_of hK; replace hG := hide hG; replace hF := hide hF; clear hown' hgrow hsame hK)
    | fail)
  have hq := ((((hG.out.lm 6).lo 128).mo 191).l 1)
  have hfq := ((((hF.out.setP (i := 9) (.slice (some ⟨g', 0, none⟩) (es.length + [c].length) cap')).setP (i := 3) (.int .i64 6)).setP (i := 7) (.int .u8 128)).setP (i := 8) (.int .u8 191)).setP (i := 4) (.int .i64 1)
  clear c3 c4 c5 c6 c7 c8 c9 f3 f4 f5 f6 f7 f8 f9 e3 e4 e5 e6 e7 e8 e9 g3 g4 g5 g6 g7 g8 g9 hG hF
  generalize (((((w2.setCell ⟨p, 9, none⟩ (.slice (some ⟨g', 0, none⟩) (es.length + [c].length) cap')).setCell ⟨p, 3, none⟩ (.int .i64 6)).setCell ⟨p, 7, none⟩ (.int .u8 128)).setCell ⟨p, 8, none⟩ (.int .u8 191)).setCell ⟨p, 4, none⟩ (.int .i64 1)) = W at hq hfq ⊢
  obtain ⟨c3, c4, c5, c6, c7, c8, c9, f3, f4, f5, f6, f7, f8, f9⟩ := df_of hq.blk
  have HQ := hide hq
  have HFQ := hide hfq
  clear hq hfq
  go_wp2
  go_ret
  exact ⟨true, _, es ++ [c], 6, 3, d.n, d.h, 128, 191, rfl, ((HQ.out).l 2).l 3, ((HFQ.out).setP _).setP _, Or.inl ⟨rfl, .byts 3 128 191, [c], by rw [dIn_byts (by omega) (by omega), show xLeft c = 3 by unfold xLeft; split <;> (try split) <;> omega, show xLow c = 128 by unfold xLow; split <;> (try split) <;> omega, show xMost c = 191 by unfold xMost; split <;> (try split) <;> omega], rfl, rfl, rfl, rfl, rfl, HHH.out⟩⟩
set_option maxRecDepth 100000 in
set_option maxHeartbeats 1000000 in
theorem din_h {w : World} {B p : Nat} {tv : Value} {es : List Int} {d : Dc} {c : Int} (H : DcS w B p tv es d) (hh : d.h = 0) (hc : c = 244) (hl : es.length + 1 ≤ 140737488355328) : Calls Tryz.prog 62 #[.pointer (some ⟨p, 3, none⟩), .int .u8 c] w (StepOut w B p tv es d .inn c) := by
  have HS := hide H
  obtain ⟨c3, c4, c5, c6, c7, c8, c9, f3, f4, f5, f6, f7, f8, f9⟩ := df_of H.blk
  have HHH := hide hh
  obtain ⟨ao, L, cap, hform⟩ := own_form H.own
  subst hform
  have HO := hide H.own
  have hsm : B ≤ w.heap.size := by have h1 := H.le; have h2 := H.lt; omega
  subst hc
  clear H hh
  go_enter Tryz.func62, Tryz.ntmps62
  go_upto_region 16 with (first
    | (at_builtin; refine dwpList_append _ rfl _ _ 35 rfl B 5 .u8 1 Tryz.underlying35 Tryz.infoY8 _ es.length es rfl (HO.out.alloc _) (some ⟨w.heap.size, 0, none⟩) 1 [244] rfl (jcells_one _ _ _ _) (by simp) (by unfold maxLen; simp; omega) (by simp; omega) (by simp; omega) ?_; intro v' w2 hown' hgrow hsame; obtain ⟨g', cap', rfl⟩ := down_some hown' (by simp); obtain ⟨hG, hF, hK⟩ := dc_grew (us := [244]) HS.out ((Below.refl _ _).alloc (Nat.le_refl _) _) hown' hgrow hsame; obtain ⟨e3, e4, e5, e6, e7, e8, e9, g3, g4, g5, g6, g7, g8, g9⟩ := df_of hK; replace hG := hide hG; replace hF := hide hF; clear hown' hgrow hsame hK)
    | fail)
  have hq := ((((hG.out.lm 6).lo 128).mo 191).l 1)
  have hfq := ((((hF.out.setP (i := 9) (.slice (some ⟨g', 0, none⟩) (es.length + [244].length) cap')).setP (i := 3) (.int .i64 6)).setP (i := 7) (.int .u8 128)).setP (i := 8) (.int .u8 191)).setP (i := 4) (.int .i64 1)
  clear c3 c4 c5 c6 c7 c8 c9 f3 f4 f5 f6 f7 f8 f9 e3 e4 e5 e6 e7 e8 e9 g3 g4 g5 g6 g7 g8 g9 hG hF
  generalize (((((w2.setCell ⟨p, 9, none⟩ (.slice (some ⟨g', 0, none⟩) (es.length + [244].length) cap')).setCell ⟨p, 3, none⟩ (.int .i64 6)).setCell ⟨p, 7, none⟩ (.int .u8 128)).setCell ⟨p, 8, none⟩ (.int .u8 191)).setCell ⟨p, 4, none⟩ (.int .i64 1)) = W at hq hfq ⊢
  obtain ⟨c3, c4, c5, c6, c7, c8, c9, f3, f4, f5, f6, f7, f8, f9⟩ := df_of hq.blk
  have HQ := hide hq
  have HFQ := hide hfq
  clear hq hfq
  go_wp2
  go_ret
  exact ⟨true, _, es ++ [244], 6, 3, d.n, d.h, 128, 143, rfl, (((HQ.out).l 2).l 3).mo 143, (((HFQ.out).setP _).setP _).setP _, Or.inl ⟨rfl, .byts 3 128 143, [244], by decide, rfl, rfl, rfl, rfl, rfl, HHH.out⟩⟩
theorem dinside {w : World} {B p : Nat} {tv : Value} {es : List Int} {d : Dc} {c : Int} (H : DcS w B p tv es d) (hh : d.h = 0) (hlm : d.lm = 1) (h0 : 0 ≤ c) (h1 : c < 256) (hl : es.length + 1 ≤ 140737488355328) : Calls Tryz.prog 62 #[.pointer (some ⟨p, 3, none⟩), .int .u8 c] w (StepOut w B p tv es d .inn c) := by
  by_cases a1 : c = 34
  · exact din_quote H hh a1
  by_cases a2 : c = 92
  · exact din_stroke H hh a2
  by_cases a3 : c < 32
  · exact din_low H hh h0 a3
  by_cases a4 : c < 128
  · exact din_self H hh hlm (by omega) a4 a1 a2 hl
  by_cases a5 : c < 194
  · exact din_mid H hh (by omega) a5
  by_cases a6 : 244 < c
  · exact din_high H hh a6 h1
  by_cases qdin_a : c ≤ 223
  · exact din_a H hh (by omega) qdin_a hl
  by_cases qdin_b : c = 224
  · exact din_b H hh qdin_b hl
  by_cases qdin_c : c ≤ 236
  · exact din_c H hh (by omega) qdin_c hl
  by_cases qdin_d : c = 237
  · exact din_d H hh qdin_d hl
  by_cases qdin_e : c ≤ 239
  · exact din_e H hh (by omega) qdin_e hl
  by_cases qdin_f : c = 240
  · exact din_f H hh qdin_f hl
  by_cases qdin_g : c ≤ 243
  · exact din_g H hh (by omega) qdin_g hl
  by_cases qdin_h : c = 244
  · exact din_h H hh qdin_h hl
  exact absurd a6 (by omega)

end Go.Proofs.YtefmlajndillbaaGreatDoor
