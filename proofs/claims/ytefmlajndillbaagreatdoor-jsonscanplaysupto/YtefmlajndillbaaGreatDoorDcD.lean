/- ref10 on the document's scanner: digits -/
import Derived.Test.YtefmlajndillbaaGreatDoorDcE
import Derived.Deep.RegionHeld3
namespace Go.Proofs.YtefmlajndillbaaGreatDoor
open Go.RowKit
set_option linter.unusedVariables false

theorem dcells_drew {w : World} {a : Option Addr} {l : List Int} (h : Cells .u8 w a l) : Cells .u8 w.drew a l := h
theorem uEnc_four (p : Int) : (uEnc p).length ≤ 4 := by
  rw [uEnc_len]
  split
  · omega
  split
  · omega
  split <;> omega
theorem uEnc_three {p : Int} (h : p < 65536) : (uEnc p).length ≤ 3 := by
  rw [uEnc_len]
  split
  · omega
  split
  · omega
  first | omega | (rw [if_pos h]; omega)
set_option maxRecDepth 100000 in
theorem ddig_no {w : World} {B p : Nat} {tv : Value} {es : List Int} {d : Dc} {c : Int} {l : Nat} {n h : Int} (H : DcS w B p tv es d) (h0 : 0 ≤ c) (h1 : c < 256) (hD : xDig c < 0) : Calls Tryz.prog 64 #[.pointer (some ⟨p, 3, none⟩), .int .u8 c] w (StepOut w B p tv es d (.digs l n h) c) := by
  have HX := hide (dgs_none (l := l) (n := n) (h := h) (Or.inl hD))
  have CD := hide (ddigit (w := w) h0 h1)
  obtain ⟨D, hDD⟩ : ∃ D, xDig c = D := ⟨_, rfl⟩
  rw [hDD] at hD CD
  clear hDD
  have HS := hide H
  clear H
  go_enter Tryz.func64, Tryz.ntmps64
  go_wp2_with fail
  refine CD.out.mono ?_
  rintro e w1 ⟨rfl, rfl⟩
  go_wp2
  go_ret
  exact ⟨false, tv, es, d.lm, d.l, d.n, d.h, d.lo, d.mo, rfl, HS.out, Fr.refl _ _ _, Or.inr ⟨rfl, HX.out⟩⟩
set_option maxRecDepth 100000 in
set_option maxHeartbeats 2000000 in
theorem ddig_4n {w : World} {B p : Nat} {tv : Value} {es : List Int} {d : Dc} {c : Int} (H : DcS w B p tv es d) (h0 : 0 ≤ c) (h1 : c < 256) (hn : 0 ≤ d.n) (hn2 : d.n ≤ 4095) (hlm : d.lm = 3) (hl : d.l = 4) (hD : 0 ≤ xDig c) (hh : d.h = 0) : Calls Tryz.prog 64 #[.pointer (some ⟨p, 3, none⟩), .int .u8 c] w (StepOut w B p tv es d (.digs 4 d.n d.h) c) := by
  have hdl := xDig_lt c
  obtain ⟨D, hDD⟩ : ∃ D, xDig c = D := ⟨_, rfl⟩
  rw [hDD] at hdl hD
  have CD := hide (ddigit (w := w) h0 h1)
  rw [hDD] at CD
  obtain ⟨N, hN⟩ : ∃ N, 16 * d.n + D = N := ⟨_, rfl⟩
  have HS := hide H
  obtain ⟨c3, c4, c5, c6, c7, c8, c9, f3, f4, f5, f6, f7, f8, f9⟩ := df_of H.blk
  rw [hl] at c4
  have HDN := hide (And.intro hDD hN)
  clear hDD

  have HLM := hide hlm
  have q0 : ¬ (0 < d.h) := by omega
  clear H
  go_enter Tryz.func64, Tryz.ntmps64
  go_wp2_with fail
  refine CD.out.mono ?_
  rintro e w1 ⟨rfl, rfl⟩
  go_upto_region 6 with fail
  have hq := (HS.out.n N).l 3
  have hfq : Fr p tv tv w1 ((w1.setCell ⟨p, 5, none⟩ (.int .i64 N)).setCell ⟨p, 4, none⟩ (.int .i64 3)) := ((Fr.refl _ _ _).setP _).setP _
  clear c3 c4 c5 c6 c7 c8 c9 f3 f4 f5 f6 f7 f8 f9 CD
  generalize (w1.setCell ⟨p, 5, none⟩ (.int .i64 N)).setCell ⟨p, 4, none⟩ (.int .i64 3) = W at hq hfq ⊢
  obtain ⟨c3, c4, c5, c6, c7, c8, c9, f3, f4, f5, f6, f7, f8, f9⟩ := df_of hq.blk
  simp only at c3 c4 c5 c6 c7 c8
  have HQ := hide hq
  have HFQ := hide hfq
  clear hq hfq
  go_wp2
  go_ret
  exact ⟨true, tv, es, d.lm, 3, N, d.h, d.lo, d.mo, rfl, HQ.out, HFQ.out, Or.inl ⟨rfl, .digs 3 N d.h, [], by rw [dgs_go (by rw [HDN.out.1]; omega) (by rw [HDN.out.1, HDN.out.2]; unfold xBar; omega) (by omega), HDN.out.1, HDN.out.2]; try rw [hh], by simp, HLM.out, rfl, rfl, rfl⟩⟩
set_option maxRecDepth 100000 in
set_option maxHeartbeats 2000000 in
theorem ddig_4h {w : World} {B p : Nat} {tv : Value} {es : List Int} {d : Dc} {c : Int} (H : DcS w B p tv es d) (h0 : 0 ≤ c) (h1 : c < 256) (hn : 0 ≤ d.n) (hn2 : d.n ≤ 4095) (hlm : d.lm = 3) (hl : d.l = 4) (hD : 0 ≤ xDig c) (hh : 0 < d.h) (hp : (16 * d.n + xDig c) = 13) : Calls Tryz.prog 64 #[.pointer (some ⟨p, 3, none⟩), .int .u8 c] w (StepOut w B p tv es d (.digs 4 d.n d.h) c) := by
  have hdl := xDig_lt c
  obtain ⟨D, hDD⟩ : ∃ D, xDig c = D := ⟨_, rfl⟩
  rw [hDD] at hdl hD hp
  have CD := hide (ddigit (w := w) h0 h1)
  rw [hDD] at CD
  obtain ⟨N, hN⟩ : ∃ N, 16 * d.n + D = N := ⟨_, rfl⟩
  have HS := hide H
  obtain ⟨c3, c4, c5, c6, c7, c8, c9, f3, f4, f5, f6, f7, f8, f9⟩ := df_of H.blk
  rw [hl] at c4
  have HDN := hide (And.intro hDD hN)
  clear hDD

  have HLM := hide hlm
  rw [hN] at hp
  have HP := hide hp
  have q0 : (N != 13) = false := by simp; omega
  clear hp
  clear H
  go_enter Tryz.func64, Tryz.ntmps64
  go_wp2_with fail
  refine CD.out.mono ?_
  rintro e w1 ⟨rfl, rfl⟩
  go_upto_region 6 with fail
  have hq := (HS.out.n N).l 3
  have hfq : Fr p tv tv w1 ((w1.setCell ⟨p, 5, none⟩ (.int .i64 N)).setCell ⟨p, 4, none⟩ (.int .i64 3)) := ((Fr.refl _ _ _).setP _).setP _
  clear c3 c4 c5 c6 c7 c8 c9 f3 f4 f5 f6 f7 f8 f9 CD
  generalize (w1.setCell ⟨p, 5, none⟩ (.int .i64 N)).setCell ⟨p, 4, none⟩ (.int .i64 3) = W at hq hfq ⊢
  obtain ⟨c3, c4, c5, c6, c7, c8, c9, f3, f4, f5, f6, f7, f8, f9⟩ := df_of hq.blk
  simp only at c3 c4 c5 c6 c7 c8
  have HQ := hide hq
  have HFQ := hide hfq
  clear hq hfq
  go_wp2
  go_ret
  have hp := HP.out
  exact ⟨true, tv, es, d.lm, 3, N, d.h, d.lo, d.mo, rfl, HQ.out, HFQ.out, Or.inl ⟨rfl, .digs 3 N d.h, [], by rw [dgs_go (by rw [HDN.out.1]; omega) (by rw [HDN.out.1, HDN.out.2]; unfold xBar; omega) (by omega), HDN.out.1, HDN.out.2]; try rw [hh], by simp, HLM.out, rfl, rfl, rfl⟩⟩
set_option maxRecDepth 100000 in
set_option maxHeartbeats 2000000 in
theorem ddig_4b {w : World} {B p : Nat} {tv : Value} {es : List Int} {d : Dc} {c : Int} (H : DcS w B p tv es d) (h0 : 0 ≤ c) (h1 : c < 256) (hn : 0 ≤ d.n) (hn2 : d.n ≤ 4095) (hlm : d.lm = 3) (hl : d.l = 4) (hD : 0 ≤ xDig c) (hh : 0 < d.h) (hp : (16 * d.n + xDig c) ≠ 13) : Calls Tryz.prog 64 #[.pointer (some ⟨p, 3, none⟩), .int .u8 c] w (StepOut w B p tv es d (.digs 4 d.n d.h) c) := by
  have hdl := xDig_lt c
  obtain ⟨D, hDD⟩ : ∃ D, xDig c = D := ⟨_, rfl⟩
  rw [hDD] at hdl hD hp
  have CD := hide (ddigit (w := w) h0 h1)
  rw [hDD] at CD
  obtain ⟨N, hN⟩ : ∃ N, 16 * d.n + D = N := ⟨_, rfl⟩
  have HS := hide H
  obtain ⟨c3, c4, c5, c6, c7, c8, c9, f3, f4, f5, f6, f7, f8, f9⟩ := df_of H.blk
  rw [hl] at c4
  have HDN := hide (And.intro hDD hN)
  clear hDD

  have HLM := hide hlm
  have q0 : (N != 13) = true := by first | omega | (simp; omega)
  clear H
  go_enter Tryz.func64, Tryz.ntmps64
  go_wp2_with fail
  refine CD.out.mono ?_
  rintro e w1 ⟨rfl, rfl⟩
  go_upto_region 6 with fail
  have hq := (HS.out.n N).l 3
  have hfq : Fr p tv tv w1 ((w1.setCell ⟨p, 5, none⟩ (.int .i64 N)).setCell ⟨p, 4, none⟩ (.int .i64 3)) := ((Fr.refl _ _ _).setP _).setP _
  clear c3 c4 c5 c6 c7 c8 c9 f3 f4 f5 f6 f7 f8 f9 CD
  generalize (w1.setCell ⟨p, 5, none⟩ (.int .i64 N)).setCell ⟨p, 4, none⟩ (.int .i64 3) = W at hq hfq ⊢
  obtain ⟨c3, c4, c5, c6, c7, c8, c9, f3, f4, f5, f6, f7, f8, f9⟩ := df_of hq.blk
  simp only at c3 c4 c5 c6 c7 c8
  have HQ := hide hq
  have HFQ := hide hfq
  clear hq hfq
  go_wp2
  go_ret
  exact ⟨false, tv, es, d.lm, 3, N, d.h, d.lo, d.mo, rfl, HQ.out, HFQ.out, Or.inr ⟨rfl, dgs_none (Or.inr (by rw [HDN.out.1, HDN.out.2]; unfold xBar; omega))⟩⟩
set_option maxRecDepth 100000 in
set_option maxHeartbeats 2000000 in
theorem ddig_3a {w : World} {B p : Nat} {tv : Value} {es : List Int} {d : Dc} {c : Int} (H : DcS w B p tv es d) (h0 : 0 ≤ c) (h1 : c < 256) (hn : 0 ≤ d.n) (hn2 : d.n ≤ 4095) (hlm : d.lm = 3) (hl : d.l = 3) (hD : 0 ≤ xDig c) (hh : d.h = 0) (hp : (16 * d.n + xDig c) < 220) : Calls Tryz.prog 64 #[.pointer (some ⟨p, 3, none⟩), .int .u8 c] w (StepOut w B p tv es d (.digs 3 d.n d.h) c) := by
  have hdl := xDig_lt c
  obtain ⟨D, hDD⟩ : ∃ D, xDig c = D := ⟨_, rfl⟩
  rw [hDD] at hdl hD hp
  have CD := hide (ddigit (w := w) h0 h1)
  rw [hDD] at CD
  obtain ⟨N, hN⟩ : ∃ N, 16 * d.n + D = N := ⟨_, rfl⟩
  have HS := hide H
  obtain ⟨c3, c4, c5, c6, c7, c8, c9, f3, f4, f5, f6, f7, f8, f9⟩ := df_of H.blk
  rw [hl] at c4
  have HDN := hide (And.intro hDD hN)
  clear hDD

  have HLM := hide hlm
  have q0 : ¬ (220 ≤ N) := by omega
  have q1 : ¬ (0 < d.h) := by omega
  clear H
  go_enter Tryz.func64, Tryz.ntmps64
  go_wp2_with fail
  refine CD.out.mono ?_
  rintro e w1 ⟨rfl, rfl⟩
  go_upto_region 6 with fail
  have hq := (HS.out.n N).l 2
  have hfq : Fr p tv tv w1 ((w1.setCell ⟨p, 5, none⟩ (.int .i64 N)).setCell ⟨p, 4, none⟩ (.int .i64 2)) := ((Fr.refl _ _ _).setP _).setP _
  clear c3 c4 c5 c6 c7 c8 c9 f3 f4 f5 f6 f7 f8 f9 CD
  generalize (w1.setCell ⟨p, 5, none⟩ (.int .i64 N)).setCell ⟨p, 4, none⟩ (.int .i64 2) = W at hq hfq ⊢
  obtain ⟨c3, c4, c5, c6, c7, c8, c9, f3, f4, f5, f6, f7, f8, f9⟩ := df_of hq.blk
  simp only at c3 c4 c5 c6 c7 c8
  have HQ := hide hq
  have HFQ := hide hfq
  clear hq hfq
  go_wp2
  go_ret
  exact ⟨true, tv, es, d.lm, 2, N, d.h, d.lo, d.mo, rfl, HQ.out, HFQ.out, Or.inl ⟨rfl, .digs 2 N d.h, [], by rw [dgs_go (by rw [HDN.out.1]; omega) (by rw [HDN.out.1, HDN.out.2]; unfold xBar; omega) (by omega), HDN.out.1, HDN.out.2]; try rw [hh], by simp, HLM.out, rfl, rfl, rfl⟩⟩
set_option maxRecDepth 100000 in
set_option maxHeartbeats 2000000 in
theorem ddig_3b {w : World} {B p : Nat} {tv : Value} {es : List Int} {d : Dc} {c : Int} (H : DcS w B p tv es d) (h0 : 0 ≤ c) (h1 : c < 256) (hn : 0 ≤ d.n) (hn2 : d.n ≤ 4095) (hlm : d.lm = 3) (hl : d.l = 3) (hD : 0 ≤ xDig c) (hh : d.h = 0) (hp : 223 < (16 * d.n + xDig c)) : Calls Tryz.prog 64 #[.pointer (some ⟨p, 3, none⟩), .int .u8 c] w (StepOut w B p tv es d (.digs 3 d.n d.h) c) := by
  have hdl := xDig_lt c
  obtain ⟨D, hDD⟩ : ∃ D, xDig c = D := ⟨_, rfl⟩
  rw [hDD] at hdl hD hp
  have CD := hide (ddigit (w := w) h0 h1)
  rw [hDD] at CD
  obtain ⟨N, hN⟩ : ∃ N, 16 * d.n + D = N := ⟨_, rfl⟩
  have HS := hide H
  obtain ⟨c3, c4, c5, c6, c7, c8, c9, f3, f4, f5, f6, f7, f8, f9⟩ := df_of H.blk
  rw [hl] at c4
  have HDN := hide (And.intro hDD hN)
  clear hDD

  have HLM := hide hlm
  have q0 : 220 ≤ N := by omega
  have q1 : ¬ (N ≤ 223) := by omega
  have q2 : ¬ (0 < d.h) := by omega
  clear H
  go_enter Tryz.func64, Tryz.ntmps64
  go_wp2_with fail
  refine CD.out.mono ?_
  rintro e w1 ⟨rfl, rfl⟩
  go_upto_region 6 with fail
  have hq := (HS.out.n N).l 2
  have hfq : Fr p tv tv w1 ((w1.setCell ⟨p, 5, none⟩ (.int .i64 N)).setCell ⟨p, 4, none⟩ (.int .i64 2)) := ((Fr.refl _ _ _).setP _).setP _
  clear c3 c4 c5 c6 c7 c8 c9 f3 f4 f5 f6 f7 f8 f9 CD
  generalize (w1.setCell ⟨p, 5, none⟩ (.int .i64 N)).setCell ⟨p, 4, none⟩ (.int .i64 2) = W at hq hfq ⊢
  obtain ⟨c3, c4, c5, c6, c7, c8, c9, f3, f4, f5, f6, f7, f8, f9⟩ := df_of hq.blk
  simp only at c3 c4 c5 c6 c7 c8
  have HQ := hide hq
  have HFQ := hide hfq
  clear hq hfq
  go_wp2
  go_ret
  exact ⟨true, tv, es, d.lm, 2, N, d.h, d.lo, d.mo, rfl, HQ.out, HFQ.out, Or.inl ⟨rfl, .digs 2 N d.h, [], by rw [dgs_go (by rw [HDN.out.1]; omega) (by rw [HDN.out.1, HDN.out.2]; unfold xBar; omega) (by omega), HDN.out.1, HDN.out.2]; try rw [hh], by simp, HLM.out, rfl, rfl, rfl⟩⟩
set_option maxRecDepth 100000 in
set_option maxHeartbeats 2000000 in
theorem ddig_3c {w : World} {B p : Nat} {tv : Value} {es : List Int} {d : Dc} {c : Int} (H : DcS w B p tv es d) (h0 : 0 ≤ c) (h1 : c < 256) (hn : 0 ≤ d.n) (hn2 : d.n ≤ 4095) (hlm : d.lm = 3) (hl : d.l = 3) (hD : 0 ≤ xDig c) (hh : d.h = 0) (hp : 220 ≤ (16 * d.n + xDig c) ∧ (16 * d.n + xDig c) ≤ 223) : Calls Tryz.prog 64 #[.pointer (some ⟨p, 3, none⟩), .int .u8 c] w (StepOut w B p tv es d (.digs 3 d.n d.h) c) := by
  have hdl := xDig_lt c
  obtain ⟨D, hDD⟩ : ∃ D, xDig c = D := ⟨_, rfl⟩
  rw [hDD] at hdl hD hp
  have CD := hide (ddigit (w := w) h0 h1)
  rw [hDD] at CD
  obtain ⟨N, hN⟩ : ∃ N, 16 * d.n + D = N := ⟨_, rfl⟩
  have HS := hide H
  obtain ⟨c3, c4, c5, c6, c7, c8, c9, f3, f4, f5, f6, f7, f8, f9⟩ := df_of H.blk
  rw [hl] at c4
  have HDN := hide (And.intro hDD hN)
  clear hDD

  have HLM := hide hlm
  have q0 : 220 ≤ N := by omega
  have q1 : N ≤ 223 := by omega
  have q2 : ¬ (0 < d.h) := by omega
  clear H
  go_enter Tryz.func64, Tryz.ntmps64
  go_wp2_with fail
  refine CD.out.mono ?_
  rintro e w1 ⟨rfl, rfl⟩
  go_upto_region 6 with fail
  have hq := (HS.out.n N).l 2
  have hfq : Fr p tv tv w1 ((w1.setCell ⟨p, 5, none⟩ (.int .i64 N)).setCell ⟨p, 4, none⟩ (.int .i64 2)) := ((Fr.refl _ _ _).setP _).setP _
  clear c3 c4 c5 c6 c7 c8 c9 f3 f4 f5 f6 f7 f8 f9 CD
  generalize (w1.setCell ⟨p, 5, none⟩ (.int .i64 N)).setCell ⟨p, 4, none⟩ (.int .i64 2) = W at hq hfq ⊢
  obtain ⟨c3, c4, c5, c6, c7, c8, c9, f3, f4, f5, f6, f7, f8, f9⟩ := df_of hq.blk
  simp only at c3 c4 c5 c6 c7 c8
  have HQ := hide hq
  have HFQ := hide hfq
  clear hq hfq
  go_wp2
  go_ret
  exact ⟨false, tv, es, d.lm, 2, N, d.h, d.lo, d.mo, rfl, HQ.out, HFQ.out, Or.inr ⟨rfl, dgs_none (Or.inr (by rw [HDN.out.1, HDN.out.2]; unfold xBar; omega))⟩⟩
set_option maxRecDepth 100000 in
set_option maxHeartbeats 2000000 in
theorem ddig_3d {w : World} {B p : Nat} {tv : Value} {es : List Int} {d : Dc} {c : Int} (H : DcS w B p tv es d) (h0 : 0 ≤ c) (h1 : c < 256) (hn : 0 ≤ d.n) (hn2 : d.n ≤ 4095) (hlm : d.lm = 3) (hl : d.l = 3) (hD : 0 ≤ xDig c) (hh : 0 < d.h) (hp : (16 * d.n + xDig c) < 220) : Calls Tryz.prog 64 #[.pointer (some ⟨p, 3, none⟩), .int .u8 c] w (StepOut w B p tv es d (.digs 3 d.n d.h) c) := by
  have hdl := xDig_lt c
  obtain ⟨D, hDD⟩ : ∃ D, xDig c = D := ⟨_, rfl⟩
  rw [hDD] at hdl hD hp
  have CD := hide (ddigit (w := w) h0 h1)
  rw [hDD] at CD
  obtain ⟨N, hN⟩ : ∃ N, 16 * d.n + D = N := ⟨_, rfl⟩
  have HS := hide H
  obtain ⟨c3, c4, c5, c6, c7, c8, c9, f3, f4, f5, f6, f7, f8, f9⟩ := df_of H.blk
  rw [hl] at c4
  have HDN := hide (And.intro hDD hN)
  clear hDD

  have HLM := hide hlm
  have q0 : ¬ (220 ≤ N) := by omega
  have q1 : ¬ (d.h = 0) := by omega
  clear H
  go_enter Tryz.func64, Tryz.ntmps64
  go_wp2_with fail
  refine CD.out.mono ?_
  rintro e w1 ⟨rfl, rfl⟩
  go_upto_region 6 with fail
  have hq := (HS.out.n N).l 2
  have hfq : Fr p tv tv w1 ((w1.setCell ⟨p, 5, none⟩ (.int .i64 N)).setCell ⟨p, 4, none⟩ (.int .i64 2)) := ((Fr.refl _ _ _).setP _).setP _
  clear c3 c4 c5 c6 c7 c8 c9 f3 f4 f5 f6 f7 f8 f9 CD
  generalize (w1.setCell ⟨p, 5, none⟩ (.int .i64 N)).setCell ⟨p, 4, none⟩ (.int .i64 2) = W at hq hfq ⊢
  obtain ⟨c3, c4, c5, c6, c7, c8, c9, f3, f4, f5, f6, f7, f8, f9⟩ := df_of hq.blk
  simp only at c3 c4 c5 c6 c7 c8
  have HQ := hide hq
  have HFQ := hide hfq
  clear hq hfq
  go_wp2
  go_ret
  exact ⟨false, tv, es, d.lm, 2, N, d.h, d.lo, d.mo, rfl, HQ.out, HFQ.out, Or.inr ⟨rfl, dgs_none (Or.inr (by rw [HDN.out.1, HDN.out.2]; unfold xBar; omega))⟩⟩
set_option maxRecDepth 100000 in
set_option maxHeartbeats 2000000 in
theorem ddig_3e {w : World} {B p : Nat} {tv : Value} {es : List Int} {d : Dc} {c : Int} (H : DcS w B p tv es d) (h0 : 0 ≤ c) (h1 : c < 256) (hn : 0 ≤ d.n) (hn2 : d.n ≤ 4095) (hlm : d.lm = 3) (hl : d.l = 3) (hD : 0 ≤ xDig c) (hh : 0 < d.h) (hp : 223 < (16 * d.n + xDig c)) : Calls Tryz.prog 64 #[.pointer (some ⟨p, 3, none⟩), .int .u8 c] w (StepOut w B p tv es d (.digs 3 d.n d.h) c) := by
  have hdl := xDig_lt c
  obtain ⟨D, hDD⟩ : ∃ D, xDig c = D := ⟨_, rfl⟩
  rw [hDD] at hdl hD hp
  have CD := hide (ddigit (w := w) h0 h1)
  rw [hDD] at CD
  obtain ⟨N, hN⟩ : ∃ N, 16 * d.n + D = N := ⟨_, rfl⟩
  have HS := hide H
  obtain ⟨c3, c4, c5, c6, c7, c8, c9, f3, f4, f5, f6, f7, f8, f9⟩ := df_of H.blk
  rw [hl] at c4
  have HDN := hide (And.intro hDD hN)
  clear hDD

  have HLM := hide hlm
  have q0 : 220 ≤ N := by omega
  have q1 : ¬ (N ≤ 223) := by omega
  have q2 : ¬ (d.h = 0) := by omega
  clear H
  go_enter Tryz.func64, Tryz.ntmps64
  go_wp2_with fail
  refine CD.out.mono ?_
  rintro e w1 ⟨rfl, rfl⟩
  go_upto_region 6 with fail
  have hq := (HS.out.n N).l 2
  have hfq : Fr p tv tv w1 ((w1.setCell ⟨p, 5, none⟩ (.int .i64 N)).setCell ⟨p, 4, none⟩ (.int .i64 2)) := ((Fr.refl _ _ _).setP _).setP _
  clear c3 c4 c5 c6 c7 c8 c9 f3 f4 f5 f6 f7 f8 f9 CD
  generalize (w1.setCell ⟨p, 5, none⟩ (.int .i64 N)).setCell ⟨p, 4, none⟩ (.int .i64 2) = W at hq hfq ⊢
  obtain ⟨c3, c4, c5, c6, c7, c8, c9, f3, f4, f5, f6, f7, f8, f9⟩ := df_of hq.blk
  simp only at c3 c4 c5 c6 c7 c8
  have HQ := hide hq
  have HFQ := hide hfq
  clear hq hfq
  go_wp2
  go_ret
  exact ⟨false, tv, es, d.lm, 2, N, d.h, d.lo, d.mo, rfl, HQ.out, HFQ.out, Or.inr ⟨rfl, dgs_none (Or.inr (by rw [HDN.out.1, HDN.out.2]; unfold xBar; omega))⟩⟩
set_option maxRecDepth 100000 in
set_option maxHeartbeats 2000000 in
theorem ddig_3f {w : World} {B p : Nat} {tv : Value} {es : List Int} {d : Dc} {c : Int} (H : DcS w B p tv es d) (h0 : 0 ≤ c) (h1 : c < 256) (hn : 0 ≤ d.n) (hn2 : d.n ≤ 4095) (hlm : d.lm = 3) (hl : d.l = 3) (hD : 0 ≤ xDig c) (hh : 0 < d.h) (hp : 220 ≤ (16 * d.n + xDig c) ∧ (16 * d.n + xDig c) ≤ 223) : Calls Tryz.prog 64 #[.pointer (some ⟨p, 3, none⟩), .int .u8 c] w (StepOut w B p tv es d (.digs 3 d.n d.h) c) := by
  have hdl := xDig_lt c
  obtain ⟨D, hDD⟩ : ∃ D, xDig c = D := ⟨_, rfl⟩
  rw [hDD] at hdl hD hp
  have CD := hide (ddigit (w := w) h0 h1)
  rw [hDD] at CD
  obtain ⟨N, hN⟩ : ∃ N, 16 * d.n + D = N := ⟨_, rfl⟩
  have HS := hide H
  obtain ⟨c3, c4, c5, c6, c7, c8, c9, f3, f4, f5, f6, f7, f8, f9⟩ := df_of H.blk
  rw [hl] at c4
  have HDN := hide (And.intro hDD hN)
  clear hDD

  have HLM := hide hlm
  have q0 : 220 ≤ N := by omega
  have q1 : N ≤ 223 := by omega
  have q2 : ¬ (d.h = 0) := by omega
  clear H
  go_enter Tryz.func64, Tryz.ntmps64
  go_wp2_with fail
  refine CD.out.mono ?_
  rintro e w1 ⟨rfl, rfl⟩
  go_upto_region 6 with fail
  have hq := (HS.out.n N).l 2
  have hfq : Fr p tv tv w1 ((w1.setCell ⟨p, 5, none⟩ (.int .i64 N)).setCell ⟨p, 4, none⟩ (.int .i64 2)) := ((Fr.refl _ _ _).setP _).setP _
  clear c3 c4 c5 c6 c7 c8 c9 f3 f4 f5 f6 f7 f8 f9 CD
  generalize (w1.setCell ⟨p, 5, none⟩ (.int .i64 N)).setCell ⟨p, 4, none⟩ (.int .i64 2) = W at hq hfq ⊢
  obtain ⟨c3, c4, c5, c6, c7, c8, c9, f3, f4, f5, f6, f7, f8, f9⟩ := df_of hq.blk
  simp only at c3 c4 c5 c6 c7 c8
  have HQ := hide hq
  have HFQ := hide hfq
  clear hq hfq
  go_wp2
  go_ret
  exact ⟨true, tv, es, d.lm, 2, N, d.h, d.lo, d.mo, rfl, HQ.out, HFQ.out, Or.inl ⟨rfl, .digs 2 N d.h, [], by rw [dgs_go (by rw [HDN.out.1]; omega) (by rw [HDN.out.1, HDN.out.2]; unfold xBar; omega) (by omega), HDN.out.1, HDN.out.2]; try rw [hh], by simp, HLM.out, rfl, rfl, rfl⟩⟩
set_option maxRecDepth 100000 in
set_option maxHeartbeats 2000000 in
theorem ddig_2n {w : World} {B p : Nat} {tv : Value} {es : List Int} {d : Dc} {c : Int} (H : DcS w B p tv es d) (h0 : 0 ≤ c) (h1 : c < 256) (hn : 0 ≤ d.n) (hn2 : d.n ≤ 4095) (hlm : d.lm = 3) (hl : d.l = 2) (hD : 0 ≤ xDig c) (hh : d.h = 0) : Calls Tryz.prog 64 #[.pointer (some ⟨p, 3, none⟩), .int .u8 c] w (StepOut w B p tv es d (.digs 2 d.n d.h) c) := by
  have hdl := xDig_lt c
  obtain ⟨D, hDD⟩ : ∃ D, xDig c = D := ⟨_, rfl⟩
  rw [hDD] at hdl hD
  have CD := hide (ddigit (w := w) h0 h1)
  rw [hDD] at CD
  obtain ⟨N, hN⟩ : ∃ N, 16 * d.n + D = N := ⟨_, rfl⟩
  have HS := hide H
  obtain ⟨c3, c4, c5, c6, c7, c8, c9, f3, f4, f5, f6, f7, f8, f9⟩ := df_of H.blk
  rw [hl] at c4
  have HDN := hide (And.intro hDD hN)
  clear hDD

  have HLM := hide hlm
  have q0 : ¬ (0 < d.h) := by omega
  clear H
  go_enter Tryz.func64, Tryz.ntmps64
  go_wp2_with fail
  refine CD.out.mono ?_
  rintro e w1 ⟨rfl, rfl⟩
  go_upto_region 6 with fail
  have hq := (HS.out.n N).l 1
  have hfq : Fr p tv tv w1 ((w1.setCell ⟨p, 5, none⟩ (.int .i64 N)).setCell ⟨p, 4, none⟩ (.int .i64 1)) := ((Fr.refl _ _ _).setP _).setP _
  clear c3 c4 c5 c6 c7 c8 c9 f3 f4 f5 f6 f7 f8 f9 CD
  generalize (w1.setCell ⟨p, 5, none⟩ (.int .i64 N)).setCell ⟨p, 4, none⟩ (.int .i64 1) = W at hq hfq ⊢
  obtain ⟨c3, c4, c5, c6, c7, c8, c9, f3, f4, f5, f6, f7, f8, f9⟩ := df_of hq.blk
  simp only at c3 c4 c5 c6 c7 c8
  have HQ := hide hq
  have HFQ := hide hfq
  clear hq hfq
  go_wp2
  go_ret
  exact ⟨true, tv, es, d.lm, 1, N, d.h, d.lo, d.mo, rfl, HQ.out, HFQ.out, Or.inl ⟨rfl, .digs 1 N d.h, [], by rw [dgs_go (by rw [HDN.out.1]; omega) (by rw [HDN.out.1, HDN.out.2]; unfold xBar; omega) (by omega), HDN.out.1, HDN.out.2]; try rw [hh], by simp, HLM.out, rfl, rfl, rfl⟩⟩
set_option maxRecDepth 100000 in
set_option maxHeartbeats 2000000 in
theorem ddig_2h {w : World} {B p : Nat} {tv : Value} {es : List Int} {d : Dc} {c : Int} (H : DcS w B p tv es d) (h0 : 0 ≤ c) (h1 : c < 256) (hn : 0 ≤ d.n) (hn2 : d.n ≤ 4095) (hlm : d.lm = 3) (hl : d.l = 2) (hD : 0 ≤ xDig c) (hh : 0 < d.h) : Calls Tryz.prog 64 #[.pointer (some ⟨p, 3, none⟩), .int .u8 c] w (StepOut w B p tv es d (.digs 2 d.n d.h) c) := by
  have hdl := xDig_lt c
  obtain ⟨D, hDD⟩ : ∃ D, xDig c = D := ⟨_, rfl⟩
  rw [hDD] at hdl hD
  have CD := hide (ddigit (w := w) h0 h1)
  rw [hDD] at CD
  obtain ⟨N, hN⟩ : ∃ N, 16 * d.n + D = N := ⟨_, rfl⟩
  have HS := hide H
  obtain ⟨c3, c4, c5, c6, c7, c8, c9, f3, f4, f5, f6, f7, f8, f9⟩ := df_of H.blk
  rw [hl] at c4
  have HDN := hide (And.intro hDD hN)
  clear hDD

  have HLM := hide hlm
  have q0 : ¬ (d.h = 0) := by omega
  clear H
  go_enter Tryz.func64, Tryz.ntmps64
  go_wp2_with fail
  refine CD.out.mono ?_
  rintro e w1 ⟨rfl, rfl⟩
  go_upto_region 6 with fail
  have hq := (HS.out.n N).l 1
  have hfq : Fr p tv tv w1 ((w1.setCell ⟨p, 5, none⟩ (.int .i64 N)).setCell ⟨p, 4, none⟩ (.int .i64 1)) := ((Fr.refl _ _ _).setP _).setP _
  clear c3 c4 c5 c6 c7 c8 c9 f3 f4 f5 f6 f7 f8 f9 CD
  generalize (w1.setCell ⟨p, 5, none⟩ (.int .i64 N)).setCell ⟨p, 4, none⟩ (.int .i64 1) = W at hq hfq ⊢
  obtain ⟨c3, c4, c5, c6, c7, c8, c9, f3, f4, f5, f6, f7, f8, f9⟩ := df_of hq.blk
  simp only at c3 c4 c5 c6 c7 c8
  have HQ := hide hq
  have HFQ := hide hfq
  clear hq hfq
  go_wp2
  go_ret
  exact ⟨true, tv, es, d.lm, 1, N, d.h, d.lo, d.mo, rfl, HQ.out, HFQ.out, Or.inl ⟨rfl, .digs 1 N d.h, [], by rw [dgs_go (by rw [HDN.out.1]; omega) (by rw [HDN.out.1, HDN.out.2]; unfold xBar; omega) (by omega), HDN.out.1, HDN.out.2]; try rw [hh], by simp, HLM.out, rfl, rfl, rfl⟩⟩
set_option maxRecDepth 100000 in
set_option maxHeartbeats 2000000 in
theorem ddig_1s {w : World} {B p : Nat} {tv : Value} {es : List Int} {d : Dc} {c : Int} (H : DcS w B p tv es d) (h0 : 0 ≤ c) (h1 : c < 256) (hn : 0 ≤ d.n) (hn2 : d.n ≤ 4095) (hlm : d.lm = 3) (hl : d.l = 1) (hD : 0 ≤ xDig c) (hh : d.h = 0) (hp : 55296 ≤ (16 * d.n + xDig c) ∧ (16 * d.n + xDig c) ≤ 56319) : Calls Tryz.prog 64 #[.pointer (some ⟨p, 3, none⟩), .int .u8 c] w (StepOut w B p tv es d (.digs 1 d.n d.h) c) := by
  have hdl := xDig_lt c
  obtain ⟨D, hDD⟩ : ∃ D, xDig c = D := ⟨_, rfl⟩
  rw [hDD] at hdl hD hp
  have CD := hide (ddigit (w := w) h0 h1)
  rw [hDD] at CD
  obtain ⟨N, hN⟩ : ∃ N, 16 * d.n + D = N := ⟨_, rfl⟩
  have HS := hide H
  obtain ⟨c3, c4, c5, c6, c7, c8, c9, f3, f4, f5, f6, f7, f8, f9⟩ := df_of H.blk
  rw [hl] at c4
  have HDN := hide (And.intro hDD hN)
  clear hDD

  have HLM := hide hlm
  have q0 : ¬ (0 < d.h) := by omega
  have q1 : 55296 ≤ N := by omega
  have q2 : N ≤ 56319 := by omega
  clear H
  go_enter Tryz.func64, Tryz.ntmps64
  go_wp2_with fail
  refine CD.out.mono ?_
  rintro e w1 ⟨rfl, rfl⟩
  go_upto_region 6 with fail
  have hq := (HS.out.n N).l 0
  have hfq : Fr p tv tv w1 ((w1.setCell ⟨p, 5, none⟩ (.int .i64 N)).setCell ⟨p, 4, none⟩ (.int .i64 0)) := ((Fr.refl _ _ _).setP _).setP _
  clear c3 c4 c5 c6 c7 c8 c9 f3 f4 f5 f6 f7 f8 f9 CD
  generalize (w1.setCell ⟨p, 5, none⟩ (.int .i64 N)).setCell ⟨p, 4, none⟩ (.int .i64 0) = W at hq hfq ⊢
  obtain ⟨c3, c4, c5, c6, c7, c8, c9, f3, f4, f5, f6, f7, f8, f9⟩ := df_of hq.blk
  simp only at c3 c4 c5 c6 c7 c8
  have HQ := hide hq
  have HFQ := hide hfq
  clear hq hfq
  go_wp2
  go_ret
  exact ⟨true, tv, es, 4, 0, N, N, d.lo, d.mo, rfl, ((HQ.out.lm 1).h N).lm 4, ((HFQ.out.setP _).setP _).setP _, Or.inl ⟨rfl, .second N, [], by rw [dgs_end (by rw [HDN.out.1]; omega), HDN.out.1, HDN.out.2]; unfold xEnd; rw [if_neg (by omega), if_pos (by omega)], by simp, rfl, rfl⟩⟩
set_option maxRecDepth 100000 in
set_option maxHeartbeats 2000000 in
theorem ddig_1l {w : World} {B p : Nat} {tv : Value} {es : List Int} {d : Dc} {c : Int} (H : DcS w B p tv es d) (h0 : 0 ≤ c) (h1 : c < 256) (hn : 0 ≤ d.n) (hn2 : d.n ≤ 4095) (hlm : d.lm = 3) (hl : d.l = 1) (hD : 0 ≤ xDig c) (hh : d.h = 0) (hp : (16 * d.n + xDig c) < 55296) (hl4 : es.length + 3 ≤ 140737488355328) : Calls Tryz.prog 64 #[.pointer (some ⟨p, 3, none⟩), .int .u8 c] w (StepOut w B p tv es d (.digs 1 d.n d.h) c) := by
  have hdl := xDig_lt c
  obtain ⟨D, hDD⟩ : ∃ D, xDig c = D := ⟨_, rfl⟩
  rw [hDD] at hdl hD hp
  have CD := hide (ddigit (w := w) h0 h1)
  rw [hDD] at CD
  obtain ⟨N, hN⟩ : ∃ N, 16 * d.n + D = N := ⟨_, rfl⟩
  have HS := hide H
  obtain ⟨c3, c4, c5, c6, c7, c8, c9, f3, f4, f5, f6, f7, f8, f9⟩ := df_of H.blk
  rw [hl] at c4
  have HDN := hide (And.intro hDD hN)
  clear hDD

  have HLM := hide hlm
  have q0 : ¬ (0 < d.h) := by omega
  have q1 : ¬ (55296 ≤ N) := by omega
  clear H
  go_enter Tryz.func64, Tryz.ntmps64
  go_wp2_with fail
  refine CD.out.mono ?_
  rintro e w1 ⟨rfl, rfl⟩
  go_upto_region 6 with fail
  have hq := (HS.out.n N).l 0
  have hfq : Fr p tv tv w1 ((w1.setCell ⟨p, 5, none⟩ (.int .i64 N)).setCell ⟨p, 4, none⟩ (.int .i64 0)) := ((Fr.refl _ _ _).setP _).setP _
  clear c3 c4 c5 c6 c7 c8 c9 f3 f4 f5 f6 f7 f8 f9 CD
  generalize (w1.setCell ⟨p, 5, none⟩ (.int .i64 N)).setCell ⟨p, 4, none⟩ (.int .i64 0) = W at hq hfq ⊢
  obtain ⟨c3, c4, c5, c6, c7, c8, c9, f3, f4, f5, f6, f7, f8, f9⟩ := df_of hq.blk
  simp only at c3 c4 c5 c6 c7 c8
  have HQ := hide hq
  have HFQ := hide hfq
  clear hq hfq
  obtain ⟨ao, L, cap, hform⟩ := own_form HQ.out.own
  subst hform
  go_upto_region 12 with fail
  have hq1 := HQ.out.lm 1
  have hf1 := HFQ.out.setP (i := 3) (.int .i64 1)
  clear c3 c4 c5 c6 c7 c8 c9 f3 f4 f5 f6 f7 f8 f9
  generalize W.setCell ⟨p, 3, none⟩ (.int .i64 1) = V at hq1 hf1 ⊢
  obtain ⟨c3, c4, c5, c6, c7, c8, c9, f3, f4, f5, f6, f7, f8, f9⟩ := df_of hq1.blk
  simp only at c3 c4 c5 c6 c7 c8
  have HV := hide hq1
  have HFV := hide hf1
  have hVB : B ≤ V.heap.size := by have g1 := hq1.le; have g2 := hq1.lt; omega
  have hh := hh
  have CC : ∀ u, Below V.heap.size V u → (u.cell? ⟨p, 9, none⟩ = some (.slice ao L cap) ∧ u.cell? ⟨p, 5, none⟩ = some (.int .i64 N) ∧ u.cell? ⟨p, 6, none⟩ = some (.int .i64 d.h)) := fun u hu => ⟨(HV.out.below hu).cell 9, (HV.out.below hu).cell 5, (HV.out.below hu).cell 6⟩
  have K : Below V.heap.size V V.drew := (Below.refl _ _).drew
  have CE := hide (show ∀ u, Calls Tryz.prog 82 #[.int .i64 N] u fun e w' => ∃ g, e = .returned (.slice (some ⟨g, 0, none⟩) (uEnc N).length (uEnc N).length) ∧ Cells .u8 w' (some ⟨g, 0, none⟩) (uEnc N) ∧ Below u.heap.size u w' from fun u => dencode_own (by omega) (by omega))
  obtain ⟨E, hE⟩ : ∃ E, uEnc N = E := ⟨_, rfl⟩
  rw [hE] at CE
  have HE := hide (show uEnc N = E ∧ 0 < E.length ∧ es.length + E.length ≤ 140737488355328 from ⟨hE, hE ▸ uEnc_pos _, by have := uEnc_three (p := N) (by omega); rw [hE] at this; omega⟩)
  clear hq1 hf1 hE HQ HFQ
  go_region_law
    (first
      | ((refine dstep_append rfl (.tmp 99) (.tmp 104) 35 rfl B 5 .u8 1 Tryz.underlying35 Tryz.infoY8 _ es.length es rfl (HV.out.below K).own _ _ _ E rfl rfl hce.out HE.out.2.1 (by have := HE.out.2.2; unfold maxLen; omega) (by have := HE.out.2.2; omega) (by have := K.size; omega) ?_); intro v' w2 hown' hgrow hsame; obtain ⟨g', cap', rfl⟩ := down_some hown' (by have := HE.out.2.1; omega); obtain ⟨hG, hF, hK⟩ := dc_grew (us := E) HV.out K hown' hgrow hsame; obtain ⟨e3, e4, e5, e6, e7, e8, e9, k3, k4, k5, k6, k7, k8, k9⟩ := df_of hK; replace hG := hide hG; replace hF := hide hF; clear hown' hgrow hsame hK)
      | (go_simp; go_at_call 82; (refine (CE.out _).mono ?_); rintro e u1 ⟨g1, rfl, hce, hbe⟩; replace K := K.trans (hbe.mono K.size); replace hce := hide hce; have z9 := (CC _ K).1; clear hbe))
  all_goals clear CC
  all_goals go_wp2
  all_goals go_ret
  all_goals exact ⟨true, _, es ++ E, 1, 0, N, d.h, d.lo, d.mo, rfl, hG.out, (HFV.out.trans hF.out).setP _, Or.inl ⟨rfl, .inn, E, by rw [dgs_end (by rw [HDN.out.1]; omega), HDN.out.1, HDN.out.2]; unfold xEnd; rw [if_neg (by omega), if_neg (by omega), HE.out.1], rfl, rfl, hh⟩⟩
set_option maxRecDepth 100000 in
set_option maxHeartbeats 2000000 in
theorem ddig_1g {w : World} {B p : Nat} {tv : Value} {es : List Int} {d : Dc} {c : Int} (H : DcS w B p tv es d) (h0 : 0 ≤ c) (h1 : c < 256) (hn : 0 ≤ d.n) (hn2 : d.n ≤ 4095) (hlm : d.lm = 3) (hl : d.l = 1) (hD : 0 ≤ xDig c) (hh : d.h = 0) (hp : 56319 < (16 * d.n + xDig c)) (hl4 : es.length + 3 ≤ 140737488355328) : Calls Tryz.prog 64 #[.pointer (some ⟨p, 3, none⟩), .int .u8 c] w (StepOut w B p tv es d (.digs 1 d.n d.h) c) := by
  have hdl := xDig_lt c
  obtain ⟨D, hDD⟩ : ∃ D, xDig c = D := ⟨_, rfl⟩
  rw [hDD] at hdl hD hp
  have CD := hide (ddigit (w := w) h0 h1)
  rw [hDD] at CD
  obtain ⟨N, hN⟩ : ∃ N, 16 * d.n + D = N := ⟨_, rfl⟩
  have HS := hide H
  obtain ⟨c3, c4, c5, c6, c7, c8, c9, f3, f4, f5, f6, f7, f8, f9⟩ := df_of H.blk
  rw [hl] at c4
  have HDN := hide (And.intro hDD hN)
  clear hDD

  have HLM := hide hlm
  have q0 : ¬ (0 < d.h) := by omega
  have q1 : 55296 ≤ N := by omega
  have q2 : ¬ (N ≤ 56319) := by omega
  clear H
  go_enter Tryz.func64, Tryz.ntmps64
  go_wp2_with fail
  refine CD.out.mono ?_
  rintro e w1 ⟨rfl, rfl⟩
  go_upto_region 6 with fail
  have hq := (HS.out.n N).l 0
  have hfq : Fr p tv tv w1 ((w1.setCell ⟨p, 5, none⟩ (.int .i64 N)).setCell ⟨p, 4, none⟩ (.int .i64 0)) := ((Fr.refl _ _ _).setP _).setP _
  clear c3 c4 c5 c6 c7 c8 c9 f3 f4 f5 f6 f7 f8 f9 CD
  generalize (w1.setCell ⟨p, 5, none⟩ (.int .i64 N)).setCell ⟨p, 4, none⟩ (.int .i64 0) = W at hq hfq ⊢
  obtain ⟨c3, c4, c5, c6, c7, c8, c9, f3, f4, f5, f6, f7, f8, f9⟩ := df_of hq.blk
  simp only at c3 c4 c5 c6 c7 c8
  have HQ := hide hq
  have HFQ := hide hfq
  clear hq hfq
  obtain ⟨ao, L, cap, hform⟩ := own_form HQ.out.own
  subst hform
  go_upto_region 12 with fail
  have hq1 := HQ.out.lm 1
  have hf1 := HFQ.out.setP (i := 3) (.int .i64 1)
  clear c3 c4 c5 c6 c7 c8 c9 f3 f4 f5 f6 f7 f8 f9
  generalize W.setCell ⟨p, 3, none⟩ (.int .i64 1) = V at hq1 hf1 ⊢
  obtain ⟨c3, c4, c5, c6, c7, c8, c9, f3, f4, f5, f6, f7, f8, f9⟩ := df_of hq1.blk
  simp only at c3 c4 c5 c6 c7 c8
  have HV := hide hq1
  have HFV := hide hf1
  have hVB : B ≤ V.heap.size := by have g1 := hq1.le; have g2 := hq1.lt; omega
  have hh := hh
  have CC : ∀ u, Below V.heap.size V u → (u.cell? ⟨p, 9, none⟩ = some (.slice ao L cap) ∧ u.cell? ⟨p, 5, none⟩ = some (.int .i64 N) ∧ u.cell? ⟨p, 6, none⟩ = some (.int .i64 d.h)) := fun u hu => ⟨(HV.out.below hu).cell 9, (HV.out.below hu).cell 5, (HV.out.below hu).cell 6⟩
  have K : Below V.heap.size V V.drew := (Below.refl _ _).drew
  have CE := hide (show ∀ u, Calls Tryz.prog 82 #[.int .i64 N] u fun e w' => ∃ g, e = .returned (.slice (some ⟨g, 0, none⟩) (uEnc N).length (uEnc N).length) ∧ Cells .u8 w' (some ⟨g, 0, none⟩) (uEnc N) ∧ Below u.heap.size u w' from fun u => dencode_own (by omega) (by omega))
  obtain ⟨E, hE⟩ : ∃ E, uEnc N = E := ⟨_, rfl⟩
  rw [hE] at CE
  have HE := hide (show uEnc N = E ∧ 0 < E.length ∧ es.length + E.length ≤ 140737488355328 from ⟨hE, hE ▸ uEnc_pos _, by have := uEnc_three (p := N) (by omega); rw [hE] at this; omega⟩)
  clear hq1 hf1 hE HQ HFQ
  go_region_law
    (first
      | ((refine dstep_append rfl (.tmp 99) (.tmp 104) 35 rfl B 5 .u8 1 Tryz.underlying35 Tryz.infoY8 _ es.length es rfl (HV.out.below K).own _ _ _ E rfl rfl hce.out HE.out.2.1 (by have := HE.out.2.2; unfold maxLen; omega) (by have := HE.out.2.2; omega) (by have := K.size; omega) ?_); intro v' w2 hown' hgrow hsame; obtain ⟨g', cap', rfl⟩ := down_some hown' (by have := HE.out.2.1; omega); obtain ⟨hG, hF, hK⟩ := dc_grew (us := E) HV.out K hown' hgrow hsame; obtain ⟨e3, e4, e5, e6, e7, e8, e9, k3, k4, k5, k6, k7, k8, k9⟩ := df_of hK; replace hG := hide hG; replace hF := hide hF; clear hown' hgrow hsame hK)
      | (go_simp; go_at_call 82; (refine (CE.out _).mono ?_); rintro e u1 ⟨g1, rfl, hce, hbe⟩; replace K := K.trans (hbe.mono K.size); replace hce := hide hce; have z9 := (CC _ K).1; clear hbe))
  all_goals clear CC
  all_goals go_wp2
  all_goals go_ret
  all_goals exact ⟨true, _, es ++ E, 1, 0, N, d.h, d.lo, d.mo, rfl, hG.out, (HFV.out.trans hF.out).setP _, Or.inl ⟨rfl, .inn, E, by rw [dgs_end (by rw [HDN.out.1]; omega), HDN.out.1, HDN.out.2]; unfold xEnd; rw [if_neg (by omega), if_neg (by omega), HE.out.1], rfl, rfl, hh⟩⟩

end Go.Proofs.YtefmlajndillbaaGreatDoor
