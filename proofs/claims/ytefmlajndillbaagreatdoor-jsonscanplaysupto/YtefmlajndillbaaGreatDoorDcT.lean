/- ref10 on the document's scanner: Step -/
import Derived.Test.YtefmlajndillbaaGreatDoorDcH
import Derived.Test.YtefmlajndillbaaGreatDoorDcR
namespace Go.Proofs.YtefmlajndillbaaGreatDoor
open Go.RowKit
set_option linter.unusedVariables false

theorem ddigits {w : World} {B p : Nat} {tv : Value} {es : List Int} {d : Dc} {c : Int} {l : Nat} (H : DcS w B p tv es d) (h0 : 0 ≤ c) (h1 : c < 256) (hlm : d.lm = 3) (hl : d.l = l) (hok : xOk (.digs l d.n d.h)) (hl4 : es.length + 4 ≤ 140737488355328) :
    Calls Tryz.prog 64 #[.pointer (some ⟨p, 3, none⟩), .int .u8 c] w (StepOut w B p tv es d (.digs l d.n d.h) c) := by
  obtain ⟨a1, a2, a3, a4, a5, a6, a7, a8⟩ := hok
  have hd := xDig_lt c
  by_cases hD : xDig c < 0
  · exact ddig_no H h0 h1 hD
  replace hD : 0 ≤ xDig c := by omega
  have hcl : l = 1 ∨ l = 2 ∨ l = 3 ∨ l = 4 := by omega
  rcases hcl with rfl | rfl | rfl | rfl
  · rcases a8 with ⟨hh, _⟩ | ⟨⟨g1, g2⟩, _, _, g3⟩
    · by_cases p1 : 16 * d.n + xDig c < 55296
      · exact ddig_1l H h0 h1 a3 (by omega) hlm hl hD hh p1 (by omega)
      · by_cases p2 : 56319 < 16 * d.n + xDig c
        · exact ddig_1g H h0 h1 a3 (by omega) hlm hl hD hh p2 (by omega)
        · exact ddig_1s H h0 h1 a3 (by omega) hlm hl hD hh (by omega)
    · have := g3 rfl
      exact ddig_1h H h0 h1 a3 (by omega) hlm hl hD g1 g2 (by omega) (by omega)
  · rcases a8 with ⟨hh, _⟩ | ⟨⟨g1, g2⟩, _, _, g3⟩
    · exact ddig_2n H h0 h1 a3 (by omega) hlm hl hD hh
    · exact ddig_2h H h0 h1 a3 (by omega) hlm hl hD (by omega)
  · rcases a8 with ⟨hh, _⟩ | ⟨⟨g1, g2⟩, _, _, g3⟩
    · by_cases p1 : 16 * d.n + xDig c < 220
      · exact ddig_3a H h0 h1 a3 (by omega) hlm hl hD hh p1
      · by_cases p2 : 223 < 16 * d.n + xDig c
        · exact ddig_3b H h0 h1 a3 (by omega) hlm hl hD hh p2
        · exact ddig_3c H h0 h1 a3 (by omega) hlm hl hD hh (by omega)
    · by_cases p1 : 16 * d.n + xDig c < 220
      · exact ddig_3d H h0 h1 a3 (by omega) hlm hl hD (by omega) p1
      · by_cases p2 : 223 < 16 * d.n + xDig c
        · exact ddig_3e H h0 h1 a3 (by omega) hlm hl hD (by omega) p2
        · exact ddig_3f H h0 h1 a3 (by omega) hlm hl hD (by omega) (by omega)
  · rcases a8 with ⟨hh, _⟩ | ⟨⟨g1, g2⟩, _, _, g3⟩
    · exact ddig_4n H h0 h1 a3 (by omega) hlm hl hD hh
    · by_cases p1 : 16 * d.n + xDig c = 13
      · exact ddig_4h H h0 h1 a3 (by omega) hlm hl hD (by omega) p1
      · exact ddig_4b H h0 h1 a3 (by omega) hlm hl hD (by omega) p1
/-- a State's Step -/
def StepC (w : World) (B p : Nat) (tv : Value) (es : List Int) (d : Dc) (σ : XS) (c : Int) : Prop := Calls Tryz.prog 47 #[.pointer (some ⟨p, 3, none⟩), .int .u8 c] w (StepOut w B p tv es d σ c)
set_option maxRecDepth 100000 in
theorem dstep_inn {w : World} {B p : Nat} {tv : Value} {es : List Int} {d : Dc} {c : Int} (H : DcS w B p tv es d) (h0 : 0 ≤ c) (h1 : c < 256) (hlm : d.lm = 1) (hh : d.h = 0) (hl : es.length + 4 ≤ 140737488355328) : StepC w B p tv es d .inn c := by
  have C := hide (dinside H hh hlm h0 h1 (by omega))
  have HS := hide H
  obtain ⟨c3, c4, c5, c6, c7, c8, c9, f3, f4, f5, f6, f7, f8, f9⟩ := df_of H.blk
  rw [hlm] at c3
  clear H
  unfold StepC
  go_enter Tryz.func47, Tryz.ntmps47
  go_wp2_with fail
  refine C.out.mono ?_
  rintro e w1 ⟨ok, tv', es', lm, l', n, h, lo, mo, rfl, hD, hF, hX⟩
  have HD := hide hD
  have HF := hide hF
  have HX := hide hX
  clear hD hF hX
  go_wp2
  go_ret
  exact ⟨ok, tv', es', lm, l', n, h, lo, mo, rfl, HD.out, HF.out, HX.out⟩
set_option maxRecDepth 100000 in
theorem dstep_str {w : World} {B p : Nat} {tv : Value} {es : List Int} {d : Dc} {c : Int} (H : DcS w B p tv es d) (h0 : 0 ≤ c) (h1 : c < 256) (hlm : d.lm = 2) (hh : d.h = 0) (hl : es.length + 4 ≤ 140737488355328) : StepC w B p tv es d .stroke c := by
  have C := hide (dstroke H hh h0 h1 (by omega))
  have HS := hide H
  obtain ⟨c3, c4, c5, c6, c7, c8, c9, f3, f4, f5, f6, f7, f8, f9⟩ := df_of H.blk
  rw [hlm] at c3
  clear H
  unfold StepC
  go_enter Tryz.func47, Tryz.ntmps47
  go_wp2_with fail
  refine C.out.mono ?_
  rintro e w1 ⟨ok, tv', es', lm, l', n, h, lo, mo, rfl, hD, hF, hX⟩
  have HD := hide hD
  have HF := hide hF
  have HX := hide hX
  clear hD hF hX
  go_wp2
  go_ret
  exact ⟨ok, tv', es', lm, l', n, h, lo, mo, rfl, HD.out, HF.out, HX.out⟩
set_option maxRecDepth 100000 in
theorem dstep_dig {w : World} {B p : Nat} {tv : Value} {es : List Int} {d : Dc} {c : Int} (H : DcS w B p tv es d) (h0 : 0 ≤ c) (h1 : c < 256) (hlm : d.lm = 3) {l : Nat} (hdl : d.l = l) (hok : xOk (.digs l d.n d.h)) (hl : es.length + 4 ≤ 140737488355328) : StepC w B p tv es d (.digs l d.n d.h) c := by
  have C := hide (ddigits H h0 h1 hlm hdl hok hl)
  have HS := hide H
  obtain ⟨c3, c4, c5, c6, c7, c8, c9, f3, f4, f5, f6, f7, f8, f9⟩ := df_of H.blk
  rw [hlm] at c3
  clear H
  unfold StepC
  go_enter Tryz.func47, Tryz.ntmps47
  go_wp2_with fail
  refine C.out.mono ?_
  rintro e w1 ⟨ok, tv', es', lm, l', n, h, lo, mo, rfl, hD, hF, hX⟩
  have HD := hide hD
  have HF := hide hF
  have HX := hide hX
  clear hD hF hX
  go_wp2
  go_ret
  exact ⟨ok, tv', es', lm, l', n, h, lo, mo, rfl, HD.out, HF.out, HX.out⟩
set_option maxRecDepth 100000 in
theorem dstep_sec {w : World} {B p : Nat} {tv : Value} {es : List Int} {d : Dc} {c : Int} (H : DcS w B p tv es d) (h0 : 0 ≤ c) (h1 : c < 256) (hlm : d.lm = 4) (hc : c = 92) : StepC w B p tv es d (.second d.h) c := by
  have HS := hide H
  obtain ⟨c3, c4, c5, c6, c7, c8, c9, f3, f4, f5, f6, f7, f8, f9⟩ := df_of H.blk
  rw [hlm] at c3
  subst hc
  clear H
  unfold StepC
  go_enter Tryz.func47, Tryz.ntmps47
  go_wp2
  go_ret
  exact ⟨true, tv, es, 5, d.l, d.n, d.h, d.lo, d.mo, rfl, HS.out.lm 5, (Fr.refl _ _ _).setP _, Or.inl ⟨rfl, .letter d.h, [], rfl, by simp, rfl, rfl⟩⟩
set_option maxRecDepth 100000 in
theorem dstep_seb {w : World} {B p : Nat} {tv : Value} {es : List Int} {d : Dc} {c : Int} (H : DcS w B p tv es d) (h0 : 0 ≤ c) (h1 : c < 256) (hlm : d.lm = 4) (hc : c ≠ 92) : StepC w B p tv es d (.second d.h) c := by
  have HS := hide H
  obtain ⟨c3, c4, c5, c6, c7, c8, c9, f3, f4, f5, f6, f7, f8, f9⟩ := df_of H.blk
  rw [hlm] at c3
  have q : (c == 92) = false := beq_eq_false_iff_ne.2 hc
  clear H
  unfold StepC
  go_enter Tryz.func47, Tryz.ntmps47
  go_wp2
  go_ret
  exact ⟨false, tv, es, 5, d.l, d.n, d.h, d.lo, d.mo, rfl, HS.out.lm 5, (Fr.refl _ _ _).setP _, Or.inr ⟨rfl, if_neg hc⟩⟩
set_option maxRecDepth 100000 in
theorem dstep_let {w : World} {B p : Nat} {tv : Value} {es : List Int} {d : Dc} {c : Int} (H : DcS w B p tv es d) (h0 : 0 ≤ c) (h1 : c < 256) (hlm : d.lm = 5) (hc : c = 117) : StepC w B p tv es d (.letter d.h) c := by
  have HS := hide H
  obtain ⟨c3, c4, c5, c6, c7, c8, c9, f3, f4, f5, f6, f7, f8, f9⟩ := df_of H.blk
  rw [hlm] at c3
  subst hc
  clear H
  unfold StepC
  go_enter Tryz.func47, Tryz.ntmps47
  go_wp2
  go_ret
  exact ⟨true, tv, es, 3, 4, 0, d.h, d.lo, d.mo, rfl, ((HS.out.lm 3).l 4).n 0, (((Fr.refl _ _ _).setP _).setP _).setP _, Or.inl ⟨rfl, .digs 4 0 d.h, [], rfl, by simp, rfl, rfl, rfl, rfl⟩⟩
set_option maxRecDepth 100000 in
theorem dstep_leb {w : World} {B p : Nat} {tv : Value} {es : List Int} {d : Dc} {c : Int} (H : DcS w B p tv es d) (h0 : 0 ≤ c) (h1 : c < 256) (hlm : d.lm = 5) (hc : c ≠ 117) : StepC w B p tv es d (.letter d.h) c := by
  have HS := hide H
  obtain ⟨c3, c4, c5, c6, c7, c8, c9, f3, f4, f5, f6, f7, f8, f9⟩ := df_of H.blk
  rw [hlm] at c3
  have q : (c == 117) = false := beq_eq_false_iff_ne.2 hc
  clear H
  unfold StepC
  go_enter Tryz.func47, Tryz.ntmps47
  go_wp2
  go_ret
  exact ⟨false, tv, es, 3, 4, 0, d.h, d.lo, d.mo, rfl, ((HS.out.lm 3).l 4).n 0, (((Fr.refl _ _ _).setP _).setP _).setP _, Or.inr ⟨rfl, if_neg hc⟩⟩
set_option maxRecDepth 100000 in
theorem dstep_byl {w : World} {B p : Nat} {tv : Value} {es : List Int} {d : Dc} {c : Int} (H : DcS w B p tv es d) (h0 : 0 ≤ c) (h1 : c < 256) {l : Nat} (hlm : d.lm = 6) (hc : c < d.lo) : StepC w B p tv es d (.byts l d.lo d.mo) c := by
  have HS := hide H
  obtain ⟨c3, c4, c5, c6, c7, c8, c9, f3, f4, f5, f6, f7, f8, f9⟩ := df_of H.blk
  rw [hlm] at c3
  clear H
  unfold StepC
  go_enter Tryz.func47, Tryz.ntmps47
  go_wp2
  go_ret
  exact ⟨false, tv, es, d.lm, d.l, d.n, d.h, d.lo, d.mo, rfl, HS.out, Fr.refl _ _ _, Or.inr ⟨rfl, by show xByt l d.lo d.mo c = none; unfold xByt; rw [if_pos (by omega)]⟩⟩
set_option maxRecDepth 100000 in
theorem dstep_bym {w : World} {B p : Nat} {tv : Value} {es : List Int} {d : Dc} {c : Int} (H : DcS w B p tv es d) (h0 : 0 ≤ c) (h1 : c < 256) {l : Nat} (hlm : d.lm = 6) (hc1 : ¬ c < d.lo) (hc : d.mo < c) : StepC w B p tv es d (.byts l d.lo d.mo) c := by
  have HS := hide H
  obtain ⟨c3, c4, c5, c6, c7, c8, c9, f3, f4, f5, f6, f7, f8, f9⟩ := df_of H.blk
  rw [hlm] at c3
  clear H
  unfold StepC
  go_enter Tryz.func47, Tryz.ntmps47
  go_wp2
  go_ret
  exact ⟨false, tv, es, d.lm, d.l, d.n, d.h, d.lo, d.mo, rfl, HS.out, Fr.refl _ _ _, Or.inr ⟨rfl, by show xByt l d.lo d.mo c = none; unfold xByt; rw [if_pos (by omega)]⟩⟩
set_option maxRecDepth 100000 in
theorem dstep_byt {w : World} {B p : Nat} {tv : Value} {es : List Int} {d : Dc} {c : Int} {l : Nat} (H : DcS w B p tv es d) (h0 : 0 ≤ c) (h1 : c < 256) (hlm : d.lm = 6) (hdl : d.l = l) (hl1 : 1 ≤ l) (hl3 : l ≤ 3) (hh : d.h = 0) (hc1 : ¬ c < d.lo) (hc2 : ¬ d.mo < c) (hl : es.length + 4 ≤ 140737488355328) : StepC w B p tv es d (.byts l d.lo d.mo) c := by
  have HX := hide (show xStep (.byts l d.lo d.mo) c = some (if l - 1 = 0 then .inn else .byts (l - 1) 128 191, [c]) by show xByt l d.lo d.mo c = _; unfold xByt; rw [if_neg (by omega)])
  have HHH := hide (And.intro hh hlm)
  obtain ⟨ao, L, cap, hform⟩ := own_form H.own
  subst hform
  have HO := hide H.own
  have hsm : B ≤ w.heap.size := by have h1 := H.le; have h2 := H.lt; omega
  have HS := hide H
  obtain ⟨c3, c4, c5, c6, c7, c8, c9, f3, f4, f5, f6, f7, f8, f9⟩ := df_of H.blk
  rw [hlm] at c3
  clear H hh
  unfold StepC
  go_enter Tryz.func47, Tryz.ntmps47
  go_upto_region 25 with (first
    | (at_builtin; refine dwpList_append _ rfl _ _ 35 rfl B 5 .u8 1 Tryz.underlying35 Tryz.infoY8 _ es.length es rfl (HO.out.alloc _) (some ⟨w.heap.size, 0, none⟩) 1 [c] rfl (jcells_one _ _ _ _) (by simp) (by unfold maxLen; simp; omega) (by simp; omega) (by simp; omega) ?_; intro v' w2 hown' hgrow hsame; obtain ⟨g', cap', rfl⟩ := down_some hown' (by simp); obtain ⟨hG, hF, hK⟩ := dc_grew (us := [c]) HS.out ((Below.refl _ _).alloc (Nat.le_refl _) _) hown' hgrow hsame; obtain ⟨e3, e4, e5, e6, e7, e8, e9, g3, g4, g5, g6, g7, g8, g9⟩ := df_of hK; replace hG := hide hG; replace hF := hide hF; clear hown' hgrow hsame hK)
    | fail)
  have hq := (hG.out.lo 128).mo 191
  have hfq := ((hF.out.setP (i := 9) (.slice (some ⟨g', 0, none⟩) (es.length + [c].length) cap')).setP (i := 7) (.int .u8 128)).setP (i := 8) (.int .u8 191)
  clear c3 c4 c5 c6 c7 c8 c9 f3 f4 f5 f6 f7 f8 f9 e3 e4 e5 e6 e7 e8 e9 g3 g4 g5 g6 g7 g8 g9 hG hF
  generalize ((w2.setCell ⟨p, 9, none⟩ (.slice (some ⟨g', 0, none⟩) (es.length + [c].length) cap')).setCell ⟨p, 7, none⟩ (.int .u8 128)).setCell ⟨p, 8, none⟩ (.int .u8 191) = W at hq hfq ⊢
  obtain ⟨c3, c4, c5, c6, c7, c8, c9, f3, f4, f5, f6, f7, f8, f9⟩ := df_of hq.blk
  simp only at c3 c4 c5 c6 c7 c8
  have HQ := hide hq
  have HFQ := hide hfq
  clear hq hfq
  have hcl : l = 1 ∨ l = 2 ∨ l = 3 := by omega
  rcases hcl with rfl | rfl | rfl
  · rw [show d.l = 1 by omega] at c4
    clear hdl
    go_wp2
    go_ret
    exact ⟨true, _, es ++ [c], 1, 0, d.n, d.h, 128, 191, rfl, (HQ.out.l 0).lm 1, (HFQ.out.setP _).setP _, Or.inl ⟨rfl, .inn, [c], HX.out, rfl, rfl, HHH.out.1⟩⟩
  · rw [show d.l = 2 by omega] at c4
    clear hdl
    go_wp2
    go_ret
    exact ⟨true, _, es ++ [c], d.lm, 1, d.n, d.h, 128, 191, rfl, HQ.out.l 1, HFQ.out.setP _, Or.inl ⟨rfl, .byts 1 128 191, [c], HX.out, rfl, HHH.out.2, rfl, rfl, rfl, HHH.out.1⟩⟩
  · rw [show d.l = 3 by omega] at c4
    clear hdl
    go_wp2
    go_ret
    exact ⟨true, _, es ++ [c], d.lm, 2, d.n, d.h, 128, 191, rfl, HQ.out.l 2, HFQ.out.setP _, Or.inl ⟨rfl, .byts 2 128 191, [c], HX.out, rfl, HHH.out.2, rfl, rfl, rfl, HHH.out.1⟩⟩
theorem dStep {w : World} {B p : Nat} {tv : Value} {es : List Int} {d : Dc} {c : Int} {σ : XS} (H : DcS w B p tv es d) (hr : XRep σ d.lm d.l d.n d.h d.lo d.mo) (hok : xOk σ) (h1 : σ ≠ .start) (h2 : σ ≠ .fin) (c0 : 0 ≤ c) (c1 : c < 256) (hl : es.length + 4 ≤ 140737488355328) : StepC w B p tv es d σ c := by
  cases σ with
  | start => exact absurd rfl h1
  | fin => exact absurd rfl h2
  | inn => exact dstep_inn H c0 c1 hr.1 hr.2 hl
  | stroke => exact dstep_str H c0 c1 hr.1 hr.2 hl
  | digs l n h =>
    obtain ⟨r1, r2, r3, r4⟩ := hr
    subst r3
    subst r4
    exact dstep_dig H c0 c1 r1 r2 hok hl
  | second h =>
    obtain ⟨r1, r2⟩ := hr
    subst r2
    by_cases e : c = 92
    · exact dstep_sec H c0 c1 r1 e
    · exact dstep_seb H c0 c1 r1 e
  | letter h =>
    obtain ⟨r1, r2⟩ := hr
    subst r2
    by_cases e : c = 117
    · exact dstep_let H c0 c1 r1 e
    · exact dstep_leb H c0 c1 r1 e
  | byts l lo mo =>
    obtain ⟨r1, r2, r3, r4, r5⟩ := hr
    subst r3
    subst r4
    by_cases e : c < d.lo
    · exact dstep_byl H c0 c1 r1 e
    · by_cases e2 : d.mo < c
      · exact dstep_bym H c0 c1 r1 e e2
      · exact dstep_byt H c0 c1 r1 r2 hok.1.1 hok.1.2 r5 e e2 hl

end Go.Proofs.YtefmlajndillbaaGreatDoor
