/- ref10 on the document's scanner: digits: the last of a pair -/
import Derived.Test.YtefmlajndillbaaGreatDoorDcD
import Derived.Test.YtefmlajndillbaaGreatDoorDHl
namespace Go.Proofs.YtefmlajndillbaaGreatDoor
open Go.RowKit
set_option linter.unusedVariables false

set_option maxRecDepth 100000 in
set_option maxHeartbeats 2000000 in
theorem ddig_1h {w : World} {B p : Nat} {tv : Value} {es : List Int} {d : Dc} {c : Int} (H : DcS w B p tv es d) (h0 : 0 ≤ c) (h1 : c < 256) (hn : 0 ≤ d.n) (hn2 : d.n ≤ 4095) (hlm : d.lm = 3) (hl : d.l = 1) (hD : 0 ≤ xDig c) (hh : 55296 ≤ d.h) (hh2 : d.h ≤ 56319) (hp : 56320 ≤ (16 * d.n + xDig c) ∧ (16 * d.n + xDig c) ≤ 57343) (hl4 : es.length + 4 ≤ 140737488355328) : Calls Tryz.prog 64 #[.pointer (some ⟨p, 3, none⟩), .int .u8 c] w (StepOut w B p tv es d (.digs 1 d.n d.h) c) := by
  have hdl := xDig_lt c
  obtain ⟨D, hDD⟩ : ∃ D, xDig c = D := ⟨_, rfl⟩
  rw [hDD] at hdl hD hp
  have CD := hide (ddigit (w := w) h0 h1)
  rw [hDD] at CD
  obtain ⟨N, hN⟩ : ∃ N, 16 * d.n + D = N := ⟨_, rfl⟩
  have HS := hide H
  obtain ⟨c3, c4, c5, c6, c7, c8, c9, f3, f4, f5, f6, f7, f8, f9⟩ := df_of H.blk
  rw [hl] at c4
  have HDN := hide (And.intro hDD hN)
  clear hDD

  have HLM := hide hlm
  have q0 : 0 < d.h := by omega
  have q1 : ¬ (d.h = 0) := by omega
  clear H
  go_enter Tryz.func64, Tryz.ntmps64
  go_wp2_with fail
  refine CD.out.mono ?_
  rintro e w1 ⟨rfl, rfl⟩
  go_upto_region 6 with fail
  have hq := (HS.out.n N).l 0
  have hfq : Fr p tv tv w1 ((w1.setCell ⟨p, 5, none⟩ (.int .i64 N)).setCell ⟨p, 4, none⟩ (.int .i64 0)) := ((Fr.refl _ _ _).setP _).setP _
  clear c3 c4 c5 c6 c7 c8 c9 f3 f4 f5 f6 f7 f8 f9 CD
  generalize (w1.setCell ⟨p, 5, none⟩ (.int .i64 N)).setCell ⟨p, 4, none⟩ (.int .i64 0) = W at hq hfq ⊢
  obtain ⟨c3, c4, c5, c6, c7, c8, c9, f3, f4, f5, f6, f7, f8, f9⟩ := df_of hq.blk
  simp only at c3 c4 c5 c6 c7 c8
  have HQ := hide hq
  have HFQ := hide hfq
  clear hq hfq
  obtain ⟨ao, L, cap, hform⟩ := own_form HQ.out.own
  subst hform
  go_upto_region 14 with fail
  have hq1 := HQ.out.lm 1
  have hf1 := HFQ.out.setP (i := 3) (.int .i64 1)
  clear c3 c4 c5 c6 c7 c8 c9 f3 f4 f5 f6 f7 f8 f9
  generalize W.setCell ⟨p, 3, none⟩ (.int .i64 1) = V at hq1 hf1 ⊢
  obtain ⟨c3, c4, c5, c6, c7, c8, c9, f3, f4, f5, f6, f7, f8, f9⟩ := df_of hq1.blk
  simp only at c3 c4 c5 c6 c7 c8
  have HV := hide hq1
  have HFV := hide hf1
  have hVB : B ≤ V.heap.size := by have g1 := hq1.le; have g2 := hq1.lt; omega
  have hh := hh
  have CC : ∀ u, Below V.heap.size V u → (u.cell? ⟨p, 9, none⟩ = some (.slice ao L cap) ∧ u.cell? ⟨p, 5, none⟩ = some (.int .i64 N) ∧ u.cell? ⟨p, 6, none⟩ = some (.int .i64 d.h)) := fun u hu => ⟨(HV.out.below hu).cell 9, (HV.out.below hu).cell 5, (HV.out.below hu).cell 6⟩
  have K : Below V.heap.size V V.drew := (Below.refl _ _).drew
  have HNB := hide (show 56320 ≤ N ∧ N ≤ 57343 by rw [← hN]; exact hp)
  obtain ⟨X1, hX1⟩ : ∃ X, d.h - 55296 = X := ⟨_, rfl⟩
  obtain ⟨X2, hX2⟩ : ∃ X, X1 * 1024 = X := ⟨_, rfl⟩
  obtain ⟨X3, hX3⟩ : ∃ X, 65536 + X2 = X := ⟨_, rfl⟩
  obtain ⟨X4, hX4⟩ : ∃ X, X3 + N = X := ⟨_, rfl⟩
  obtain ⟨X5, hX5⟩ : ∃ X, X4 - 56320 = X := ⟨_, rfl⟩
  have hnb := HNB.out
  have b1 : 0 ≤ X1 := by omega
  have b1' : X1 ≤ 1023 := by omega
  have b2 : 0 ≤ X2 := by omega
  have b2' : X2 ≤ 1047552 := by omega
  have b3 : 0 ≤ X3 := by omega
  have b3' : X3 ≤ 1113088 := by omega
  have b4 : 0 ≤ X4 := by omega
  have b4' : X4 ≤ 1170431 := by omega
  have b5 : 0 ≤ X5 := by omega
  have b5' : X5 ≤ 1114111 := by omega
  have bn : 0 ≤ N := by omega
  have bn' : N ≤ 57343 := by omega
  have bh : 0 ≤ d.h := by omega
  have bh' : d.h ≤ 57343 := by omega
  have HXM := hide (show (65536 + (d.h - 55296) * 1024 + N - 56320) = X5 by omega)
  have CE := hide (show ∀ u, Calls Tryz.prog 82 #[.int .i64 X5] u fun e w' => ∃ g, e = .returned (.slice (some ⟨g, 0, none⟩) (uEnc X5).length (uEnc X5).length) ∧ Cells .u8 w' (some ⟨g, 0, none⟩) (uEnc X5) ∧ Below u.heap.size u w' from fun u => dencode_own (by omega) (by omega))
  obtain ⟨E, hE⟩ : ∃ E, uEnc X5 = E := ⟨_, rfl⟩
  rw [hE] at CE
  have HE := hide (show uEnc X5 = E ∧ 0 < E.length ∧ es.length + E.length ≤ 140737488355328 from ⟨hE, hE ▸ uEnc_pos _, by have := uEnc_four X5; rw [hE] at this; omega⟩)
  have HF0 := hide (And.intro hD q0)
  clear hq1 hf1 hE HQ HFQ hnb hp hN hD hdl hn hn2 hlm hl hh hh2 hl4 h0 h1 q0 q1 c3 c4 c7 c8 f3 f4 f5 f6 f7 f8
  have HC0 := CC _ K
  refine wpHl.region (C := fun u => u.cell? ⟨p, 9, none⟩ = some (.slice ao L cap) ∧ u.cell? ⟨p, 5, none⟩ = some (.int .i64 N) ∧ u.cell? ⟨p, 6, none⟩ = some (.int .i64 d.h)) (D := fun j => decide (22 ≤ j)) (by kernel_rfl) ?_
  refine wpHl.tk (i := 0) (d := some 114) (v := .pointer (some ⟨p, 3, none⟩)) rfl (by kernel_rfl) (by kernel_rfl) (by kernel_rfl) (by kernel_rfl) rfl (fun _ _ _ h => h) (Or.inl ⟨by rfl, ?_⟩) HC0 ?_
  · rintro u ⟨z9, z5, z6⟩
    go_simp
  simp only [Act.put, List.setIfInBounds_toArray, List.set_cons_zero, List.set_cons_succ]
  refine wpHl.tk (i := 1) (d := some 115) (v := .pointer (some ⟨p, 3, none⟩)) rfl (by kernel_rfl) (by kernel_rfl) (by kernel_rfl) (by kernel_rfl) rfl (fun _ _ _ h => h) (Or.inl ⟨by rfl, ?_⟩) HC0 ?_
  · rintro u ⟨z9, z5, z6⟩
    go_simp
  simp only [Act.put, List.setIfInBounds_toArray, List.set_cons_zero, List.set_cons_succ]
  refine wpHl.tk (i := 2) (d := some 116) (v := .pointer (some ⟨p, 3, none⟩)) rfl (by kernel_rfl) (by kernel_rfl) (by kernel_rfl) (by kernel_rfl) rfl (fun _ _ _ h => h) (Or.inl ⟨by rfl, ?_⟩) HC0 ?_
  · rintro u ⟨z9, z5, z6⟩
    go_simp
  simp only [Act.put, List.setIfInBounds_toArray, List.set_cons_zero, List.set_cons_succ]
  refine wpHl.tk (i := 3) (d := some 117) (v := .pointer (some ⟨p, 9, none⟩)) rfl (by kernel_rfl) (by kernel_rfl) (by kernel_rfl) (by kernel_rfl) rfl (fun _ _ _ h => h) (Or.inl ⟨by rfl, ?_⟩) HC0 ?_
  · rintro u ⟨z9, z5, z6⟩
    go_simp
  simp only [Act.put, List.setIfInBounds_toArray, List.set_cons_zero, List.set_cons_succ]
  refine wpHl.tk (i := 4) (d := some 118) (v := .slice ao L cap) rfl (by kernel_rfl) (by kernel_rfl) (by kernel_rfl) (by kernel_rfl) rfl (fun _ _ _ h => h) (Or.inl ⟨by rfl, ?_⟩) HC0 ?_
  · rintro u ⟨z9, z5, z6⟩
    go_simp
  simp only [Act.put, List.setIfInBounds_toArray, List.set_cons_zero, List.set_cons_succ]
  refine wpHl.tk (i := 5) (d := some 119) (v := .pointer (some ⟨p, 3, none⟩)) rfl (by kernel_rfl) (by kernel_rfl) (by kernel_rfl) (by kernel_rfl) rfl (fun _ _ _ h => h) (Or.inl ⟨by rfl, ?_⟩) HC0 ?_
  · rintro u ⟨z9, z5, z6⟩
    go_simp
  simp only [Act.put, List.setIfInBounds_toArray, List.set_cons_zero, List.set_cons_succ]
  refine wpHl.tk (i := 6) (d := some 120) (v := .pointer (some ⟨p, 3, none⟩)) rfl (by kernel_rfl) (by kernel_rfl) (by kernel_rfl) (by kernel_rfl) rfl (fun _ _ _ h => h) (Or.inl ⟨by rfl, ?_⟩) HC0 ?_
  · rintro u ⟨z9, z5, z6⟩
    go_simp
  simp only [Act.put, List.setIfInBounds_toArray, List.set_cons_zero, List.set_cons_succ]
  refine wpHl.tk (i := 7) (d := some 121) (v := .pointer (some ⟨p, 6, none⟩)) rfl (by kernel_rfl) (by kernel_rfl) (by kernel_rfl) (by kernel_rfl) rfl (fun _ _ _ h => h) (Or.inl ⟨by rfl, ?_⟩) HC0 ?_
  · rintro u ⟨z9, z5, z6⟩
    go_simp
  simp only [Act.put, List.setIfInBounds_toArray, List.set_cons_zero, List.set_cons_succ]
  refine wpHl.tk (i := 8) (d := some 122) (v := .int .i64 d.h) rfl (by kernel_rfl) (by kernel_rfl) (by kernel_rfl) (by kernel_rfl) rfl (fun _ _ _ h => h) (Or.inl ⟨by rfl, ?_⟩) HC0 ?_
  · rintro u ⟨z9, z5, z6⟩
    go_simp
  simp only [Act.put, List.setIfInBounds_toArray, List.set_cons_zero, List.set_cons_succ]
  refine wpHl.tk (i := 9) (d := some 123) (v := .int .i64 X1) rfl (by kernel_rfl) (by kernel_rfl) (by kernel_rfl) (by kernel_rfl) rfl (fun _ _ _ h => h) (Or.inl ⟨by rfl, ?_⟩) HC0 ?_
  · rintro u ⟨z9, z5, z6⟩
    go_simp
    rw [IntKind.wrap_i64]; omega
  simp only [Act.put, List.setIfInBounds_toArray, List.set_cons_zero, List.set_cons_succ]
  refine wpHl.tk (i := 10) (d := some 124) (v := .int .i64 X2) rfl (by kernel_rfl) (by kernel_rfl) (by kernel_rfl) (by kernel_rfl) rfl (fun _ _ _ h => h) (Or.inl ⟨by rfl, ?_⟩) HC0 ?_
  · rintro u ⟨z9, z5, z6⟩
    go_simp
    rw [IntKind.wrap_i64]; omega
  simp only [Act.put, List.setIfInBounds_toArray, List.set_cons_zero, List.set_cons_succ]
  refine wpHl.tk (i := 11) (d := some 125) (v := .int .i64 X3) rfl (by kernel_rfl) (by kernel_rfl) (by kernel_rfl) (by kernel_rfl) rfl (fun _ _ _ h => h) (Or.inl ⟨by rfl, ?_⟩) HC0 ?_
  · rintro u ⟨z9, z5, z6⟩
    go_simp
    rw [IntKind.wrap_i64]; omega
  simp only [Act.put, List.setIfInBounds_toArray, List.set_cons_zero, List.set_cons_succ]
  refine wpHl.tk (i := 12) (d := some 126) (v := .pointer (some ⟨p, 3, none⟩)) rfl (by kernel_rfl) (by kernel_rfl) (by kernel_rfl) (by kernel_rfl) rfl (fun _ _ _ h => h) (Or.inl ⟨by rfl, ?_⟩) HC0 ?_
  · rintro u ⟨z9, z5, z6⟩
    go_simp
  simp only [Act.put, List.setIfInBounds_toArray, List.set_cons_zero, List.set_cons_succ]
  refine wpHl.tk (i := 13) (d := some 127) (v := .pointer (some ⟨p, 3, none⟩)) rfl (by kernel_rfl) (by kernel_rfl) (by kernel_rfl) (by kernel_rfl) rfl (fun _ _ _ h => h) (Or.inl ⟨by rfl, ?_⟩) HC0 ?_
  · rintro u ⟨z9, z5, z6⟩
    go_simp
  simp only [Act.put, List.setIfInBounds_toArray, List.set_cons_zero, List.set_cons_succ]
  refine wpHl.tk (i := 14) (d := some 128) (v := .pointer (some ⟨p, 5, none⟩)) rfl (by kernel_rfl) (by kernel_rfl) (by kernel_rfl) (by kernel_rfl) rfl (fun _ _ _ h => h) (Or.inl ⟨by rfl, ?_⟩) HC0 ?_
  · rintro u ⟨z9, z5, z6⟩
    go_simp
  simp only [Act.put, List.setIfInBounds_toArray, List.set_cons_zero, List.set_cons_succ]
  refine wpHl.tk (i := 15) (d := some 129) (v := .int .i64 N) rfl (by kernel_rfl) (by kernel_rfl) (by kernel_rfl) (by kernel_rfl) rfl (fun _ _ _ h => h) (Or.inl ⟨by rfl, ?_⟩) HC0 ?_
  · rintro u ⟨z9, z5, z6⟩
    go_simp
  simp only [Act.put, List.setIfInBounds_toArray, List.set_cons_zero, List.set_cons_succ]
  refine wpHl.tk (i := 16) (d := some 130) (v := .int .i64 X4) rfl (by kernel_rfl) (by kernel_rfl) (by kernel_rfl) (by kernel_rfl) rfl (fun _ _ _ h => h) (Or.inl ⟨by rfl, ?_⟩) HC0 ?_
  · rintro u ⟨z9, z5, z6⟩
    go_simp
    rw [IntKind.wrap_i64]; omega
  simp only [Act.put, List.setIfInBounds_toArray, List.set_cons_zero, List.set_cons_succ]
  refine wpHl.tk (i := 17) (d := some 131) (v := .int .i64 X5) rfl (by kernel_rfl) (by kernel_rfl) (by kernel_rfl) (by kernel_rfl) rfl (fun _ _ _ h => h) (Or.inl ⟨by rfl, ?_⟩) HC0 ?_
  · rintro u ⟨z9, z5, z6⟩
    go_simp
    rw [IntKind.wrap_i64]; omega
  simp only [Act.put, List.setIfInBounds_toArray, List.set_cons_zero, List.set_cons_succ]
  refine wpHl.one (i := 18) (by kernel_rfl) rfl (fun K1 hK1 => ?_)
  rw [if_pos (by rfl)]
  go_simp
  go_at_call 82
  refine (CE.out _).mono ?_
  rintro e u1 ⟨g1, rfl, hce, hbe⟩
  replace K := K.trans (hbe.mono K.size)
  replace hce := hide hce
  clear hbe HC0
  have HC0 := CC _ K
  refine hK1 _ _ ⟨fun _ => HC0, ?_⟩
  clear hK1 K1
  try simp only [Act.put, List.setIfInBounds_toArray, List.set_cons_zero, List.set_cons_succ]
  refine wpHl.one (i := 19) (by kernel_rfl) rfl (fun K1 hK1 => ?_)
  refine dstep_append rfl (.tmp 118) (.tmp 132) 35 rfl B 5 .u8 1 Tryz.underlying35 Tryz.infoY8 _ es.length es rfl (HV.out.below K).own _ _ _ E rfl rfl hce.out HE.out.2.1 (by have := HE.out.2.2; unfold maxLen; omega) (by have := HE.out.2.2; omega) (by have := K.size; omega) ?_
  intro v' w2 hown' hgrow hsame
  obtain ⟨g', cap', rfl⟩ := down_some hown' (by have := HE.out.2.1; omega)
  obtain ⟨hG, hF, hK⟩ := dc_grew (us := E) HV.out K hown' hgrow hsame
  obtain ⟨e3, e4, e5, e6, e7, e8, e9, k3, k4, k5, k6, k7, k8, k9⟩ := df_of hK
  replace hG := hide hG
  replace hF := hide hF
  clear hown' hgrow hsame hK HC0
  have HC0 : w2.cell? ⟨p, 9, none⟩ = some (.slice ao L cap) ∧ w2.cell? ⟨p, 5, none⟩ = some (.int .i64 N) ∧ w2.cell? ⟨p, 6, none⟩ = some (.int .i64 d.h) := ⟨e9, e5, e6⟩
  refine hK1 (Act.put _ (some 133) _) _ ⟨fun _ => HC0, ?_⟩
  clear hK1 K1
  simp only [Act.put, List.setIfInBounds_toArray, List.set_cons_zero, List.set_cons_succ]
  refine wpHl.tk (i := 20) (d := some 134) (v := .pointer (some ⟨p, 3, none⟩)) rfl (by kernel_rfl) (by kernel_rfl) (by kernel_rfl) (by kernel_rfl) rfl (fun _ _ _ h => h) (Or.inl ⟨by rfl, ?_⟩) HC0 ?_
  · rintro u ⟨z9, z5, z6⟩
    go_simp
  simp only [Act.put, List.setIfInBounds_toArray, List.set_cons_zero, List.set_cons_succ]
  refine wpHl.tk (i := 21) (d := some 135) (v := .pointer (some ⟨p, 9, none⟩)) rfl (by kernel_rfl) (by kernel_rfl) (by kernel_rfl) (by kernel_rfl) rfl (fun _ _ _ h => h) (Or.inl ⟨by rfl, ?_⟩) HC0 ?_
  · rintro u ⟨z9, z5, z6⟩
    go_simp
  simp only [Act.put, List.setIfInBounds_toArray, List.set_cons_zero, List.set_cons_succ]
  refine wpHl.one (i := 22) (by kernel_rfl) rfl (fun K1 hK1 => ?_)
  rw [if_pos (by rfl)]
  go_simp
  refine hK1 _ _ ⟨fun h => absurd h (by decide), ?_⟩
  clear hK1 K1
  refine wpHl.done (by kernel_rfl) ?_ _
  clear CC HC0
  go_wp2
  go_ret
  have hD := HF0.out.1
  have q0 := HF0.out.2
  exact ⟨true, _, es ++ E, 1, 0, N, 0, d.lo, d.mo, rfl, hG.out.h 0, ((HFV.out.trans hF.out).setP _).setP _, Or.inl ⟨rfl, .inn, E, by rw [dgs_end (by rw [HDN.out.1]; omega), HDN.out.1, HDN.out.2]; unfold xEnd; rw [if_pos (by omega), HXM.out, HE.out.1], rfl, rfl, rfl⟩⟩

end Go.Proofs.YtefmlajndillbaaGreatDoor
