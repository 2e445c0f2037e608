/- OrderFinds: the walk, 3 -/
import Derived.Test.YtfhgdecegnidcaaOFi0
namespace Go.Proofs.Ytfhgdecegnidcaa
open Go.RowKit Go.Shelf
set_option linter.unusedVariables false
set_option linter.unusedSimpArgs false

set_option maxRecDepth 100000 in
set_option maxHeartbeats 8000000 in
theorem finds_3 {w : World} {va : Value} {l : List It} {x : It} {o : Int} (ha : ItRd (fun _ => True) w va l) (hno : ∀ c, va = .slice none 0 c → c = 0) (hl : l.length ≤ 8796093022200) (h1 : ¬ bsr (byF o) l x 0 l.length < l.length) :
    Calls Try.prog 5 #[va, itV x, .int .i64 o] w fun e w' => e = .returned (.bool true) ∧ Below w.heap.size w w' := by
  obtain ⟨x1, x2⟩ := x
  have HH1 := hide h1
  clear h1
  obtain ⟨W1, hW1⟩ : ∃ u, w.alloc (.cells #[.int .i64 x1, .int .i64 x2] 27) = u := ⟨_, rfl⟩
  have K1 : Hid (Below w.heap.size w W1) := by rw [← hW1]; exact hide ((Below.refl _ w).alloc (Nat.le_refl _) _)
  have X1 : Hid (ItRow W1 w.heap.size [(x1, x2)]) := by rw [← hW1]; exact hide (heap_alloc_new w _)
  have KW1 := hide K1.out
  have RA : Hid (ItRd (fun _ => True) W1 va l) := hide (ha.far K1.out)
  have NO := hide hno
  obtain ⟨ao, ca, hva, -, -, -⟩ := ha
  subst hva
  clear hno
  have C1 := hide (rsort_any (o := o) RA.out (by omega))
  go_enter Try.func5, Try.ntmps5
  go_wp2_with fail
  try rw [hW1]
  refine C1.out.mono ?_
  rintro e w2 ⟨⟨g2, rfl, hg2, hr2⟩, k2⟩
  have hsl : (srt (byF o) 1 l).length = l.length := (srt_perm (byF o) 1 l).length_eq
  obtain ⟨s, hs⟩ : ∃ s, srt (byF o) 1 l = s := ⟨_, rfl⟩
  have FB := hide (fst12_bsr o l (x1, x2))
  rw [hs] at hsl hr2 FB
  have S2 := hide (hr2.rd (G := fun _ => True) (c := s.length) trivial (Nat.le_refl _) (by unfold maxLen; omega))
  have K2 := hide k2
  have C2 := hide (lend_any S2.out (by intro c h; cases h) (by omega))
  have HSL := hide hsl
  rw [← hsl]
  clear hr2 k2 C1 hs hsl hW1
  go_wp2_with fail
  refine C2.out.mono ?_
  rintro e w3 ⟨⟨g3, cap3, rfl, hL3⟩, k3⟩
  have L3 := hide hL3
  have K3 := hide (K2.out.trans (k3.mono K2.out.size))
  have X3 := hide (X1.out.keep (K3.out.block _ X1.out.lt))
  have S3 := hide (S2.out.far k3)
  have D3 := hide hL3.rd
  clear hL3 k3 C2
  have CS := hide (fun (U : World) (k : Below w3.heap.size w3 U) => search_any (I := fun _ => True) (w := U) (x := (x1, x2)) (D3.out.far k) (by rw [HSL.out]; omega) (by_is o) (fun _ _ => trivial))
  have CF : Hid (∀ U, Below w3.heap.size w3 U → U.cell? ⟨w.heap.size, 0, none⟩ = some (.int .i64 x1) ∧ U.cell? ⟨w.heap.size, 1, none⟩ = some (.int .i64 x2)) := hide (fun U k => (X3.out.keep (k.block _ X3.out.lt)).cell (i := 0) (by simp))
  have K : Below w3.heap.size w3 w3.drew := (Below.refl _ _).drew
  go_wp2
  first | go_region_held3 (fun u => u.cell? ⟨w.heap.size, 0, none⟩ = some (.int .i64 x1) ∧ u.cell? ⟨w.heap.size, 1, none⟩ = some (.int .i64 x2))
    (first | with_reducible exact CF.out _ K | go_keep)
    (first | (go_at_call 12; (with_reducible refine by_any.mono ?_); rintro e w8 ⟨rfl, rfl⟩) | (go_at_call 22; (with_reducible refine (CS.out _ K).mono ?_); rintro e w8 ⟨rfl, hb⟩; rw [FB.out]; replace K := K.trans (hb.mono K.size); clear hb)) | fail "region"
  have K4 := hide K
  have K14 := hide (K3.out.trans (K.mono K3.out.size))
  have X4 := hide (X3.out.keep (K.block _ X3.out.lt))
  have S4 := hide (S3.out.far K)
  have L4 := hide (L3.out.far K)
  have A4 := hide (RA.out.far K14.out)
  clear K CS CF X1 S2 L3 D3 FB
  have C5 := hide (fun (U : World) (k : Below w8.heap.size w8 U) => rsearch_any (w := U) (o := o) (x := (x1, x2)) (S4.out.far k) (by rw [HSL.out]; omega))
  obtain ⟨n, hn⟩ : ∃ n, fst12 o s (x1, x2) = n := ⟨_, rfl⟩
  rw [hn] at C5 ⊢
  obtain ⟨b, hb⟩ : ∃ b, bsOk (byF o) s (x1, x2) n = b := ⟨_, rfl⟩
  rw [hb] at C5 ⊢
  clear hb hn
  obtain ⟨cx1, cx2⟩ := X4.out.cell (i := 0) (by simp)
  simp only [Nat.zero_mul, Nat.zero_add, List.getElem_cons_zero] at cx1 cx2
  go_wp2_with fail
  refine (C5.out _ (Below.refl _ _)).mono ?_
  rintro e w9 ⟨rfl, k9⟩
  have K19 := hide (K14.out.trans (k9.mono K14.out.size))
  have X9 := hide (X4.out.keep (k9.block _ X4.out.lt))
  have S9 := hide (S4.out.far k9)
  have L9 := hide (L4.out.far k9)
  have C6 := hide (left_any L9.out S9.out (by rw [HSL.out]; omega))
  clear k9 C5 cx1 cx2 X4 S4 L4 K14 A4
  go_wp2_with fail
  refine C6.out.mono ?_
  rintro e w10 ⟨rfl, k10⟩
  have K20 := hide (K19.out.trans (k10.mono K19.out.size))
  have X10 := hide (X9.out.keep (k10.block _ X9.out.lt))
  have A10 := hide (RA.out.far K20.out)
  have C7 := hide (lend_any A10.out (by rw [← HSL.out]; exact fun c h => NO.out c (by rw [← HSL.out]; exact h)) hl)
  clear k10 C6 X9 S9 L9 K19
  rw [HSL.out]
  go_wp2_with fail
  refine C7.out.mono ?_
  rintro e w11 ⟨⟨gu, capu, rfl, hLu⟩, k11⟩
  have L11 := hide hLu
  have K21 := hide (K20.out.trans (k11.mono K20.out.size))
  have X11 := hide (X10.out.keep (k11.block _ X10.out.lt))
  clear hLu k11 C7 X10 K20 A10
  have CS := hide (fun (U : World) (k : Below w11.heap.size w11 U) => search_any (I := fun _ => True) (w := U) (x := (x1, x2)) (L11.out.rd.far k) (by omega) (by_is o) (fun _ _ => trivial))
  have CF : Hid (∀ U, Below w11.heap.size w11 U → U.cell? ⟨w.heap.size, 0, none⟩ = some (.int .i64 x1) ∧ U.cell? ⟨w.heap.size, 1, none⟩ = some (.int .i64 x2)) := hide (fun U k => (X11.out.keep (k.block _ X11.out.lt)).cell (i := 0) (by simp))
  have K : Below w11.heap.size w11 w11.drew := (Below.refl _ _).drew
  go_wp2
  first | go_region_held3 (fun u => u.cell? ⟨w.heap.size, 0, none⟩ = some (.int .i64 x1) ∧ u.cell? ⟨w.heap.size, 1, none⟩ = some (.int .i64 x2))
    (first | with_reducible exact CF.out _ K | go_keep)
    (first | (go_at_call 12; (with_reducible refine by_any.mono ?_); rintro e w12 ⟨rfl, rfl⟩) | (go_at_call 22; (with_reducible refine (CS.out _ K).mono ?_); rintro e w12 ⟨rfl, hb⟩; replace K := K.trans (hb.mono K.size); clear hb)) | fail "region"
  have K22 := hide (K21.out.trans (K.mono K21.out.size))
  have X12 := hide (X11.out.keep (K.block _ X11.out.lt))
  have L12 := hide (L11.out.far K)
  have A12 := hide (RA.out.far K22.out)
  clear K CS CF X11 L11 K21
  obtain ⟨k, hk⟩ : ∃ k, bsr (byF o) l (x1, x2) 0 l.length = k := ⟨_, rfl⟩
  rw [hk]
  rw [hk] at HH1
  have hkl : k ≤ l.length := by rw [← hk]; exact (bsr_le (Nat.zero_le _)).2
  have k1 : ¬ (k : Int) < 0 := by omega
  have k2 : ¬ (l.length : Int) < (k : Int) := by omega
  have HT := hide (fun (U : World) (hb : Below w12.heap.size w12 U) => twice_any (I := fun _ => True) (w := U) (L12.out.rd.far hb) (by omega) (by_is o) (fun _ _ => trivial))
  have HR := hide (fun (U : World) (hb : Below w12.heap.size w12 U) => rtwice_any (w := U) (o := o) (A12.out.far hb) (by omega))
  have HL := hide (fun (U : World) (hb : Below w12.heap.size w12 U) => left_any (w := U) (L12.out.far hb) (A12.out.far hb) hl)
  obtain ⟨tl, htl⟩ : ∃ tl, tw (byF o) l = tl := ⟨_, rfl⟩
  rw [htl] at HT HR
  clear htl hk
  have hke : k = l.length := by have := HH1.out; omega
  have k3 : ¬ (k : Int) < (l.length : Int) := by omega
  have OK : bsOk (byF o) l (x1, x2) k = false := by unfold bsOk; simp [hke]
  have CF : Hid (∀ U, Below w12.heap.size w12 U → U.cell? ⟨w.heap.size, 0, none⟩ = some (.int .i64 x1) ∧ U.cell? ⟨w.heap.size, 1, none⟩ = some (.int .i64 x2)) := hide (fun U hb => by
    have hx := (X12.out.keep (hb.block _ X12.out.lt)).cell (i := 0) (by simp)
    simp only [Nat.zero_mul, Nat.zero_add, List.getElem_cons_zero] at hx
    exact ⟨hx.1, hx.2⟩)
  have K : Below w12.heap.size w12 w12.drew := (Below.refl _ _).drew
  rw [OK]
  clear OK hke HH1
  go_wp2
  have HC0 := CF.out _ K
  refine wpHl.region (C := fun u => u.cell? ⟨w.heap.size, 0, none⟩ = some (.int .i64 x1) ∧ u.cell? ⟨w.heap.size, 1, none⟩ = some (.int .i64 x2)) (D := fun _ => false) (by kernel_rfl) ?_
  refine wpHl.tk (i := 0) (d := some 62) (v := .int .i64 (k : Int)) rfl (by as_aux_lemma => kernel_rfl) (by as_aux_lemma => kernel_rfl) (by as_aux_lemma => kernel_rfl) (by as_aux_lemma => kernel_rfl) rfl (fun _ _ _ h => h) (Or.inl ⟨by rfl, ?_⟩) HC0 ?_
  · rintro u ⟨y1, y2⟩
    go_simp
    try omega
  simp only [Act.put, List.setIfInBounds_toArray, List.set_cons_zero, List.set_cons_succ]
  refine wpHl.tk (i := 1) (d := some 63) (v := .bool false) rfl (by as_aux_lemma => kernel_rfl) (by as_aux_lemma => kernel_rfl) (by as_aux_lemma => kernel_rfl) (by as_aux_lemma => kernel_rfl) rfl (fun _ _ _ h => h) (Or.inl ⟨by rfl, ?_⟩) HC0 ?_
  · rintro u ⟨y1, y2⟩
    go_simp
    try omega
  simp only [Act.put, List.setIfInBounds_toArray, List.set_cons_zero, List.set_cons_succ]
  refine wpHl.tk (i := 2) (d := some 64) (v := .bool false) rfl (by as_aux_lemma => kernel_rfl) (by as_aux_lemma => kernel_rfl) (by as_aux_lemma => kernel_rfl) (by as_aux_lemma => kernel_rfl) rfl (fun _ _ _ h => h) (Or.inl ⟨by rfl, ?_⟩) HC0 ?_
  · rintro u ⟨y1, y2⟩
    go_simp
    try omega
  simp only [Act.put, List.setIfInBounds_toArray, List.set_cons_zero, List.set_cons_succ]
  refine wpHl.tk (i := 3) (d := some 65) (v := .int .i64 (k : Int)) rfl (by as_aux_lemma => kernel_rfl) (by as_aux_lemma => kernel_rfl) (by as_aux_lemma => kernel_rfl) (by as_aux_lemma => kernel_rfl) rfl (fun _ _ _ h => h) (Or.inl ⟨by rfl, ?_⟩) HC0 ?_
  · rintro u ⟨y1, y2⟩
    go_simp
    try omega
  simp only [Act.put, List.setIfInBounds_toArray, List.set_cons_zero, List.set_cons_succ]
  refine wpHl.tk (i := 4) (d := some 66) (v := .slice ao l.length ca) rfl (by as_aux_lemma => kernel_rfl) (by as_aux_lemma => kernel_rfl) (by as_aux_lemma => kernel_rfl) (by as_aux_lemma => kernel_rfl) rfl (fun _ _ _ h => h) (Or.inl ⟨by rfl, ?_⟩) HC0 ?_
  · rintro u ⟨y1, y2⟩
    go_simp
    try omega
  simp only [Act.put, List.setIfInBounds_toArray, List.set_cons_zero, List.set_cons_succ]
  refine wpHl.tk (i := 5) (d := some 67) (v := .int .i64 (l.length : Int)) rfl (by as_aux_lemma => kernel_rfl) (by as_aux_lemma => kernel_rfl) (by as_aux_lemma => kernel_rfl) (by as_aux_lemma => kernel_rfl) rfl (fun _ _ _ h => h) (Or.inl ⟨by rfl, ?_⟩) HC0 ?_
  · rintro u ⟨y1, y2⟩
    go_simp
    try omega
  simp only [Act.put, List.setIfInBounds_toArray, List.set_cons_zero, List.set_cons_succ]
  refine wpHl.tk (i := 6) (d := some 68) (v := .bool false) rfl (by as_aux_lemma => kernel_rfl) (by as_aux_lemma => kernel_rfl) (by as_aux_lemma => kernel_rfl) (by as_aux_lemma => kernel_rfl) rfl (fun _ _ _ h => h) (Or.inl ⟨by rfl, ?_⟩) HC0 ?_
  · rintro u ⟨y1, y2⟩
    go_simp
    try omega
  simp only [Act.put, List.setIfInBounds_toArray, List.set_cons_zero, List.set_cons_succ]
  refine wpHl.tk (i := 7) (d := some 69) (v := .bool false) rfl (by as_aux_lemma => kernel_rfl) (by as_aux_lemma => kernel_rfl) (by as_aux_lemma => kernel_rfl) (by as_aux_lemma => kernel_rfl) rfl (fun _ _ _ h => h) (Or.inl ⟨by rfl, ?_⟩) HC0 ?_
  · rintro u ⟨y1, y2⟩
    go_simp
    try omega
  simp only [Act.put, List.setIfInBounds_toArray, List.set_cons_zero, List.set_cons_succ]
  refine wpHl.tk (i := 8) (d := some 70) (v := .bool false) rfl (by as_aux_lemma => kernel_rfl) (by as_aux_lemma => kernel_rfl) (by as_aux_lemma => kernel_rfl) (by as_aux_lemma => kernel_rfl) rfl (fun _ _ _ h => h) (Or.inl ⟨by rfl, ?_⟩) HC0 ?_
  · rintro u ⟨y1, y2⟩
    go_simp
    try omega
  simp only [Act.put, List.setIfInBounds_toArray, List.set_cons_zero, List.set_cons_succ]
  refine wpHl.tk (i := 9) (d := some 71) (v := .bool false) rfl (by as_aux_lemma => kernel_rfl) (by as_aux_lemma => kernel_rfl) (by as_aux_lemma => kernel_rfl) (by as_aux_lemma => kernel_rfl) rfl (fun _ _ _ h => h) (Or.inl ⟨by rfl, ?_⟩) HC0 ?_
  · rintro u ⟨y1, y2⟩
    go_simp
    try omega
  simp only [Act.put, List.setIfInBounds_toArray, List.set_cons_zero, List.set_cons_succ]
  refine wpHl.tk (i := 10) (d := some 72) (v := .int .i64 (k : Int)) rfl (by as_aux_lemma => kernel_rfl) (by as_aux_lemma => kernel_rfl) (by as_aux_lemma => kernel_rfl) (by as_aux_lemma => kernel_rfl) rfl (fun _ _ _ h => h) (Or.inl ⟨by rfl, ?_⟩) HC0 ?_
  · rintro u ⟨y1, y2⟩
    go_simp
    try omega
  simp only [Act.put, List.setIfInBounds_toArray, List.set_cons_zero, List.set_cons_succ]
  refine wpHl.tk (i := 11) (d := some 73) (v := .slice ao l.length ca) rfl (by as_aux_lemma => kernel_rfl) (by as_aux_lemma => kernel_rfl) (by as_aux_lemma => kernel_rfl) (by as_aux_lemma => kernel_rfl) rfl (fun _ _ _ h => h) (Or.inl ⟨by rfl, ?_⟩) HC0 ?_
  · rintro u ⟨y1, y2⟩
    go_simp
    try omega
  simp only [Act.put, List.setIfInBounds_toArray, List.set_cons_zero, List.set_cons_succ]
  refine wpHl.tk (i := 12) (d := some 74) (v := .int .i64 (l.length : Int)) rfl (by as_aux_lemma => kernel_rfl) (by as_aux_lemma => kernel_rfl) (by as_aux_lemma => kernel_rfl) (by as_aux_lemma => kernel_rfl) rfl (fun _ _ _ h => h) (Or.inl ⟨by rfl, ?_⟩) HC0 ?_
  · rintro u ⟨y1, y2⟩
    go_simp
    try omega
  simp only [Act.put, List.setIfInBounds_toArray, List.set_cons_zero, List.set_cons_succ]
  refine wpHl.tk (i := 13) (d := some 75) (v := .bool false) rfl (by as_aux_lemma => kernel_rfl) (by as_aux_lemma => kernel_rfl) (by as_aux_lemma => kernel_rfl) (by as_aux_lemma => kernel_rfl) rfl (fun _ _ _ h => h) (Or.inl ⟨by rfl, ?_⟩) HC0 ?_
  · rintro u ⟨y1, y2⟩
    go_simp
    try omega
  simp only [Act.put, List.setIfInBounds_toArray, List.set_cons_zero, List.set_cons_succ]
  refine wpHl.tk (i := 14) (d := some 76) (v := .bool false) rfl (by as_aux_lemma => kernel_rfl) (by as_aux_lemma => kernel_rfl) (by as_aux_lemma => kernel_rfl) (by as_aux_lemma => kernel_rfl) rfl (fun _ _ _ h => h) (Or.inl ⟨by rfl, ?_⟩) HC0 ?_
  · rintro u ⟨y1, y2⟩
    go_simp
    try omega
  simp only [Act.put, List.setIfInBounds_toArray, List.set_cons_zero, List.set_cons_succ]
  refine wpHl.tk (i := 15) (d := some 77) (v := undef) rfl (by as_aux_lemma => kernel_rfl) (by as_aux_lemma => kernel_rfl) (by as_aux_lemma => kernel_rfl) (by as_aux_lemma => kernel_rfl) rfl (fun _ _ _ h => h) (Or.inr ⟨by rfl, rfl⟩) HC0 ?_
  simp only [Act.put, List.setIfInBounds_toArray, List.set_cons_zero, List.set_cons_succ]
  refine wpHl.tk (i := 16) (d := some 78) (v := undef) rfl (by as_aux_lemma => kernel_rfl) (by as_aux_lemma => kernel_rfl) (by as_aux_lemma => kernel_rfl) (by as_aux_lemma => kernel_rfl) rfl (fun _ _ _ h => h) (Or.inr ⟨by rfl, rfl⟩) HC0 ?_
  simp only [Act.put, List.setIfInBounds_toArray, List.set_cons_zero, List.set_cons_succ]
  refine wpHl.tk (i := 17) (d := some 79) (v := undef) rfl (by as_aux_lemma => kernel_rfl) (by as_aux_lemma => kernel_rfl) (by as_aux_lemma => kernel_rfl) (by as_aux_lemma => kernel_rfl) rfl (fun _ _ _ h => h) (Or.inr ⟨by rfl, rfl⟩) HC0 ?_
  simp only [Act.put, List.setIfInBounds_toArray, List.set_cons_zero, List.set_cons_succ]
  refine wpHl.tk (i := 18) (d := some 80) (v := undef) rfl (by as_aux_lemma => kernel_rfl) (by as_aux_lemma => kernel_rfl) (by as_aux_lemma => kernel_rfl) (by as_aux_lemma => kernel_rfl) rfl (fun _ _ _ h => h) (Or.inr ⟨by rfl, rfl⟩) HC0 ?_
  simp only [Act.put, List.setIfInBounds_toArray, List.set_cons_zero, List.set_cons_succ]
  refine wpHl.tk (i := 19) (d := some 81) (v := undef) rfl (by as_aux_lemma => kernel_rfl) (by as_aux_lemma => kernel_rfl) (by as_aux_lemma => kernel_rfl) (by as_aux_lemma => kernel_rfl) rfl (fun _ _ _ h => h) (Or.inr ⟨by rfl, rfl⟩) HC0 ?_
  simp only [Act.put, List.setIfInBounds_toArray, List.set_cons_zero, List.set_cons_succ]
  refine wpHl.tk (i := 20) (d := some 82) (v := undef) rfl (by as_aux_lemma => kernel_rfl) (by as_aux_lemma => kernel_rfl) (by as_aux_lemma => kernel_rfl) (by as_aux_lemma => kernel_rfl) rfl (fun _ _ _ h => h) (Or.inr ⟨by rfl, rfl⟩) HC0 ?_
  simp only [Act.put, List.setIfInBounds_toArray, List.set_cons_zero, List.set_cons_succ]
  refine wpHl.tk (i := 21) (d := some 83) (v := undef) rfl (by as_aux_lemma => kernel_rfl) (by as_aux_lemma => kernel_rfl) (by as_aux_lemma => kernel_rfl) (by as_aux_lemma => kernel_rfl) rfl (fun _ _ _ h => h) (Or.inr ⟨by rfl, rfl⟩) HC0 ?_
  simp only [Act.put, List.setIfInBounds_toArray, List.set_cons_zero, List.set_cons_succ]
  refine wpHl.tk (i := 22) (d := some 84) (v := undef) rfl (by as_aux_lemma => kernel_rfl) (by as_aux_lemma => kernel_rfl) (by as_aux_lemma => kernel_rfl) (by as_aux_lemma => kernel_rfl) rfl (fun _ _ _ h => h) (Or.inr ⟨by rfl, rfl⟩) HC0 ?_
  simp only [Act.put, List.setIfInBounds_toArray, List.set_cons_zero, List.set_cons_succ]
  refine wpHl.tk (i := 23) (d := some 85) (v := .bool false) rfl (by as_aux_lemma => kernel_rfl) (by as_aux_lemma => kernel_rfl) (by as_aux_lemma => kernel_rfl) (by as_aux_lemma => kernel_rfl) rfl (fun _ _ _ h => h) (Or.inl ⟨by rfl, ?_⟩) HC0 ?_
  · rintro u ⟨y1, y2⟩
    go_simp
    try omega
  simp only [Act.put, List.setIfInBounds_toArray, List.set_cons_zero, List.set_cons_succ]
  refine wpHl.tk (i := 24) (d := some 86) (v := .bool false) rfl (by as_aux_lemma => kernel_rfl) (by as_aux_lemma => kernel_rfl) (by as_aux_lemma => kernel_rfl) (by as_aux_lemma => kernel_rfl) rfl (fun _ _ _ h => h) (Or.inl ⟨by rfl, ?_⟩) HC0 ?_
  · rintro u ⟨y1, y2⟩
    go_simp
    try omega
  simp only [Act.put, List.setIfInBounds_toArray, List.set_cons_zero, List.set_cons_succ]
  refine wpHl.tk (i := 25) (d := some 87) (v := .bool false) rfl (by as_aux_lemma => kernel_rfl) (by as_aux_lemma => kernel_rfl) (by as_aux_lemma => kernel_rfl) (by as_aux_lemma => kernel_rfl) rfl (fun _ _ _ h => h) (Or.inl ⟨by rfl, ?_⟩) HC0 ?_
  · rintro u ⟨y1, y2⟩
    go_simp
    try omega
  simp only [Act.put, List.setIfInBounds_toArray, List.set_cons_zero, List.set_cons_succ]
  refine wpHl.tk (i := 26) (d := some 88) (v := .bool false) rfl (by as_aux_lemma => kernel_rfl) (by as_aux_lemma => kernel_rfl) (by as_aux_lemma => kernel_rfl) (by as_aux_lemma => kernel_rfl) rfl (fun _ _ _ h => h) (Or.inl ⟨by rfl, ?_⟩) HC0 ?_
  · rintro u ⟨y1, y2⟩
    go_simp
    try omega
  simp only [Act.put, List.setIfInBounds_toArray, List.set_cons_zero, List.set_cons_succ]
  refine wpHl.tk (i := 27) (d := some 89) (v := .slice (some ⟨gu, 0, none⟩) l.length capu) rfl (by as_aux_lemma => kernel_rfl) (by as_aux_lemma => kernel_rfl) (by as_aux_lemma => kernel_rfl) (by as_aux_lemma => kernel_rfl) rfl (fun _ _ _ h => h) (Or.inl ⟨by rfl, ?_⟩) HC0 ?_
  · rintro u ⟨y1, y2⟩
    go_simp
    try omega
  simp only [Act.put, List.setIfInBounds_toArray, List.set_cons_zero, List.set_cons_succ]
  refine wpHl.tk (i := 28) (d := some 90) (v := .int .i64 o) rfl (by as_aux_lemma => kernel_rfl) (by as_aux_lemma => kernel_rfl) (by as_aux_lemma => kernel_rfl) (by as_aux_lemma => kernel_rfl) rfl (fun _ _ _ h => h) (Or.inl ⟨by rfl, ?_⟩) HC0 ?_
  · rintro u ⟨y1, y2⟩
    go_simp
    try omega
  simp only [Act.put, List.setIfInBounds_toArray, List.set_cons_zero, List.set_cons_succ]
  refine wpHl.tk (i := 31) (d := some 93) (v := .slice ao l.length ca) rfl (by as_aux_lemma => kernel_rfl) (by as_aux_lemma => kernel_rfl) (by as_aux_lemma => kernel_rfl) (by as_aux_lemma => kernel_rfl) rfl (fun _ _ _ h => h) (Or.inl ⟨by rfl, ?_⟩) HC0 ?_
  · rintro u ⟨y1, y2⟩
    go_simp
    try omega
  simp only [Act.put, List.setIfInBounds_toArray, List.set_cons_zero, List.set_cons_succ]
  refine wpHl.tk (i := 32) (d := some 94) (v := .int .i64 o) rfl (by as_aux_lemma => kernel_rfl) (by as_aux_lemma => kernel_rfl) (by as_aux_lemma => kernel_rfl) (by as_aux_lemma => kernel_rfl) rfl (fun _ _ _ h => h) (Or.inl ⟨by rfl, ?_⟩) HC0 ?_
  · rintro u ⟨y1, y2⟩
    go_simp
    try omega
  simp only [Act.put, List.setIfInBounds_toArray, List.set_cons_zero, List.set_cons_succ]
  refine wpHl.one (i := 29) (by as_aux_lemma => kernel_rfl) rfl (fun KK hKK => ?_)
  rw [if_pos (by rfl)]
  go_simp
  go_at_call 12
  refine (by_any).mono ?_
  rintro e w14 ⟨rfl, rfl⟩
  refine hKK _ _ ⟨fun _ => HC0, ?_⟩
  clear hKK KK
  try simp only [Act.put, List.setIfInBounds_toArray, List.set_cons_zero, List.set_cons_succ]
  refine wpHl.one (i := 30) (by as_aux_lemma => kernel_rfl) rfl (fun KK hKK => ?_)
  rw [if_pos (by rfl)]
  go_simp
  go_at_call 25
  refine (HT.out _ K).mono ?_
  rintro e w15 ⟨rfl, hb2⟩
  replace K := K.trans (hb2.mono K.size)
  clear hb2 HC0
  have HC0 := CF.out _ K
  refine hKK _ _ ⟨fun _ => HC0, ?_⟩
  clear hKK KK
  try simp only [Act.put, List.setIfInBounds_toArray, List.set_cons_zero, List.set_cons_succ]
  refine wpHl.one (i := 33) (by as_aux_lemma => kernel_rfl) rfl (fun KK hKK => ?_)
  rw [if_pos (by rfl)]
  go_simp
  go_at_call 26
  refine (HR.out _ K).mono ?_
  rintro e w16 ⟨rfl, hb3⟩
  replace K := K.trans (hb3.mono K.size)
  clear hb3 HC0
  have HC0 := CF.out _ K
  refine hKK _ _ ⟨fun _ => HC0, ?_⟩
  clear hKK KK
  try simp only [Act.put, List.setIfInBounds_toArray, List.set_cons_zero, List.set_cons_succ]
  refine wpHl.tk (i := 34) (d := some 96) (v := .bool false) rfl (by as_aux_lemma => kernel_rfl) (by as_aux_lemma => kernel_rfl) (by as_aux_lemma => kernel_rfl) (by as_aux_lemma => kernel_rfl) rfl (fun _ _ _ h => h) (Or.inl ⟨by rfl, ?_⟩) HC0 ?_
  · rintro u ⟨y1, y2⟩
    go_simp
    try omega
  simp only [Act.put, List.setIfInBounds_toArray, List.set_cons_zero, List.set_cons_succ]
  refine wpHl.tk (i := 35) (d := some 97) (v := .bool false) rfl (by as_aux_lemma => kernel_rfl) (by as_aux_lemma => kernel_rfl) (by as_aux_lemma => kernel_rfl) (by as_aux_lemma => kernel_rfl) rfl (fun _ _ _ h => h) (Or.inl ⟨by rfl, ?_⟩) HC0 ?_
  · rintro u ⟨y1, y2⟩
    go_simp
    try omega
  simp only [Act.put, List.setIfInBounds_toArray, List.set_cons_zero, List.set_cons_succ]
  refine wpHl.tk (i := 36) (d := some 98) (v := .bool false) rfl (by as_aux_lemma => kernel_rfl) (by as_aux_lemma => kernel_rfl) (by as_aux_lemma => kernel_rfl) (by as_aux_lemma => kernel_rfl) rfl (fun _ _ _ h => h) (Or.inl ⟨by rfl, ?_⟩) HC0 ?_
  · rintro u ⟨y1, y2⟩
    go_simp
    try omega
  simp only [Act.put, List.setIfInBounds_toArray, List.set_cons_zero, List.set_cons_succ]
  refine wpHl.tk (i := 37) (d := some 99) (v := .slice (some ⟨gu, 0, none⟩) l.length capu) rfl (by as_aux_lemma => kernel_rfl) (by as_aux_lemma => kernel_rfl) (by as_aux_lemma => kernel_rfl) (by as_aux_lemma => kernel_rfl) rfl (fun _ _ _ h => h) (Or.inl ⟨by rfl, ?_⟩) HC0 ?_
  · rintro u ⟨y1, y2⟩
    go_simp
    try omega
  simp only [Act.put, List.setIfInBounds_toArray, List.set_cons_zero, List.set_cons_succ]
  refine wpHl.tk (i := 38) (d := some 100) (v := .slice ao l.length ca) rfl (by as_aux_lemma => kernel_rfl) (by as_aux_lemma => kernel_rfl) (by as_aux_lemma => kernel_rfl) (by as_aux_lemma => kernel_rfl) rfl (fun _ _ _ h => h) (Or.inl ⟨by rfl, ?_⟩) HC0 ?_
  · rintro u ⟨y1, y2⟩
    go_simp
    try omega
  simp only [Act.put, List.setIfInBounds_toArray, List.set_cons_zero, List.set_cons_succ]
  refine wpHl.one (i := 39) (by as_aux_lemma => kernel_rfl) rfl (fun KK hKK => ?_)
  rw [if_pos (by rfl)]
  go_simp
  go_at_call 15
  refine (HL.out _ K).mono ?_
  rintro e w17 ⟨rfl, hb4⟩
  replace K := K.trans (hb4.mono K.size)
  clear hb4 HC0
  have HC0 := CF.out _ K
  refine hKK _ _ ⟨fun _ => HC0, ?_⟩
  clear hKK KK
  try simp only [Act.put, List.setIfInBounds_toArray, List.set_cons_zero, List.set_cons_succ]
  refine wpHl.tk (i := 40) (d := some 102) (v := .bool false) rfl (by as_aux_lemma => kernel_rfl) (by as_aux_lemma => kernel_rfl) (by as_aux_lemma => kernel_rfl) (by as_aux_lemma => kernel_rfl) rfl (fun _ _ _ h => h) (Or.inl ⟨by rfl, ?_⟩) HC0 ?_
  · rintro u ⟨y1, y2⟩
    go_simp
    try omega
  simp only [Act.put, List.setIfInBounds_toArray, List.set_cons_zero, List.set_cons_succ]
  refine wpHl.tk (i := 41) (d := some 103) (v := .bool false) rfl (by as_aux_lemma => kernel_rfl) (by as_aux_lemma => kernel_rfl) (by as_aux_lemma => kernel_rfl) (by as_aux_lemma => kernel_rfl) rfl (fun _ _ _ h => h) (Or.inl ⟨by rfl, ?_⟩) HC0 ?_
  · rintro u ⟨y1, y2⟩
    go_simp
    try omega
  simp only [Act.put, List.setIfInBounds_toArray, List.set_cons_zero, List.set_cons_succ]
  refine wpHl.done (by kernel_rfl) ?_ _
  have KF := hide (K22.out.trans (K.mono K22.out.size))
  have cx1 := HC0.1
  have cx2 := HC0.2
  clear K HC0 CF HT HR HL
  go_wp2_with fail
  refine (search_nil (x := (x1, x2))).mono ?_
  rintro e wA ⟨rfl, kA⟩
  have KA := hide (KF.out.trans (kA.mono KF.out.size))
  clear kA KF cx1 cx2
  go_wp2_with fail
  refine twice_nil.mono ?_
  rintro e wB ⟨rfl, kB⟩
  have KB := hide (KA.out.trans (kB.mono KA.out.size))
  clear kB KA
  go_wp2_with fail
  refine olives.mono ?_
  rintro e wC ⟨rfl, kC⟩
  have KC := hide (KB.out.trans (kC.mono KB.out.size))
  clear kC KB
  go_wp2
  go_ret
  exact ⟨rfl, KW1.out.trans (KC.out.mono KW1.out.size)⟩

end Go.Proofs.Ytfhgdecegnidcaa
