/- ref12.Unique -/
import Derived.Test.YtomieeajmelglaaOApA
import Derived.Test.YtomieeajmelglaaOHk
import Derived.Test.YtomieeajmelglaaOStM
namespace Go.Proofs.Ytomieeajmelglaa
open Go.RowKit Go.Shelf
set_option linter.unusedVariables false
set_option linter.unusedSimpArgs false

set_option maxRecDepth 100000 in
set_option maxHeartbeats 8000000 in
theorem runique_any {w : World} {va : Value} {l : List It} {o : Int} (ha : ItRd (fun _ => True) w va l) (hl : l.length ≤ 8796093022200) :
    Calls Try.prog 19 #[va, .int .i64 o] w fun e w' => (∃ v, e = .returned v ∧ ∃ n, w'.ownsRow w.heap.size 27 2 v n (flat (fs1 (ocmp o) l))) ∧ Below w.heap.size w w' := by
  obtain ⟨ao, ca, rfl, hac, ham, hacl⟩ := ha
  have QA := hide hacl
  have HLL := hide hl
  clear hacl hac ham
  go_enter Try.func19, Try.ntmps19
  go_wp2
  go_loopw [5, 6] (fun v p wr => ∃ (i n : Nat), p = .int .i64 i ∧ i ≤ l.length ∧ n ≤ i ∧ Hid (wr.ownsRow w.heap.size 27 2 v n (flat (fs1 (ocmp o) (l.take i)))) ∧ Hid (Below w.heap.size w wr)) (fun _ p _ => l.length - (intOf p).toNat)
  case atStart => exact ⟨0, 0, rfl, by omega, by omega, hide (by simpa [flat, fs1] using World.ownsRow_nil _ _ _ _), hide (Below.refl _ _)⟩
  case round =>
    obtain ⟨i, n, rfl, hi, hni, hO, hB⟩ := hrel
    by_cases hil : i < l.length
    · obtain ⟨ga, oa, rfl, _, hga, hin⟩ := QA.out (by omega)
      have HNL : Hid (n + 1 ≤ 8796093022200) := hide (by omega)
      obtain ⟨⟨y1, y2⟩, hy⟩ : ∃ y, l[i] = y := ⟨_, rfl⟩
      have FT := fs1_take (ocmp o) (0, 0) l hil
      obtain ⟨dn, hdn⟩ : ∃ d, fs1 (ocmp o) (l.take i) = d := ⟨_, rfl⟩
      rw [hdn] at hO FT
      have qy := hin i hil
      rw [hy] at qy FT
      clear hdn
      by_cases h0 : i = 0
      · subst h0
        rw [if_pos (.inl rfl)] at FT
        have HFS := hide FT
        simp only [Nat.zero_mul, Nat.add_zero] at qy
        have q1 : (0 : Int) < (l.length : Int) := by omega
        have CI := hide (fun V (kk : Below w.heap.size w V) => (show V.cell? ⟨ga, oa, none⟩ = some (.int .i64 y1) ∧ V.cell? ⟨ga, oa + 1, none⟩ = some (.int .i64 y2) from ⟨(kk.cell (p := ⟨ga, _, none⟩) hga).trans qy.1, (kk.cell (p := ⟨ga, _, none⟩) hga).trans qy.2⟩))
        clear hin qy hy FT
        go_wp2
        have CC : ∀ u : World, Below wr.heap.size wr u → True := fun u hu => trivial
        have K : Below wr.heap.size wr wr.drew := (Below.refl _ _).drew
        have HC0 := CC _ K
        refine wpHl.region0 (C := fun u => True) (by kernel_rfl) (by kernel_rfl) (fun HS => ?_)
        refine wpHl.tk0 (i := 0) (d := some 13) (v := .int .i64 0) rfl HS (by as_aux_lemma => kernel_rfl) rfl (fun _ _ _ h => h) (Or.inl ⟨by rfl, ?_⟩) HC0 ?_
        · intro u hC
          go_simp
        simp only [Act.put, List.setIfInBounds_toArray, List.set_cons_zero, List.set_cons_succ]
        refine wpHl.tk0 (i := 1) (d := some 14) (v := .bool true) rfl HS (by as_aux_lemma => kernel_rfl) rfl (fun _ _ _ h => h) (Or.inl ⟨by rfl, ?_⟩) HC0 ?_
        · intro u hC
          go_simp
        simp only [Act.put, List.setIfInBounds_toArray, List.set_cons_zero, List.set_cons_succ]
        refine wpHl.tk0 (i := 2) (d := some 15) (v := .bool true) rfl HS (by as_aux_lemma => kernel_rfl) rfl (fun _ _ _ h => h) (Or.inl ⟨by rfl, ?_⟩) HC0 ?_
        · intro u hC
          go_simp
        simp only [Act.put, List.setIfInBounds_toArray, List.set_cons_zero, List.set_cons_succ]
        refine wpHl.tk0 (i := 3) (d := some 16) (v := undef) rfl HS (by as_aux_lemma => kernel_rfl) rfl (fun _ _ _ h => h) (Or.inr ⟨by rfl, rfl⟩) HC0 ?_
        simp only [Act.put, List.setIfInBounds_toArray, List.set_cons_zero, List.set_cons_succ]
        refine wpHl.tk0 (i := 4) (d := some 17) (v := undef) rfl HS (by as_aux_lemma => kernel_rfl) rfl (fun _ _ _ h => h) (Or.inr ⟨by rfl, rfl⟩) HC0 ?_
        simp only [Act.put, List.setIfInBounds_toArray, List.set_cons_zero, List.set_cons_succ]
        refine wpHl.tk0 (i := 5) (d := some 18) (v := undef) rfl HS (by as_aux_lemma => kernel_rfl) rfl (fun _ _ _ h => h) (Or.inr ⟨by rfl, rfl⟩) HC0 ?_
        simp only [Act.put, List.setIfInBounds_toArray, List.set_cons_zero, List.set_cons_succ]
        refine wpHl.tk0 (i := 6) (d := some 19) (v := undef) rfl HS (by as_aux_lemma => kernel_rfl) rfl (fun _ _ _ h => h) (Or.inr ⟨by rfl, rfl⟩) HC0 ?_
        simp only [Act.put, List.setIfInBounds_toArray, List.set_cons_zero, List.set_cons_succ]
        refine wpHl.tk0 (i := 7) (d := some 20) (v := undef) rfl HS (by as_aux_lemma => kernel_rfl) rfl (fun _ _ _ h => h) (Or.inr ⟨by rfl, rfl⟩) HC0 ?_
        simp only [Act.put, List.setIfInBounds_toArray, List.set_cons_zero, List.set_cons_succ]
        refine wpHl.tk0 (i := 8) (d := some 21) (v := undef) rfl HS (by as_aux_lemma => kernel_rfl) rfl (fun _ _ _ h => h) (Or.inr ⟨by rfl, rfl⟩) HC0 ?_
        simp only [Act.put, List.setIfInBounds_toArray, List.set_cons_zero, List.set_cons_succ]
        refine wpHl.tk0 (i := 9) (d := some 22) (v := undef) rfl HS (by as_aux_lemma => kernel_rfl) rfl (fun _ _ _ h => h) (Or.inr ⟨by rfl, rfl⟩) HC0 ?_
        simp only [Act.put, List.setIfInBounds_toArray, List.set_cons_zero, List.set_cons_succ]
        refine wpHl.tk0 (i := 10) (d := some 23) (v := undef) rfl HS (by as_aux_lemma => kernel_rfl) rfl (fun _ _ _ h => h) (Or.inr ⟨by rfl, rfl⟩) HC0 ?_
        simp only [Act.put, List.setIfInBounds_toArray, List.set_cons_zero, List.set_cons_succ]
        refine wpHl.tk0 (i := 11) (d := some 24) (v := undef) rfl HS (by as_aux_lemma => kernel_rfl) rfl (fun _ _ _ h => h) (Or.inr ⟨by rfl, rfl⟩) HC0 ?_
        simp only [Act.put, List.setIfInBounds_toArray, List.set_cons_zero, List.set_cons_succ]
        refine wpHl.tk0 (i := 12) (d := some 25) (v := undef) rfl HS (by as_aux_lemma => kernel_rfl) rfl (fun _ _ _ h => h) (Or.inr ⟨by rfl, rfl⟩) HC0 ?_
        simp only [Act.put, List.setIfInBounds_toArray, List.set_cons_zero, List.set_cons_succ]
        refine wpHl.one (i := 13) (by as_aux_lemma => kernel_rfl) rfl (fun K1 hK1 => ?_)
        refine hK1 (Act.put _ (some 26) undef) _ ⟨fun _ => HC0, ?_⟩
        clear hK1 K1
        try simp only [Act.put, List.setIfInBounds_toArray, List.set_cons_zero, List.set_cons_succ]
        refine wpHl.tk0 (i := 14) (d := some 27) (v := undef) rfl HS (by as_aux_lemma => kernel_rfl) rfl (fun _ _ _ h => h) (Or.inr ⟨by rfl, rfl⟩) HC0 ?_
        simp only [Act.put, List.setIfInBounds_toArray, List.set_cons_zero, List.set_cons_succ]
        refine wpHl.tk0 (i := 15) (d := some 28) (v := .bool true) rfl HS (by as_aux_lemma => kernel_rfl) rfl (fun _ _ _ h => h) (Or.inl ⟨by rfl, ?_⟩) HC0 ?_
        · intro u hC
          go_simp
        simp only [Act.put, List.setIfInBounds_toArray, List.set_cons_zero, List.set_cons_succ]
        refine wpHl.done (by as_aux_lemma => kernel_rfl) ?_ _
        clear CC HC0 HS
        obtain ⟨wz, hwz⟩ : ∃ z, wr.drew = z := ⟨_, rfl⟩
        rw [hwz] at K ⊢
        clear hwz
        have KB := hide (hB.out.trans (K.mono hB.out.size))
        have OC := hide (owns_on hO.out (ograwn K) (fun r e => by cases e))
        have SZ := hide KB.out.size
        obtain ⟨d1, d2⟩ := CI.out _ KB.out
        have RN := hide (fun (W : World) => one_rd W y1 y2)
        clear K
        go_wp2_with (at_builtin; refine wpList_append_items rfl _ _ rfl w.heap.size _ n _ rfl (OC.out.alloc _) _ [(y1, y2)] rfl (RN.out _) (by intro c h; cases h) (by have := HNL.out; unfold maxLen; simp; omega) (by have := HNL.out; simp; omega) (by have := SZ.out; simp; omega) ?_)
        intro v2 w2 own2 bel2
        rw [← flat_append, ← HFS.out] at own2
        have HB2 := hide ((KB.out.alloc SZ.out _).trans bel2)
        have HO2 := hide own2
        clear own2 bel2 d1 d2
        go_wp2
        go_roundw
        case rel => exact ⟨1, n + 1, by simp, by omega, by omega, HO2, HB2⟩
        case measure => simp [intOf]; omega
      · obtain ⟨k, rfl⟩ : ∃ k, i = k + 1 := ⟨i - 1, by omega⟩
        have hkl : k < l.length := by omega
        obtain ⟨⟨x1, x2⟩, hx⟩ : ∃ y, l[k] = y := ⟨_, rfl⟩
        have qx := hin k hkl
        rw [hx] at qx
        have ex : l[k + 1 - 1]?.getD (0, 0) = (x1, x2) := by rw [Nat.add_sub_cancel, List.getElem?_eq_getElem hkl, hx]; rfl
        rw [ex] at FT
        have HC := hide (fun (V : World) => ocmp_any (w := V) (o := o) (a := (x1, x2)) (b := (y1, y2)))
        obtain ⟨c, hc⟩ : ∃ c, ocmp o (x1, x2) (y1, y2) = c := ⟨_, rfl⟩
        rw [hc] at HC FT
        have w0 : IntKind.i64.wrap ((k : Int) + 1 - 1) = (k : Int) := by rw [IntKind.wrap_i64]; omega
        have w1 : IntKind.i64.wrap ((k : Int) + 1 + 1) = (k : Int) + 1 + 1 := by rw [IntKind.wrap_i64]; omega
        have q0 : (k : Int) < (l.length : Int) := by omega
        have q1 : ¬ (k : Int) + 1 = 0 := by omega
        rw [show ((k + 1 : Nat) : Int) = (k : Int) + 1 by omega]
        obtain ⟨j, hj⟩ : ∃ j, k + 1 = j := ⟨_, rfl⟩
        have hjc : (k : Int) + 1 = (j : Int) := by omega
        rw [hj] at qy FT hil hni
        rw [hjc] at w0 w1 q1 ⊢
        have q2 : (j : Int) < (l.length : Int) := by omega
        have q3 : ¬ j = 0 := by omega
        have CF : Hid (∀ V, Below wr.heap.size wr V → V.cell? ⟨ga, oa + k * 2, none⟩ = some (.int .i64 x1) ∧ V.cell? ⟨ga, oa + k * 2 + 1, none⟩ = some (.int .i64 x2) ∧ V.cell? ⟨ga, oa + j * 2, none⟩ = some (.int .i64 y1) ∧ V.cell? ⟨ga, oa + j * 2 + 1, none⟩ = some (.int .i64 y2)) := hide (fun V kk => by
          have k2 := hB.out.trans (kk.mono hB.out.size)
          exact ⟨(k2.cell (p := ⟨ga, _, none⟩) hga).trans qx.1, (k2.cell (p := ⟨ga, _, none⟩) hga).trans qx.2, (k2.cell (p := ⟨ga, _, none⟩) hga).trans qy.1, (k2.cell (p := ⟨ga, _, none⟩) hga).trans qy.2⟩)
        have CI := hide (fun V (kk : Below w.heap.size w V) => (show V.cell? ⟨ga, oa + j * 2, none⟩ = some (.int .i64 y1) ∧ V.cell? ⟨ga, oa + j * 2 + 1, none⟩ = some (.int .i64 y2) from ⟨(kk.cell (p := ⟨ga, _, none⟩) hga).trans qy.1, (kk.cell (p := ⟨ga, _, none⟩) hga).trans qy.2⟩))
        clear hin qx qy hc hy hx ex h0 hi
        by_cases hc0 : c = 0
        · rw [if_neg (fun h => h.elim (fun h => by omega) (fun h => h hc0)), List.append_nil] at FT
          have HFS := hide FT
          subst hc0
          clear FT hj
          go_wp2
          have CC : ∀ u : World, Below wr.heap.size wr u → u.cell? ⟨ga, oa + k * 2, none⟩ = some (.int .i64 x1) ∧ u.cell? ⟨ga, oa + k * 2 + 1, none⟩ = some (.int .i64 x2) ∧ u.cell? ⟨ga, oa + j * 2, none⟩ = some (.int .i64 y1) ∧ u.cell? ⟨ga, oa + j * 2 + 1, none⟩ = some (.int .i64 y2) := fun u hu => CF.out u hu
          have K : Below wr.heap.size wr wr.drew := (Below.refl _ _).drew
          have HC0 := CC _ K
          refine wpHl.region0 (C := fun u => u.cell? ⟨ga, oa + k * 2, none⟩ = some (.int .i64 x1) ∧ u.cell? ⟨ga, oa + k * 2 + 1, none⟩ = some (.int .i64 x2) ∧ u.cell? ⟨ga, oa + j * 2, none⟩ = some (.int .i64 y1) ∧ u.cell? ⟨ga, oa + j * 2 + 1, none⟩ = some (.int .i64 y2)) (by kernel_rfl) (by kernel_rfl) (fun HS => ?_)
          refine wpHl.tk0 (i := 0) (d := some 13) (v := .int .i64 (j : Int)) rfl HS (by as_aux_lemma => kernel_rfl) rfl (fun _ _ _ h => h) (Or.inl ⟨by rfl, ?_⟩) HC0 ?_
          · intro u hC
            go_simp
          simp only [Act.put, List.setIfInBounds_toArray, List.set_cons_zero, List.set_cons_succ]
          refine wpHl.tk0 (i := 1) (d := some 14) (v := .bool false) rfl HS (by as_aux_lemma => kernel_rfl) rfl (fun _ _ _ h => h) (Or.inl ⟨by rfl, ?_⟩) HC0 ?_
          · intro u hC
            go_simp
          simp only [Act.put, List.setIfInBounds_toArray, List.set_cons_zero, List.set_cons_succ]
          refine wpHl.tk0 (i := 2) (d := some 15) (v := .bool false) rfl HS (by as_aux_lemma => kernel_rfl) rfl (fun _ _ _ h => h) (Or.inl ⟨by rfl, ?_⟩) HC0 ?_
          · intro u hC
            go_simp
          simp only [Act.put, List.setIfInBounds_toArray, List.set_cons_zero, List.set_cons_succ]
          refine wpHl.tk0 (i := 3) (d := some 16) (v := .int .i64 o) rfl HS (by as_aux_lemma => kernel_rfl) rfl (fun _ _ _ h => h) (Or.inl ⟨by rfl, ?_⟩) HC0 ?_
          · intro u hC
            go_simp
          simp only [Act.put, List.setIfInBounds_toArray, List.set_cons_zero, List.set_cons_succ]
          refine wpHl.tk0 (i := 4) (d := some 17) (v := .slice (some ⟨ga, oa, none⟩) l.length ca) rfl HS (by as_aux_lemma => kernel_rfl) rfl (fun _ _ _ h => h) (Or.inl ⟨by rfl, ?_⟩) HC0 ?_
          · intro u hC
            go_simp
          simp only [Act.put, List.setIfInBounds_toArray, List.set_cons_zero, List.set_cons_succ]
          refine wpHl.tk0 (i := 5) (d := some 18) (v := .int .i64 (j : Int)) rfl HS (by as_aux_lemma => kernel_rfl) rfl (fun _ _ _ h => h) (Or.inl ⟨by rfl, ?_⟩) HC0 ?_
          · intro u hC
            go_simp
          simp only [Act.put, List.setIfInBounds_toArray, List.set_cons_zero, List.set_cons_succ]
          refine wpHl.tk0 (i := 6) (d := some 19) (v := .int .i64 (k : Int)) rfl HS (by as_aux_lemma => kernel_rfl) rfl (fun _ _ _ h => h) (Or.inl ⟨by rfl, ?_⟩) HC0 ?_
          · intro u hC
            go_simp
          simp only [Act.put, List.setIfInBounds_toArray, List.set_cons_zero, List.set_cons_succ]
          refine wpHl.tk0 (i := 7) (d := some 20) (v := .pointer (some ⟨ga, oa + k * 2, none⟩)) rfl HS (by as_aux_lemma => kernel_rfl) rfl (fun _ _ _ h => h) (Or.inl ⟨by rfl, ?_⟩) HC0 ?_
          · intro u hC
            go_simp
          simp only [Act.put, List.setIfInBounds_toArray, List.set_cons_zero, List.set_cons_succ]
          refine wpHl.tk0 (i := 8) (d := some 21) (v := .agg #[.int .i64 x1, .int .i64 x2]) rfl HS (by as_aux_lemma => kernel_rfl) rfl (fun _ _ _ h => h) (Or.inl ⟨by rfl, ?_⟩) HC0 ?_
          · intro u hC
            obtain ⟨z0, z1, z2, z3⟩ := hC
            go_simp
          simp only [Act.put, List.setIfInBounds_toArray, List.set_cons_zero, List.set_cons_succ]
          refine wpHl.tk0 (i := 9) (d := some 22) (v := .slice (some ⟨ga, oa, none⟩) l.length ca) rfl HS (by as_aux_lemma => kernel_rfl) rfl (fun _ _ _ h => h) (Or.inl ⟨by rfl, ?_⟩) HC0 ?_
          · intro u hC
            go_simp
          simp only [Act.put, List.setIfInBounds_toArray, List.set_cons_zero, List.set_cons_succ]
          refine wpHl.tk0 (i := 10) (d := some 23) (v := .int .i64 (j : Int)) rfl HS (by as_aux_lemma => kernel_rfl) rfl (fun _ _ _ h => h) (Or.inl ⟨by rfl, ?_⟩) HC0 ?_
          · intro u hC
            go_simp
          simp only [Act.put, List.setIfInBounds_toArray, List.set_cons_zero, List.set_cons_succ]
          refine wpHl.tk0 (i := 11) (d := some 24) (v := .pointer (some ⟨ga, oa + j * 2, none⟩)) rfl HS (by as_aux_lemma => kernel_rfl) rfl (fun _ _ _ h => h) (Or.inl ⟨by rfl, ?_⟩) HC0 ?_
          · intro u hC
            go_simp
          simp only [Act.put, List.setIfInBounds_toArray, List.set_cons_zero, List.set_cons_succ]
          refine wpHl.tk0 (i := 12) (d := some 25) (v := .agg #[.int .i64 y1, .int .i64 y2]) rfl HS (by as_aux_lemma => kernel_rfl) rfl (fun _ _ _ h => h) (Or.inl ⟨by rfl, ?_⟩) HC0 ?_
          · intro u hC
            obtain ⟨z0, z1, z2, z3⟩ := hC
            go_simp
          simp only [Act.put, List.setIfInBounds_toArray, List.set_cons_zero, List.set_cons_succ]
          refine wpHl.one (i := 13) (by as_aux_lemma => kernel_rfl) rfl (fun K1 hK1 => ?_)
          rw [if_pos (by rfl)]
          refine wp_call_of (f := 23) (args := #[.int .i64 o, .agg #[.int .i64 x1, .int .i64 x2], .agg #[.int .i64 y1, .int .i64 y2]]) (by kernel_rfl) ?_
          with_reducible refine (HC.out _).mono ?_
          rintro e wn ⟨rfl, hb⟩
          replace K := below_trans K hb
          clear HC0
          have HC0 := CC _ K
          refine hK1 (Act.put _ (some 26) _) _ ⟨fun _ => HC0, ?_⟩
          clear hK1 K1 hb
          try simp only [Act.put, List.setIfInBounds_toArray, List.set_cons_zero, List.set_cons_succ]
          refine wpHl.tk0 (i := 14) (d := some 27) (v := .bool false) rfl HS (by as_aux_lemma => kernel_rfl) rfl (fun _ _ _ h => h) (Or.inl ⟨by rfl, ?_⟩) HC0 ?_
          · intro u hC
            go_simp
          simp only [Act.put, List.setIfInBounds_toArray, List.set_cons_zero, List.set_cons_succ]
          refine wpHl.tk0 (i := 15) (d := some 28) (v := .bool false) rfl HS (by as_aux_lemma => kernel_rfl) rfl (fun _ _ _ h => h) (Or.inl ⟨by rfl, ?_⟩) HC0 ?_
          · intro u hC
            go_simp
          simp only [Act.put, List.setIfInBounds_toArray, List.set_cons_zero, List.set_cons_succ]
          refine wpHl.done (by as_aux_lemma => kernel_rfl) ?_ _
          clear CC HC0 HS
          have KB := hide (hB.out.trans (K.mono hB.out.size))
          have OC := hide (owns_on hO.out (ograwn K) (fun r e => by cases e))
          clear K
          go_wp2
          go_roundw
          case rel => exact ⟨j + 1, n, by simp, by omega, by omega, hide (by rw [HFS.out]; exact OC.out), KB⟩
          case measure => simp [intOf]; omega
        · rw [if_pos (.inr hc0)] at FT
          have HFS := hide FT
          clear FT hj
          go_wp2
          have CC : ∀ u : World, Below wr.heap.size wr u → u.cell? ⟨ga, oa + k * 2, none⟩ = some (.int .i64 x1) ∧ u.cell? ⟨ga, oa + k * 2 + 1, none⟩ = some (.int .i64 x2) ∧ u.cell? ⟨ga, oa + j * 2, none⟩ = some (.int .i64 y1) ∧ u.cell? ⟨ga, oa + j * 2 + 1, none⟩ = some (.int .i64 y2) := fun u hu => CF.out u hu
          have K : Below wr.heap.size wr wr.drew := (Below.refl _ _).drew
          have HC0 := CC _ K
          refine wpHl.region0 (C := fun u => u.cell? ⟨ga, oa + k * 2, none⟩ = some (.int .i64 x1) ∧ u.cell? ⟨ga, oa + k * 2 + 1, none⟩ = some (.int .i64 x2) ∧ u.cell? ⟨ga, oa + j * 2, none⟩ = some (.int .i64 y1) ∧ u.cell? ⟨ga, oa + j * 2 + 1, none⟩ = some (.int .i64 y2)) (by kernel_rfl) (by kernel_rfl) (fun HS => ?_)
          refine wpHl.tk0 (i := 0) (d := some 13) (v := .int .i64 (j : Int)) rfl HS (by as_aux_lemma => kernel_rfl) rfl (fun _ _ _ h => h) (Or.inl ⟨by rfl, ?_⟩) HC0 ?_
          · intro u hC
            go_simp
          simp only [Act.put, List.setIfInBounds_toArray, List.set_cons_zero, List.set_cons_succ]
          refine wpHl.tk0 (i := 1) (d := some 14) (v := .bool false) rfl HS (by as_aux_lemma => kernel_rfl) rfl (fun _ _ _ h => h) (Or.inl ⟨by rfl, ?_⟩) HC0 ?_
          · intro u hC
            go_simp
          simp only [Act.put, List.setIfInBounds_toArray, List.set_cons_zero, List.set_cons_succ]
          refine wpHl.tk0 (i := 2) (d := some 15) (v := .bool false) rfl HS (by as_aux_lemma => kernel_rfl) rfl (fun _ _ _ h => h) (Or.inl ⟨by rfl, ?_⟩) HC0 ?_
          · intro u hC
            go_simp
          simp only [Act.put, List.setIfInBounds_toArray, List.set_cons_zero, List.set_cons_succ]
          refine wpHl.tk0 (i := 3) (d := some 16) (v := .int .i64 o) rfl HS (by as_aux_lemma => kernel_rfl) rfl (fun _ _ _ h => h) (Or.inl ⟨by rfl, ?_⟩) HC0 ?_
          · intro u hC
            go_simp
          simp only [Act.put, List.setIfInBounds_toArray, List.set_cons_zero, List.set_cons_succ]
          refine wpHl.tk0 (i := 4) (d := some 17) (v := .slice (some ⟨ga, oa, none⟩) l.length ca) rfl HS (by as_aux_lemma => kernel_rfl) rfl (fun _ _ _ h => h) (Or.inl ⟨by rfl, ?_⟩) HC0 ?_
          · intro u hC
            go_simp
          simp only [Act.put, List.setIfInBounds_toArray, List.set_cons_zero, List.set_cons_succ]
          refine wpHl.tk0 (i := 5) (d := some 18) (v := .int .i64 (j : Int)) rfl HS (by as_aux_lemma => kernel_rfl) rfl (fun _ _ _ h => h) (Or.inl ⟨by rfl, ?_⟩) HC0 ?_
          · intro u hC
            go_simp
          simp only [Act.put, List.setIfInBounds_toArray, List.set_cons_zero, List.set_cons_succ]
          refine wpHl.tk0 (i := 6) (d := some 19) (v := .int .i64 (k : Int)) rfl HS (by as_aux_lemma => kernel_rfl) rfl (fun _ _ _ h => h) (Or.inl ⟨by rfl, ?_⟩) HC0 ?_
          · intro u hC
            go_simp
          simp only [Act.put, List.setIfInBounds_toArray, List.set_cons_zero, List.set_cons_succ]
          refine wpHl.tk0 (i := 7) (d := some 20) (v := .pointer (some ⟨ga, oa + k * 2, none⟩)) rfl HS (by as_aux_lemma => kernel_rfl) rfl (fun _ _ _ h => h) (Or.inl ⟨by rfl, ?_⟩) HC0 ?_
          · intro u hC
            go_simp
          simp only [Act.put, List.setIfInBounds_toArray, List.set_cons_zero, List.set_cons_succ]
          refine wpHl.tk0 (i := 8) (d := some 21) (v := .agg #[.int .i64 x1, .int .i64 x2]) rfl HS (by as_aux_lemma => kernel_rfl) rfl (fun _ _ _ h => h) (Or.inl ⟨by rfl, ?_⟩) HC0 ?_
          · intro u hC
            obtain ⟨z0, z1, z2, z3⟩ := hC
            go_simp
          simp only [Act.put, List.setIfInBounds_toArray, List.set_cons_zero, List.set_cons_succ]
          refine wpHl.tk0 (i := 9) (d := some 22) (v := .slice (some ⟨ga, oa, none⟩) l.length ca) rfl HS (by as_aux_lemma => kernel_rfl) rfl (fun _ _ _ h => h) (Or.inl ⟨by rfl, ?_⟩) HC0 ?_
          · intro u hC
            go_simp
          simp only [Act.put, List.setIfInBounds_toArray, List.set_cons_zero, List.set_cons_succ]
          refine wpHl.tk0 (i := 10) (d := some 23) (v := .int .i64 (j : Int)) rfl HS (by as_aux_lemma => kernel_rfl) rfl (fun _ _ _ h => h) (Or.inl ⟨by rfl, ?_⟩) HC0 ?_
          · intro u hC
            go_simp
          simp only [Act.put, List.setIfInBounds_toArray, List.set_cons_zero, List.set_cons_succ]
          refine wpHl.tk0 (i := 11) (d := some 24) (v := .pointer (some ⟨ga, oa + j * 2, none⟩)) rfl HS (by as_aux_lemma => kernel_rfl) rfl (fun _ _ _ h => h) (Or.inl ⟨by rfl, ?_⟩) HC0 ?_
          · intro u hC
            go_simp
          simp only [Act.put, List.setIfInBounds_toArray, List.set_cons_zero, List.set_cons_succ]
          refine wpHl.tk0 (i := 12) (d := some 25) (v := .agg #[.int .i64 y1, .int .i64 y2]) rfl HS (by as_aux_lemma => kernel_rfl) rfl (fun _ _ _ h => h) (Or.inl ⟨by rfl, ?_⟩) HC0 ?_
          · intro u hC
            obtain ⟨z0, z1, z2, z3⟩ := hC
            go_simp
          simp only [Act.put, List.setIfInBounds_toArray, List.set_cons_zero, List.set_cons_succ]
          refine wpHl.one (i := 13) (by as_aux_lemma => kernel_rfl) rfl (fun K1 hK1 => ?_)
          rw [if_pos (by rfl)]
          refine wp_call_of (f := 23) (args := #[.int .i64 o, .agg #[.int .i64 x1, .int .i64 x2], .agg #[.int .i64 y1, .int .i64 y2]]) (by kernel_rfl) ?_
          with_reducible refine (HC.out _).mono ?_
          rintro e wn ⟨rfl, hb⟩
          replace K := below_trans K hb
          clear HC0
          have HC0 := CC _ K
          refine hK1 (Act.put _ (some 26) _) _ ⟨fun _ => HC0, ?_⟩
          clear hK1 K1 hb
          try simp only [Act.put, List.setIfInBounds_toArray, List.set_cons_zero, List.set_cons_succ]
          refine wpHl.tk0 (i := 14) (d := some 27) (v := .bool true) rfl HS (by as_aux_lemma => kernel_rfl) rfl (fun _ _ _ h => h) (Or.inl ⟨by rfl, ?_⟩) HC0 ?_
          · intro u hC
            go_simp
          simp only [Act.put, List.setIfInBounds_toArray, List.set_cons_zero, List.set_cons_succ]
          refine wpHl.tk0 (i := 15) (d := some 28) (v := .bool true) rfl HS (by as_aux_lemma => kernel_rfl) rfl (fun _ _ _ h => h) (Or.inl ⟨by rfl, ?_⟩) HC0 ?_
          · intro u hC
            go_simp
          simp only [Act.put, List.setIfInBounds_toArray, List.set_cons_zero, List.set_cons_succ]
          refine wpHl.done (by as_aux_lemma => kernel_rfl) ?_ _
          clear CC HC0 HS
          have KB := hide (hB.out.trans (K.mono hB.out.size))
          have OC := hide (owns_on hO.out (ograwn K) (fun r e => by cases e))
          have SZ := hide KB.out.size
          obtain ⟨d1, d2⟩ := CI.out _ KB.out
          have RN := hide (fun (W : World) => one_rd W y1 y2)
          clear K
          go_wp2_with (at_builtin; refine wpList_append_items rfl _ _ rfl w.heap.size _ n _ rfl (OC.out.alloc _) _ [(y1, y2)] rfl (RN.out _) (by intro c h; cases h) (by have := HNL.out; unfold maxLen; simp; omega) (by have := HNL.out; simp; omega) (by have := SZ.out; simp; omega) ?_)
          intro v2 w2 own2 bel2
          rw [← flat_append, ← HFS.out] at own2
          have HB2 := hide ((KB.out.alloc SZ.out _).trans bel2)
          have HO2 := hide own2
          clear own2 bel2 d1 d2
          go_wp2
          go_roundw
          case rel => exact ⟨j + 1, n + 1, by simp, by omega, by omega, HO2, HB2⟩
          case measure => simp [intOf]; omega
    · obtain rfl : i = l.length := by omega
      rw [List.take_length] at hO
      have qk : ∀ x : Nat, ¬ (x : Int) < (x : Int) := fun x => by omega
      go_wp2
      go_ret
      exact ⟨⟨_, rfl, _, hO.out⟩, hB.out⟩

end Go.Proofs.Ytomieeajmelglaa
