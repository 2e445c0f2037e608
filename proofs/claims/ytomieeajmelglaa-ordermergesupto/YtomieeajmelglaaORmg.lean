/- ref12.Merge -/
import Derived.Test.YtomieeajmelglaaOApA
import Derived.Test.YtomieeajmelglaaOHk
namespace Go.Proofs.Ytomieeajmelglaa
open Go.RowKit Go.Shelf
set_option linter.unusedVariables false
set_option linter.unusedSimpArgs false

set_option maxRecDepth 100000 in
set_option maxHeartbeats 8000000 in
theorem rmerge_any {w : World} {va vb : Value} {xs ys : List It} {o : Int} (ha : ItRd (fun _ => True) w va xs) (hb : ItRd (fun _ => True) w vb ys) (hl : xs.length + ys.length ≤ 8796093022200) :
    Calls Try.prog 18 #[va, vb, .int .i64 o] w fun e w' => (∃ v, e = .returned v ∧ ∃ n, w'.ownsRow w.heap.size 27 2 v n (flat (mrg (ocmp o) xs ys))) ∧ Below w.heap.size w w' := by
  obtain ⟨ao, ca, rfl, hac, ham, hacl⟩ := ha
  obtain ⟨bo, cb, rfl, hbc, hbm, hbcl⟩ := hb
  have QA := hide hacl
  have QB := hide hbcl
  have HLL := hide hl
  clear hacl hac ham hbcl hbc hbm
  go_enter Try.func18, Try.ntmps18
  go_wp2
  go_loopw [7, 8, 9] (fun v p q wr => ∃ (i k : Nat) (dn : List It), p = .int .i64 i ∧ q = .int .i64 k ∧ i ≤ xs.length ∧ k ≤ ys.length ∧ Hid (dn ++ mrg (ocmp o) (xs.drop i) (ys.drop k) = mrg (ocmp o) xs ys) ∧ Hid (wr.ownsRow w.heap.size 27 2 v (i + k) (flat dn)) ∧ Hid (Below w.heap.size w wr)) (fun _ p q _ => xs.length + ys.length - (intOf p).toNat - (intOf q).toNat)
  case atStart => exact ⟨0, 0, [], rfl, rfl, by omega, by omega, hide (by simp), hide (by simpa [flat] using World.ownsRow_nil _ _ _ _), hide (Below.refl _ _)⟩
  case round =>
    obtain ⟨i, k, dn, rfl, rfl, hi, hk, hD, hO, hB⟩ := hrel
    have wi : IntKind.i64.wrap ((i : Int) + 1) = (i : Int) + 1 := by rw [IntKind.wrap_i64]; omega
    have wk : IntKind.i64.wrap ((k : Int) + 1) = (k : Int) + 1 := by rw [IntKind.wrap_i64]; omega
    by_cases hil : i < xs.length
    · obtain ⟨ga, oa, rfl, _, hga, hina⟩ := QA.out (by omega)
      have qi : (i : Int) < (xs.length : Int) := by omega
      have qi2 : ¬ (i : Int) = (xs.length : Int) := by omega
      have qi3 : ¬ i = xs.length := by omega
      obtain ⟨⟨x1, x2⟩, hx⟩ : ∃ y, xs[i] = y := ⟨_, rfl⟩
      have qx := hina i hil
      rw [hx] at qx
      by_cases hkl : k < ys.length
      · obtain ⟨gb, ob, rfl, _, hgb, hinb⟩ := QB.out (by omega)
        have qk : (k : Int) < (ys.length : Int) := by omega
        obtain ⟨⟨y1, y2⟩, hy⟩ : ∃ y, ys[k] = y := ⟨_, rfl⟩
        have qy := hinb k hkl
        rw [hy] at qy
        have CF : Hid (∀ V, Below wr.heap.size wr V → V.cell? ⟨gb, ob + k * 2, none⟩ = some (.int .i64 y1) ∧ V.cell? ⟨gb, ob + k * 2 + 1, none⟩ = some (.int .i64 y2) ∧ V.cell? ⟨ga, oa + i * 2, none⟩ = some (.int .i64 x1) ∧ V.cell? ⟨ga, oa + i * 2 + 1, none⟩ = some (.int .i64 x2)) := hide (fun V kk => by
          have k2 := hB.out.trans (kk.mono hB.out.size)
          exact ⟨(k2.cell (p := ⟨gb, _, none⟩) hgb).trans qy.1, (k2.cell (p := ⟨gb, _, none⟩) hgb).trans qy.2, (k2.cell (p := ⟨ga, _, none⟩) hga).trans qx.1, (k2.cell (p := ⟨ga, _, none⟩) hga).trans qx.2⟩)
        have HC := hide (fun (V : World) => ocmp_any (w := V) (o := o) (a := (y1, y2)) (b := (x1, x2)))
        have ML := hide (mrg_lt (f := ocmp o) hil hkl hx hy)
        have MG := hide (mrg_ge (f := ocmp o) hil hkl hx hy)
        rw [hx, hy] at ML MG
        obtain ⟨c, hc⟩ : ∃ c, ocmp o (y1, y2) (x1, x2) = c := ⟨_, rfl⟩
        rw [hc] at HC ML MG
        by_cases hc0 : c < 0
        · have ST : Hid (dn ++ ([(y1, y2)] ++ mrg (ocmp o) (xs.drop i) (ys.drop (k + 1))) = mrg (ocmp o) xs ys) := hide (by have := hD.out; rw [ML.out hc0] at this; exact this)
          have CI := hide (fun V (kk : Below w.heap.size w V) => (show V.cell? ⟨gb, ob + k * 2, none⟩ = some (.int .i64 y1) ∧ V.cell? ⟨gb, ob + k * 2 + 1, none⟩ = some (.int .i64 y2) from ⟨(kk.cell (p := ⟨gb, _, none⟩) hgb).trans qy.1, (kk.cell (p := ⟨gb, _, none⟩) hgb).trans qy.2⟩))
          have d0 : decide (c < 0) = true := by simpa using hc0
          clear hina hinb qx qy hx hy hc ML MG
          go_wp2
          have CC : ∀ u : World, Below wr.heap.size wr u → u.cell? ⟨gb, ob + k * 2, none⟩ = some (.int .i64 y1) ∧ u.cell? ⟨gb, ob + k * 2 + 1, none⟩ = some (.int .i64 y2) ∧ u.cell? ⟨ga, oa + i * 2, none⟩ = some (.int .i64 x1) ∧ u.cell? ⟨ga, oa + i * 2 + 1, none⟩ = some (.int .i64 x2) := fun u hu => CF.out u hu
          have K : Below wr.heap.size wr wr.drew := (Below.refl _ _).drew
          have HC0 := CC _ K
          refine wpHl.region0 (C := fun u => u.cell? ⟨gb, ob + k * 2, none⟩ = some (.int .i64 y1) ∧ u.cell? ⟨gb, ob + k * 2 + 1, none⟩ = some (.int .i64 y2) ∧ u.cell? ⟨ga, oa + i * 2, none⟩ = some (.int .i64 x1) ∧ u.cell? ⟨ga, oa + i * 2 + 1, none⟩ = some (.int .i64 x2)) (by kernel_rfl) (by kernel_rfl) (fun HS => ?_)
          refine wpHl.tk0 (i := 0) (d := some 20) (v := .int .i64 (i : Int)) rfl HS (by as_aux_lemma => kernel_rfl) rfl (fun _ _ _ h => h) (Or.inl ⟨by rfl, ?_⟩) HC0 ?_
          · intro u hC
            go_simp
          simp only [Act.put, List.setIfInBounds_toArray, List.set_cons_zero, List.set_cons_succ]
          refine wpHl.tk0 (i := 1) (d := some 21) (v := .slice (some ⟨ga, oa, none⟩) xs.length ca) rfl HS (by as_aux_lemma => kernel_rfl) rfl (fun _ _ _ h => h) (Or.inl ⟨by rfl, ?_⟩) HC0 ?_
          · intro u hC
            go_simp
          simp only [Act.put, List.setIfInBounds_toArray, List.set_cons_zero, List.set_cons_succ]
          refine wpHl.tk0 (i := 2) (d := some 22) (v := .int .i64 (xs.length : Int)) rfl HS (by as_aux_lemma => kernel_rfl) rfl (fun _ _ _ h => h) (Or.inl ⟨by rfl, ?_⟩) HC0 ?_
          · intro u hC
            go_simp
          simp only [Act.put, List.setIfInBounds_toArray, List.set_cons_zero, List.set_cons_succ]
          refine wpHl.tk0 (i := 3) (d := some 23) (v := .bool false) rfl HS (by as_aux_lemma => kernel_rfl) rfl (fun _ _ _ h => h) (Or.inl ⟨by rfl, ?_⟩) HC0 ?_
          · intro u hC
            go_simp
          simp only [Act.put, List.setIfInBounds_toArray, List.set_cons_zero, List.set_cons_succ]
          refine wpHl.tk0 (i := 4) (d := some 24) (v := .bool false) rfl HS (by as_aux_lemma => kernel_rfl) rfl (fun _ _ _ h => h) (Or.inl ⟨by rfl, ?_⟩) HC0 ?_
          · intro u hC
            go_simp
          simp only [Act.put, List.setIfInBounds_toArray, List.set_cons_zero, List.set_cons_succ]
          refine wpHl.tk0 (i := 5) (d := some 25) (v := .int .i64 (k : Int)) rfl HS (by as_aux_lemma => kernel_rfl) rfl (fun _ _ _ h => h) (Or.inl ⟨by rfl, ?_⟩) HC0 ?_
          · intro u hC
            go_simp
          simp only [Act.put, List.setIfInBounds_toArray, List.set_cons_zero, List.set_cons_succ]
          refine wpHl.tk0 (i := 6) (d := some 26) (v := .slice (some ⟨gb, ob, none⟩) ys.length cb) rfl HS (by as_aux_lemma => kernel_rfl) rfl (fun _ _ _ h => h) (Or.inl ⟨by rfl, ?_⟩) HC0 ?_
          · intro u hC
            go_simp
          simp only [Act.put, List.setIfInBounds_toArray, List.set_cons_zero, List.set_cons_succ]
          refine wpHl.tk0 (i := 7) (d := some 27) (v := .int .i64 (ys.length : Int)) rfl HS (by as_aux_lemma => kernel_rfl) rfl (fun _ _ _ h => h) (Or.inl ⟨by rfl, ?_⟩) HC0 ?_
          · intro u hC
            go_simp
          simp only [Act.put, List.setIfInBounds_toArray, List.set_cons_zero, List.set_cons_succ]
          refine wpHl.tk0 (i := 8) (d := some 28) (v := .bool true) rfl HS (by as_aux_lemma => kernel_rfl) rfl (fun _ _ _ h => h) (Or.inl ⟨by rfl, ?_⟩) HC0 ?_
          · intro u hC
            go_simp
          simp only [Act.put, List.setIfInBounds_toArray, List.set_cons_zero, List.set_cons_succ]
          refine wpHl.tk0 (i := 9) (d := some 29) (v := .bool true) rfl HS (by as_aux_lemma => kernel_rfl) rfl (fun _ _ _ h => h) (Or.inl ⟨by rfl, ?_⟩) HC0 ?_
          · intro u hC
            go_simp
          simp only [Act.put, List.setIfInBounds_toArray, List.set_cons_zero, List.set_cons_succ]
          refine wpHl.tk0 (i := 10) (d := some 30) (v := .int .i64 o) rfl HS (by as_aux_lemma => kernel_rfl) rfl (fun _ _ _ h => h) (Or.inl ⟨by rfl, ?_⟩) HC0 ?_
          · intro u hC
            go_simp
          simp only [Act.put, List.setIfInBounds_toArray, List.set_cons_zero, List.set_cons_succ]
          refine wpHl.tk0 (i := 11) (d := some 31) (v := .slice (some ⟨gb, ob, none⟩) ys.length cb) rfl HS (by as_aux_lemma => kernel_rfl) rfl (fun _ _ _ h => h) (Or.inl ⟨by rfl, ?_⟩) HC0 ?_
          · intro u hC
            go_simp
          simp only [Act.put, List.setIfInBounds_toArray, List.set_cons_zero, List.set_cons_succ]
          refine wpHl.tk0 (i := 12) (d := some 32) (v := .int .i64 (k : Int)) rfl HS (by as_aux_lemma => kernel_rfl) rfl (fun _ _ _ h => h) (Or.inl ⟨by rfl, ?_⟩) HC0 ?_
          · intro u hC
            go_simp
          simp only [Act.put, List.setIfInBounds_toArray, List.set_cons_zero, List.set_cons_succ]
          refine wpHl.tk0 (i := 13) (d := some 33) (v := .pointer (some ⟨gb, ob + k * 2, none⟩)) rfl HS (by as_aux_lemma => kernel_rfl) rfl (fun _ _ _ h => h) (Or.inl ⟨by rfl, ?_⟩) HC0 ?_
          · intro u hC
            go_simp
          simp only [Act.put, List.setIfInBounds_toArray, List.set_cons_zero, List.set_cons_succ]
          refine wpHl.tk0 (i := 14) (d := some 34) (v := .agg #[.int .i64 y1, .int .i64 y2]) rfl HS (by as_aux_lemma => kernel_rfl) rfl (fun _ _ _ h => h) (Or.inl ⟨by rfl, ?_⟩) HC0 ?_
          · intro u hC
            obtain ⟨z0, z1, z2, z3⟩ := hC
            go_simp
          simp only [Act.put, List.setIfInBounds_toArray, List.set_cons_zero, List.set_cons_succ]
          refine wpHl.tk0 (i := 15) (d := some 35) (v := .slice (some ⟨ga, oa, none⟩) xs.length ca) rfl HS (by as_aux_lemma => kernel_rfl) rfl (fun _ _ _ h => h) (Or.inl ⟨by rfl, ?_⟩) HC0 ?_
          · intro u hC
            go_simp
          simp only [Act.put, List.setIfInBounds_toArray, List.set_cons_zero, List.set_cons_succ]
          refine wpHl.tk0 (i := 16) (d := some 36) (v := .int .i64 (i : Int)) rfl HS (by as_aux_lemma => kernel_rfl) rfl (fun _ _ _ h => h) (Or.inl ⟨by rfl, ?_⟩) HC0 ?_
          · intro u hC
            go_simp
          simp only [Act.put, List.setIfInBounds_toArray, List.set_cons_zero, List.set_cons_succ]
          refine wpHl.tk0 (i := 17) (d := some 37) (v := .pointer (some ⟨ga, oa + i * 2, none⟩)) rfl HS (by as_aux_lemma => kernel_rfl) rfl (fun _ _ _ h => h) (Or.inl ⟨by rfl, ?_⟩) HC0 ?_
          · intro u hC
            go_simp
          simp only [Act.put, List.setIfInBounds_toArray, List.set_cons_zero, List.set_cons_succ]
          refine wpHl.tk0 (i := 18) (d := some 38) (v := .agg #[.int .i64 x1, .int .i64 x2]) rfl HS (by as_aux_lemma => kernel_rfl) rfl (fun _ _ _ h => h) (Or.inl ⟨by rfl, ?_⟩) HC0 ?_
          · intro u hC
            obtain ⟨z0, z1, z2, z3⟩ := hC
            go_simp
          simp only [Act.put, List.setIfInBounds_toArray, List.set_cons_zero, List.set_cons_succ]
          refine wpHl.one (i := 19) (by as_aux_lemma => kernel_rfl) rfl (fun K1 hK1 => ?_)
          rw [if_pos (by rfl)]
          refine wp_call_of (f := 23) (args := #[.int .i64 o, .agg #[.int .i64 y1, .int .i64 y2], .agg #[.int .i64 x1, .int .i64 x2]]) (by kernel_rfl) ?_
          with_reducible refine (HC.out _).mono ?_
          rintro e wn ⟨rfl, hb⟩
          replace K := below_trans K hb
          clear HC0
          have HC0 := CC _ K
          refine hK1 (Act.put _ (some 39) _) _ ⟨fun _ => HC0, ?_⟩
          clear hK1 K1 hb
          try simp only [Act.put, List.setIfInBounds_toArray, List.set_cons_zero, List.set_cons_succ]
          refine wpHl.tk0 (i := 20) (d := some 40) (v := .bool true) rfl HS (by as_aux_lemma => kernel_rfl) rfl (fun _ _ _ h => h) (Or.inl ⟨by rfl, ?_⟩) HC0 ?_
          · intro u hC
            go_simp
          simp only [Act.put, List.setIfInBounds_toArray, List.set_cons_zero, List.set_cons_succ]
          refine wpHl.tk0 (i := 21) (d := some 41) (v := .bool true) rfl HS (by as_aux_lemma => kernel_rfl) rfl (fun _ _ _ h => h) (Or.inl ⟨by rfl, ?_⟩) HC0 ?_
          · intro u hC
            go_simp
          simp only [Act.put, List.setIfInBounds_toArray, List.set_cons_zero, List.set_cons_succ]
          refine wpHl.tk0 (i := 22) (d := some 42) (v := .bool true) rfl HS (by as_aux_lemma => kernel_rfl) rfl (fun _ _ _ h => h) (Or.inl ⟨by rfl, ?_⟩) HC0 ?_
          · intro u hC
            go_simp
          simp only [Act.put, List.setIfInBounds_toArray, List.set_cons_zero, List.set_cons_succ]
          refine wpHl.done (by as_aux_lemma => kernel_rfl) ?_ _
          clear CC HC0 HS
          have KB := hide (hB.out.trans (K.mono hB.out.size))
          have OC := hide (owns_on hO.out (ograwn K) (fun r e => by cases e))
          have SZ := hide KB.out.size
          obtain ⟨d1, d2⟩ := CI.out _ KB.out
          have RN := hide (fun (W : World) => one_rd W y1 y2)
          clear K
          go_wp2_with (at_builtin; refine wpList_append_items rfl _ _ rfl w.heap.size _ (i + k) _ rfl (OC.out.alloc _) _ [(y1, y2)] rfl (RN.out _) (by intro c h; cases h) (by have := HLL.out; unfold maxLen; simp; omega) (by have := HLL.out; simp; omega) (by have := SZ.out; simp; omega) ?_)
          intro v2 w2 own2 bel2
          rw [← flat_append] at own2
          have HB2 := hide ((KB.out.alloc SZ.out _).trans bel2)
          have HO2 := hide own2
          clear own2 bel2 d1 d2
          go_wp2
          go_roundw
          case rel => exact ⟨i, k + 1, dn ++ [(y1, y2)], by simp, by simp, by omega, by omega, hide (by rw [List.append_assoc]; exact ST.out), HO2, HB2⟩
          case measure => simp [intOf]; omega
        · have ST : Hid (dn ++ ([(x1, x2)] ++ mrg (ocmp o) (xs.drop (i + 1)) (ys.drop k)) = mrg (ocmp o) xs ys) := hide (by have := hD.out; rw [MG.out (by omega)] at this; exact this)
          have CI := hide (fun V (kk : Below w.heap.size w V) => (show V.cell? ⟨ga, oa + i * 2, none⟩ = some (.int .i64 x1) ∧ V.cell? ⟨ga, oa + i * 2 + 1, none⟩ = some (.int .i64 x2) from ⟨(kk.cell (p := ⟨ga, _, none⟩) hga).trans qx.1, (kk.cell (p := ⟨ga, _, none⟩) hga).trans qx.2⟩))
          have d0 : decide (c < 0) = false := by simpa using hc0
          clear hina hinb qx qy hx hy hc ML MG
          go_wp2
          have CC : ∀ u : World, Below wr.heap.size wr u → u.cell? ⟨gb, ob + k * 2, none⟩ = some (.int .i64 y1) ∧ u.cell? ⟨gb, ob + k * 2 + 1, none⟩ = some (.int .i64 y2) ∧ u.cell? ⟨ga, oa + i * 2, none⟩ = some (.int .i64 x1) ∧ u.cell? ⟨ga, oa + i * 2 + 1, none⟩ = some (.int .i64 x2) := fun u hu => CF.out u hu
          have K : Below wr.heap.size wr wr.drew := (Below.refl _ _).drew
          have HC0 := CC _ K
          refine wpHl.region0 (C := fun u => u.cell? ⟨gb, ob + k * 2, none⟩ = some (.int .i64 y1) ∧ u.cell? ⟨gb, ob + k * 2 + 1, none⟩ = some (.int .i64 y2) ∧ u.cell? ⟨ga, oa + i * 2, none⟩ = some (.int .i64 x1) ∧ u.cell? ⟨ga, oa + i * 2 + 1, none⟩ = some (.int .i64 x2)) (by kernel_rfl) (by kernel_rfl) (fun HS => ?_)
          refine wpHl.tk0 (i := 0) (d := some 20) (v := .int .i64 (i : Int)) rfl HS (by as_aux_lemma => kernel_rfl) rfl (fun _ _ _ h => h) (Or.inl ⟨by rfl, ?_⟩) HC0 ?_
          · intro u hC
            go_simp
          simp only [Act.put, List.setIfInBounds_toArray, List.set_cons_zero, List.set_cons_succ]
          refine wpHl.tk0 (i := 1) (d := some 21) (v := .slice (some ⟨ga, oa, none⟩) xs.length ca) rfl HS (by as_aux_lemma => kernel_rfl) rfl (fun _ _ _ h => h) (Or.inl ⟨by rfl, ?_⟩) HC0 ?_
          · intro u hC
            go_simp
          simp only [Act.put, List.setIfInBounds_toArray, List.set_cons_zero, List.set_cons_succ]
          refine wpHl.tk0 (i := 2) (d := some 22) (v := .int .i64 (xs.length : Int)) rfl HS (by as_aux_lemma => kernel_rfl) rfl (fun _ _ _ h => h) (Or.inl ⟨by rfl, ?_⟩) HC0 ?_
          · intro u hC
            go_simp
          simp only [Act.put, List.setIfInBounds_toArray, List.set_cons_zero, List.set_cons_succ]
          refine wpHl.tk0 (i := 3) (d := some 23) (v := .bool false) rfl HS (by as_aux_lemma => kernel_rfl) rfl (fun _ _ _ h => h) (Or.inl ⟨by rfl, ?_⟩) HC0 ?_
          · intro u hC
            go_simp
          simp only [Act.put, List.setIfInBounds_toArray, List.set_cons_zero, List.set_cons_succ]
          refine wpHl.tk0 (i := 4) (d := some 24) (v := .bool false) rfl HS (by as_aux_lemma => kernel_rfl) rfl (fun _ _ _ h => h) (Or.inl ⟨by rfl, ?_⟩) HC0 ?_
          · intro u hC
            go_simp
          simp only [Act.put, List.setIfInBounds_toArray, List.set_cons_zero, List.set_cons_succ]
          refine wpHl.tk0 (i := 5) (d := some 25) (v := .int .i64 (k : Int)) rfl HS (by as_aux_lemma => kernel_rfl) rfl (fun _ _ _ h => h) (Or.inl ⟨by rfl, ?_⟩) HC0 ?_
          · intro u hC
            go_simp
          simp only [Act.put, List.setIfInBounds_toArray, List.set_cons_zero, List.set_cons_succ]
          refine wpHl.tk0 (i := 6) (d := some 26) (v := .slice (some ⟨gb, ob, none⟩) ys.length cb) rfl HS (by as_aux_lemma => kernel_rfl) rfl (fun _ _ _ h => h) (Or.inl ⟨by rfl, ?_⟩) HC0 ?_
          · intro u hC
            go_simp
          simp only [Act.put, List.setIfInBounds_toArray, List.set_cons_zero, List.set_cons_succ]
          refine wpHl.tk0 (i := 7) (d := some 27) (v := .int .i64 (ys.length : Int)) rfl HS (by as_aux_lemma => kernel_rfl) rfl (fun _ _ _ h => h) (Or.inl ⟨by rfl, ?_⟩) HC0 ?_
          · intro u hC
            go_simp
          simp only [Act.put, List.setIfInBounds_toArray, List.set_cons_zero, List.set_cons_succ]
          refine wpHl.tk0 (i := 8) (d := some 28) (v := .bool true) rfl HS (by as_aux_lemma => kernel_rfl) rfl (fun _ _ _ h => h) (Or.inl ⟨by rfl, ?_⟩) HC0 ?_
          · intro u hC
            go_simp
          simp only [Act.put, List.setIfInBounds_toArray, List.set_cons_zero, List.set_cons_succ]
          refine wpHl.tk0 (i := 9) (d := some 29) (v := .bool true) rfl HS (by as_aux_lemma => kernel_rfl) rfl (fun _ _ _ h => h) (Or.inl ⟨by rfl, ?_⟩) HC0 ?_
          · intro u hC
            go_simp
          simp only [Act.put, List.setIfInBounds_toArray, List.set_cons_zero, List.set_cons_succ]
          refine wpHl.tk0 (i := 10) (d := some 30) (v := .int .i64 o) rfl HS (by as_aux_lemma => kernel_rfl) rfl (fun _ _ _ h => h) (Or.inl ⟨by rfl, ?_⟩) HC0 ?_
          · intro u hC
            go_simp
          simp only [Act.put, List.setIfInBounds_toArray, List.set_cons_zero, List.set_cons_succ]
          refine wpHl.tk0 (i := 11) (d := some 31) (v := .slice (some ⟨gb, ob, none⟩) ys.length cb) rfl HS (by as_aux_lemma => kernel_rfl) rfl (fun _ _ _ h => h) (Or.inl ⟨by rfl, ?_⟩) HC0 ?_
          · intro u hC
            go_simp
          simp only [Act.put, List.setIfInBounds_toArray, List.set_cons_zero, List.set_cons_succ]
          refine wpHl.tk0 (i := 12) (d := some 32) (v := .int .i64 (k : Int)) rfl HS (by as_aux_lemma => kernel_rfl) rfl (fun _ _ _ h => h) (Or.inl ⟨by rfl, ?_⟩) HC0 ?_
          · intro u hC
            go_simp
          simp only [Act.put, List.setIfInBounds_toArray, List.set_cons_zero, List.set_cons_succ]
          refine wpHl.tk0 (i := 13) (d := some 33) (v := .pointer (some ⟨gb, ob + k * 2, none⟩)) rfl HS (by as_aux_lemma => kernel_rfl) rfl (fun _ _ _ h => h) (Or.inl ⟨by rfl, ?_⟩) HC0 ?_
          · intro u hC
            go_simp
          simp only [Act.put, List.setIfInBounds_toArray, List.set_cons_zero, List.set_cons_succ]
          refine wpHl.tk0 (i := 14) (d := some 34) (v := .agg #[.int .i64 y1, .int .i64 y2]) rfl HS (by as_aux_lemma => kernel_rfl) rfl (fun _ _ _ h => h) (Or.inl ⟨by rfl, ?_⟩) HC0 ?_
          · intro u hC
            obtain ⟨z0, z1, z2, z3⟩ := hC
            go_simp
          simp only [Act.put, List.setIfInBounds_toArray, List.set_cons_zero, List.set_cons_succ]
          refine wpHl.tk0 (i := 15) (d := some 35) (v := .slice (some ⟨ga, oa, none⟩) xs.length ca) rfl HS (by as_aux_lemma => kernel_rfl) rfl (fun _ _ _ h => h) (Or.inl ⟨by rfl, ?_⟩) HC0 ?_
          · intro u hC
            go_simp
          simp only [Act.put, List.setIfInBounds_toArray, List.set_cons_zero, List.set_cons_succ]
          refine wpHl.tk0 (i := 16) (d := some 36) (v := .int .i64 (i : Int)) rfl HS (by as_aux_lemma => kernel_rfl) rfl (fun _ _ _ h => h) (Or.inl ⟨by rfl, ?_⟩) HC0 ?_
          · intro u hC
            go_simp
          simp only [Act.put, List.setIfInBounds_toArray, List.set_cons_zero, List.set_cons_succ]
          refine wpHl.tk0 (i := 17) (d := some 37) (v := .pointer (some ⟨ga, oa + i * 2, none⟩)) rfl HS (by as_aux_lemma => kernel_rfl) rfl (fun _ _ _ h => h) (Or.inl ⟨by rfl, ?_⟩) HC0 ?_
          · intro u hC
            go_simp
          simp only [Act.put, List.setIfInBounds_toArray, List.set_cons_zero, List.set_cons_succ]
          refine wpHl.tk0 (i := 18) (d := some 38) (v := .agg #[.int .i64 x1, .int .i64 x2]) rfl HS (by as_aux_lemma => kernel_rfl) rfl (fun _ _ _ h => h) (Or.inl ⟨by rfl, ?_⟩) HC0 ?_
          · intro u hC
            obtain ⟨z0, z1, z2, z3⟩ := hC
            go_simp
          simp only [Act.put, List.setIfInBounds_toArray, List.set_cons_zero, List.set_cons_succ]
          refine wpHl.one (i := 19) (by as_aux_lemma => kernel_rfl) rfl (fun K1 hK1 => ?_)
          rw [if_pos (by rfl)]
          refine wp_call_of (f := 23) (args := #[.int .i64 o, .agg #[.int .i64 y1, .int .i64 y2], .agg #[.int .i64 x1, .int .i64 x2]]) (by kernel_rfl) ?_
          with_reducible refine (HC.out _).mono ?_
          rintro e wn ⟨rfl, hb⟩
          replace K := below_trans K hb
          clear HC0
          have HC0 := CC _ K
          refine hK1 (Act.put _ (some 39) _) _ ⟨fun _ => HC0, ?_⟩
          clear hK1 K1 hb
          try simp only [Act.put, List.setIfInBounds_toArray, List.set_cons_zero, List.set_cons_succ]
          refine wpHl.tk0 (i := 20) (d := some 40) (v := .bool false) rfl HS (by as_aux_lemma => kernel_rfl) rfl (fun _ _ _ h => h) (Or.inl ⟨by rfl, ?_⟩) HC0 ?_
          · intro u hC
            go_simp
          simp only [Act.put, List.setIfInBounds_toArray, List.set_cons_zero, List.set_cons_succ]
          refine wpHl.tk0 (i := 21) (d := some 41) (v := .bool false) rfl HS (by as_aux_lemma => kernel_rfl) rfl (fun _ _ _ h => h) (Or.inl ⟨by rfl, ?_⟩) HC0 ?_
          · intro u hC
            go_simp
          simp only [Act.put, List.setIfInBounds_toArray, List.set_cons_zero, List.set_cons_succ]
          refine wpHl.tk0 (i := 22) (d := some 42) (v := .bool false) rfl HS (by as_aux_lemma => kernel_rfl) rfl (fun _ _ _ h => h) (Or.inl ⟨by rfl, ?_⟩) HC0 ?_
          · intro u hC
            go_simp
          simp only [Act.put, List.setIfInBounds_toArray, List.set_cons_zero, List.set_cons_succ]
          refine wpHl.done (by as_aux_lemma => kernel_rfl) ?_ _
          clear CC HC0 HS
          have KB := hide (hB.out.trans (K.mono hB.out.size))
          have OC := hide (owns_on hO.out (ograwn K) (fun r e => by cases e))
          have SZ := hide KB.out.size
          obtain ⟨d1, d2⟩ := CI.out _ KB.out
          have RN := hide (fun (W : World) => one_rd W x1 x2)
          clear K
          go_wp2_with (at_builtin; refine wpList_append_items rfl _ _ rfl w.heap.size _ (i + k) _ rfl (OC.out.alloc _) _ [(x1, x2)] rfl (RN.out _) (by intro c h; cases h) (by have := HLL.out; unfold maxLen; simp; omega) (by have := HLL.out; simp; omega) (by have := SZ.out; simp; omega) ?_)
          intro v2 w2 own2 bel2
          rw [← flat_append] at own2
          have HB2 := hide ((KB.out.alloc SZ.out _).trans bel2)
          have HO2 := hide own2
          clear own2 bel2 d1 d2
          go_wp2
          go_roundw
          case rel => exact ⟨i + 1, k, dn ++ [(x1, x2)], by simp, by simp, by omega, by omega, hide (by rw [List.append_assoc]; exact ST.out), hide (by rw [Nat.add_right_comm]; exact HO2.out), HB2⟩
          case measure => simp [intOf]; omega
      · have qk : ¬ (k : Int) < (ys.length : Int) := by omega
        have ST : Hid (dn ++ ([(x1, x2)] ++ mrg (ocmp o) (xs.drop (i + 1)) (ys.drop k)) = mrg (ocmp o) xs ys) := hide (by have := hD.out; rw [mrg_a hil hkl hx] at this; exact this)
        have CI := hide (fun V (kk : Below w.heap.size w V) => (show V.cell? ⟨ga, oa + i * 2, none⟩ = some (.int .i64 x1) ∧ V.cell? ⟨ga, oa + i * 2 + 1, none⟩ = some (.int .i64 x2) from ⟨(kk.cell (p := ⟨ga, _, none⟩) hga).trans qx.1, (kk.cell (p := ⟨ga, _, none⟩) hga).trans qx.2⟩))
        clear hina qx hx
        go_wp2
        have CC : ∀ u : World, Below wr.heap.size wr u → True := fun u hu => trivial
        have K : Below wr.heap.size wr wr.drew := (Below.refl _ _).drew
        have HC0 := CC _ K
        refine wpHl.region0 (C := fun u => True) (by kernel_rfl) (by kernel_rfl) (fun HS => ?_)
        refine wpHl.tk0 (i := 0) (d := some 20) (v := .int .i64 (i : Int)) rfl HS (by as_aux_lemma => kernel_rfl) rfl (fun _ _ _ h => h) (Or.inl ⟨by rfl, ?_⟩) HC0 ?_
        · intro u hC
          go_simp
        simp only [Act.put, List.setIfInBounds_toArray, List.set_cons_zero, List.set_cons_succ]
        refine wpHl.tk0 (i := 1) (d := some 21) (v := .slice (some ⟨ga, oa, none⟩) xs.length ca) rfl HS (by as_aux_lemma => kernel_rfl) rfl (fun _ _ _ h => h) (Or.inl ⟨by rfl, ?_⟩) HC0 ?_
        · intro u hC
          go_simp
        simp only [Act.put, List.setIfInBounds_toArray, List.set_cons_zero, List.set_cons_succ]
        refine wpHl.tk0 (i := 2) (d := some 22) (v := .int .i64 (xs.length : Int)) rfl HS (by as_aux_lemma => kernel_rfl) rfl (fun _ _ _ h => h) (Or.inl ⟨by rfl, ?_⟩) HC0 ?_
        · intro u hC
          go_simp
        simp only [Act.put, List.setIfInBounds_toArray, List.set_cons_zero, List.set_cons_succ]
        refine wpHl.tk0 (i := 3) (d := some 23) (v := .bool false) rfl HS (by as_aux_lemma => kernel_rfl) rfl (fun _ _ _ h => h) (Or.inl ⟨by rfl, ?_⟩) HC0 ?_
        · intro u hC
          go_simp
        simp only [Act.put, List.setIfInBounds_toArray, List.set_cons_zero, List.set_cons_succ]
        refine wpHl.tk0 (i := 4) (d := some 24) (v := .bool false) rfl HS (by as_aux_lemma => kernel_rfl) rfl (fun _ _ _ h => h) (Or.inl ⟨by rfl, ?_⟩) HC0 ?_
        · intro u hC
          go_simp
        simp only [Act.put, List.setIfInBounds_toArray, List.set_cons_zero, List.set_cons_succ]
        refine wpHl.tk0 (i := 5) (d := some 25) (v := .int .i64 (k : Int)) rfl HS (by as_aux_lemma => kernel_rfl) rfl (fun _ _ _ h => h) (Or.inl ⟨by rfl, ?_⟩) HC0 ?_
        · intro u hC
          go_simp
        simp only [Act.put, List.setIfInBounds_toArray, List.set_cons_zero, List.set_cons_succ]
        refine wpHl.tk0 (i := 6) (d := some 26) (v := .slice bo ys.length cb) rfl HS (by as_aux_lemma => kernel_rfl) rfl (fun _ _ _ h => h) (Or.inl ⟨by rfl, ?_⟩) HC0 ?_
        · intro u hC
          go_simp
        simp only [Act.put, List.setIfInBounds_toArray, List.set_cons_zero, List.set_cons_succ]
        refine wpHl.tk0 (i := 7) (d := some 27) (v := .int .i64 (ys.length : Int)) rfl HS (by as_aux_lemma => kernel_rfl) rfl (fun _ _ _ h => h) (Or.inl ⟨by rfl, ?_⟩) HC0 ?_
        · intro u hC
          go_simp
        simp only [Act.put, List.setIfInBounds_toArray, List.set_cons_zero, List.set_cons_succ]
        refine wpHl.tk0 (i := 8) (d := some 28) (v := .bool false) rfl HS (by as_aux_lemma => kernel_rfl) rfl (fun _ _ _ h => h) (Or.inl ⟨by rfl, ?_⟩) HC0 ?_
        · intro u hC
          go_simp
        simp only [Act.put, List.setIfInBounds_toArray, List.set_cons_zero, List.set_cons_succ]
        refine wpHl.tk0 (i := 9) (d := some 29) (v := .bool false) rfl HS (by as_aux_lemma => kernel_rfl) rfl (fun _ _ _ h => h) (Or.inl ⟨by rfl, ?_⟩) HC0 ?_
        · intro u hC
          go_simp
        simp only [Act.put, List.setIfInBounds_toArray, List.set_cons_zero, List.set_cons_succ]
        refine wpHl.tk0 (i := 10) (d := some 30) (v := undef) rfl HS (by as_aux_lemma => kernel_rfl) rfl (fun _ _ _ h => h) (Or.inr ⟨by rfl, rfl⟩) HC0 ?_
        simp only [Act.put, List.setIfInBounds_toArray, List.set_cons_zero, List.set_cons_succ]
        refine wpHl.tk0 (i := 11) (d := some 31) (v := undef) rfl HS (by as_aux_lemma => kernel_rfl) rfl (fun _ _ _ h => h) (Or.inr ⟨by rfl, rfl⟩) HC0 ?_
        simp only [Act.put, List.setIfInBounds_toArray, List.set_cons_zero, List.set_cons_succ]
        refine wpHl.tk0 (i := 12) (d := some 32) (v := undef) rfl HS (by as_aux_lemma => kernel_rfl) rfl (fun _ _ _ h => h) (Or.inr ⟨by rfl, rfl⟩) HC0 ?_
        simp only [Act.put, List.setIfInBounds_toArray, List.set_cons_zero, List.set_cons_succ]
        refine wpHl.tk0 (i := 13) (d := some 33) (v := undef) rfl HS (by as_aux_lemma => kernel_rfl) rfl (fun _ _ _ h => h) (Or.inr ⟨by rfl, rfl⟩) HC0 ?_
        simp only [Act.put, List.setIfInBounds_toArray, List.set_cons_zero, List.set_cons_succ]
        refine wpHl.tk0 (i := 14) (d := some 34) (v := undef) rfl HS (by as_aux_lemma => kernel_rfl) rfl (fun _ _ _ h => h) (Or.inr ⟨by rfl, rfl⟩) HC0 ?_
        simp only [Act.put, List.setIfInBounds_toArray, List.set_cons_zero, List.set_cons_succ]
        refine wpHl.tk0 (i := 15) (d := some 35) (v := undef) rfl HS (by as_aux_lemma => kernel_rfl) rfl (fun _ _ _ h => h) (Or.inr ⟨by rfl, rfl⟩) HC0 ?_
        simp only [Act.put, List.setIfInBounds_toArray, List.set_cons_zero, List.set_cons_succ]
        refine wpHl.tk0 (i := 16) (d := some 36) (v := undef) rfl HS (by as_aux_lemma => kernel_rfl) rfl (fun _ _ _ h => h) (Or.inr ⟨by rfl, rfl⟩) HC0 ?_
        simp only [Act.put, List.setIfInBounds_toArray, List.set_cons_zero, List.set_cons_succ]
        refine wpHl.tk0 (i := 17) (d := some 37) (v := undef) rfl HS (by as_aux_lemma => kernel_rfl) rfl (fun _ _ _ h => h) (Or.inr ⟨by rfl, rfl⟩) HC0 ?_
        simp only [Act.put, List.setIfInBounds_toArray, List.set_cons_zero, List.set_cons_succ]
        refine wpHl.tk0 (i := 18) (d := some 38) (v := undef) rfl HS (by as_aux_lemma => kernel_rfl) rfl (fun _ _ _ h => h) (Or.inr ⟨by rfl, rfl⟩) HC0 ?_
        simp only [Act.put, List.setIfInBounds_toArray, List.set_cons_zero, List.set_cons_succ]
        refine wpHl.one (i := 19) (by as_aux_lemma => kernel_rfl) rfl (fun K1 hK1 => ?_)
        refine hK1 (Act.put _ (some 39) undef) _ ⟨fun _ => HC0, ?_⟩
        clear hK1 K1
        try simp only [Act.put, List.setIfInBounds_toArray, List.set_cons_zero, List.set_cons_succ]
        refine wpHl.tk0 (i := 20) (d := some 40) (v := undef) rfl HS (by as_aux_lemma => kernel_rfl) rfl (fun _ _ _ h => h) (Or.inr ⟨by rfl, rfl⟩) HC0 ?_
        simp only [Act.put, List.setIfInBounds_toArray, List.set_cons_zero, List.set_cons_succ]
        refine wpHl.tk0 (i := 21) (d := some 41) (v := .bool false) rfl HS (by as_aux_lemma => kernel_rfl) rfl (fun _ _ _ h => h) (Or.inl ⟨by rfl, ?_⟩) HC0 ?_
        · intro u hC
          go_simp
        simp only [Act.put, List.setIfInBounds_toArray, List.set_cons_zero, List.set_cons_succ]
        refine wpHl.tk0 (i := 22) (d := some 42) (v := .bool false) rfl HS (by as_aux_lemma => kernel_rfl) rfl (fun _ _ _ h => h) (Or.inl ⟨by rfl, ?_⟩) HC0 ?_
        · intro u hC
          go_simp
        simp only [Act.put, List.setIfInBounds_toArray, List.set_cons_zero, List.set_cons_succ]
        refine wpHl.done (by as_aux_lemma => kernel_rfl) ?_ _
        clear CC HC0 HS
        obtain ⟨wz, hwz⟩ : ∃ z, wr.drew = z := ⟨_, rfl⟩
        rw [hwz] at K ⊢
        clear hwz
        have KB := hide (hB.out.trans (K.mono hB.out.size))
        have OC := hide (owns_on hO.out (ograwn K) (fun r e => by cases e))
        have SZ := hide KB.out.size
        obtain ⟨d1, d2⟩ := CI.out _ KB.out
        have RN := hide (fun (W : World) => one_rd W x1 x2)
        clear K
        go_wp2_with (at_builtin; refine wpList_append_items rfl _ _ rfl w.heap.size _ (i + k) _ rfl (OC.out.alloc _) _ [(x1, x2)] rfl (RN.out _) (by intro c h; cases h) (by have := HLL.out; unfold maxLen; simp; omega) (by have := HLL.out; simp; omega) (by have := SZ.out; simp; omega) ?_)
        intro v2 w2 own2 bel2
        rw [← flat_append] at own2
        have HB2 := hide ((KB.out.alloc SZ.out _).trans bel2)
        have HO2 := hide own2
        clear own2 bel2 d1 d2
        go_wp2
        go_roundw
        case rel => exact ⟨i + 1, k, dn ++ [(x1, x2)], by simp, by simp, by omega, by omega, hide (by rw [List.append_assoc]; exact ST.out), hide (by rw [Nat.add_right_comm]; exact HO2.out), HB2⟩
        case measure => simp [intOf]; omega
    · have qi : ¬ (i : Int) < (xs.length : Int) := by omega
      by_cases hkl : k < ys.length
      · obtain rfl : i = xs.length := by omega
        obtain ⟨i, hi0⟩ : ∃ i, xs.length = i := ⟨_, rfl⟩
        obtain ⟨gb, ob, rfl, _, hgb, hinb⟩ := QB.out (by omega)
        have qk : (k : Int) < (ys.length : Int) := by omega
        obtain ⟨⟨y1, y2⟩, hy⟩ : ∃ y, ys[k] = y := ⟨_, rfl⟩
        have qy := hinb k hkl
        rw [hy] at qy
        have ST : Hid (dn ++ ([(y1, y2)] ++ mrg (ocmp o) (xs.drop xs.length) (ys.drop (k + 1))) = mrg (ocmp o) xs ys) := hide (by have := hD.out; rw [mrg_b hil hkl hy] at this; exact this)
        have CI := hide (fun V (kk : Below w.heap.size w V) => (show V.cell? ⟨gb, ob + k * 2, none⟩ = some (.int .i64 y1) ∧ V.cell? ⟨gb, ob + k * 2 + 1, none⟩ = some (.int .i64 y2) from ⟨(kk.cell (p := ⟨gb, _, none⟩) hgb).trans qy.1, (kk.cell (p := ⟨gb, _, none⟩) hgb).trans qy.2⟩))
        clear hinb qy hy hi0
        go_wp2
        have CC : ∀ u : World, Below wr.heap.size wr u → True := fun u hu => trivial
        have K : Below wr.heap.size wr wr.drew := (Below.refl _ _).drew
        have HC0 := CC _ K
        refine wpHl.region0 (C := fun u => True) (by kernel_rfl) (by kernel_rfl) (fun HS => ?_)
        refine wpHl.tk0 (i := 0) (d := some 20) (v := .int .i64 (xs.length : Int)) rfl HS (by as_aux_lemma => kernel_rfl) rfl (fun _ _ _ h => h) (Or.inl ⟨by rfl, ?_⟩) HC0 ?_
        · intro u hC
          go_simp
        simp only [Act.put, List.setIfInBounds_toArray, List.set_cons_zero, List.set_cons_succ]
        refine wpHl.tk0 (i := 1) (d := some 21) (v := .slice ao xs.length ca) rfl HS (by as_aux_lemma => kernel_rfl) rfl (fun _ _ _ h => h) (Or.inl ⟨by rfl, ?_⟩) HC0 ?_
        · intro u hC
          go_simp
        simp only [Act.put, List.setIfInBounds_toArray, List.set_cons_zero, List.set_cons_succ]
        refine wpHl.tk0 (i := 2) (d := some 22) (v := .int .i64 (xs.length : Int)) rfl HS (by as_aux_lemma => kernel_rfl) rfl (fun _ _ _ h => h) (Or.inl ⟨by rfl, ?_⟩) HC0 ?_
        · intro u hC
          go_simp
        simp only [Act.put, List.setIfInBounds_toArray, List.set_cons_zero, List.set_cons_succ]
        refine wpHl.tk0 (i := 3) (d := some 23) (v := .bool true) rfl HS (by as_aux_lemma => kernel_rfl) rfl (fun _ _ _ h => h) (Or.inl ⟨by rfl, ?_⟩) HC0 ?_
        · intro u hC
          go_simp
        simp only [Act.put, List.setIfInBounds_toArray, List.set_cons_zero, List.set_cons_succ]
        refine wpHl.tk0 (i := 4) (d := some 24) (v := .bool true) rfl HS (by as_aux_lemma => kernel_rfl) rfl (fun _ _ _ h => h) (Or.inl ⟨by rfl, ?_⟩) HC0 ?_
        · intro u hC
          go_simp
        simp only [Act.put, List.setIfInBounds_toArray, List.set_cons_zero, List.set_cons_succ]
        refine wpHl.tk0 (i := 5) (d := some 25) (v := undef) rfl HS (by as_aux_lemma => kernel_rfl) rfl (fun _ _ _ h => h) (Or.inr ⟨by rfl, rfl⟩) HC0 ?_
        simp only [Act.put, List.setIfInBounds_toArray, List.set_cons_zero, List.set_cons_succ]
        refine wpHl.tk0 (i := 6) (d := some 26) (v := undef) rfl HS (by as_aux_lemma => kernel_rfl) rfl (fun _ _ _ h => h) (Or.inr ⟨by rfl, rfl⟩) HC0 ?_
        simp only [Act.put, List.setIfInBounds_toArray, List.set_cons_zero, List.set_cons_succ]
        refine wpHl.tk0 (i := 7) (d := some 27) (v := undef) rfl HS (by as_aux_lemma => kernel_rfl) rfl (fun _ _ _ h => h) (Or.inr ⟨by rfl, rfl⟩) HC0 ?_
        simp only [Act.put, List.setIfInBounds_toArray, List.set_cons_zero, List.set_cons_succ]
        refine wpHl.tk0 (i := 8) (d := some 28) (v := undef) rfl HS (by as_aux_lemma => kernel_rfl) rfl (fun _ _ _ h => h) (Or.inr ⟨by rfl, rfl⟩) HC0 ?_
        simp only [Act.put, List.setIfInBounds_toArray, List.set_cons_zero, List.set_cons_succ]
        refine wpHl.tk0 (i := 9) (d := some 29) (v := undef) rfl HS (by as_aux_lemma => kernel_rfl) rfl (fun _ _ _ h => h) (Or.inr ⟨by rfl, rfl⟩) HC0 ?_
        simp only [Act.put, List.setIfInBounds_toArray, List.set_cons_zero, List.set_cons_succ]
        refine wpHl.tk0 (i := 10) (d := some 30) (v := undef) rfl HS (by as_aux_lemma => kernel_rfl) rfl (fun _ _ _ h => h) (Or.inr ⟨by rfl, rfl⟩) HC0 ?_
        simp only [Act.put, List.setIfInBounds_toArray, List.set_cons_zero, List.set_cons_succ]
        refine wpHl.tk0 (i := 11) (d := some 31) (v := undef) rfl HS (by as_aux_lemma => kernel_rfl) rfl (fun _ _ _ h => h) (Or.inr ⟨by rfl, rfl⟩) HC0 ?_
        simp only [Act.put, List.setIfInBounds_toArray, List.set_cons_zero, List.set_cons_succ]
        refine wpHl.tk0 (i := 12) (d := some 32) (v := undef) rfl HS (by as_aux_lemma => kernel_rfl) rfl (fun _ _ _ h => h) (Or.inr ⟨by rfl, rfl⟩) HC0 ?_
        simp only [Act.put, List.setIfInBounds_toArray, List.set_cons_zero, List.set_cons_succ]
        refine wpHl.tk0 (i := 13) (d := some 33) (v := undef) rfl HS (by as_aux_lemma => kernel_rfl) rfl (fun _ _ _ h => h) (Or.inr ⟨by rfl, rfl⟩) HC0 ?_
        simp only [Act.put, List.setIfInBounds_toArray, List.set_cons_zero, List.set_cons_succ]
        refine wpHl.tk0 (i := 14) (d := some 34) (v := undef) rfl HS (by as_aux_lemma => kernel_rfl) rfl (fun _ _ _ h => h) (Or.inr ⟨by rfl, rfl⟩) HC0 ?_
        simp only [Act.put, List.setIfInBounds_toArray, List.set_cons_zero, List.set_cons_succ]
        refine wpHl.tk0 (i := 15) (d := some 35) (v := undef) rfl HS (by as_aux_lemma => kernel_rfl) rfl (fun _ _ _ h => h) (Or.inr ⟨by rfl, rfl⟩) HC0 ?_
        simp only [Act.put, List.setIfInBounds_toArray, List.set_cons_zero, List.set_cons_succ]
        refine wpHl.tk0 (i := 16) (d := some 36) (v := undef) rfl HS (by as_aux_lemma => kernel_rfl) rfl (fun _ _ _ h => h) (Or.inr ⟨by rfl, rfl⟩) HC0 ?_
        simp only [Act.put, List.setIfInBounds_toArray, List.set_cons_zero, List.set_cons_succ]
        refine wpHl.tk0 (i := 17) (d := some 37) (v := undef) rfl HS (by as_aux_lemma => kernel_rfl) rfl (fun _ _ _ h => h) (Or.inr ⟨by rfl, rfl⟩) HC0 ?_
        simp only [Act.put, List.setIfInBounds_toArray, List.set_cons_zero, List.set_cons_succ]
        refine wpHl.tk0 (i := 18) (d := some 38) (v := undef) rfl HS (by as_aux_lemma => kernel_rfl) rfl (fun _ _ _ h => h) (Or.inr ⟨by rfl, rfl⟩) HC0 ?_
        simp only [Act.put, List.setIfInBounds_toArray, List.set_cons_zero, List.set_cons_succ]
        refine wpHl.one (i := 19) (by as_aux_lemma => kernel_rfl) rfl (fun K1 hK1 => ?_)
        refine hK1 (Act.put _ (some 39) undef) _ ⟨fun _ => HC0, ?_⟩
        clear hK1 K1
        try simp only [Act.put, List.setIfInBounds_toArray, List.set_cons_zero, List.set_cons_succ]
        refine wpHl.tk0 (i := 20) (d := some 40) (v := undef) rfl HS (by as_aux_lemma => kernel_rfl) rfl (fun _ _ _ h => h) (Or.inr ⟨by rfl, rfl⟩) HC0 ?_
        simp only [Act.put, List.setIfInBounds_toArray, List.set_cons_zero, List.set_cons_succ]
        refine wpHl.tk0 (i := 21) (d := some 41) (v := undef) rfl HS (by as_aux_lemma => kernel_rfl) rfl (fun _ _ _ h => h) (Or.inr ⟨by rfl, rfl⟩) HC0 ?_
        simp only [Act.put, List.setIfInBounds_toArray, List.set_cons_zero, List.set_cons_succ]
        refine wpHl.tk0 (i := 22) (d := some 42) (v := .bool true) rfl HS (by as_aux_lemma => kernel_rfl) rfl (fun _ _ _ h => h) (Or.inl ⟨by rfl, ?_⟩) HC0 ?_
        · intro u hC
          go_simp
        simp only [Act.put, List.setIfInBounds_toArray, List.set_cons_zero, List.set_cons_succ]
        refine wpHl.done (by as_aux_lemma => kernel_rfl) ?_ _
        clear CC HC0 HS
        obtain ⟨wz, hwz⟩ : ∃ z, wr.drew = z := ⟨_, rfl⟩
        rw [hwz] at K ⊢
        clear hwz
        have KB := hide (hB.out.trans (K.mono hB.out.size))
        have OC := hide (owns_on hO.out (ograwn K) (fun r e => by cases e))
        have SZ := hide KB.out.size
        obtain ⟨d1, d2⟩ := CI.out _ KB.out
        have RN := hide (fun (W : World) => one_rd W y1 y2)
        clear K
        go_wp2_with (at_builtin; refine wpList_append_items rfl _ _ rfl w.heap.size _ (xs.length + k) _ rfl (OC.out.alloc _) _ [(y1, y2)] rfl (RN.out _) (by intro c h; cases h) (by have := HLL.out; unfold maxLen; simp; omega) (by have := HLL.out; simp; omega) (by have := SZ.out; simp; omega) ?_)
        intro v2 w2 own2 bel2
        rw [← flat_append] at own2
        have HB2 := hide ((KB.out.alloc SZ.out _).trans bel2)
        have HO2 := hide own2
        clear own2 bel2 d1 d2
        go_wp2
        go_roundw
        case rel => exact ⟨xs.length, k + 1, dn ++ [(y1, y2)], by simp, by simp, by omega, by omega, hide (by rw [List.append_assoc]; exact ST.out), HO2, HB2⟩
        case measure => simp [intOf]; omega
      · obtain rfl : i = xs.length := by omega
        obtain rfl : k = ys.length := by omega
        have qk : ∀ x : Nat, ¬ (x : Int) < (x : Int) := fun x => by omega
        have hDD := hD.out
        rw [List.drop_length, List.drop_length, mrg_nil, List.append_nil] at hDD
        subst hDD
        go_wp2
        go_ret
        exact ⟨⟨_, rfl, _, hO.out⟩, hB.out⟩

end Go.Proofs.Ytomieeajmelglaa
