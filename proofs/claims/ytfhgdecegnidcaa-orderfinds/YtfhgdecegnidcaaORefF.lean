/- the reference's Search; same, of two lists that are one -/
import Derived.Test.YtfhgdecegnidcaaONil
namespace Go.Proofs.Ytfhgdecegnidcaa
open Go.RowKit Go.Shelf
set_option linter.unusedVariables false
set_option linter.unusedSimpArgs false

theorem fst12_at {o : Int} {s : List It} {x : It} {k : Nat} (h1 : ∀ j, j < k → ocmp o (s[j]?.getD (0, 0)) x < 0) (hk : k < s.length) (h2 : ¬ ocmp o (s[k]?.getD (0, 0)) x < 0) : fst12 o s x = k := by
  unfold fst12
  rw [List.findIdx_eq hk]
  simp only [hk, List.getElem?_eq_getElem, Option.getD_some] at h2
  refine ⟨by simpa using h2, fun j hj => ?_⟩
  have := h1 j hj
  have hjl : j < s.length := by omega
  simp only [hjl, List.getElem?_eq_getElem, Option.getD_some] at this
  simpa using this
theorem fst12_end {o : Int} {s : List It} {x : It} (h1 : ∀ j, j < s.length → ocmp o (s[j]?.getD (0, 0)) x < 0) : fst12 o s x = s.length := by
  unfold fst12
  rw [List.findIdx_eq_length]
  intro a ha
  obtain ⟨j, hj, rfl⟩ := List.getElem_of_mem ha
  have := h1 j hj
  simp only [hj, List.getElem?_eq_getElem, Option.getD_some] at this
  simpa using this

set_option maxRecDepth 100000 in
set_option maxHeartbeats 8000000 in
theorem rsearch_any {w : World} {va : Value} {l : List It} {x : It} {o : Int} (ha : ItRd (fun _ => True) w va l) (hl : l.length ≤ 8796093022208) :
    Calls Try.prog 23 #[va, itV x, .int .i64 o] w fun e w' => e = .returned (.tuple #[.int .i64 (fst12 o l x : Nat), .bool (bsOk (byF o) l x (fst12 o l x))]) ∧ Below w.heap.size w w' := by
  obtain ⟨ao, ca, rfl, hac, ham, hacl⟩ := ha
  unfold maxLen at ham
  obtain ⟨x1, x2⟩ := x
  obtain ⟨W1, hW1⟩ : ∃ u, w.alloc (.cells #[.int .i64 x1, .int .i64 x2] 27) = u := ⟨_, rfl⟩
  have K1 : Hid (Below w.heap.size w W1) := by rw [← hW1]; exact hide ((Below.refl _ w).alloc (Nat.le_refl _) _)
  have hx0 : W1.heap[w.heap.size]? = some (.cells #[.int .i64 x1, .int .i64 x2] 27 (0, 0)) := by rw [← hW1]; exact heap_alloc_new w _
  have HX : Hid (∀ U, Below W1.heap.size W1 U → U.cell? ⟨w.heap.size, 0, none⟩ = some (.int .i64 x1) ∧ U.cell? ⟨w.heap.size, 1, none⟩ = some (.int .i64 x2)) := hide (fun U k => by
    have h := (k.block _ (Array.getElem?_eq_some_iff.1 hx0).1).trans hx0
    exact ⟨cell_of_row U _ 0 _ _ _ h, cell_of_row U _ 1 _ _ _ h⟩)
  have RA := hide hacl
  clear hacl hx0
  go_enter Try.func23, Try.ntmps23
  go_wp2
  go_loopw [8] (fun p wr => ∃ (k : Nat), p = .int .i64 k ∧ k ≤ l.length ∧ Hid (∀ j, j < k → ocmp o (l[j]?.getD (0, 0)) (x1, x2) < 0) ∧ Hid (Below W1.heap.size W1 wr)) (fun p _ => l.length - (intOf p).toNat)
  case atStart => exact ⟨0, rfl, by omega, hide (fun j hj => by omega), hide (Below.refl _ _)⟩
  case round =>
    obtain ⟨k, rfl, hk, hN, hB⟩ := hrel
    by_cases hkl : k < l.length
    · obtain ⟨ga, oa, rfl, _, hga, hin⟩ := RA.out (by omega)
      have q2 : (k : Int) < (l.length : Int) := by omega
      have d2 : decide ((k : Int) < (l.length : Int)) = true := by simpa using q2
      obtain ⟨⟨y1, y2⟩, hy⟩ : ∃ y, l[k] = y := ⟨_, rfl⟩
      have hyy : l[k]?.getD (0, 0) = (y1, y2) := by simp [hkl, hy]
      have qy := hin k hkl
      rw [hy] at qy
      have CF : Hid (∀ wq, Below W1.heap.size W1 wq → ∀ U, Below wq.heap.size wq U → U.cell? ⟨w.heap.size, 0, none⟩ = some (.int .i64 x1) ∧ U.cell? ⟨w.heap.size, 1, none⟩ = some (.int .i64 x2) ∧ U.cell? ⟨ga, oa + k * 2, none⟩ = some (.int .i64 y1) ∧ U.cell? ⟨ga, oa + k * 2 + 1, none⟩ = some (.int .i64 y2)) := hide (fun wq hq U k' => by
        have k1 := hq.trans (k'.mono hq.size)
        have k2 : Below w.heap.size w U := K1.out.trans (k1.mono K1.out.size)
        exact ⟨(HX.out U k1).1, (HX.out U k1).2, (k2.cell (p := ⟨ga, _, none⟩) hga).trans qy.1, (k2.cell (p := ⟨ga, _, none⟩) hga).trans qy.2⟩)
      have K : Below wr.heap.size wr wr.drew := (Below.refl _ _).drew
      have HC := hide (fun (U : World) => ocmp_any (w := U) (o := o) (a := (y1, y2)) (b := (x1, x2)))
      obtain ⟨c, hc⟩ : ∃ c, ocmp o (y1, y2) (x1, x2) = c := ⟨_, rfl⟩
      rw [hc] at HC
      have HCV := hide hc
      have HYY := hide hyy
      clear hc hyy hy qy hin
      by_cases hc0 : c < 0
      · have d0 : decide (c < 0) = true := by simpa using hc0
        have HE : Hid (∀ j, j < k + 1 → ocmp o (l[j]?.getD (0, 0)) (x1, x2) < 0) := hide (fun j hj => by
          by_cases e : j = k
          · rw [e, HYY.out, HCV.out]; exact hc0
          · exact hN.out j (by omega))
        go_wp2
        first | go_region_held3 (fun u => u.cell? ⟨w.heap.size, 0, none⟩ = some (.int .i64 x1) ∧ u.cell? ⟨w.heap.size, 1, none⟩ = some (.int .i64 x2) ∧ u.cell? ⟨ga, oa + k * 2, none⟩ = some (.int .i64 y1) ∧ u.cell? ⟨ga, oa + k * 2 + 1, none⟩ = some (.int .i64 y2))
          (first | with_reducible exact CF.out _ hB.out _ K | go_keep)
          (first | (go_at_call 24; (with_reducible refine (HC.out _).mono ?_); rintro e w9 ⟨rfl, hb⟩; replace K := K.trans (hb.mono K.size); clear hb)) | fail "region"
        have HB9 := hide (hB.out.trans (K.mono hB.out.size))
        clear K
        go_wp2
        go_roundw
        case rel => exact ⟨k + 1, by simp, by omega, HE, HB9⟩
        case measure => simp [intOf]; omega
      · have d0 : decide (c < 0) = false := by simpa using hc0
        have HF := hide (fst12_at (o := o) hN.out hkl (by rw [HYY.out, HCV.out]; exact hc0))
        obtain ⟨ok, hok⟩ : ∃ b, (c == 0) = b := ⟨_, rfl⟩
        have HOK : Hid (bsOk (byF o) l (x1, x2) k = ok) := hide (by
          rw [← hok, bsOk, HYY.out, Bool.eq_iff_iff]
          simp only [decide_eq_true_eq, beq_iff_eq]
          rw [byF_zero, HCV.out]
          exact ⟨fun h => h.2, fun h => ⟨hkl, h⟩⟩)
        go_wp2
        first | go_region_held3 (fun u => u.cell? ⟨w.heap.size, 0, none⟩ = some (.int .i64 x1) ∧ u.cell? ⟨w.heap.size, 1, none⟩ = some (.int .i64 x2) ∧ u.cell? ⟨ga, oa + k * 2, none⟩ = some (.int .i64 y1) ∧ u.cell? ⟨ga, oa + k * 2 + 1, none⟩ = some (.int .i64 y2))
          (first | with_reducible exact CF.out _ hB.out _ K | go_keep)
          (first | (go_at_call 24; (with_reducible refine (HC.out _).mono ?_); rintro e w9 ⟨rfl, hb⟩; replace K := K.trans (hb.mono K.size); clear hb)) | fail "region"
        have HB9 := hide (hB.out.trans (K.mono hB.out.size))
        clear K
        have K : Below w9.heap.size w9 w9.drew := (Below.refl _ _).drew
        go_wp2
        first | go_region_held3 (fun u => u.cell? ⟨w.heap.size, 0, none⟩ = some (.int .i64 x1) ∧ u.cell? ⟨w.heap.size, 1, none⟩ = some (.int .i64 x2) ∧ u.cell? ⟨ga, oa + k * 2, none⟩ = some (.int .i64 y1) ∧ u.cell? ⟨ga, oa + k * 2 + 1, none⟩ = some (.int .i64 y2))
          (first | with_reducible exact CF.out _ HB9.out _ K | go_keep)
          (first | (go_at_call 24; (with_reducible refine (HC.out _).mono ?_); rintro e w10 ⟨rfl, hb⟩; replace K := K.trans (hb.mono K.size); clear hb)) | fail "region"
        have HB10 := hide (K1.out.trans ((HB9.out.trans (K.mono HB9.out.size)).mono K1.out.size))
        clear K
        go_wp2
        exact bodyPost_ret (v := .tuple #[.int .i64 k, .bool ok]) (by simp [results, Try.results23, go_sem]) rfl ⟨by rw [HF.out, HOK.out], HB10.out⟩
    · have q2 : ¬ (k : Int) < (l.length : Int) := by omega
      have d2 : decide ((k : Int) < (l.length : Int)) = false := by simpa using q2
      obtain rfl : k = l.length := by omega
      have HF := hide (fst12_end (o := o) hN.out)
      have HOK : Hid (bsOk (byF o) l (x1, x2) l.length = false) := hide (by simp [bsOk])
      go_wp2
      go_quiet (fail)
      go_wp2
      obtain ⟨U, hU⟩ : ∃ U, wr.drewN nq = U := ⟨_, rfl⟩
      have KU : Below W1.heap.size W1 U := by rw [← hU]; exact hB.out.trans ((obel_drewN wr nq).mono hB.out.size)
      rw [hU]
      clear hU
      go_quiet (fail)
      go_wp2
      exact bodyPost_ret (v := .tuple #[.int .i64 l.length, .bool false]) (by simp [results, Try.results23, go_sem]) rfl ⟨by rw [HF.out, HOK.out], K1.out.trans ((KU.trans ((obel_drewN U _).mono KU.size)).mono K1.out.size)⟩

end Go.Proofs.Ytfhgdecegnidcaa
