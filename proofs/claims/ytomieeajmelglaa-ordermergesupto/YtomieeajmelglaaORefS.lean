/- the reference's Sort -/
import Derived.Test.YtomieeajmelglaaORankM
namespace Go.Proofs.Ytomieeajmelglaa
open Go.RowKit Go.Shelf
set_option linter.unusedVariables false
set_option linter.unusedSimpArgs false

theorem rnk_place (o : Int) (l : List It) {i : Nat} (hi : i < l.length) : ∃ p, ∃ h : p < (srt (byNo (byF o) l) 1 (upN l.length)).length, (srt (byNo (byF o) l) 1 (upN l.length))[p] = (i : Int) ∧ rnk o l i = p := by
  have : (i : Int) ∈ srt (byNo (byF o) l) 1 (upN l.length) := mem_srt.2 (by simp only [upN, List.mem_map, List.mem_range]; exact ⟨i, hi, rfl⟩)
  obtain ⟨p, hp, e⟩ := List.getElem_of_mem this
  refine ⟨p, hp, e, ?_⟩
  have := rnk_at o l hp
  rw [e] at this
  simpa using this
theorem rnk_lt (o : Int) (l : List It) {i : Nat} (hi : i < l.length) : rnk o l i < l.length := by
  obtain ⟨p, hp, _, e⟩ := rnk_place o l hi
  rw [srt_len, upN_len] at hp
  omega
theorem rnk_ne (o : Int) (l : List It) {i t : Nat} (hi : i < l.length) (ht : t < i) : rnk o l t ≠ rnk o l i := by
  obtain ⟨p, hp, e1, e2⟩ := rnk_place o l hi
  obtain ⟨q, hq, e3, e4⟩ := rnk_place o l (show t < l.length by omega)
  intro e
  have : p = q := by omega
  subst this
  rw [e1] at e3
  omega
theorem rnk_all (o : Int) (l zs : List It) (hz : zs.length = l.length) (h : ∀ t, t < l.length → zs[rnk o l t]?.getD (0, 0) = l[t]?.getD (0, 0)) : zs = srt (byF o) 1 l := by
  apply List.ext_getElem
  · rw [hz, srt_len]
  · intro p h1 h2
    have hp : p < (srt (byNo (byF o) l) 1 (upN l.length)).length := by rw [srt_len, upN_len]; omega
    have hm := upN_mem (mem_srt.1 (List.getElem_mem hp))
    have e := rnk_at o l hp
    have := h ((srt (byNo (byF o) l) 1 (upN l.length))[p]).toNat (by omega)
    rw [e] at this
    have e2 : (srt (byF o) 1 l)[p] = l[((srt (byNo (byF o) l) 1 (upN l.length))[p]).toNat]?.getD (0, 0) := by
      have := nums_srt o l
      have h3 : p < ((srt (byNo (byF o) l) 1 (upN l.length)).map (fun a => l[a.toNat]?.getD (0, 0))).length := by rw [List.length_map]; exact hp
      have h4 : ((srt (byNo (byF o) l) 1 (upN l.length)).map (fun a => l[a.toNat]?.getD (0, 0)))[p]'h3 = (srt (byF o) 1 l)[p] := by simp only [this]
      rw [← h4, List.getElem_map]
    rw [e2, ← this]
    simp [h1]
def rnkP (o : Int) (l : List It) (i k : Nat) : Nat := (List.range k).countP (fun t => decide (ocmp o (l[t]?.getD (0, 0)) (l[i]?.getD (0, 0)) < 0 ∨ (ocmp o (l[t]?.getD (0, 0)) (l[i]?.getD (0, 0)) = 0 ∧ t < i)))
theorem rnkP_step (o : Int) (l : List It) (i k : Nat) : rnkP o l i (k + 1) = rnkP o l i k + (if ocmp o (l[k]?.getD (0, 0)) (l[i]?.getD (0, 0)) < 0 ∨ (ocmp o (l[k]?.getD (0, 0)) (l[i]?.getD (0, 0)) = 0 ∧ k < i) then 1 else 0) := by
  unfold rnkP
  rw [List.range_succ, List.countP_append]
  by_cases h : ocmp o (l[k]?.getD (0, 0)) (l[i]?.getD (0, 0)) < 0 ∨ (ocmp o (l[k]?.getD (0, 0)) (l[i]?.getD (0, 0)) = 0 ∧ k < i) <;> simp [h]
theorem rnkP_le (o : Int) (l : List It) (i k : Nat) : rnkP o l i k ≤ k := Nat.le_trans List.countP_le_length (by simp)

set_option maxRecDepth 100000 in
set_option maxHeartbeats 8000000 in
theorem rsort_any {w : World} {va : Value} {l : List It} {o : Int} (ha : ItRd (fun _ => True) w va l) (hl : l.length ≤ 8796093022208) :
    Calls Try.prog 8 #[va, .int .i64 o] w fun e w' => (∃ g, e = .returned (.slice (some ⟨g, 0, none⟩) l.length l.length) ∧ w.heap.size ≤ g ∧ ItRow w' g (srt (byF o) 1 l)) ∧ Below w.heap.size w w' := by
  obtain ⟨ao, ca, rfl, hac, ham, hacl⟩ := ha
  unfold maxLen at ham
  have RA := hide hacl
  have mk := mk_items hl
  have R0 : Hid (ItRow (w.alloc (.cells (flat (List.replicate l.length ((0, 0) : It))).toArray 27)) w.heap.size (List.replicate l.length (0, 0))) := hide (heap_alloc_new w _)
  have K0 : Hid (Below w.heap.size w (w.alloc (.cells (flat (List.replicate l.length ((0, 0) : It))).toArray 27))) := hide ((Below.refl _ w).alloc (Nat.le_refl _) _)
  clear hacl
  go_enter Try.func8, Try.ntmps8
  go_wp2
  obtain ⟨W0, hW0⟩ : ∃ u, w.alloc (.cells (flat (List.replicate l.length ((0, 0) : It))).toArray 27) = u := ⟨_, rfl⟩
  rw [hW0] at R0 K0 ⊢
  clear hW0 mk
  go_loopw [6] (fun p wr => ∃ (i : Nat) (zs : List It), p = .int .i64 i ∧ i ≤ l.length ∧ Hid (zs.length = l.length) ∧ Hid (ItRow wr w.heap.size zs) ∧ Hid (∀ t, t < i → zs[rnk o l t]?.getD (0, 0) = l[t]?.getD (0, 0)) ∧ Hid (Below w.heap.size w wr)) (fun p _ => l.length - (intOf p).toNat)
  case atStart => exact ⟨0, _, rfl, by omega, hide (by simp), R0, hide (fun t ht => by omega), K0⟩
  case round =>
    obtain ⟨i, zs, rfl, hi, hz, hR, hN, hB⟩ := hrel
    by_cases hil : i < l.length
    · obtain ⟨ga, oa, rfl, _, hga, hin⟩ := RA.out (by omega)
      have q1 : (i : Int) < (l.length : Int) := by omega
      obtain ⟨⟨z1, z2⟩, hzi⟩ : ∃ z, l[i] = z := ⟨_, rfl⟩
      have qz := hin i hil
      rw [hzi] at qz
      have QZ := hide qz
      have HZ := hide (show l[i]?.getD (0, 0) = (z1, z2) by simp [hil, hzi])
      have HIN := hide hin
      clear qz hzi hin
      go_wp2
      go_loopw [7, 8] (fun q p wr => ∃ (k : Nat), p = .int .i64 k ∧ q = .int .i64 (rnkP o l i k : Nat) ∧ k ≤ l.length ∧ Hid (ItRow wr w.heap.size zs) ∧ Hid (Below w.heap.size w wr)) (fun _ p _ => l.length - (intOf p).toNat)
      case atStart => exact ⟨0, rfl, rfl, by omega, hR, hB⟩
      case round =>
        obtain ⟨k, rfl, rfl, hk, hR2, hB2⟩ := hrel
        by_cases hkl : k < l.length
        · have q2 : (k : Int) < (l.length : Int) := by omega
          obtain ⟨⟨y1, y2⟩, hy⟩ : ∃ z, l[k] = z := ⟨_, rfl⟩
          have qy := HIN.out k hkl
          rw [hy] at qy
          have hyy : l[k]?.getD (0, 0) = (y1, y2) := by simp [hkl, hy]
          have CF : Hid (∀ U, Below wr.heap.size wr U → U.cell? ⟨ga, oa + k * 2, none⟩ = some (.int .i64 y1) ∧ U.cell? ⟨ga, oa + k * 2 + 1, none⟩ = some (.int .i64 y2) ∧ U.cell? ⟨ga, oa + i * 2, none⟩ = some (.int .i64 z1) ∧ U.cell? ⟨ga, oa + i * 2 + 1, none⟩ = some (.int .i64 z2)) := hide (fun U k' => by
            have k2 : Below w.heap.size w U := hB2.out.trans (k'.mono hB2.out.size)
            exact ⟨(k2.cell (p := ⟨ga, _, none⟩) hga).trans qy.1, (k2.cell (p := ⟨ga, _, none⟩) hga).trans qy.2, (k2.cell (p := ⟨ga, _, none⟩) hga).trans QZ.out.1, (k2.cell (p := ⟨ga, _, none⟩) hga).trans QZ.out.2⟩)
          have K : Below wr.heap.size wr wr.drew := (Below.refl _ _).drew
          have HC := hide (fun (U : World) => ocmp_any (w := U) (o := o) (a := (y1, y2)) (b := (z1, z2)))
          have hst := rnkP_step o l i k
          rw [hyy, HZ.out] at hst
          obtain ⟨c, hc⟩ : ∃ c, ocmp o (y1, y2) (z1, z2) = c := ⟨_, rfl⟩
          rw [hc] at HC hst
          have hle := rnkP_le o l i k
          obtain ⟨m, hm⟩ : ∃ m, rnkP o l i k = m := ⟨_, rfl⟩
          rw [hm] at hst hle ⊢
          have HST := hide hst
          clear hst hc hyy hy qy hm
          by_cases hc0 : c < 0
          · have d0 : decide (c < 0) = true := by simpa using hc0
            have HV : Hid (rnkP o l i (k + 1) = m + 1) := hide (by rw [HST.out, if_pos (by omega)])
            clear HST
            go_wp2
            first | go_region_held3 (fun u => u.cell? ⟨ga, oa + k * 2, none⟩ = some (.int .i64 y1) ∧ u.cell? ⟨ga, oa + k * 2 + 1, none⟩ = some (.int .i64 y2) ∧ u.cell? ⟨ga, oa + i * 2, none⟩ = some (.int .i64 z1) ∧ u.cell? ⟨ga, oa + i * 2 + 1, none⟩ = some (.int .i64 z2))
              (first | with_reducible exact CF.out _ K | go_keep)
              (first | (go_at_call 23; (with_reducible refine (HC.out _).mono ?_); rintro e w9 ⟨rfl, hb⟩; replace K := K.trans (hb.mono K.size); clear hb)) | fail "region"
            have HB9 := hide (hB2.out.trans (K.mono hB2.out.size))
            have HR9 := hide (hR2.out.keep (K.block _ hR2.out.lt))
            clear K
            go_wp2
            go_roundw
            case rel => exact ⟨k + 1, by simp, by rw [HV.out]; simp, by omega, HR9, HB9⟩
            case measure => simp [intOf]; omega
          · have d0 : decide (c < 0) = false := by simpa using hc0
            by_cases hc1 : c = 0
            · have d1 : (c == 0) = true := by simpa using hc1
              by_cases hki : k < i
              · have d2 : decide ((k : Int) < (i : Int)) = true := by rw [decide_eq_true_iff]; omega
                have HV : Hid (rnkP o l i (k + 1) = m + 1) := hide (by rw [HST.out, if_pos (by omega)])
                clear HST
                go_wp2
                first | go_region_held3 (fun u => u.cell? ⟨ga, oa + k * 2, none⟩ = some (.int .i64 y1) ∧ u.cell? ⟨ga, oa + k * 2 + 1, none⟩ = some (.int .i64 y2) ∧ u.cell? ⟨ga, oa + i * 2, none⟩ = some (.int .i64 z1) ∧ u.cell? ⟨ga, oa + i * 2 + 1, none⟩ = some (.int .i64 z2))
                  (first | with_reducible exact CF.out _ K | go_keep)
                  (first | (go_at_call 23; (with_reducible refine (HC.out _).mono ?_); rintro e w9 ⟨rfl, hb⟩; replace K := K.trans (hb.mono K.size); clear hb)) | fail "region"
                have HB9 := hide (hB2.out.trans (K.mono hB2.out.size))
                have HR9 := hide (hR2.out.keep (K.block _ hR2.out.lt))
                clear K
                go_wp2
                go_roundw
                case rel => exact ⟨k + 1, by simp, by rw [HV.out]; simp, by omega, HR9, HB9⟩
                case measure => simp [intOf]; omega
              · have d2 : decide ((k : Int) < (i : Int)) = false := by rw [decide_eq_false_iff_not]; omega
                have HV : Hid (rnkP o l i (k + 1) = m) := hide (by rw [HST.out, if_neg (by omega), Nat.add_zero])
                clear HST
                go_wp2
                first | go_region_held3 (fun u => u.cell? ⟨ga, oa + k * 2, none⟩ = some (.int .i64 y1) ∧ u.cell? ⟨ga, oa + k * 2 + 1, none⟩ = some (.int .i64 y2) ∧ u.cell? ⟨ga, oa + i * 2, none⟩ = some (.int .i64 z1) ∧ u.cell? ⟨ga, oa + i * 2 + 1, none⟩ = some (.int .i64 z2))
                  (first | with_reducible exact CF.out _ K | go_keep)
                  (first | (go_at_call 23; (with_reducible refine (HC.out _).mono ?_); rintro e w9 ⟨rfl, hb⟩; replace K := K.trans (hb.mono K.size); clear hb)) | fail "region"
                have HB9 := hide (hB2.out.trans (K.mono hB2.out.size))
                have HR9 := hide (hR2.out.keep (K.block _ hR2.out.lt))
                clear K
                go_wp2
                go_roundw
                case rel => exact ⟨k + 1, by simp, by rw [HV.out], by omega, HR9, HB9⟩
                case measure => simp [intOf]; omega
            · have d1 : (c == 0) = false := by simpa using hc1
              have HV : Hid (rnkP o l i (k + 1) = m) := hide (by rw [HST.out, if_neg (by omega), Nat.add_zero])
              clear HST
              go_wp2
              first | go_region_held3 (fun u => u.cell? ⟨ga, oa + k * 2, none⟩ = some (.int .i64 y1) ∧ u.cell? ⟨ga, oa + k * 2 + 1, none⟩ = some (.int .i64 y2) ∧ u.cell? ⟨ga, oa + i * 2, none⟩ = some (.int .i64 z1) ∧ u.cell? ⟨ga, oa + i * 2 + 1, none⟩ = some (.int .i64 z2))
                (first | with_reducible exact CF.out _ K | go_keep)
                (first | (go_at_call 23; (with_reducible refine (HC.out _).mono ?_); rintro e w9 ⟨rfl, hb⟩; replace K := K.trans (hb.mono K.size); clear hb)) | fail "region"
              have HB9 := hide (hB2.out.trans (K.mono hB2.out.size))
              have HR9 := hide (hR2.out.keep (K.block _ hR2.out.lt))
              clear K
              go_wp2
              go_roundw
              case rel => exact ⟨k + 1, by simp, by rw [HV.out], by omega, HR9, HB9⟩
              case measure => simp [intOf]; omega
        · have q2 : ¬ (k : Int) < (l.length : Int) := by omega
          obtain rfl : k = l.length := by omega
          have hrk : rnkP o l i l.length = rnk o l i := rfl
          rw [hrk]
          have hrl := rnk_lt o l hil
          have HNE := hide (fun t (ht : t < i) => rnk_ne o l hil ht)
          obtain ⟨r, hr⟩ : ∃ r, rnk o l i = r := ⟨_, rfl⟩
          rw [hr] at hrl HNE ⊢
          have HRK := hide hr
          have q3 : (r : Int) < (l.length : Int) := by omega
          have cz := hR2.out.cell (i := r) (by rw [hz.out]; exact hrl)
          have f0 := hR2.out.frozen (r * 2)
          have f1 := hR2.out.frozen (r * 2 + 1)
          have cl0 := (hB2.out.cell (p := ⟨ga, _, none⟩) hga).trans QZ.out.1
          have cl1 := (hB2.out.cell (p := ⟨ga, _, none⟩) hga).trans QZ.out.2
          obtain ⟨cz0, cz1⟩ := cz
          have HS := hide (hR2.out.set (i := r) (by rw [hz.out]; exact hrl) (z1, z2))
          have HB9 := hide ((hB2.out.setCell (p := ⟨w.heap.size, r * 2, none⟩) (Nat.le_refl _) (.int .i64 z1)).setCell (p := ⟨w.heap.size, r * 2 + 1, none⟩) (Nat.le_refl _) (.int .i64 z2))
          have HN2 : Hid (∀ t, t < i + 1 → (zs.set r (z1, z2))[rnk o l t]?.getD (0, 0) = l[t]?.getD (0, 0)) := hide (fun t ht => by
            by_cases e : t = i
            · rw [e, HRK.out, HZ.out]
              simp [show r < zs.length by rw [hz.out]; exact hrl]
            · rw [List.getElem?_set_ne (fun h => HNE.out t (by omega) h.symm)]
              exact hN.out t (by omega))
          clear hrk hr hN hR2
          go_wp2
          go_roundw
          case rel => exact ⟨i + 1, zs.set r (z1, z2), by simp, by omega, hide (by rw [List.length_set]; exact hz.out), HS, HN2, HB9⟩
          case measure => simp [intOf]; omega
    · have q1 : ¬ (i : Int) < (l.length : Int) := by omega
      obtain rfl : i = l.length := by omega
      have HE := hide (rnk_all o l zs hz.out hN.out)
      go_wp2
      go_ret
      exact ⟨⟨w.heap.size, rfl, Nat.le_refl _, by rw [← HE.out]; exact hR.out⟩, hB.out⟩

end Go.Proofs.Ytomieeajmelglaa
