/- the reference's Twice; Search and Twice without an order -/
import Derived.Test.YtfhgdecegnidcaaOPlM
namespace Go.Proofs.Ytfhgdecegnidcaa
open Go.RowKit Go.Shelf
set_option linter.unusedVariables false
set_option linter.unusedSimpArgs false

theorem tw_is {o : Int} {l : List It} {k : Nat} (h : Rep o l k) (hn : ∀ j, j < k → ¬ Rep o l j) : tw (byF o) l = k := by
  rcases twice_spec o l with ⟨_, h2⟩ | ⟨j, e, hj, hm⟩
  · exact absurd h (h2 k)
  · rcases Nat.lt_trichotomy j k with h3 | h3 | h3
    · exact absurd hj (hn j h3)
    · rw [e, h3]
    · exact absurd h (hm k h3)
theorem tw_none {o : Int} {l : List It} (hn : ∀ j, ¬ Rep o l j) : tw (byF o) l = -1 := by
  rcases twice_spec o l with ⟨h, _⟩ | ⟨j, e, hj, hm⟩
  · exact h
  · exact absurd hj (hn j)

set_option maxRecDepth 100000 in
set_option maxHeartbeats 8000000 in
theorem rtwice_any {w : World} {va : Value} {l : List It} {o : Int} (ha : ItRd (fun _ => True) w va l) (hl : l.length ≤ 8796093022208) :
    Calls Try.prog 26 #[va, .int .i64 o] w fun e w' => e = .returned (.int .i64 (tw (byF o) l)) ∧ Below w.heap.size w w' := by
  obtain ⟨ao, ca, rfl, hac, ham, hacl⟩ := ha
  unfold maxLen at ham
  have RA := hide hacl
  clear hacl
  go_enter Try.func26, Try.ntmps26
  go_wp2
  go_loopw [5] (fun p wr => ∃ (i : Nat), p = .int .i64 i ∧ i ≤ l.length ∧ Hid (∀ j, j < i → ¬ Rep o l j) ∧ Hid (Below w.heap.size w wr)) (fun p _ => l.length - (intOf p).toNat)
  case atStart => exact ⟨0, rfl, by omega, hide (fun j hj => by omega), hide (Below.refl _ _)⟩
  case round =>
    obtain ⟨i, rfl, hi, hN, hB⟩ := hrel
    by_cases hil : i < l.length
    · obtain ⟨ga, oa, rfl, _, hga, hin⟩ := RA.out (by omega)
      have q1 : (i : Int) < (l.length : Int) := by omega
      obtain ⟨⟨z1, z2⟩, hz⟩ : ∃ z, l[i] = z := ⟨_, rfl⟩
      have qz := hin i hil
      rw [hz] at qz
      have QZ := hide qz
      have HZ := hide hz
      have HIN := hide hin
      clear qz hz hin
      go_wp2
      go_loopw [6] (fun p wr => ∃ (k : Nat), p = .int .i64 k ∧ k ≤ i ∧ Hid (∀ t, t < k → oK o (l[t]?.getD (0, 0)) ≠ oK o (z1, z2)) ∧ Hid (Below w.heap.size w wr)) (fun p _ => i - (intOf p).toNat)
      case atStart => exact ⟨0, rfl, by omega, hide (fun j hj => by omega), hB⟩
      case round =>
        obtain ⟨k, rfl, hk, hM, hB2⟩ := hrel
        have hzz : l[i]?.getD (0, 0) = (z1, z2) := by simp [hil, HZ.out]
        have HZZ := hide hzz
        clear hzz
        by_cases hki : k < i
        · have q2 : (k : Int) < (i : Int) := by omega
          have q3 : (k : Int) < (l.length : Int) := by omega
          have hkl : k < l.length := by omega
          obtain ⟨⟨y1, y2⟩, hy⟩ : ∃ z, l[k] = z := ⟨_, rfl⟩
          have qy := HIN.out k hkl
          rw [hy] at qy
          have hyy : l[k]?.getD (0, 0) = (y1, y2) := by simp [hkl, hy]
          have CF : Hid (∀ U, Below wr.heap.size wr U → U.cell? ⟨ga, oa + k * 2, none⟩ = some (.int .i64 y1) ∧ U.cell? ⟨ga, oa + k * 2 + 1, none⟩ = some (.int .i64 y2) ∧ U.cell? ⟨ga, oa + i * 2, none⟩ = some (.int .i64 z1) ∧ U.cell? ⟨ga, oa + i * 2 + 1, none⟩ = some (.int .i64 z2)) := hide (fun U k' => by
            have k2 : Below w.heap.size w U := hB2.out.trans (k'.mono hB2.out.size)
            exact ⟨(k2.cell (p := ⟨ga, _, none⟩) hga).trans qy.1, (k2.cell (p := ⟨ga, _, none⟩) hga).trans qy.2, (k2.cell (p := ⟨ga, _, none⟩) hga).trans QZ.out.1, (k2.cell (p := ⟨ga, _, none⟩) hga).trans QZ.out.2⟩)
          have K : Below wr.heap.size wr wr.drew := (Below.refl _ _).drew
          have HC := hide (fun (U : World) => ocmp_any (w := U) (o := o) (a := (y1, y2)) (b := (z1, z2)))
          obtain ⟨c, hc⟩ : ∃ c, ocmp o (y1, y2) (z1, z2) = c := ⟨_, rfl⟩
          rw [hc] at HC
          have HCV := hide hc
          have HYY := hide hyy
          clear hc hyy hy qy
          by_cases hc0 : c = 0
          · have d0 : (c == 0) = true := by simpa using hc0
            have HE := hide hc0
            have HTW := hide (tw_is (o := o) (l := l) (k := i) ⟨k, hki, hil, by rw [HYY.out, HZZ.out]; exact ocmp_eq.1 (by rw [HCV.out]; exact hc0)⟩ hN.out)
            clear hc0
            go_wp2
            first | go_region_held3 (fun u => u.cell? ⟨ga, oa + k * 2, none⟩ = some (.int .i64 y1) ∧ u.cell? ⟨ga, oa + k * 2 + 1, none⟩ = some (.int .i64 y2) ∧ u.cell? ⟨ga, oa + i * 2, none⟩ = some (.int .i64 z1) ∧ u.cell? ⟨ga, oa + i * 2 + 1, none⟩ = some (.int .i64 z2))
              (first | with_reducible exact CF.out _ K | go_keep)
              (first | (go_at_call 24; (with_reducible refine (HC.out _).mono ?_); rintro e w9 ⟨rfl, hb⟩; replace K := K.trans (hb.mono K.size); clear hb)) | fail "region"
            have HB9 := hide (hB2.out.trans (K.mono hB2.out.size))
            clear K
            go_wp2
            go_ret
            exact ⟨by rw [HTW.out]; rfl, HB9.out⟩
          · have d0 : (c == 0) = false := by simpa using hc0
            have HE : Hid (∀ t, t < k + 1 → oK o (l[t]?.getD (0, 0)) ≠ oK o (z1, z2)) := hide (fun t ht => by
              by_cases e : t = k
              · rw [e, HYY.out]
                exact fun h => hc0 (by rw [← HCV.out]; exact ocmp_eq.2 h)
              · exact hM.out t (by omega))
            clear hc0
            go_wp2
            first | go_region_held3 (fun u => u.cell? ⟨ga, oa + k * 2, none⟩ = some (.int .i64 y1) ∧ u.cell? ⟨ga, oa + k * 2 + 1, none⟩ = some (.int .i64 y2) ∧ u.cell? ⟨ga, oa + i * 2, none⟩ = some (.int .i64 z1) ∧ u.cell? ⟨ga, oa + i * 2 + 1, none⟩ = some (.int .i64 z2))
              (first | with_reducible exact CF.out _ K | go_keep)
              (first | (go_at_call 24; (with_reducible refine (HC.out _).mono ?_); rintro e w9 ⟨rfl, hb⟩; replace K := K.trans (hb.mono K.size); clear hb)) | fail "region"
            have HB9 := hide (hB2.out.trans (K.mono hB2.out.size))
            clear K
            go_wp2
            go_roundw
            case rel => exact ⟨k + 1, by simp, by omega, HE, HB9⟩
            case measure => simp [intOf]; omega
        · have q2 : ¬ (k : Int) < (i : Int) := by omega
          obtain rfl : k = i := by omega
          have HE : Hid (∀ j, j < k + 1 → ¬ Rep o l j) := hide (fun j hj => by
            by_cases e : j = k
            · rw [e]
              rintro ⟨t, htk, _, he⟩
              rw [HZZ.out] at he
              exact hM.out t htk he
            · exact hN.out j (by omega))
          go_wp2
          go_roundw
          case rel => exact ⟨k + 1, by simp, by omega, HE, hB2⟩
          case measure => simp [intOf]; omega
    · have q1 : ¬ (i : Int) < (l.length : Int) := by omega
      have HTW := hide (tw_none (o := o) (l := l) (fun j hj => hN.out j (by obtain ⟨_, _, h, _⟩ := hj; omega) hj))
      go_wp2
      go_ret
      exact ⟨by rw [HTW.out]; rfl, hB.out⟩

end Go.Proofs.Ytfhgdecegnidcaa
