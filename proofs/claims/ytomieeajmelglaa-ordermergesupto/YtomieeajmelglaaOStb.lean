/- rises, shuffled -/
import Derived.Test.YtomieeajmelglaaOSta
namespace Go.Proofs.Ytomieeajmelglaa
open Go.RowKit Go.Shelf
set_option linter.unusedVariables false
set_option linter.unusedSimpArgs false

set_option maxRecDepth 100000 in
set_option maxHeartbeats 8000000 in
theorem rises_any {w : World} {va : Value} {l : List It} {o : Int} (ha : ItRd (fun _ => True) w va l) (hl : l.length ≤ 8796093022208) (hr : ∀ i (h : i + 1 < l.length), ¬ ocmp o l[i + 1] l[i] < 0) :
    Calls Try.prog 21 #[va, .int .i64 o] w fun e w' => e = .returned (.bool true) ∧ Below w.heap.size w w' := by
  obtain ⟨ao, ca, rfl, hac, ham, hacl⟩ := ha
  have RA := hide hacl
  have HR := hide hr
  clear hacl hac ham hr
  go_enter Try.func21, Try.ntmps21
  go_wp2
  go_loopw [5] (fun p wr => ∃ (i : Nat), p = .int .i64 ((i : Int) + 1) ∧ (i + 1 ≤ l.length ∨ i = 0) ∧ Hid (Below w.heap.size w wr)) (fun p _ => l.length - (intOf p).toNat)
  case atStart => exact ⟨0, rfl, Or.inr rfl, hide (Below.refl _ _)⟩
  case round =>
    obtain ⟨i, rfl, hi, hB⟩ := hrel
    by_cases hil : i + 1 < l.length
    · obtain ⟨ga, oa, rfl, _, hga, hin⟩ := RA.out (by omega)
      have q1 : (i : Int) + 1 < (l.length : Int) := by omega
      have hlt : i < l.length := by omega
      have HC0 := HR.out i hil
      obtain ⟨⟨y1, y2⟩, hy⟩ : ∃ y, l[i] = y := ⟨_, rfl⟩
      obtain ⟨⟨z1, z2⟩, hz⟩ : ∃ y, l[i + 1] = y := ⟨_, rfl⟩
      have qy := hin i hlt
      have qz := hin (i + 1) hil
      rw [hy] at qy HC0
      rw [hz] at qz HC0
      have CF : Hid (∀ U, Below wr.heap.size wr U → U.cell? ⟨ga, oa + i * 2, none⟩ = some (.int .i64 y1) ∧ U.cell? ⟨ga, oa + i * 2 + 1, none⟩ = some (.int .i64 y2) ∧ U.cell? ⟨ga, oa + (i + 1) * 2, none⟩ = some (.int .i64 z1) ∧ U.cell? ⟨ga, oa + (i + 1) * 2 + 1, none⟩ = some (.int .i64 z2)) := hide (fun U k => by
        have k2 := hB.out.trans (k.mono hB.out.size)
        exact ⟨(k2.cell (p := ⟨ga, _, none⟩) hga).trans qy.1, (k2.cell (p := ⟨ga, _, none⟩) hga).trans qy.2, (k2.cell (p := ⟨ga, _, none⟩) hga).trans qz.1, (k2.cell (p := ⟨ga, _, none⟩) hga).trans qz.2⟩)
      have K : Below wr.heap.size wr wr.drew := (Below.refl _ _).drew
      have HC := hide (fun (U : World) => ocmp_any (w := U) (o := o) (a := (z1, z2)) (b := (y1, y2)))
      obtain ⟨c, hc⟩ : ∃ c, ocmp o (z1, z2) (y1, y2) = c := ⟨_, rfl⟩
      rw [hc] at HC HC0
      have d0 : decide (c < 0) = false := by simpa using HC0
      have w0 : IntKind.i64.wrap ((i : Int) + 1 - 1) = (i : Int) := by rw [IntKind.wrap_i64]; omega
      have w1 : IntKind.i64.wrap ((i : Int) + 1 + 1) = (i : Int) + 1 + 1 := by rw [IntKind.wrap_i64]; omega
      obtain ⟨j, hj⟩ : ∃ j, i + 1 = j := ⟨_, rfl⟩
      have hjc : (i : Int) + 1 = (j : Int) := by omega
      rw [hj] at CF hil
      rw [hjc] at w0 w1 q1 ⊢
      clear hin qy qz hc hy hz HC0 hi
      go_wp2
      first | go_region_held3 (fun u => u.cell? ⟨ga, oa + i * 2, none⟩ = some (.int .i64 y1) ∧ u.cell? ⟨ga, oa + i * 2 + 1, none⟩ = some (.int .i64 y2) ∧ u.cell? ⟨ga, oa + j * 2, none⟩ = some (.int .i64 z1) ∧ u.cell? ⟨ga, oa + j * 2 + 1, none⟩ = some (.int .i64 z2))
        (first | with_reducible exact CF.out _ K | go_keep)
        (first | (go_at_call 23; (with_reducible refine (HC.out _).mono ?_); rintro e w9 ⟨rfl, hb⟩; replace K := K.trans (hb.mono K.size); clear hb)) | fail "region"
      have HB9 := hide (hB.out.trans (K.mono hB.out.size))
      clear K
      go_wp2
      go_roundw
      case rel => exact ⟨j, by first | rfl | simp, by omega, HB9⟩
      case measure => simp [intOf]; omega
    · have q1 : ¬ (i : Int) + 1 < (l.length : Int) := by omega
      go_wp2
      go_ret
      exact ⟨rfl, hB.out⟩
set_option maxRecDepth 100000 in
set_option maxHeartbeats 8000000 in
theorem shuffled_any {w : World} {va vb : Value} {l m : List It} (ha : ItRd (fun _ => True) w va l) (hb : ItRd (fun _ => True) w vb m) (hl : l.length ≤ 8796093022208) (hp : l.Perm m) :
    Calls Try.prog 22 #[va, vb] w fun e w' => e = .returned (.bool true) ∧ Below w.heap.size w w' := by
  have HA := hide ha
  have HB := hide hb
  obtain ⟨ao, ca, rfl, hac, ham, hacl⟩ := ha
  obtain ⟨bo, cb, rfl, hbc, hbm, hbcl⟩ := hb
  have RA := hide hacl
  have hlm : m.length = l.length := hp.length_eq.symm
  have HP := hide hp
  clear hacl hac ham hbcl hbc hbm hp
  go_enter Try.func22, Try.ntmps22
  rw [hlm]
  go_wp2
  go_loopw [5] (fun p wr => ∃ (i : Nat), p = .int .i64 i ∧ i ≤ l.length ∧ Hid (Below w.heap.size w wr)) (fun p _ => l.length - (intOf p).toNat)
  case atStart => exact ⟨0, rfl, by omega, hide (Below.refl _ _)⟩
  case round =>
    obtain ⟨i, rfl, hi, hB⟩ := hrel
    by_cases hil : i < l.length
    · obtain ⟨ga, oa, rfl, _, hga, hin⟩ := RA.out (by omega)
      have q1 : (i : Int) < (l.length : Int) := by omega
      obtain ⟨⟨y1, y2⟩, hy⟩ : ∃ y, l[i] = y := ⟨_, rfl⟩
      have qy := hin i hil
      rw [hy] at qy
      have CF : Hid (∀ U, Below wr.heap.size wr U → U.cell? ⟨ga, oa + i * 2, none⟩ = some (.int .i64 y1) ∧ U.cell? ⟨ga, oa + i * 2 + 1, none⟩ = some (.int .i64 y2)) := hide (fun U k => by
        have k2 := hB.out.trans (k.mono hB.out.size)
        exact ⟨(k2.cell (p := ⟨ga, _, none⟩) hga).trans qy.1, (k2.cell (p := ⟨ga, _, none⟩) hga).trans qy.2⟩)
      have K : Below wr.heap.size wr wr.drew := (Below.refl _ _).drew
      have HT1 := hide (fun (U : World) (k : Below wr.heap.size wr U) => times_any (w := U) (x := (y1, y2)) (HA.out.below (hB.out.trans (k.mono hB.out.size))) hl)
      have HT2 := hide (fun (U : World) (k : Below wr.heap.size wr U) => times_any (w := U) (x := (y1, y2)) (HB.out.below (hB.out.trans (k.mono hB.out.size))) (by omega))
      rw [← HP.out.count_eq (y1, y2)] at HT2
      rw [hlm] at HT2
      obtain ⟨c, hc⟩ : ∃ c, l.count (y1, y2) = c := ⟨_, rfl⟩
      rw [hc] at HT1 HT2
      have w1 : IntKind.i64.wrap ((i : Int) + 1) = (i : Int) + 1 := by rw [IntKind.wrap_i64]; omega
      clear hin qy hc hy
      go_wp2
      first | go_region_held3 (fun u => u.cell? ⟨ga, oa + i * 2, none⟩ = some (.int .i64 y1) ∧ u.cell? ⟨ga, oa + i * 2 + 1, none⟩ = some (.int .i64 y2))
        (first | with_reducible exact CF.out _ K | go_keep)
        (first | (go_at_call 41; (first | (with_reducible refine (HT1.out _ K).mono ?_) | (with_reducible refine (HT2.out _ K).mono ?_)); rintro e w9 ⟨rfl, hb⟩; replace K := K.trans (hb.mono K.size); clear hb)) | fail "region"
      have HB9 := hide (hB.out.trans (K.mono hB.out.size))
      clear K
      go_wp2
      go_roundw
      case rel => exact ⟨i + 1, by simp, by omega, HB9⟩
      case measure => simp [intOf]; omega
    · go_wp2
      go_ret
      exact ⟨rfl, hB.out⟩

end Go.Proofs.Ytomieeajmelglaa
