/- times, rises, shuffled: what the statements of lists ask themselves -/
import Derived.Test.YtomieeajmelglaaOSame
namespace Go.Proofs.Ytomieeajmelglaa
open Go.RowKit Go.Shelf
set_option linter.unusedVariables false
set_option linter.unusedSimpArgs false

theorem cnt_step {l : List It} {x : It} {i : Nat} (hi : i < l.length) : (l.take (i + 1)).count x = (l.take i).count x + (if l[i] = x then 1 else 0) := by
  rw [List.take_succ_eq_append_getElem hi, List.count_append]
  by_cases h : l[i] = x <;> simp [h]
set_option maxRecDepth 100000 in
set_option maxHeartbeats 8000000 in
theorem times_any {w : World} {va : Value} {l : List It} {x : It} (ha : ItRd (fun _ => True) w va l) (hl : l.length ≤ 8796093022208) :
    Calls Try.prog 41 #[va, itV x] w fun e w' => e = .returned (.int .i64 (l.count x)) ∧ Below w.heap.size w w' := by
  obtain ⟨x1, x2⟩ := x
  obtain ⟨W1, hW1⟩ : ∃ u, w.alloc (.cells #[.int .i64 x1, .int .i64 x2] 27) = u := ⟨_, rfl⟩
  have K1 : Hid (Below w.heap.size w W1) := by rw [← hW1]; exact hide ((Below.refl _ w).alloc (Nat.le_refl _) _)
  have X1 : Hid (ItRow W1 w.heap.size [(x1, x2)]) := by rw [← hW1]; exact hide (heap_alloc_new w _)
  obtain ⟨ao, ca, rfl, hac, ham, hacl⟩ := ha
  have RA := hide hacl
  clear hacl hac ham
  go_enter Try.func41, Try.ntmps41
  go_wp2
  try rw [hW1]
  have KW : Hid (∀ U, Below W1.heap.size W1 U → U.cell? ⟨w.heap.size, 0, none⟩ = some (.int .i64 x1) ∧ U.cell? ⟨w.heap.size, 1, none⟩ = some (.int .i64 x2)) := hide (fun U k => (X1.out.keep (k.block _ X1.out.lt)).cell (i := 0) (by simp))
  have HS := hide hW1
  go_loopw [5, 6] (fun q p wr => ∃ (i : Nat), q = .int .i64 ((l.take i).count (x1, x2)) ∧ p = .int .i64 i ∧ i ≤ l.length ∧ Hid (Below W1.heap.size W1 wr)) (fun _ p _ => l.length - (intOf p).toNat)
  case atStart => exact ⟨0, by simp, rfl, by omega, by first | exact hide (Below.refl _ _) | (rw [hW1]; exact hide (Below.refl _ _))⟩
  case round =>
    obtain ⟨i, rfl, rfl, hi, hB⟩ := hrel
    by_cases hil : i < l.length
    · obtain ⟨ga, oa, rfl, _, hga, hin⟩ := RA.out (by omega)
      have q1 : (i : Int) < (l.length : Int) := by omega
      obtain ⟨⟨z1, z2⟩, hzi⟩ : ∃ z, l[i] = z := ⟨_, rfl⟩
      have qz := hin i hil
      rw [hzi] at qz
      have hK := K1.out.trans (hB.out.mono K1.out.size)
      have q1a := (hK.cell (p := ⟨ga, _, none⟩) hga).trans qz.1
      have q2a := (hK.cell (p := ⟨ga, _, none⟩) hga).trans qz.2
      obtain ⟨q1b, q2b⟩ := KW.out _ hB.out
      have CS := hide (cnt_step (x := (x1, x2)) hil)
      rw [hzi] at CS
      have CL := hide (Nat.le_trans (List.count_le_length (l := l.take i) (a := (x1, x2))) (by rw [List.length_take]; omega : (l.take i).length ≤ i))
      obtain ⟨c, hc⟩ : ∃ c, (l.take i).count (x1, x2) = c := ⟨_, rfl⟩
      rw [hc] at CS CL ⊢
      have w2' : IntKind.i64.wrap ((i : Int) + 1) = (i : Int) + 1 := by rw [IntKind.wrap_i64]; omega
      have w3' : IntKind.i64.wrap ((c : Int) + 1) = (c : Int) + 1 := by have := CL.out; rw [IntKind.wrap_i64]; omega
      clear hin qz hzi hK hc
      by_cases h1 : z1 = x1
      · subst h1
        by_cases h2 : z2 = x2
        · subst h2
          go_wp2
          go_quiet (fail)
          have HB2 := hide (hB.out.trans ((obel_drewN wr nq).mono hB.out.size))
          go_wp2
          go_roundw
          case rel => exact ⟨i + 1, by rw [CS.out]; simp, by simp, by omega, HB2⟩
          case measure => simp [intOf]; omega
        · go_wp2
          go_quiet (fail)
          have HB2 := hide (hB.out.trans ((obel_drewN wr nq).mono hB.out.size))
          go_wp2
          go_roundw
          case rel => exact ⟨i + 1, by rw [CS.out]; simp [h2], by simp, by omega, HB2⟩
          case measure => simp [intOf]; omega
      · go_wp2
        go_quiet (fail)
        have HB2 := hide (hB.out.trans ((obel_drewN wr nq).mono hB.out.size))
        go_wp2
        go_roundw
        case rel => exact ⟨i + 1, by rw [CS.out]; simp [h1], by simp, by omega, HB2⟩
        case measure => simp [intOf]; omega
    · obtain rfl : i = l.length := by omega
      rw [List.take_length]
      go_wp2
      go_ret
      exact ⟨rfl, K1.out.trans (hB.out.mono K1.out.size)⟩

end Go.Proofs.Ytomieeajmelglaa
