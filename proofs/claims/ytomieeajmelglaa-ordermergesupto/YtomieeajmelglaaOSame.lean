/- same: two lists of the same items -/
import Derived.Test.YtomieeajmelglaaOLend
import Derived.Test.YtomieeajmelglaaOCmp
import Derived.Laws.StructEq
namespace Go.Proofs.Ytomieeajmelglaa
open Go.RowKit Go.Shelf
set_option linter.unusedVariables false
set_option linter.unusedSimpArgs false

set_option maxRecDepth 100000 in
set_option maxHeartbeats 8000000 in
theorem osame_any {w : World} {va vb : Value} {l : List It} (ha : ItRd (fun _ => True) w va l) (hb : ItRd (fun _ => True) w vb l) :
    Calls Try.prog 12 #[va, vb] w fun e w' => e = .returned (.bool true) ∧ Below w.heap.size w w' := by
  obtain ⟨ao, ca, rfl, hac, ham, hacl⟩ := ha
  obtain ⟨bo, cb, rfl, hbc, hbm, hbcl⟩ := hb
  unfold maxLen at ham
  have RA := hide hacl
  have RB := hide hbcl
  have hlm : l.length ≤ 9223372036854775807 := by omega
  clear hacl hbcl hac hbc hbm
  go_enter Try.func12, Try.ntmps12
  go_wp2
  go_loopw [5] (fun p wr => ∃ (i : Nat), p = .int .i64 i ∧ i ≤ l.length ∧ Hid (Below w.heap.size w wr)) (fun p _ => l.length - (intOf p).toNat)
  case atStart => exact ⟨0, rfl, by omega, hide (Below.refl _ w)⟩
  case round =>
    obtain ⟨i, rfl, hi, hB⟩ := hrel
    by_cases hil : i < l.length
    · obtain ⟨ga, oa, rfl, _, hga, hin⟩ := RA.out (by omega)
      obtain ⟨gb, ob, rfl, _, hgb, hinb⟩ := RB.out (by omega)
      have q1 : (i : Int) < (l.length : Int) := by omega
      obtain ⟨⟨z1, z2⟩, hzi⟩ : ∃ z, l[i] = z := ⟨_, rfl⟩
      have qz := hin i hil
      rw [hzi] at qz
      have q1a := (hB.out.cell (p := ⟨ga, _, none⟩) hga).trans qz.1
      have q2a := (hB.out.cell (p := ⟨ga, _, none⟩) hga).trans qz.2
      have qy := hinb i hil
      rw [hzi] at qy
      have q1b := (hB.out.cell (p := ⟨gb, _, none⟩) hgb).trans qy.1
      have q2b := (hB.out.cell (p := ⟨gb, _, none⟩) hgb).trans qy.2
      clear hin hinb qz qy hzi
      go_wp2
      go_quiet (fail)
      have HB2 := hide (hB.out.trans ((obel_drewN wr nq).mono hB.out.size))
      have w2' : IntKind.i64.wrap ((i : Int) + 1) = (i : Int) + 1 := by rw [IntKind.wrap_i64]; omega
      go_wp2
      go_roundw
      case rel => exact ⟨i + 1, by simp, by omega, HB2⟩
      case measure => simp [intOf]; omega
    · go_wp2
      go_ret
      exact ⟨rfl, hB.out⟩
/-- what is lent, read -/
theorem Lent.itin {base : Nat} {w : World} {g cap : Nat} {l : List It} (h : Lent base w g cap l) : base ≤ g ∧ g < w.heap.size ∧ l.length + 4 ≤ cap ∧ cap ≤ maxLen ∧ ItIn w g 0 (l ++ mks 4) := by
  obtain ⟨h0, ⟨h1, _⟩ | ⟨g', cap', cur, h1, h2, h3, h4, h5, h6, h7⟩⟩ := h
  · cases h1
  · cases h1
    refine ⟨h2, (Array.getElem?_eq_some_iff.1 h3).1, h4, h5, fun i hi => ?_⟩
    have q := flat_get (l ++ mks 4) i hi
    rw [← h7] at q
    have hl : i < l.length + 4 := by simpa [mks_len] using hi
    rw [List.getElem?_take_of_lt (by omega), List.getElem?_take_of_lt (by omega)] at q
    rw [Nat.zero_add]
    exact ⟨by rw [cell_of_row w g (i * 2) _ _ _ h3]; simpa using q.1, by rw [cell_of_row w g (i * 2 + 1) _ _ _ h3]; simpa using q.2⟩

set_option maxRecDepth 100000 in
set_option maxHeartbeats 8000000 in
theorem left_any {w : World} {base g cap : Nat} {vl : Value} {l : List It} (hc : Lent base w g cap l) (hl : ItRd (fun _ => True) w vl l) (hm : l.length ≤ 8796093022200) :
    Calls Try.prog 13 #[.slice (some ⟨g, 0, none⟩) l.length cap, vl] w fun e w' => e = .returned (.bool true) ∧ Below w.heap.size w w' := by
  obtain ⟨_, hg, hcap, hcm, hin⟩ := hc.itin
  unfold maxLen at hcm
  have HS := hide (fun (U : World) (hb : Below w.heap.size w U) => osame_any (w := U) (l := l) (va := .slice (some ⟨g, 0, none⟩) l.length cap) (vb := vl)
    ⟨_, cap, rfl, by omega, by unfold maxLen; omega, fun _ => ⟨g, 0, rfl, trivial, Nat.lt_of_lt_of_le hg hb.size, fun i hi => by
      have q := hin i (by simp; omega)
      rw [List.getElem_append_left hi] at q
      exact ⟨(hb.cell (p := ⟨g, _, none⟩) hg).trans q.1, (hb.cell (p := ⟨g, _, none⟩) hg).trans q.2⟩⟩⟩
    (by
      obtain ⟨ao, ca, h1, h2, h3, h4⟩ := hl
      refine ⟨ao, ca, h1, h2, h3, fun hp => ?_⟩
      obtain ⟨g1, o1, h5, h6, h7, h8⟩ := h4 hp
      exact ⟨g1, o1, h5, h6, Nat.lt_of_lt_of_le h7 hb.size, fun i hi => ⟨(hb.cell (p := ⟨g1, _, none⟩) h7).trans (h8 i hi).1, (hb.cell (p := ⟨g1, _, none⟩) h7).trans (h8 i hi).2⟩⟩))
  have HIN : Hid (∀ i, i < 4 → w.cell? ⟨g, 0 + (l.length + i) * 2, none⟩ = some (.int .i64 (-77)) ∧ w.cell? ⟨g, 0 + (l.length + i) * 2 + 1, none⟩ = some (.int .i64 (-1 - (i : Int)))) := hide (fun i hi => by
    have q := hin (l.length + i) (by simp [mks_len]; omega)
    rw [List.getElem_append_right (by omega)] at q
    simpa [mks] using q)
  obtain ⟨ao, ca, rfl, -, -, -⟩ := hl
  clear hin hc
  obtain ⟨m, hm4⟩ : ∃ m, l.length + 4 = m := ⟨_, rfl⟩
  have e1 : IntKind.i64.wrap ((l.length : Int) + 4) = (m : Int) := by rw [IntKind.wrap_i64]; omega
  have e2 : (l.length : Int) + 4 = (m : Int) := by omega
  have c1 : m ≤ cap := by omega
  go_enter Try.func13, Try.ntmps13
  go_wp2
  go_loopw [6] (fun p wr => ∃ (i : Nat), p = .int .i64 i ∧ i ≤ 4 ∧ Hid (Below w.heap.size w wr)) (fun p _ => 4 - (intOf p).toNat)
  case atStart => exact ⟨0, rfl, by omega, hide (Below.refl _ w)⟩
  case round =>
    obtain ⟨i, rfl, hi, hB⟩ := hrel
    by_cases hil : i < 4
    · have q1 : (i : Int) < 4 := by omega
      obtain ⟨k, hk⟩ : ∃ k, l.length + i = k := ⟨_, rfl⟩
      have qz := HIN.out i hil
      rw [hk, Nat.zero_add] at qz
      have q1a := (hB.out.cell (p := ⟨g, _, none⟩) hg).trans qz.1
      have q2a := (hB.out.cell (p := ⟨g, _, none⟩) hg).trans qz.2
      clear qz
      have w0' : IntKind.i64.wrap ((l.length : Int) + (i : Int)) = (k : Int) := by rw [IntKind.wrap_i64]; omega
      have w0'' : (l.length : Int) + (i : Int) = (k : Int) := by omega
      have km : k < m := by omega
      have w1' : IntKind.i64.wrap (-1 - (i : Int)) = -1 - (i : Int) := by rw [IntKind.wrap_i64]; omega
      have w2' : IntKind.i64.wrap ((i : Int) + 1) = (i : Int) + 1 := by rw [IntKind.wrap_i64]; omega
      go_wp2
      go_roundw
      case rel => exact ⟨i + 1, by simp, by omega, hB⟩
      case measure => simp [intOf]; omega
    · have q1 : ¬ (i : Int) < 4 := by omega
      go_wp2_with fail
      refine (HS.out _ hB.out).mono ?_
      rintro e w5 ⟨rfl, hb⟩
      have HB5 := hide (hB.out.trans (hb.mono hB.out.size))
      clear hb
      go_wp2
      go_ret
      exact ⟨rfl, HB5.out⟩

end Go.Proofs.Ytomieeajmelglaa
