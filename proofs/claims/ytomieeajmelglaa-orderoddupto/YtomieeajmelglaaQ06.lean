/- OLend, OSame, OSta, OStb, OStc, OMrgC, OSeqP, OSeqO, ORep, OUnM, OUnq, OUnW -/
import Derived.Test.YtomieeajmelglaaQ04
import Derived.Laws.AppendOwnNone
import Derived.Laws.StructEq
import Derived.OwnWalkIn
import Derived.Test.YtomieeajmelglaaQ03
import Derived.RangeFuncNested
import Derived.RangeFuncBound
import Derived.RangeFuncCalls
import Derived.RangeFuncLeaves
import Derived.RangeFuncBox
namespace Go.Proofs.Ytomieeajmelglaa
open Go.RowKit Go.Shelf
set_option linter.unusedVariables false
set_option linter.unusedSimpArgs false

def mks (i : Nat) : List It := (List.range i).map fun (k : Nat) => ((-77, -1 - (k : Int)) : It)
theorem mks_len (i : Nat) : (mks i).length = i := by simp [mks]
theorem mks_succ (i : Nat) : mks (i + 1) = mks i ++ [(-77, -1 - (i : Int))] := by simp [mks, List.range_succ]
/-- a list that is lent: its row, with the marks -/
def Lent (base : Nat) (w : World) (g cap : Nat) (l : List It) : Prop := w.ownsRow base 27 2 (.slice (some ⟨g, 0, none⟩) (l.length + 4) cap) (l.length + 4) (flat (l ++ mks 4))
theorem mk_room2 {n : Nat} (hn : n ≤ 8796093022300) (w : World) : (Instr.makeSlice 22 (.int .i64 0) (.int .i64 (n : Int))).run Try.prog w = .ok (.slice (some ⟨w.heap.size, 0, none⟩) 0 n) (w.alloc (.cells (flat (List.replicate n ((0, 0) : It))).toArray 27)) := by
  obtain ⟨i0, hi, hz0, hz1, hz2⟩ := info_parts itinfoM
  have := run_make (P := Try.prog) w 22 27 i0 _ Try.underlying22 hi hz0 .i64 .i64 0 n (by omega) (by omega) (by rw [hz2]; omega) (by omega)
  rw [this, hz1]
  simp only [Int.toNat_natCast, Int.toNat_zero]
  rw [show (Value.agg #[Value.int .i64 0, Value.int .i64 0]).cells = #[Value.int .i64 0, Value.int .i64 0] from rfl, made_items]
theorem news_items {w : World} {g o : Nat} {xs : List It} (h : ItIn w g o xs) : ∀ j u, (flat xs)[j]? = some u → w.cell? ((⟨g, o, none⟩ : Addr).add j) = some u := by
  intro j v hj
  have hjl : j < (flat xs).length := (List.getElem?_eq_some_iff.1 hj).1
  rw [flat_len] at hjl
  have q := h (j / 2) (by omega)
  have fg := flat_get xs (j / 2) (by omega)
  rw [Addr.add_lit]
  rcases (show j % 2 = 0 ∨ j % 2 = 1 by omega) with e | e
  · have ej : j = j / 2 * 2 := by omega
    rw [ej, fg.1] at hj
    rw [ej, ← hj]
    exact q.1
  · have ej : j = j / 2 * 2 + 1 := by omega
    rw [ej, fg.2] at hj
    rw [ej, ← hj, ← Nat.add_assoc]
    exact q.2

/-- a new list of one item -/
theorem one_rd (w : World) (a b : Int) : ItRd (fun _ => True) (w.alloc (.cells #[.int .i64 a, .int .i64 b] 27)) (.slice (some ⟨w.heap.size, 0, none⟩) 1 1) [(a, b)] := by
  refine ⟨_, 1, rfl, by simp, by unfold maxLen; omega, fun _ => ⟨_, _, rfl, trivial, by simp, fun i hi => ?_⟩⟩
  have hi0 : i = 0 := by simp at hi; omega
  subst hi0
  exact ItRow.cell (show ItRow _ w.heap.size [(a, b)] from heap_alloc_new w _) (i := 0) (by simp)
theorem wpList_append_items {w : World} {ops : Array Oper} {rest : List Oper} {o : Oper} {a : Act} {Q : Exit → Act → World → Prop} (hgd : o.guard = none) (s x : Operand)
    (ho : o.op = .call { callee := .builtin .append, args := #[s, x], argTypes := #[22, 22] })
    (base : Nat) (v : Value) (n : Nat) (xs : List Value) (hs : a.eval s = v) (hown : w.ownsRow base 27 2 v n xs)
    (va : Value) (l : List It) (hx : a.eval x = va) (hrd : ItRd (fun _ => True) w va l) (hno : ∀ c, va = .slice none 0 c → c = 0)
    (h63 : n + l.length ≤ maxLen) (hby : (n + l.length) * 16 ≤ 140737488355328) (hbase : base ≤ w.heap.size)
    (h : ∀ v' w', w'.ownsRow base 27 2 v' (n + l.length) (xs ++ flat l) → Below base w w' → wpList Try.prog ops Q rest (a.put o.dst v') w') : wpList Try.prog ops Q (o :: rest) a w := by
  obtain ⟨i0, hi0, hz0, hz1, hz2⟩ := info_parts itinfoM
  obtain ⟨ao, ca, rfl, hac, ham, hcl⟩ := hrd
  have hr : ∀ k, v.ownBlock = some k → base ≤ k := by
    intro k hk
    rcases hown.2 with ⟨rfl, _⟩ | ⟨g, cap, cur, rfl, hg, _⟩
    · cases hk
    · cases hk; exact hg
  rcases ao with _ | ad
  · have e : l.length = 0 := by
      rcases Nat.eq_zero_or_pos l.length with e | e
      · exact e
      · obtain ⟨g, o', he, _⟩ := hcl e
        cases he
    have e2 : l = [] := List.eq_nil_of_length_eq_zero e
    subst e2
    have e3 : ca = 0 := hno ca rfl
    subst e3
    exact wpList_append_own_none hgd s x _ ho base 27 i0 2 Try.underlying22 hi0 v n xs hs hown hx (h v w (by simpa [flat] using hown) (Below.refl _ w))
  · refine wpList_append_own w hgd s x _ ho base 27 i0 _ 2 16 Try.underlying22 hi0 hz0 hz1 hz2 rfl (by decide) v n xs hs hown ad l.length ca (flat l) hx (flat_len l) ?_ (flat_one l) h63 hby hbase fun v' w' h2 h3 _ => h v' w' h2 ((Below.refl _ w).grown h3 hbase hr)
    by_cases e : l.length = 0
    · have e2 := List.eq_nil_of_length_eq_zero e
      subst e2
      intro j u hu
      simp [flat] at hu
    · obtain ⟨g, o', he, _, hg, hin⟩ := hcl (by omega)
      cases he
      exact news_items hin

set_option maxRecDepth 100000 in
set_option maxHeartbeats 8000000 in
theorem lend_any {w : World} {va : Value} {l : List It} (ha : ItRd (fun _ => True) w va l) (hno : ∀ c, va = .slice none 0 c → c = 0) (hl : l.length ≤ 8796093022200) :
    Calls Try.prog 7 #[va] w fun e w' => (∃ g cap, e = .returned (.slice (some ⟨g, 0, none⟩) l.length cap) ∧ Lent w.heap.size w' g cap l) ∧ Below w.heap.size w w' := by
  obtain ⟨m, hm⟩ : ∃ m, l.length + 4 = m := ⟨_, rfl⟩
  have mk := mk_room2 (n := m) (by omega)
  have e1 : IntKind.i64.wrap ((l.length : Int) + 4) = (m : Int) := by rw [IntKind.wrap_i64]; omega
  have e2 : (l.length : Int) + 4 = (m : Int) := by omega
  have HM := hide hm
  clear hm
  have H63 := hide (show l.length + 4 ≤ maxLen ∧ (l.length + 4) * 16 ≤ 140737488355328 from ⟨by unfold maxLen; omega, by omega⟩)
  obtain ⟨W0, hW0⟩ : ∃ u, w.alloc (.cells (flat (List.replicate m ((0, 0) : It))).toArray 27) = u := ⟨_, rfl⟩
  have K0 : Hid (Below w.heap.size w W0) := by rw [← hW0]; exact hide ((Below.refl _ w).alloc (Nat.le_refl _) _)
  have O0 : Hid (W0.ownsRow w.heap.size 27 2 (.slice (some ⟨w.heap.size, 0, none⟩) 0 m) 0 []) := by
    have := HM.out
    rw [← hW0]
    exact hide (World.ownsRow_made w _ m (Nat.le_refl _) (by unfold maxLen; omega) (by simp [flat_len]))
  have S0 : Hid (w.heap.size ≤ W0.heap.size) := hide K0.out.size
  have RD := hide ha
  have NO := hide hno
  have R0 : Hid (ItRd (fun _ => True) W0 va l) := by
    obtain ⟨ao, ca, h1, h2, h3, h4⟩ := ha
    refine hide ⟨ao, ca, h1, h2, h3, fun hp => ?_⟩
    obtain ⟨g, o, h5, h6, h7, h8⟩ := h4 hp
    exact ⟨g, o, h5, h6, Nat.lt_of_lt_of_le h7 K0.out.size, fun i hi => ⟨(K0.out.cell (p := ⟨g, _, none⟩) h7).trans (h8 i hi).1, (K0.out.cell (p := ⟨g, _, none⟩) h7).trans (h8 i hi).2⟩⟩
  obtain ⟨ao, ca, hva, -, -, -⟩ := ha
  subst hva
  clear hno
  go_enter Try.func7, Try.ntmps7
  go_wp2_with (at_builtin; refine wpList_append_items rfl _ _ rfl w.heap.size _ 0 _ rfl O0.out _ l rfl R0.out NO.out (by have := H63.out; omega) (by have := H63.out; omega) S0.out ?_)
  intro v1 w1 own1 bel1
  have O1 := hide own1
  have B1 := hide (K0.out.trans bel1)
  clear own1 bel1
  go_wp2
  go_loopw [3, 4] (fun v p wr => ∃ (i : Nat), p = .int .i64 i ∧ i ≤ 4 ∧ Hid (wr.ownsRow w.heap.size 27 2 v (l.length + i) (flat (l ++ mks i))) ∧ Hid (Below w.heap.size w wr)) (fun _ p _ => 4 - (intOf p).toNat)
  case atStart => exact ⟨0, rfl, by omega, hide (by have := O1.out; simpa [mks] using this), B1⟩
  case round =>
    obtain ⟨i, rfl, hi, hO, hB⟩ := hrel
    by_cases hil : i < 4
    · have q1 : (i : Int) < 4 := by omega
      have w1' : IntKind.i64.wrap (-1 - (i : Int)) = -1 - (i : Int) := by rw [IntKind.wrap_i64]; omega
      have w2' : IntKind.i64.wrap ((i : Int) + 1) = (i : Int) + 1 := by rw [IntKind.wrap_i64]; omega
      have SZ := hide hB.out.size
      have RN := hide (fun (W : World) => one_rd W (-77) (-1 - (i : Int)))
      go_wp2_with (at_builtin; refine wpList_append_items rfl _ _ rfl w.heap.size _ (l.length + i) _ rfl (hO.out.alloc _) _ [(-77, -1 - (i : Int))] rfl (RN.out _) (by intro c h; cases h) (by have := H63.out; simp; omega) (by have := H63.out; simp; omega) (by have := SZ.out; simp; omega) ?_)
      intro v2 w2 own2 bel2
      have HO2 := hide own2
      have HB2 := hide ((hB.out.alloc SZ.out _).trans bel2)
      clear own2 bel2
      go_wp2
      refine ⟨⟨i + 1, by simp, by omega, hide ?_, HB2⟩, by simp [intOf]; omega⟩
      have e3 : l ++ mks (i + 1) = (l ++ mks i) ++ [(-77, -1 - (i : Int))] := by rw [mks_succ, List.append_assoc]
      rw [e3, flat_append]
      exact HO2.out
    · have hi4 : i = 4 := by omega
      subst hi4
      have hO2 := hO.out
      obtain ⟨_, ⟨rfl, h0⟩ | ⟨g, cap, cur, rfl, hr⟩⟩ := hO2
      · omega
      · have c1 : l.length ≤ cap := by omega
        have c2 : cap ≤ maxLen := hr.2.2.2.1
        unfold maxLen at c2
        clear hr
        go_wp2
        go_ret
        exact ⟨⟨g, cap, rfl, hO.out⟩, hB.out⟩

end Go.Proofs.Ytomieeajmelglaa

namespace Go.Proofs.Ytomieeajmelglaa
open Go.RowKit Go.Shelf
set_option linter.unusedVariables false
set_option linter.unusedSimpArgs false

set_option maxRecDepth 100000 in
set_option maxHeartbeats 8000000 in
theorem osame_any {w : World} {va vb : Value} {l : List It} (ha : ItRd (fun _ => True) w va l) (hb : ItRd (fun _ => True) w vb l) :
    Calls Try.prog 12 #[va, vb] w fun e w' => e = .returned (.bool true) ∧ Below w.heap.size w w' := by
  obtain ⟨ao, ca, rfl, hac, ham, hacl⟩ := ha
  obtain ⟨bo, cb, rfl, hbc, hbm, hbcl⟩ := hb
  unfold maxLen at ham
  have RA := hide hacl
  have RB := hide hbcl
  have hlm : l.length ≤ 9223372036854775807 := by omega
  clear hacl hbcl hac hbc hbm
  go_enter Try.func12, Try.ntmps12
  go_wp2
  go_loopw [5] (fun p wr => ∃ (i : Nat), p = .int .i64 i ∧ i ≤ l.length ∧ Hid (Below w.heap.size w wr)) (fun p _ => l.length - (intOf p).toNat)
  case atStart => exact ⟨0, rfl, by omega, hide (Below.refl _ w)⟩
  case round =>
    obtain ⟨i, rfl, hi, hB⟩ := hrel
    by_cases hil : i < l.length
    · obtain ⟨ga, oa, rfl, _, hga, hin⟩ := RA.out (by omega)
      obtain ⟨gb, ob, rfl, _, hgb, hinb⟩ := RB.out (by omega)
      have q1 : (i : Int) < (l.length : Int) := by omega
      obtain ⟨⟨z1, z2⟩, hzi⟩ : ∃ z, l[i] = z := ⟨_, rfl⟩
      have qz := hin i hil
      rw [hzi] at qz
      have q1a := (hB.out.cell (p := ⟨ga, _, none⟩) hga).trans qz.1
      have q2a := (hB.out.cell (p := ⟨ga, _, none⟩) hga).trans qz.2
      have qy := hinb i hil
      rw [hzi] at qy
      have q1b := (hB.out.cell (p := ⟨gb, _, none⟩) hgb).trans qy.1
      have q2b := (hB.out.cell (p := ⟨gb, _, none⟩) hgb).trans qy.2
      clear hin hinb qz qy hzi
      go_wp2
      go_quiet (fail)
      have HB2 := hide (hB.out.trans ((obel_drewN wr nq).mono hB.out.size))
      have w2' : IntKind.i64.wrap ((i : Int) + 1) = (i : Int) + 1 := by rw [IntKind.wrap_i64]; omega
      go_wp2
      go_roundw
      case rel => exact ⟨i + 1, by simp, by omega, HB2⟩
      case measure => simp [intOf]; omega
    · go_wp2
      go_ret
      exact ⟨rfl, hB.out⟩
/-- what is lent, read -/
theorem Lent.itin {base : Nat} {w : World} {g cap : Nat} {l : List It} (h : Lent base w g cap l) : base ≤ g ∧ g < w.heap.size ∧ l.length + 4 ≤ cap ∧ cap ≤ maxLen ∧ ItIn w g 0 (l ++ mks 4) := by
  obtain ⟨h0, ⟨h1, _⟩ | ⟨g', cap', cur, h1, h2, h3, h4, h5, h6, h7⟩⟩ := h
  · cases h1
  · cases h1
    refine ⟨h2, (Array.getElem?_eq_some_iff.1 h3).1, h4, h5, fun i hi => ?_⟩
    have q := flat_get (l ++ mks 4) i hi
    rw [← h7] at q
    have hl : i < l.length + 4 := by simpa [mks_len] using hi
    rw [List.getElem?_take_of_lt (by omega), List.getElem?_take_of_lt (by omega)] at q
    rw [Nat.zero_add]
    exact ⟨by rw [cell_of_row w g (i * 2) _ _ _ h3]; simpa using q.1, by rw [cell_of_row w g (i * 2 + 1) _ _ _ h3]; simpa using q.2⟩

set_option maxRecDepth 100000 in
set_option maxHeartbeats 8000000 in
theorem left_any {w : World} {base g cap : Nat} {vl : Value} {l : List It} (hc : Lent base w g cap l) (hl : ItRd (fun _ => True) w vl l) (hm : l.length ≤ 8796093022200) :
    Calls Try.prog 13 #[.slice (some ⟨g, 0, none⟩) l.length cap, vl] w fun e w' => e = .returned (.bool true) ∧ Below w.heap.size w w' := by
  obtain ⟨_, hg, hcap, hcm, hin⟩ := hc.itin
  unfold maxLen at hcm
  have HS := hide (fun (U : World) (hb : Below w.heap.size w U) => osame_any (w := U) (l := l) (va := .slice (some ⟨g, 0, none⟩) l.length cap) (vb := vl)
    ⟨_, cap, rfl, by omega, by unfold maxLen; omega, fun _ => ⟨g, 0, rfl, trivial, Nat.lt_of_lt_of_le hg hb.size, fun i hi => by
      have q := hin i (by simp; omega)
      rw [List.getElem_append_left hi] at q
      exact ⟨(hb.cell (p := ⟨g, _, none⟩) hg).trans q.1, (hb.cell (p := ⟨g, _, none⟩) hg).trans q.2⟩⟩⟩
    (by
      obtain ⟨ao, ca, h1, h2, h3, h4⟩ := hl
      refine ⟨ao, ca, h1, h2, h3, fun hp => ?_⟩
      obtain ⟨g1, o1, h5, h6, h7, h8⟩ := h4 hp
      exact ⟨g1, o1, h5, h6, Nat.lt_of_lt_of_le h7 hb.size, fun i hi => ⟨(hb.cell (p := ⟨g1, _, none⟩) h7).trans (h8 i hi).1, (hb.cell (p := ⟨g1, _, none⟩) h7).trans (h8 i hi).2⟩⟩))
  have HIN : Hid (∀ i, i < 4 → w.cell? ⟨g, 0 + (l.length + i) * 2, none⟩ = some (.int .i64 (-77)) ∧ w.cell? ⟨g, 0 + (l.length + i) * 2 + 1, none⟩ = some (.int .i64 (-1 - (i : Int)))) := hide (fun i hi => by
    have q := hin (l.length + i) (by simp [mks_len]; omega)
    rw [List.getElem_append_right (by omega)] at q
    simpa [mks] using q)
  obtain ⟨ao, ca, rfl, -, -, -⟩ := hl
  clear hin hc
  obtain ⟨m, hm4⟩ : ∃ m, l.length + 4 = m := ⟨_, rfl⟩
  have e1 : IntKind.i64.wrap ((l.length : Int) + 4) = (m : Int) := by rw [IntKind.wrap_i64]; omega
  have e2 : (l.length : Int) + 4 = (m : Int) := by omega
  have c1 : m ≤ cap := by omega
  go_enter Try.func13, Try.ntmps13
  go_wp2
  go_loopw [6] (fun p wr => ∃ (i : Nat), p = .int .i64 i ∧ i ≤ 4 ∧ Hid (Below w.heap.size w wr)) (fun p _ => 4 - (intOf p).toNat)
  case atStart => exact ⟨0, rfl, by omega, hide (Below.refl _ w)⟩
  case round =>
    obtain ⟨i, rfl, hi, hB⟩ := hrel
    by_cases hil : i < 4
    · have q1 : (i : Int) < 4 := by omega
      obtain ⟨k, hk⟩ : ∃ k, l.length + i = k := ⟨_, rfl⟩
      have qz := HIN.out i hil
      rw [hk, Nat.zero_add] at qz
      have q1a := (hB.out.cell (p := ⟨g, _, none⟩) hg).trans qz.1
      have q2a := (hB.out.cell (p := ⟨g, _, none⟩) hg).trans qz.2
      clear qz
      have w0' : IntKind.i64.wrap ((l.length : Int) + (i : Int)) = (k : Int) := by rw [IntKind.wrap_i64]; omega
      have w0'' : (l.length : Int) + (i : Int) = (k : Int) := by omega
      have km : k < m := by omega
      have w1' : IntKind.i64.wrap (-1 - (i : Int)) = -1 - (i : Int) := by rw [IntKind.wrap_i64]; omega
      have w2' : IntKind.i64.wrap ((i : Int) + 1) = (i : Int) + 1 := by rw [IntKind.wrap_i64]; omega
      go_wp2
      go_roundw
      case rel => exact ⟨i + 1, by simp, by omega, hB⟩
      case measure => simp [intOf]; omega
    · have q1 : ¬ (i : Int) < 4 := by omega
      go_wp2_with fail
      refine (HS.out _ hB.out).mono ?_
      rintro e w5 ⟨rfl, hb⟩
      have HB5 := hide (hB.out.trans (hb.mono hB.out.size))
      clear hb
      go_wp2
      go_ret
      exact ⟨rfl, HB5.out⟩

end Go.Proofs.Ytomieeajmelglaa

namespace Go.Proofs.Ytomieeajmelglaa
open Go.RowKit Go.Shelf
set_option linter.unusedVariables false
set_option linter.unusedSimpArgs false

theorem cnt_step {l : List It} {x : It} {i : Nat} (hi : i < l.length) : (l.take (i + 1)).count x = (l.take i).count x + (if l[i] = x then 1 else 0) := by
  rw [List.take_succ_eq_append_getElem hi, List.count_append]
  by_cases h : l[i] = x <;> simp [h]
set_option maxRecDepth 100000 in
set_option maxHeartbeats 8000000 in
theorem times_any {w : World} {va : Value} {l : List It} {x : It} (ha : ItRd (fun _ => True) w va l) (hl : l.length ≤ 8796093022208) :
    Calls Try.prog 41 #[va, itV x] w fun e w' => e = .returned (.int .i64 (l.count x)) ∧ Below w.heap.size w w' := by
  obtain ⟨x1, x2⟩ := x
  obtain ⟨W1, hW1⟩ : ∃ u, w.alloc (.cells #[.int .i64 x1, .int .i64 x2] 27) = u := ⟨_, rfl⟩
  have K1 : Hid (Below w.heap.size w W1) := by rw [← hW1]; exact hide ((Below.refl _ w).alloc (Nat.le_refl _) _)
  have X1 : Hid (ItRow W1 w.heap.size [(x1, x2)]) := by rw [← hW1]; exact hide (heap_alloc_new w _)
  obtain ⟨ao, ca, rfl, hac, ham, hacl⟩ := ha
  have RA := hide hacl
  clear hacl hac ham
  go_enter Try.func41, Try.ntmps41
  go_wp2
  try rw [hW1]
  have KW : Hid (∀ U, Below W1.heap.size W1 U → U.cell? ⟨w.heap.size, 0, none⟩ = some (.int .i64 x1) ∧ U.cell? ⟨w.heap.size, 1, none⟩ = some (.int .i64 x2)) := hide (fun U k => (X1.out.keep (k.block _ X1.out.lt)).cell (i := 0) (by simp))
  have HS := hide hW1
  go_loopw [5, 6] (fun q p wr => ∃ (i : Nat), q = .int .i64 ((l.take i).count (x1, x2)) ∧ p = .int .i64 i ∧ i ≤ l.length ∧ Hid (Below W1.heap.size W1 wr)) (fun _ p _ => l.length - (intOf p).toNat)
  case atStart => exact ⟨0, by simp, rfl, by omega, by first | exact hide (Below.refl _ _) | (rw [hW1]; exact hide (Below.refl _ _))⟩
  case round =>
    obtain ⟨i, rfl, rfl, hi, hB⟩ := hrel
    by_cases hil : i < l.length
    · obtain ⟨ga, oa, rfl, _, hga, hin⟩ := RA.out (by omega)
      have q1 : (i : Int) < (l.length : Int) := by omega
      obtain ⟨⟨z1, z2⟩, hzi⟩ : ∃ z, l[i] = z := ⟨_, rfl⟩
      have qz := hin i hil
      rw [hzi] at qz
      have hK := K1.out.trans (hB.out.mono K1.out.size)
      have q1a := (hK.cell (p := ⟨ga, _, none⟩) hga).trans qz.1
      have q2a := (hK.cell (p := ⟨ga, _, none⟩) hga).trans qz.2
      obtain ⟨q1b, q2b⟩ := KW.out _ hB.out
      have CS := hide (cnt_step (x := (x1, x2)) hil)
      rw [hzi] at CS
      have CL := hide (Nat.le_trans (List.count_le_length (l := l.take i) (a := (x1, x2))) (by rw [List.length_take]; omega : (l.take i).length ≤ i))
      obtain ⟨c, hc⟩ : ∃ c, (l.take i).count (x1, x2) = c := ⟨_, rfl⟩
      rw [hc] at CS CL ⊢
      have w2' : IntKind.i64.wrap ((i : Int) + 1) = (i : Int) + 1 := by rw [IntKind.wrap_i64]; omega
      have w3' : IntKind.i64.wrap ((c : Int) + 1) = (c : Int) + 1 := by have := CL.out; rw [IntKind.wrap_i64]; omega
      clear hin qz hzi hK hc
      by_cases h1 : z1 = x1
      · subst h1
        by_cases h2 : z2 = x2
        · subst h2
          go_wp2
          go_quiet (fail)
          have HB2 := hide (hB.out.trans ((obel_drewN wr nq).mono hB.out.size))
          go_wp2
          go_roundw
          case rel => exact ⟨i + 1, by rw [CS.out]; simp, by simp, by omega, HB2⟩
          case measure => simp [intOf]; omega
        · go_wp2
          go_quiet (fail)
          have HB2 := hide (hB.out.trans ((obel_drewN wr nq).mono hB.out.size))
          go_wp2
          go_roundw
          case rel => exact ⟨i + 1, by rw [CS.out]; simp [h2], by simp, by omega, HB2⟩
          case measure => simp [intOf]; omega
      · go_wp2
        go_quiet (fail)
        have HB2 := hide (hB.out.trans ((obel_drewN wr nq).mono hB.out.size))
        go_wp2
        go_roundw
        case rel => exact ⟨i + 1, by rw [CS.out]; simp [h1], by simp, by omega, HB2⟩
        case measure => simp [intOf]; omega
    · obtain rfl : i = l.length := by omega
      rw [List.take_length]
      go_wp2
      go_ret
      exact ⟨rfl, K1.out.trans (hB.out.mono K1.out.size)⟩

end Go.Proofs.Ytomieeajmelglaa

namespace Go.Proofs.Ytomieeajmelglaa
open Go.RowKit Go.Shelf
set_option linter.unusedVariables false
set_option linter.unusedSimpArgs false

set_option maxRecDepth 100000 in
set_option maxHeartbeats 8000000 in
theorem rises_any {w : World} {va : Value} {l : List It} {o : Int} (ha : ItRd (fun _ => True) w va l) (hl : l.length ≤ 8796093022208) (hr : ∀ i (h : i + 1 < l.length), ¬ ocmp o l[i + 1] l[i] < 0) :
    Calls Try.prog 21 #[va, .int .i64 o] w fun e w' => e = .returned (.bool true) ∧ Below w.heap.size w w' := by
  obtain ⟨ao, ca, rfl, hac, ham, hacl⟩ := ha
  have RA := hide hacl
  have HR := hide hr
  clear hacl hac ham hr
  go_enter Try.func21, Try.ntmps21
  go_wp2
  go_loopw [5] (fun p wr => ∃ (i : Nat), p = .int .i64 ((i : Int) + 1) ∧ (i + 1 ≤ l.length ∨ i = 0) ∧ Hid (Below w.heap.size w wr)) (fun p _ => l.length - (intOf p).toNat)
  case atStart => exact ⟨0, rfl, Or.inr rfl, hide (Below.refl _ _)⟩
  case round =>
    obtain ⟨i, rfl, hi, hB⟩ := hrel
    by_cases hil : i + 1 < l.length
    · obtain ⟨ga, oa, rfl, _, hga, hin⟩ := RA.out (by omega)
      have q1 : (i : Int) + 1 < (l.length : Int) := by omega
      have hlt : i < l.length := by omega
      have HC0 := HR.out i hil
      obtain ⟨⟨y1, y2⟩, hy⟩ : ∃ y, l[i] = y := ⟨_, rfl⟩
      obtain ⟨⟨z1, z2⟩, hz⟩ : ∃ y, l[i + 1] = y := ⟨_, rfl⟩
      have qy := hin i hlt
      have qz := hin (i + 1) hil
      rw [hy] at qy HC0
      rw [hz] at qz HC0
      have CF : Hid (∀ U, Below wr.heap.size wr U → U.cell? ⟨ga, oa + i * 2, none⟩ = some (.int .i64 y1) ∧ U.cell? ⟨ga, oa + i * 2 + 1, none⟩ = some (.int .i64 y2) ∧ U.cell? ⟨ga, oa + (i + 1) * 2, none⟩ = some (.int .i64 z1) ∧ U.cell? ⟨ga, oa + (i + 1) * 2 + 1, none⟩ = some (.int .i64 z2)) := hide (fun U k => by
        have k2 := hB.out.trans (k.mono hB.out.size)
        exact ⟨(k2.cell (p := ⟨ga, _, none⟩) hga).trans qy.1, (k2.cell (p := ⟨ga, _, none⟩) hga).trans qy.2, (k2.cell (p := ⟨ga, _, none⟩) hga).trans qz.1, (k2.cell (p := ⟨ga, _, none⟩) hga).trans qz.2⟩)
      have K : Below wr.heap.size wr wr.drew := (Below.refl _ _).drew
      have HC := hide (fun (U : World) => ocmp_any (w := U) (o := o) (a := (z1, z2)) (b := (y1, y2)))
      obtain ⟨c, hc⟩ : ∃ c, ocmp o (z1, z2) (y1, y2) = c := ⟨_, rfl⟩
      rw [hc] at HC HC0
      have d0 : decide (c < 0) = false := by simpa using HC0
      have w0 : IntKind.i64.wrap ((i : Int) + 1 - 1) = (i : Int) := by rw [IntKind.wrap_i64]; omega
      have w1 : IntKind.i64.wrap ((i : Int) + 1 + 1) = (i : Int) + 1 + 1 := by rw [IntKind.wrap_i64]; omega
      obtain ⟨j, hj⟩ : ∃ j, i + 1 = j := ⟨_, rfl⟩
      have hjc : (i : Int) + 1 = (j : Int) := by omega
      rw [hj] at CF hil
      rw [hjc] at w0 w1 q1 ⊢
      clear hin qy qz hc hy hz HC0 hi
      go_wp2
      first | go_region_held3 (fun u => u.cell? ⟨ga, oa + i * 2, none⟩ = some (.int .i64 y1) ∧ u.cell? ⟨ga, oa + i * 2 + 1, none⟩ = some (.int .i64 y2) ∧ u.cell? ⟨ga, oa + j * 2, none⟩ = some (.int .i64 z1) ∧ u.cell? ⟨ga, oa + j * 2 + 1, none⟩ = some (.int .i64 z2))
        (first | with_reducible exact CF.out _ K | go_keep)
        (first | (go_at_call 23; (with_reducible refine (HC.out _).mono ?_); rintro e w9 ⟨rfl, hb⟩; replace K := K.trans (hb.mono K.size); clear hb)) | fail "region"
      have HB9 := hide (hB.out.trans (K.mono hB.out.size))
      clear K
      go_wp2
      go_roundw
      case rel => exact ⟨j, by first | rfl | simp, by omega, HB9⟩
      case measure => simp [intOf]; omega
    · have q1 : ¬ (i : Int) + 1 < (l.length : Int) := by omega
      go_wp2
      go_ret
      exact ⟨rfl, hB.out⟩
set_option maxRecDepth 100000 in
set_option maxHeartbeats 8000000 in
theorem shuffled_any {w : World} {va vb : Value} {l m : List It} (ha : ItRd (fun _ => True) w va l) (hb : ItRd (fun _ => True) w vb m) (hl : l.length ≤ 8796093022208) (hp : l.Perm m) :
    Calls Try.prog 22 #[va, vb] w fun e w' => e = .returned (.bool true) ∧ Below w.heap.size w w' := by
  have HA := hide ha
  have HB := hide hb
  obtain ⟨ao, ca, rfl, hac, ham, hacl⟩ := ha
  obtain ⟨bo, cb, rfl, hbc, hbm, hbcl⟩ := hb
  have RA := hide hacl
  have hlm : m.length = l.length := hp.length_eq.symm
  have HP := hide hp
  clear hacl hac ham hbcl hbc hbm hp
  go_enter Try.func22, Try.ntmps22
  rw [hlm]
  go_wp2
  go_loopw [5] (fun p wr => ∃ (i : Nat), p = .int .i64 i ∧ i ≤ l.length ∧ Hid (Below w.heap.size w wr)) (fun p _ => l.length - (intOf p).toNat)
  case atStart => exact ⟨0, rfl, by omega, hide (Below.refl _ _)⟩
  case round =>
    obtain ⟨i, rfl, hi, hB⟩ := hrel
    by_cases hil : i < l.length
    · obtain ⟨ga, oa, rfl, _, hga, hin⟩ := RA.out (by omega)
      have q1 : (i : Int) < (l.length : Int) := by omega
      obtain ⟨⟨y1, y2⟩, hy⟩ : ∃ y, l[i] = y := ⟨_, rfl⟩
      have qy := hin i hil
      rw [hy] at qy
      have CF : Hid (∀ U, Below wr.heap.size wr U → U.cell? ⟨ga, oa + i * 2, none⟩ = some (.int .i64 y1) ∧ U.cell? ⟨ga, oa + i * 2 + 1, none⟩ = some (.int .i64 y2)) := hide (fun U k => by
        have k2 := hB.out.trans (k.mono hB.out.size)
        exact ⟨(k2.cell (p := ⟨ga, _, none⟩) hga).trans qy.1, (k2.cell (p := ⟨ga, _, none⟩) hga).trans qy.2⟩)
      have K : Below wr.heap.size wr wr.drew := (Below.refl _ _).drew
      have HT1 := hide (fun (U : World) (k : Below wr.heap.size wr U) => times_any (w := U) (x := (y1, y2)) (HA.out.below (hB.out.trans (k.mono hB.out.size))) hl)
      have HT2 := hide (fun (U : World) (k : Below wr.heap.size wr U) => times_any (w := U) (x := (y1, y2)) (HB.out.below (hB.out.trans (k.mono hB.out.size))) (by omega))
      rw [← HP.out.count_eq (y1, y2)] at HT2
      rw [hlm] at HT2
      obtain ⟨c, hc⟩ : ∃ c, l.count (y1, y2) = c := ⟨_, rfl⟩
      rw [hc] at HT1 HT2
      have w1 : IntKind.i64.wrap ((i : Int) + 1) = (i : Int) + 1 := by rw [IntKind.wrap_i64]; omega
      clear hin qy hc hy
      go_wp2
      first | go_region_held3 (fun u => u.cell? ⟨ga, oa + i * 2, none⟩ = some (.int .i64 y1) ∧ u.cell? ⟨ga, oa + i * 2 + 1, none⟩ = some (.int .i64 y2))
        (first | with_reducible exact CF.out _ K | go_keep)
        (first | (go_at_call 41; (first | (with_reducible refine (HT1.out _ K).mono ?_) | (with_reducible refine (HT2.out _ K).mono ?_)); rintro e w9 ⟨rfl, hb⟩; replace K := K.trans (hb.mono K.size); clear hb)) | fail "region"
      have HB9 := hide (hB.out.trans (K.mono hB.out.size))
      clear K
      go_wp2
      go_roundw
      case rel => exact ⟨i + 1, by simp, by omega, HB9⟩
      case measure => simp [intOf]; omega
    · go_wp2
      go_ret
      exact ⟨rfl, hB.out⟩

end Go.Proofs.Ytomieeajmelglaa

namespace Go.Proofs.Ytomieeajmelglaa
open Go.RowKit Go.Shelf
set_option linter.unusedVariables false
set_option linter.unusedSimpArgs false

def nmb (d : Nat) (l : List It) : List It := l.mapIdx fun i x => ((x.1, ((d + i : Nat) : Int)) : It)
theorem nmb_len (d : Nat) (l : List It) : (nmb d l).length = l.length := by simp [nmb]
theorem nmb_step (d : Nat) {l : List It} {i : Nat} (hi : i < l.length) : nmb d (l.take (i + 1)) = nmb d (l.take i) ++ [(l[i].1, ((d + i : Nat) : Int))] := by
  rw [List.take_succ_eq_append_getElem hi]
  simp only [nmb, List.mapIdx_append, List.mapIdx_cons, List.mapIdx_nil, List.length_take]
  rw [show 0 + min i l.length = i by omega]
set_option maxRecDepth 100000 in
set_option maxHeartbeats 8000000 in
theorem numbered_any {w : World} {va : Value} {l : List It} {d : Nat} (ha : ItRd (fun _ => True) w va l) (hl : l.length ≤ 8796093022208) (hd : d ≤ 8796093022208) :
    Calls Try.prog 20 #[va, .int .i64 d] w fun e w' => (∃ v, e = .returned v ∧ w'.ownsRow w.heap.size 27 2 v l.length (flat (nmb d l))) ∧ Below w.heap.size w w' := by
  obtain ⟨ao, ca, rfl, hac, ham, hacl⟩ := ha
  have RA := hide hacl
  have H63 := hide (show l.length ≤ maxLen ∧ l.length * 16 ≤ 140737488355328 from ⟨by unfold maxLen; omega, by omega⟩)
  clear hacl hac ham
  go_enter Try.func20, Try.ntmps20
  go_wp2
  go_loopw [5, 6] (fun v p wr => ∃ (i : Nat), p = .int .i64 i ∧ i ≤ l.length ∧ Hid (wr.ownsRow w.heap.size 27 2 v i (flat (nmb d (l.take i)))) ∧ Hid (Below w.heap.size w wr)) (fun _ p _ => l.length - (intOf p).toNat)
  case atStart => exact ⟨0, rfl, by omega, hide (by simpa [nmb, flat] using World.ownsRow_nil _ _ _ _), hide (Below.refl _ _)⟩
  case round =>
    obtain ⟨i, rfl, hi, hO, hB⟩ := hrel
    by_cases hil : i < l.length
    · obtain ⟨ga, oa, rfl, _, hga, hin⟩ := RA.out (by omega)
      have q1 : (i : Int) < (l.length : Int) := by omega
      obtain ⟨⟨y1, y2⟩, hy⟩ : ∃ y, l[i] = y := ⟨_, rfl⟩
      have qy := hin i hil
      rw [hy] at qy
      have c1 := (hB.out.cell (p := ⟨ga, _, none⟩) hga).trans qy.1
      have c2 := (hB.out.cell (p := ⟨ga, _, none⟩) hga).trans qy.2
      have w1' : IntKind.i64.wrap ((d : Int) + (i : Int)) = ((d + i : Nat) : Int) := by rw [IntKind.wrap_i64]; omega
      have w2' : IntKind.i64.wrap ((i : Int) + 1) = (i : Int) + 1 := by rw [IntKind.wrap_i64]; omega
      have SZ := hide hB.out.size
      have NS := hide (nmb_step d hil)
      rw [hy] at NS
      obtain ⟨e, he⟩ : ∃ e, ((d + i : Nat) : Int) = e := ⟨_, rfl⟩
      rw [he] at w1' NS
      have RN := hide (fun (W : World) => one_rd W y1 e)
      clear hin qy hy he
      go_wp2_with (at_builtin; refine wpList_append_items rfl _ _ rfl w.heap.size _ i _ rfl (hO.out.alloc _) _ [(y1, e)] rfl (RN.out _) (by intro c h; cases h) (by have := H63.out; simp; omega) (by have := H63.out; simp; omega) (by have := SZ.out; simp; omega) ?_)
      intro v2 w2 own2 bel2
      have HO2 := hide own2
      have HB2 := hide ((hB.out.alloc SZ.out _).trans bel2)
      clear own2 bel2
      go_wp2
      refine ⟨⟨i + 1, by simp, by omega, hide ?_, HB2⟩, by simp [intOf]; omega⟩
      rw [NS.out, flat_append]
      exact HO2.out
    · obtain rfl : i = l.length := by omega
      rw [List.take_length] at hO
      go_wp2
      go_ret
      exact ⟨⟨_, rfl, hO.out⟩, hB.out⟩

end Go.Proofs.Ytomieeajmelglaa

namespace Go.Proofs.Ytomieeajmelglaa
open Go.RowKit Go.Shelf
set_option linter.unusedVariables false
set_option linter.unusedSimpArgs false
attribute [local go_sem] Oper.semAt_some

theorem owns_blk {W W' : World} {base e g n cap : Nat} {xs : List Value} (h : W.ownsRow base e 2 (.slice (some ⟨g, 0, none⟩) n cap) n xs) (hg : g < W.heap.size → W'.heap[g]? = W.heap[g]?) : W'.ownsRow base e 2 (.slice (some ⟨g, 0, none⟩) n cap) n xs := by
  obtain ⟨h0, ⟨h1, _⟩ | ⟨g', cap', cur, h1, h2, h3, h4⟩⟩ := h
  · cases h1
  · cases h1
    exact ⟨h0, .inr ⟨g, cap, cur, rfl, h2, (hg (Array.getElem?_eq_some_iff.1 h3).1).trans h3, h4⟩⟩
theorem owns_full {W : World} {base g n : Nat} {l : List It} (h : W.ownsRow base 27 2 (.slice (some ⟨g, 0, none⟩) n l.length) n (flat l)) (hn : n = l.length) : Own12 base W (.slice (some ⟨g, 0, none⟩) n l.length) l := by
  obtain ⟨h0, ⟨h1, _⟩ | ⟨g', cap', cur, h1, h2, h3, h4, h5, h6, h7⟩⟩ := h
  · cases h1
  · cases h1
    subst hn
    refine .inr ⟨g, rfl, h2, ?_, h5⟩
    have e : cur.toList = flat l := by rw [← h7, List.take_of_length_le (by rw [Array.length_toList, h6]; exact Nat.le_refl _)]
    unfold ItRow
    rw [h3, ← e]
theorem owns_kept {W W' : World} {base e g n cap : Nat} {xs : List Value} {row : Option Nat} (h : W.ownsRow base e 2 (.slice (some ⟨g, 0, none⟩) n cap) n xs) (hg : W.grownBy W' row) (ne : some g ≠ row) : W'.ownsRow base e 2 (.slice (some ⟨g, 0, none⟩) n cap) n xs := by
  obtain ⟨h0, ⟨h1, _⟩ | ⟨g', cap', cur, h1, h2, h3, h4⟩⟩ := h
  · cases h1
  · cases h1
    exact ⟨h0, .inr ⟨g, cap, cur, rfl, h2, (hg.block g (Array.getElem?_eq_some_iff.1 h3).1 ne).trans h3, h4⟩⟩
/-- between two rounds -/
def MgI (base g Bo cap : Nat) (w8 : World) (pre : List It) (W : World) : Prop := W.ownsRow base 27 2 (.slice (some ⟨g, 0, none⟩) pre.length cap) pre.length (flat pre) ∧ Boxed W Bo 22 (.slice (some ⟨g, 0, none⟩) pre.length cap) ∧ BelX (fun k => k = g ∨ k = Bo) w8.heap.size w8 W
theorem mgi_own {base g Bo cap : Nat} {w8 : World} (h1 : g < w8.heap.size) (h2 : Bo < w8.heap.size) : OwnFrom w8.heap.size (MgI base g Bo cap w8) := by
  rintro pre W W' row ⟨a, b, f⟩ hg hr
  have ne : ∀ r, r < w8.heap.size → some r ≠ row := fun r h e => by have := (hr r e.symm).1; omega
  exact ⟨owns_kept a hg (ne _ h1), b.kept hg (ne _ h2), f.trans (BelX.grown hg f.size (fun r e => .inl (hr r e).1))⟩
theorem mgi_step {base g Bo cap : Nat} {w8 : World} {pre : List It} {W W' : World} {x : It} {o : Obj} (h : MgI base g Bo cap w8 pre W) (h1 : g < w8.heap.size) (h2 : Bo < w8.heap.size) (hne : Bo ≠ g)
    (ho : W'.ownsRow base 27 2 (.slice (some ⟨g, 0, none⟩) (pre.length + 1) cap) (pre.length + 1) (flat pre ++ flat [x])) (hg : (W.alloc o).grownBy W' (some g)) :
    KeepsFrom w8.heap.size W (W'.setCell ⟨Bo, 0, none⟩ (.slice (some ⟨g, 0, none⟩) (pre.length + 1) cap)) ∧ BelX (fun k => k = g ∨ k = Bo) w8.heap.size W (W'.setCell ⟨Bo, 0, none⟩ (.slice (some ⟨g, 0, none⟩) (pre.length + 1) cap)) ∧ MgI base g Bo cap w8 (pre ++ [x]) (W'.setCell ⟨Bo, 0, none⟩ (.slice (some ⟨g, 0, none⟩) (pre.length + 1) cap)) := by
  obtain ⟨a, b, f⟩ := h
  have b1 : BelX (fun k => k = g ∨ k = Bo) w8.heap.size W (W.alloc o) := BelX.of ((Below.refl _ W).alloc (Nat.le_refl _) _) f.size
  have b2 : BelX (fun k => k = g ∨ k = Bo) w8.heap.size (W.alloc o) W' := BelX.grown hg (Nat.le_trans f.size b1.size) (fun k e => by cases e; exact .inr (.inl rfl))
  have b3 : BelX (fun k => k = g ∨ k = Bo) w8.heap.size W' (W'.setCell ⟨Bo, 0, none⟩ (.slice (some ⟨g, 0, none⟩) (pre.length + 1) cap)) := belx_set _ _ (.inr rfl)
  have bx := (b1.trans b2).trans b3
  refine ⟨?_, bx, ?_, ?_, f.trans bx⟩
  · exact (((KeepsOthers.alloc W o).from _).trans (KeepsFrom.of_grownBy hg (fun j e => by cases e; exact h1))).trans ((KeepsOthers.setCell _ _ _).from _)
  · rw [List.length_append, List.length_singleton, flat_append]
    exact owns_kept ho (grownBy_setCell' W' Bo _) (fun e => hne (by cases e; rfl))
  · rw [List.length_append, List.length_singleton]
    exact ((b.alloc o).kept hg (fun e => hne (by cases e; rfl))).set _

set_option maxRecDepth 100000 in
set_option maxHeartbeats 8000000 in
theorem merge_any {w : World} {va vb cv : Value} {xs ys : List It} {f : It → It → Int} {I : World → Prop} (ha : ItRd (fun _ => True) w va xs) (hb : ItRd (fun _ => True) w vb ys) (hl : xs.length + ys.length ≤ 8796093022200)
    (hc : CmpIs I cv f) (hIw : I w) (hI : ∀ W W', I W → Below w.heap.size W W' → I W') :
    Calls Try.prog 16 #[va, vb, cv] w fun e w' => (∃ v, e = .returned v ∧ Own12 w.heap.size w' v (mrg f xs ys)) ∧ Below w.heap.size w w' := by
  obtain ⟨m, hm⟩ : ∃ m, xs.length + ys.length = m := ⟨_, rfl⟩
  have mk := mk_room2 (n := m) (by omega)
  obtain ⟨Z, hZ⟩ : ∃ Z, mrg f xs ys = Z := ⟨_, rfl⟩
  have hZl : Z.length = m := by rw [← hZ, mrg_len, hm]
  rw [hZ]
  have HZ := hide hZ
  clear hZ
  have hcc := hc
  obtain ⟨cg, cl, rfl, eg, hcall⟩ := hc.val
  have HA := hide ha
  have HB := hide hb
  obtain ⟨ao, ca, rfl, hac, ham, -⟩ := ha
  obtain ⟨bo, cb, rfl, hbc, hbm, -⟩ := hb
  have HCC := hide hcc
  have HIw := hide hIw
  have HI := hide hI
  unfold maxLen at ham hbm
  have e1 : IntKind.i64.wrap ((xs.length : Int) + (ys.length : Int)) = (m : Int) := by rw [IntKind.wrap_i64]; omega
  have e2 : (xs.length : Int) + (ys.length : Int) = (m : Int) := by omega
  have hfn : ∀ (w : World) f a c, (binOp .eql 28 (.func f a c) .nilFunc).run Try.prog w = .ok (.bool false) w := ofunc_nil itdesc
  obtain ⟨W0, hW0⟩ : ∃ u, w.alloc (.cells (flat (List.replicate m ((0, 0) : It))).toArray 27) = u := ⟨_, rfl⟩
  have K0 : Hid (Below w.heap.size w W0) := by rw [← hW0]; exact hide ((Below.refl _ w).alloc (Nat.le_refl _) _)
  have O0 : Hid (W0.ownsRow w.heap.size 27 2 (.slice (some ⟨w.heap.size, 0, none⟩) 0 m) 0 []) := by
    rw [← hW0]
    exact hide (World.ownsRow_made w _ m (Nat.le_refl _) (by unfold maxLen; omega) (by simp [flat_len]))
  have S0 : W0.heap.size = w.heap.size + 1 := by rw [← hW0]; simp
  have HM := hide hm
  clear hcc hc hcall hIw hI hm
  refine (callsIn_wide (n := 4)).1 ?_
  refine callsIn_of_wp_marks Try.func16 rfl trivial ?_ rfl
  simp only [Try.ntmps16, List.size_toArray, List.length_cons, List.length_nil, Nat.reduceAdd, Nat.reduceSub, Array.replicate_succ, Array.replicate_zero, List.push_toArray, List.append_toArray, List.nil_append, List.cons_append]
  refine wpIn_wide.2 ?_
  go_wp2_with fail
  obtain ⟨W1, hW1⟩ : ∃ u, W0.alloc (.cells #[.slice (some ⟨w.heap.size, 0, none⟩) 0 m] 22) = u := ⟨_, rfl⟩
  have bO : Boxed W1 (w.heap.size + 1) 22 (.slice (some ⟨w.heap.size, 0, none⟩) 0 m) := by rw [← hW1, ← S0]; exact Boxed.new _ _ _
  have O1 : W1.ownsRow w.heap.size 27 2 (.slice (some ⟨w.heap.size, 0, none⟩) 0 m) 0 [] := by rw [← hW1]; exact O0.out.alloc _
  have K1 : Below w.heap.size w W1 := by rw [← hW1]; exact K0.out.alloc (by omega) _
  have S1 : W1.heap.size = w.heap.size + 2 := by rw [← hW1]; simp [S0]
  rw [hW1]
  refine itmerged_box.mono ?_
  rintro e w8 ⟨rfl, b1, b2, b3, hb8⟩
  have hs8 : W1.heap.size + 2 < w8.heap.size := b3.lt
  have K8 : Hid (Below w.heap.size w w8) := hide (K1.trans (hb8.mono K1.size))
  have BO : Hid (Boxed w8 (w.heap.size + 1) 22 (.slice (some ⟨w.heap.size, 0, none⟩) 0 m)) := hide ((hb8.block _ bO.lt).trans bO)
  have O8 : Hid (w8.ownsRow w.heap.size 27 2 (.slice (some ⟨w.heap.size, 0, none⟩) 0 m) 0 []) := hide (owns_blk O1 (fun h => hb8.block _ h))
  have RA : ItRd (fun g => g < w8.heap.size ∧ ¬ (g = w.heap.size ∨ g = w.heap.size + 1)) w8 (.slice ao xs.length ca) xs := ((HA.out.mono (H := fun g => g < w.heap.size) (fun g hg _ => hg)).below K8.out).mono (fun g hg h => ⟨hg, by omega⟩)
  have RB : ItRd (fun g => g < w8.heap.size ∧ ¬ (g = w.heap.size ∨ g = w.heap.size + 1)) w8 (.slice bo ys.length cb) ys := ((HB.out.mono (H := fun g => g < w.heap.size) (fun g hg _ => hg)).below K8.out).mono (fun g hg h => ⟨hg, by omega⟩)
  have hseq := itmerged_stops (n := 3) (X := fun k => k = w.heap.size ∨ k = w.heap.size + 1) (n₀ := w8.heap.size) (by omega) b1 b2 b3 ⟨by omega, by omega⟩ ⟨by omega, by omega⟩ ⟨by omega, by omega⟩ RA RB HCC.out (HI.out w w8 HIw.out K8.out) (fun U U' h kk => HI.out U U' h (kk.below (by omega) (fun k hk e => by omega))) (Nat.le_refl _) (by omega) (by omega)
  rw [HZ.out, HM.out] at hseq
  have HSEQ := hide hseq
  clear hseq RA RB b1 b2 b3 hb8 O1 bO K1 hW1 hW0 mk hfn
  have h80 : w.heap.size < w8.heap.size := by omega
  have h81 : w.heap.size + 1 < w8.heap.size := by omega
  clear S1 S0
  go_wp2_with fail
  refine (wpIn_wide (n := 4)).1 ?_
  refine' wpIn_rangeFunc_ownH rfl (by omega) (gf := 52) (lb := #[.pointer (some ⟨W1.heap.size, 0, none⟩), .pointer (some ⟨W1.heap.size + 1, 0, none⟩), .pointer (some ⟨W1.heap.size + 2, 0, none⟩)]) (by simp [go_sem]) trivial (enters_of Try.func52 (by kernel_rfl) rfl)
    HSEQ.out BelX.trans (fun W l o o' hl _ _ _ => belx_putObj o' hl) (Below.refl _ _) (fun _ => rfl)
    (fun pre W' => MgI w.heap.size w.heap.size (w.heap.size + 1) m w8 pre W')
    (fun _ _ _ => False) (mgi_own h80 h81) (fun _ _ _ _ _ hs _ _ => hs) ⟨O8.out, BO.out, BelX.refl _ _ _⟩
    (fun x a' W' => ∃ Bx, w8.heap.size ≤ Bx ∧ W'.heap[Bx]? = some (.cells #[.int .i64 x.1, .int .i64 x.2] 27 (0, 0)) ∧ a' = { tmps := #[.slice ao xs.length ca, .slice bo ys.length cb, .func (.func cg) #[] cl, undef, undef, undef, .slice none 0 0, .pointer (some ⟨w.heap.size + 1, 0, none⟩), .pointer (some ⟨Bx, 0, none⟩), .func (.func cg) #[] cl, .bool false, .slice ao xs.length ca, .int .i64 xs.length, .slice bo ys.length cb, .int .i64 ys.length, .int .i64 m, .slice (some ⟨w.heap.size, 0, none⟩) 0 m, .slice ao xs.length ca, .slice bo ys.length cb, .func (.func cg) #[] cl, .func (.func 52) #[] #[.pointer (some ⟨W1.heap.size, 0, none⟩), .pointer (some ⟨W1.heap.size + 1, 0, none⟩), .pointer (some ⟨W1.heap.size + 2, 0, none⟩)], itV x, undef, undef, undef, undef, undef], defers := [] }) ?hAx ?hassign ?hbody ?hdone ?hstop
  case hAx =>
    rintro x a' u X Y row ⟨Bx, h1, h2, h3⟩ hg hr
    exact ⟨Bx, h1, (hg.block Bx (Array.getElem?_eq_some_iff.1 h2).1 (fun e => by obtain ⟨_, o, ho, hc⟩ := hr Bx e.symm; rw [h2] at ho; cases ho; cases hc)).trans h2, h3⟩
  case hassign =>
    rintro l pre x W' K hi hK
    gi_wp2
    have hs8 := hi.2.2.size
    exact hK _ _ ((KeepsOthers.alloc _ _).from _) (BelX.of ((Below.refl _ W').alloc (Nat.le_refl _) _) hs8) (mgi_own h80 h81 pre W' _ none hi (World.grownBy_alloc _ _ none) (fun r e => by cases e)) ⟨W'.heap.size, hs8, World.alloc_heap_new W' _, rfl⟩
  case hbody =>
    rintro l pre x a' W' hl hr hi ⟨Bx, hBx, hx0, rfl⟩ hlt
    obtain ⟨x1, x2⟩ := x
    have c4 := hi.2.1.cell
    have f4 := hi.2.1.frozen
    have cx0 := cell_of_row W' _ 0 _ _ _ hx0
    have cx1 := cell_of_row W' _ 1 _ _ _ hx0
    simp at cx0 cx1
    have HI8 := hide hi
    obtain ⟨i0, hi0, hz0, hz1, hz2⟩ := info_parts itinfoM
    have OW := hide (hi.1.alloc (.cells #[.int .i64 x1, .int .i64 x2] 27))
    have NW := hide (fun j u hu => news_items (w := W'.alloc (.cells #[.int .i64 x1, .int .i64 x2] 27)) (g := W'.heap.size) (o := 0) (xs := [(x1, x2)]) (by
      intro i hi
      have hi0 : i = 0 := by simp at hi; omega
      subst hi0
      have q := ItRow.cell (show ItRow _ W'.heap.size [(x1, x2)] from heap_alloc_new W' _) (i := 0) (by simp)
      exact q) j u hu)
    have BO' : Hid (Boxed W' (w.heap.size + 1) 22 (.slice (some ⟨w.heap.size, 0, none⟩) pre.length m)) := hide hi.2.1
    clear hi hx0
    gi_wp2_with (gi_at_builtin; refine wpListIn_append_fits _ rfl _ _ 22 rfl w.heap.size 27 i0 2 Try.underlying22 hi0 hz1 w.heap.size pre.length m (flat pre) rfl OW.out ⟨W'.heap.size, 0, none⟩ 1 1 (flat [(x1, x2)]) rfl rfl NW.out (flat_one _) (by omega) ?_)
    intro w2 own2 grn2
    have ST := hide (mgi_step HI8.out h80 h81 (by omega) own2 grn2)
    have BB := ((BO'.out.alloc (.cells #[.int .i64 x1, .int .i64 x2] 27)).kept grn2 (fun e => by injection e; omega)).frozen
    have BC := ((BO'.out.alloc (.cells #[.int .i64 x1, .int .i64 x2] 27)).kept grn2 (fun e => by injection e; omega)).cell
    clear own2 grn2
    gi_wp2
    exact ST.out
  case hdone =>
    rintro D zs W' hD rfl hi hK
    have cO := hi.2.1.cell
    have HI9 := hide hi
    clear hi
    go_wp2
    refine marks_leave (A := w8.heap.size) (Inv := fun u => MgI w.heap.size w.heap.size (w.heap.size + 1) m w8 zs u) ?_ ?_ [D] _ (by simp; exact ⟨hD, hK⟩) (by simp) HI9.out
    · rintro u D ⟨i1, i2, i3⟩ hD hu
      exact ⟨owns_blk i1 (fun _ => World.putObj_heap_other (fun e => by omega)), (World.putObj_heap_other (fun e => by omega)).trans i2, i3.trans (belx_putObj _ (by omega))⟩
    · rintro u ⟨i1, i2, i3⟩
      refine ⟨_, results_tmp rfl _ _ _, ⟨_, rfl, ?_⟩, K8.out.trans (i3.below (by omega) (fun k hk e => by omega))⟩
      rw [← hZl] at i1 ⊢
      exact owns_full i1 rfl
  case hstop =>
    rintro D c pre W' hD hpx h hK
    exact h.elim

end Go.Proofs.Ytomieeajmelglaa

namespace Go.Proofs.Ytomieeajmelglaa
open Go.RowKit
set_option linter.unusedVariables false

theorem bel_grown {A B : World} (h : Below A.heap.size A B) : A.grownBy B none := ⟨h.os, h.tape, h.output, h.size, fun k hk _ => h.block k hk⟩
variable {F : Fence} {n : Nat} {P : Program}
/-- an iterator, and what is known of what it hands to yield -/
def SeqP {α : Type} (F : Fence) (n : Nat) (P : Program) (g : Nat) (lb : Array Value) (encs : α → Array Value) (Kp : World → World → Prop) (Rd : List α → α → Prop) (S Sp : List α → Prop) (w : World) : Prop :=
  ∀ (l : Nat) (J Jx : List α → World → Prop) (W : World), Below w.heap.size w W → AbidesFrom W.heap.size J → AbidesFrom W.heap.size Jx →
    (∀ pre x W1, J pre W1 → Rd pre x → YieldAt F (n - 1) P l (encs x) W1 fun e W' =>
      (e = .returned (.bool true) ∧ J (pre ++ [x]) W' ∧ Kp W1 W') ∨ (e = .returned (.bool false) ∧ Jx (pre ++ [x]) W')) →
    J [] W →
    CallsIn F n P g (#[.func (.yield l) #[] #[]] ++ lb) W fun e W' => (∃ v, e = .returned v) ∧ ((∃ xs, S xs ∧ J xs W') ∨ (∃ pre, Sp pre ∧ Jx pre W'))

theorem wpIn_rangeP {α : Type} {g : Operand} {ps : Array Tmp} {assign body : Code} {Q : Exit → Act → World → Prop} {a : Act} {w : World}
    (hro : F.round = none) (h1 : 1 ≤ n) {gf : Nat} {lb : Array Value} (hg : a.eval g = .func (.func gf) #[] lb) (hFg : F.fn gf) (eg : ∀ args w, (callFunc gf args).run P w = .ok (.enter gf args) w)
    {encs : α → Array Value} {Kp : World → World → Prop} {Rd : List α → α → Prop} {S Sp : List α → Prop} {w0 : World} (hseq : SeqP F (n - 1) P gf lb encs Kp Rd S Sp w0)
    (hKt : ∀ {A B C : World}, Kp A B → Kp B C → Kp A C) (hKb : ∀ (W : World) (l : Nat) (o' : Obj), w.heap.size ≤ l → Kp W (W.putObj l o')) (hKa : ∀ A C : World, Below A.heap.size A C → w.heap.size ≤ A.heap.size → Kp A C) (hb0 : Below w0.heap.size w0 w) (hps : ∀ x, (encs x).size = ps.size)
    (I : List α → World → Prop) (Ix : Code → List α → World → Prop) (hI : OwnFrom w.heap.size I) (hIx : ∀ c, OwnFrom w.heap.size (Ix c)) (h0 : I [] w) (At : α → Act → World → Prop) (hAt : ∀ x a' (A : World) (l : Nat) (r r' : Loop), At x a' A → A.heap[l]? = some (.loop r) → At x a' (A.putObj l (.loop r')))
    (hassign : ∀ (l : Nat) (x : α) (W : World) (K : Act → World → Prop), (∀ a₁ W₁, Below W.heap.size W W₁ → At x a₁ W₁ → K a₁ W₁) →
      assign.wpIn (F.inRound l) (n - 1 - 1) P (Exit.then K (fun _ _ _ => False)) { tmps := (ps.zip (encs x)).foldl (fun t (p, v) => t.setIfInBounds p v) a.tmps, defers := [] } W)
    (hbody : ∀ (l : Nat) (pre : List α) (x : α) (a₁ : Act) (W : World), I pre W → Rd pre x → At x a₁ W → w.heap.size ≤ W.heap.size → body.wpIn (F.inRound l) (n - 1 - 1) P (ownPostG w.heap.size Kp I Ix (pre ++ [x]) W) a₁ W)
    (hdone : ∀ (D : Nat) (xs : List α) (W : World), w.heap.size ≤ D → S xs → I xs W → W.heap[D]? = some (.deferred (some [])) → Q .normal { a with defers := { target := .collected D, args := #[] } :: a.defers } W)
    (hstop : ∀ (D : Nat) (c : Code) (pre : List α) (W : World), w.heap.size ≤ D → Sp pre → Ix c pre W → W.heap[D]? = some (.deferred (some [])) → c.wpIn F n P Q { a with defers := { target := .collected D, args := #[] } :: a.defers } W) :
    (Code.rangeFunc g ps assign body).wpIn F n P Q a w := by
  refine wpIn_rangeFunc fun fn hfn => ?_
  rw [hro]
  have go : ∃ W1 : World, ∃ r0 : Loop, (Instr.enterLoop fn a.tmps ps assign body none).run P w = .ok (w.heap.size + 1, [{ target := .collected w.heap.size, args := #[] }]) W1 ∧ Below w.heap.size w W1 ∧ W1.heap.size = w.heap.size + 2 ∧
      W1.heap[w.heap.size + 1]? = some (.loop r0) ∧ W1.heap[w.heap.size]? = some (.deferred (some [])) ∧ r0.state = .ready ∧ r0.pending = none ∧ r0.fn = fn ∧ r0.tmps = a.tmps ∧ r0.params = ps ∧ r0.assign = assign ∧ r0.body = body := by
    refine ⟨_, { state := .ready, pending := none, fn, tmps := a.tmps, params := ps, assign, body, defers := w.heap.size }, run_enterLoop_outer _ _ _ _ _, ((Below.refl _ w).alloc (Nat.le_refl _) _).alloc (by simp) _, by simp, ?_, ?_, rfl, rfl, rfl, rfl, rfl, rfl, rfl⟩
    · have := World.alloc_heap_new (w.alloc (.deferred (some []))) (.loop { state := .ready, pending := none, fn, tmps := a.tmps, params := ps, assign, body, defers := w.heap.size })
      rwa [World.size_alloc] at this
    · exact (Below.heap_alloc _ _ _ (by simp)).trans (World.alloc_heap_new w _)
  obtain ⟨W1, r0, hen, hB1, hsz, hL, hD, e1, e2, e3, e4, e5, e6, e7⟩ := go
  have isg : ∀ {pre : List α} {A B : World}, I pre A → Below A.heap.size A B → I pre B := fun h hb => hI _ _ _ none h (bel_grown hb) (fun r e => by cases e)
  have ipt : ∀ {pre : List α} {A : World} {r : Loop} (r' : Loop), I pre A → A.heap[w.heap.size + 1]? = some (.loop r) → I pre (A.putObj (w.heap.size + 1) (.loop r')) := fun r' h hl => hI.putObj _ h (by omega) hl rfl
  have xpt : ∀ {c : Code} {pre : List α} {A : World} {r : Loop} (r' : Loop), Ix c pre A → A.heap[w.heap.size + 1]? = some (.loop r) → Ix c pre (A.putObj (w.heap.size + 1) (.loop r')) := fun r' h hl => (hIx _).putObj _ h (by omega) hl rfl
  refine ⟨w.heap.size + 1, [{ target := .collected w.heap.size, args := #[] }], W1, { target := .fn (.func gf) lb, args := #[.func (.yield (w.heap.size + 1)) #[] #[]] }, W1, gf, #[.func (.yield (w.heap.size + 1)) #[] #[]] ++ lb, W1, hen, ?_, ?_, ?_, fun _ => h1, ?_⟩
  · simp only [resolve, hg]
    simp [go_sem]
  · intro f' hf'
    simp [Target.leads] at hf'
    subst hf'
    exact hFg
  · simp [invoke, go_sem, eg]
  have nr : ∀ {A B : World} {row : Option Nat} {k : Nat}, A.grownBy B row → (∀ r, row = some r → W1.heap.size ≤ r ∧ ∃ o : Obj, A.heap[r]? = some o ∧ o.isWalk = true) → k < A.heap.size → k < W1.heap.size → B.heap[k]? = A.heap[k]? := fun hg' hr h2 h3 => hg'.block _ h2 (fun e => by have := (hr _ e.symm).1; omega)
  have hnw : ∀ {A : World} {row : Option Nat}, (∀ r, row = some r → W1.heap.size ≤ r ∧ ∃ o : Obj, A.heap[r]? = some o ∧ o.isWalk = true) → (∀ r, row = some r → w.heap.size ≤ r ∧ ∃ o : Obj, A.heap[r]? = some o ∧ o.isCells = false) := fun hr r e => by
    obtain ⟨hB, o, ho, hw⟩ := hr r e
    exact ⟨by omega, o, ho, Obj.not_cells_of_walk hw⟩
  refine (hseq (w.heap.size + 1) (fun pre W => I pre W ∧ W.heap[w.heap.size + 1]? = some (.loop r0) ∧ W.heap[w.heap.size]? = some (.deferred (some [])))
    (fun pre W => ∃ c r, Ix c pre W ∧ W.heap[w.heap.size + 1]? = some (.loop r) ∧ r.state ≠ .busy ∧ r.pending = some c ∧ W.heap[w.heap.size]? = some (.deferred (some []))) W1 (hb0.trans (hB1.mono hb0.size)) ?_ ?_ ?_ ⟨?_, hL, hD⟩).mono ?_
  · rintro s A B row ⟨hi, hl, hd⟩ hg' hr
    have l1 := (Array.getElem?_eq_some_iff.1 hl).1
    exact ⟨hI s A B row hi hg' (hnw hr), (nr hg' hr l1 (by omega)).trans hl, (nr hg' hr (by omega) (by omega)).trans hd⟩
  · rintro s A B row ⟨c, r, hi, hl, h3, h4, hd⟩ hg' hr
    have l1 := (Array.getElem?_eq_some_iff.1 hl).1
    exact ⟨c, r, hIx c s A B row hi hg' (hnw hr), (nr hg' hr l1 (by omega)).trans hl, h3, h4, (nr hg' hr (by omega) (by omega)).trans hd⟩
  · rintro pre x W ⟨hi, hl, hd⟩ hr
    have hlt0 : w.heap.size + 1 < W.heap.size := (Array.getElem?_eq_some_iff.1 hl).1
    refine ⟨r0.fn, _, r0.assign, r0.body, run_yield (P := P) (args := encs x) hl (by rw [e5]; exact hps x), roundIn_of_wpIn (by rw [e3]; exact hfn) ?_⟩
    rw [e4, e5, e6, e7]
    refine hassign _ x W _ fun a₁ W₁ hbb hat => ?_
    have kA : Kp W W₁ := hKa _ _ hbb (by omega)
    replace hi := isg hi hbb
    replace hl := (hbb.block _ hlt0).trans hl
    replace hd := (hbb.block _ (by omega)).trans hd
    have hlt : w.heap.size + 1 < W₁.heap.size := (Array.getElem?_eq_some_iff.1 hl).1
    refine ⟨_, run_beginRound hl e1, ?_⟩
    have hl2 : (W₁.putObj (w.heap.size + 1) (.loop { r0 with state := .busy })).heap[w.heap.size + 1]? = some (.loop { r0 with state := .busy }) := World.putObj_heap_same hlt
    have hd2 : (W₁.putObj (w.heap.size + 1) (.loop { r0 with state := .busy })).heap[w.heap.size]? = some (.deferred (some [])) := (World.putObj_heap_other (by omega)).trans hd
    have kB : Kp W (W₁.putObj (w.heap.size + 1) (.loop { r0 with state := .busy })) := hKt kA (hKb _ _ _ (by omega))
    refine wpIn_mono (hbody _ pre x a₁ _ (ipt _ hi hl) hr (hAt _ _ _ _ _ _ hat hl) (by simp; omega)) ?_
    have fin : ∀ (jump : Option Code) (W3 : World), KeepsFrom w.heap.size (W₁.putObj (w.heap.size + 1) (.loop { r0 with state := .busy })) W3 →
        (Instr.endRound (w.heap.size + 1) jump).run P W3 = .ok (.bool jump.isNone) (W3.putObj (w.heap.size + 1) (.loop { r0 with state := (if jump.isNone then .ready else .done), pending := jump })) ∧
        (W3.putObj (w.heap.size + 1) (.loop { r0 with state := (if jump.isNone then .ready else .done), pending := jump })).heap[w.heap.size + 1]? = some (.loop { r0 with state := (if jump.isNone then .ready else .done), pending := jump }) ∧
        (W3.putObj (w.heap.size + 1) (.loop { r0 with state := (if jump.isNone then .ready else .done), pending := jump })).heap[w.heap.size]? = some (.deferred (some [])) ∧ W3.heap[w.heap.size + 1]? = some (.loop { r0 with state := .busy }) := fun jump W3 hk => by
      have hs := hk.size
      simp only [World.putObj_size] at hs
      have hl3 := hk.same (w.heap.size + 1) _ (by omega) hl2 rfl
      have hr3 := run_endRound (P := P) (r := { r0 with state := .busy }) jump hl3
      exact ⟨hr3, World.putObj_heap_same (by omega), (World.putObj_heap_other (by omega)).trans (hk.same w.heap.size _ (Nat.le_refl _) hd2 rfl), hl3⟩
    rintro e a3 W3 hp
    cases e with
    | normal =>
      obtain ⟨hk, hkp, hi3⟩ := hp
      obtain ⟨g1, g2, g3, g4⟩ := fin none W3 hk
      refine ⟨_, _, g1, .inl ⟨rfl, ⟨ipt _ hi3 g4, ?_, g3⟩, ?_⟩⟩
      · rw [g2]
        have : r0 = { r0 with state := .ready, pending := none } := by rw [← e1, ← e2]
        rw [this]
        rfl
      · exact hKt (hKt kB hkp) (hKb _ _ _ (by omega))
    | ret =>
      obtain ⟨hk, hi3⟩ := hp
      obtain ⟨g1, g2, g3, g4⟩ := fin (some .ret) W3 hk
      exact ⟨_, _, g1, .inr ⟨rfl, .ret, _, xpt _ hi3 g4, g2, by simp, rfl, g3⟩⟩
    | exit id =>
      obtain ⟨hk, hi3⟩ := hp
      obtain ⟨g1, g2, g3, g4⟩ := fin (some (.exit id)) W3 hk
      exact ⟨_, _, g1, .inr ⟨rfl, .exit id, _, xpt _ hi3 g4, g2, by simp, rfl, g3⟩⟩
    | goto t =>
      obtain ⟨hk, hi3⟩ := hp
      obtain ⟨g1, g2, g3, g4⟩ := fin (some (.goto t)) W3 hk
      exact ⟨_, _, g1, .inr ⟨rfl, .goto t, _, xpt _ hi3 g4, g2, by simp, rfl, g3⟩⟩
    | panic ch => exact hp.elim
    | outgrown => exact hp.elim
  · exact hI _ _ _ none h0 ⟨hB1.os, hB1.tape, hB1.output, hB1.size, fun k hk _ => hB1.block k hk⟩ (fun r e => by cases e)
  · rintro e W2 ⟨⟨v, rfl⟩, (⟨xs, hS, hi, hl, hd⟩ | ⟨pre, hSp, c, r, hi, hl, h3, h4, hd⟩)⟩
    · have h := run_endLoop (P := P) hl (by rw [e1]; simp)
      rw [e2] at h
      exact ⟨none, _, h, hdone _ xs _ (Nat.le_refl _) hS (ipt _ hi hl) ((World.putObj_heap_other (by omega)).trans hd)⟩
    · have h := run_endLoop (P := P) hl h3
      rw [h4] at h
      exact ⟨some c, _, h, hstop _ c pre _ (Nat.le_refl _) hSp (xpt _ hi hl) ((World.putObj_heap_other (by omega)).trans hd)⟩

end Go.Proofs.Ytomieeajmelglaa

namespace Go.Proofs.Ytomieeajmelglaa
open Go.RowKit
set_option linter.unusedVariables false
variable {F : Fence} {n : Nat} {P : Program}

/-- what the body's facts bear: blocks below s and those of O stand -/
structure FrO (s : Nat) (O : Nat → Prop) (A B : World) : Prop where
  os : B.os = A.os
  tape : B.tape = A.tape
  output : B.output = A.output
  size : A.heap.size ≤ B.heap.size
  block : ∀ k, k < A.heap.size → (k < s ∨ O k) → B.heap[k]? = A.heap[k]?
theorem FrO.of_below {s : Nat} {O : Nat → Prop} {A B : World} (h : Below A.heap.size A B) : FrO s O A B := ⟨h.os, h.tape, h.output, h.size, fun k hk _ => h.block k hk⟩
theorem FrO.of_belx {s : Nat} {O X : Nat → Prop} {A B : World} (h : BelX X A.heap.size A B) (hx : ∀ k, X k → s ≤ k ∧ ¬ O k) : FrO s O A B :=
  ⟨h.os, h.tape, h.output, h.size, fun k hk ho => h.block k hk (fun e => ho.elim (fun h => by have := (hx k e).1; omega) (fun h => (hx k e).2 h))⟩
def AbO {α : Type} (s : Nat) (J : (Nat → Prop) → List α → World → Prop) : Prop := ∀ O pre A B, J O pre A → FrO s O A B → J O pre B
/-- the body leaves what is not its own -/
def KbO (s : Nat) (O : Nat → Prop) (A B : World) : Prop := A.heap.size ≤ B.heap.size ∧ ∀ k, s ≤ k → k < A.heap.size → ¬ O k → B.heap[k]? = A.heap[k]?
def SeqO {α : Type} (F : Fence) (n : Nat) (P : Program) (g : Nat) (lb : Array Value) (encs : α → Array Value) (Rd : List α → α → Prop) (S Sp : List α → Prop) (w : World) : Prop :=
  ∀ (l : Nat) (J Jx : (Nat → Prop) → List α → World → Prop) (W : World), Below w.heap.size w W → AbO W.heap.size J → AbO W.heap.size Jx →
    (∀ O pre x W1, J O pre W1 → W.heap.size ≤ W1.heap.size → Rd pre x → YieldAt F (n - 1) P l (encs x) W1 fun e W' =>
      (e = .returned (.bool true) ∧ ∃ O', J O' (pre ++ [x]) W' ∧ KbO W.heap.size O W1 W' ∧ ∀ k, O' k → (O k ∨ W1.heap.size ≤ k) ∧ k < W'.heap.size) ∨ (e = .returned (.bool false) ∧ ∃ O', Jx O' (pre ++ [x]) W')) →
    J (fun _ => False) [] W →
    CallsIn F n P g (#[.func (.yield l) #[] #[]] ++ lb) W fun e W' => (∃ v, e = .returned v) ∧ ((∃ O xs, S xs ∧ J O xs W') ∨ (∃ O pre, Sp pre ∧ Jx O pre W'))
def postO {α : Type} (b : Nat) (I : (Nat → Prop) → List α → World → Prop) (Ix : Code → (Nat → Prop) → List α → World → Prop) (O : Nat → Prop) (xs : List α) (W : World) : Exit → Act → World → Prop
  | .normal, _, W' => KeepsFrom b W W' ∧ KbO (b + 2) O W W' ∧ ∃ O', I O' xs W' ∧ ∀ k, O' k → (O k ∨ W.heap.size ≤ k) ∧ k < W'.heap.size
  | .ret, _, W' => KeepsFrom b W W' ∧ ∃ O', Ix .ret O' xs W'
  | .exit id, _, W' => KeepsFrom b W W' ∧ ∃ O', Ix (.exit id) O' xs W'
  | .goto t, _, W' => KeepsFrom b W W' ∧ ∃ O', Ix (.goto t) O' xs W'
  | .panic _, _, _ => False
  | .outgrown, _, _ => False

theorem wpIn_rangeO {α : Type} {g : Operand} {ps : Array Tmp} {assign body : Code} {Q : Exit → Act → World → Prop} {a : Act} {w : World}
    (hro : F.round = none) (h1 : 1 ≤ n) {gf : Nat} {lb : Array Value} (hg : a.eval g = .func (.func gf) #[] lb) (hFg : F.fn gf) (eg : ∀ args w, (callFunc gf args).run P w = .ok (.enter gf args) w)
    {encs : α → Array Value} {Rd : List α → α → Prop} {S Sp : List α → Prop} {w0 : World} (hseq : SeqO F (n - 1) P gf lb encs Rd S Sp w0)
    (hb0 : Below w0.heap.size w0 w) (hps : ∀ x, (encs x).size = ps.size)
    (I : (Nat → Prop) → List α → World → Prop) (Ix : Code → (Nat → Prop) → List α → World → Prop) (hI : AbO (w.heap.size + 2) I) (hIx : ∀ c, AbO (w.heap.size + 2) (Ix c))
    (hIp : ∀ O pre (A : World) (l : Nat) (r r' : Loop), I O pre A → A.heap[l]? = some (.loop r) → w.heap.size ≤ l → I O pre (A.putObj l (.loop r'))) (hIxp : ∀ c O pre (A : World) (l : Nat) (r r' : Loop), Ix c O pre A → A.heap[l]? = some (.loop r) → w.heap.size ≤ l → Ix c O pre (A.putObj l (.loop r')))
    (h0 : I (fun _ => False) [] w) (At : α → Act → World → Prop) (hAt : ∀ x a' (A : World) (l : Nat) (r r' : Loop), At x a' A → A.heap[l]? = some (.loop r) → At x a' (A.putObj l (.loop r')))
    (hassign : ∀ (l : Nat) (x : α) (W : World) (K : Act → World → Prop), (∀ a₁ W₁, Below W.heap.size W W₁ → At x a₁ W₁ → K a₁ W₁) →
      assign.wpIn (F.inRound l) (n - 1 - 1) P (Exit.then K (fun _ _ _ => False)) { tmps := (ps.zip (encs x)).foldl (fun t (p, v) => t.setIfInBounds p v) a.tmps, defers := [] } W)
    (hbody : ∀ (l : Nat) (O : Nat → Prop) (pre : List α) (x : α) (a₁ : Act) (W : World), I O pre W → Rd pre x → At x a₁ W → w.heap.size + 2 ≤ W.heap.size → body.wpIn (F.inRound l) (n - 1 - 1) P (postO w.heap.size I Ix O (pre ++ [x]) W) a₁ W)
    (hdone : ∀ (D : Nat) (O : Nat → Prop) (xs : List α) (W : World), w.heap.size ≤ D → S xs → I O xs W → W.heap[D]? = some (.deferred (some [])) → Q .normal { a with defers := { target := .collected D, args := #[] } :: a.defers } W)
    (hstop : ∀ (D : Nat) (c : Code) (O : Nat → Prop) (pre : List α) (W : World), w.heap.size ≤ D → Sp pre → Ix c O pre W → W.heap[D]? = some (.deferred (some [])) → c.wpIn F n P Q { a with defers := { target := .collected D, args := #[] } :: a.defers } W) :
    (Code.rangeFunc g ps assign body).wpIn F n P Q a w := by
  refine wpIn_rangeFunc fun fn hfn => ?_
  rw [hro]
  have go : ∃ W1 : World, ∃ r0 : Loop, (Instr.enterLoop fn a.tmps ps assign body none).run P w = .ok (w.heap.size + 1, [{ target := .collected w.heap.size, args := #[] }]) W1 ∧ Below w.heap.size w W1 ∧ W1.heap.size = w.heap.size + 2 ∧
      W1.heap[w.heap.size + 1]? = some (.loop r0) ∧ W1.heap[w.heap.size]? = some (.deferred (some [])) ∧ r0.state = .ready ∧ r0.pending = none ∧ r0.fn = fn ∧ r0.tmps = a.tmps ∧ r0.params = ps ∧ r0.assign = assign ∧ r0.body = body := by
    refine ⟨_, { state := .ready, pending := none, fn, tmps := a.tmps, params := ps, assign, body, defers := w.heap.size }, run_enterLoop_outer _ _ _ _ _, ((Below.refl _ w).alloc (Nat.le_refl _) _).alloc (by simp) _, by simp, ?_, ?_, rfl, rfl, rfl, rfl, rfl, rfl, rfl⟩
    · have := World.alloc_heap_new (w.alloc (.deferred (some []))) (.loop { state := .ready, pending := none, fn, tmps := a.tmps, params := ps, assign, body, defers := w.heap.size })
      rwa [World.size_alloc] at this
    · exact (Below.heap_alloc _ _ _ (by simp)).trans (World.alloc_heap_new w _)
  obtain ⟨W1, r0, hen, hB1, hsz, hL, hD, e1, e2, e3, e4, e5, e6, e7⟩ := go
  have isg : ∀ {O : Nat → Prop} {pre : List α} {A B : World}, I O pre A → Below A.heap.size A B → I O pre B := fun h hb => hI _ _ _ _ h (FrO.of_below hb)
  refine ⟨w.heap.size + 1, [{ target := .collected w.heap.size, args := #[] }], W1, { target := .fn (.func gf) lb, args := #[.func (.yield (w.heap.size + 1)) #[] #[]] }, W1, gf, #[.func (.yield (w.heap.size + 1)) #[] #[]] ++ lb, W1, hen, ?_, ?_, ?_, fun _ => h1, ?_⟩
  · simp only [resolve, hg]
    simp [go_sem]
  · intro f' hf'
    simp [Target.leads] at hf'
    subst hf'
    exact hFg
  · simp [invoke, go_sem, eg]
  refine (hseq (w.heap.size + 1) (fun O pre W => I O pre W ∧ W.heap[w.heap.size + 1]? = some (.loop r0) ∧ W.heap[w.heap.size]? = some (.deferred (some [])))
    (fun O pre W => ∃ c r, Ix c O pre W ∧ W.heap[w.heap.size + 1]? = some (.loop r) ∧ r.state ≠ .busy ∧ r.pending = some c ∧ W.heap[w.heap.size]? = some (.deferred (some []))) W1 (hb0.trans (hB1.mono hb0.size)) ?_ ?_ ?_ ⟨?_, hL, hD⟩).mono ?_
  · rintro O s A B ⟨hi, hl, hd⟩ hf
    have l1 := (Array.getElem?_eq_some_iff.1 hl).1
    rw [hsz] at hf
    exact ⟨hI O s A B hi hf, (hf.block _ l1 (.inl (by omega))).trans hl, (hf.block _ (by omega) (.inl (by omega))).trans hd⟩
  · rintro O s A B ⟨c, r, hi, hl, h3, h4, hd⟩ hf
    have l1 := (Array.getElem?_eq_some_iff.1 hl).1
    rw [hsz] at hf
    exact ⟨c, r, hIx c O s A B hi hf, (hf.block _ l1 (.inl (by omega))).trans hl, h3, h4, (hf.block _ (by omega) (.inl (by omega))).trans hd⟩
  · rintro O pre x W ⟨hi, hl, hd⟩ hWs hr
    rw [hsz] at hWs
    have hlt0 : w.heap.size + 1 < W.heap.size := (Array.getElem?_eq_some_iff.1 hl).1
    refine ⟨r0.fn, _, r0.assign, r0.body, run_yield (P := P) (args := encs x) hl (by rw [e5]; exact hps x), roundIn_of_wpIn (by rw [e3]; exact hfn) ?_⟩
    rw [e4, e5, e6, e7]
    refine hassign _ x W _ fun a₁ W₁ hbb hat => ?_
    have kA := hbb
    replace hi := isg hi hbb
    replace hl := (hbb.block _ hlt0).trans hl
    replace hd := (hbb.block _ (by omega)).trans hd
    have hlt : w.heap.size + 1 < W₁.heap.size := (Array.getElem?_eq_some_iff.1 hl).1
    refine ⟨_, run_beginRound hl e1, ?_⟩
    have hl2 : (W₁.putObj (w.heap.size + 1) (.loop { r0 with state := .busy })).heap[w.heap.size + 1]? = some (.loop { r0 with state := .busy }) := World.putObj_heap_same hlt
    have hd2 : (W₁.putObj (w.heap.size + 1) (.loop { r0 with state := .busy })).heap[w.heap.size]? = some (.deferred (some [])) := (World.putObj_heap_other (by omega)).trans hd
    refine wpIn_mono (hbody _ O pre x a₁ _ (hIp _ _ _ _ _ _ hi hl (by omega)) hr (hAt _ _ _ _ _ _ hat hl) (by have := hbb.size; simp; omega)) ?_
    have fin : ∀ (jump : Option Code) (W3 : World), KeepsFrom w.heap.size (W₁.putObj (w.heap.size + 1) (.loop { r0 with state := .busy })) W3 →
        (Instr.endRound (w.heap.size + 1) jump).run P W3 = .ok (.bool jump.isNone) (W3.putObj (w.heap.size + 1) (.loop { r0 with state := (if jump.isNone then .ready else .done), pending := jump })) ∧
        (W3.putObj (w.heap.size + 1) (.loop { r0 with state := (if jump.isNone then .ready else .done), pending := jump })).heap[w.heap.size + 1]? = some (.loop { r0 with state := (if jump.isNone then .ready else .done), pending := jump }) ∧
        (W3.putObj (w.heap.size + 1) (.loop { r0 with state := (if jump.isNone then .ready else .done), pending := jump })).heap[w.heap.size]? = some (.deferred (some [])) ∧ W3.heap[w.heap.size + 1]? = some (.loop { r0 with state := .busy }) := fun jump W3 hk => by
      have hs := hk.size
      simp only [World.putObj_size] at hs
      have hl3 := hk.same (w.heap.size + 1) _ (by omega) hl2 rfl
      have hr3 := run_endRound (P := P) (r := { r0 with state := .busy }) jump hl3
      exact ⟨hr3, World.putObj_heap_same (by omega), (World.putObj_heap_other (by omega)).trans (hk.same w.heap.size _ (Nat.le_refl _) hd2 rfl), hl3⟩
    rintro e a3 W3 hp
    cases e with
    | normal =>
      obtain ⟨hk, hkb, O', hi3, ho⟩ := hp
      obtain ⟨g1, g2, g3, g4⟩ := fin none W3 hk
      have hs2 := hkb.1
      have hs1 := hbb.size
      simp only [World.putObj_size] at hs2
      refine ⟨_, _, g1, .inl ⟨rfl, O', ⟨hIp _ _ _ _ _ _ hi3 g4 (by omega), ?_, g3⟩, ⟨by simp; omega, fun k hk1 hk2 hk3 => ?_⟩, fun k hk => ?_⟩⟩
      · rw [g2]
        have : r0 = { r0 with state := .ready, pending := none } := by rw [← e1, ← e2]
        rw [this]
        rfl
      · rw [hsz] at hk1
        have h5 := hkb.2 k hk1 (by simp; omega) hk3
        exact (World.putObj_heap_other (by omega)).trans (h5.trans ((World.putObj_heap_other (by omega)).trans (hbb.block k hk2)))
      · have := ho k hk
        simp only [World.putObj_size] at this ⊢
        exact ⟨this.1.imp_right (fun h => by omega), this.2⟩
    | ret =>
      obtain ⟨hk, O', hi3⟩ := hp
      obtain ⟨g1, g2, g3, g4⟩ := fin (some .ret) W3 hk
      exact ⟨_, _, g1, .inr ⟨rfl, O', .ret, _, hIxp _ _ _ _ _ _ _ hi3 g4 (by omega), g2, by simp, rfl, g3⟩⟩
    | exit id =>
      obtain ⟨hk, O', hi3⟩ := hp
      obtain ⟨g1, g2, g3, g4⟩ := fin (some (.exit id)) W3 hk
      exact ⟨_, _, g1, .inr ⟨rfl, O', .exit id, _, hIxp _ _ _ _ _ _ _ hi3 g4 (by omega), g2, by simp, rfl, g3⟩⟩
    | goto t =>
      obtain ⟨hk, O', hi3⟩ := hp
      obtain ⟨g1, g2, g3, g4⟩ := fin (some (.goto t)) W3 hk
      exact ⟨_, _, g1, .inr ⟨rfl, O', .goto t, _, hIxp _ _ _ _ _ _ _ hi3 g4 (by omega), g2, by simp, rfl, g3⟩⟩
    | panic ch => exact hp.elim
    | outgrown => exact hp.elim
  · exact isg h0 hB1
  · rintro e W2 ⟨⟨v, rfl⟩, (⟨O, xs, hS, hi, hl, hd⟩ | ⟨O, pre, hSp, c, r, hi, hl, h3, h4, hd⟩)⟩
    · have h := run_endLoop (P := P) hl (by rw [e1]; simp)
      rw [e2] at h
      exact ⟨none, _, h, hdone _ O xs _ (Nat.le_refl _) hS (hIp _ _ _ _ _ _ hi hl (by omega)) ((World.putObj_heap_other (by omega)).trans hd)⟩
    · have h := run_endLoop (P := P) hl h3
      rw [h4] at h
      exact ⟨some c, _, h, hstop _ c O pre _ (Nat.le_refl _) hSp (hIxp _ _ _ _ _ _ _ hi hl (by omega)) ((World.putObj_heap_other (by omega)).trans hd)⟩

end Go.Proofs.Ytomieeajmelglaa

namespace Go.Proofs.Ytomieeajmelglaa
open Go.RowKit Go.Shelf
set_option linter.unusedVariables false
set_option linter.unusedSimpArgs false
attribute [local go_sem] Oper.semAt_some

set_option maxRecDepth 100000 in
set_option maxHeartbeats 1000000 in
theorem itrep_box {w : World} {ao : Option Addr} {la ca g : Nat} {cs : Array Value} : Calls Try.prog 40 #[.slice ao la ca, .func (.func g) #[] cs] w fun e w' => e = .returned (.func (.func 53) #[] #[.pointer (some ⟨w.heap.size, 0, none⟩), .pointer (some ⟨w.heap.size + 1, 0, none⟩)]) ∧ Boxed w' w.heap.size 22 (.slice ao la ca) ∧ Boxed w' (w.heap.size + 1) 28 (.func (.func g) #[] cs) ∧ Below w.heap.size w w' := by
  go_enter Try.func40, Try.ntmps40
  go_wp2
  go_ret
  refine ⟨rfl, (Boxed.new _ _ _).alloc _, ?_, ((Below.refl _ w).alloc (Nat.le_refl _) _).alloc (by simp) _⟩
  have := Boxed.new (w.alloc (.cells #[.slice ao la ca] 22)) 28 (.func (.func g) #[] cs)
  simpa using this

set_option maxRecDepth 100000 in
set_option maxHeartbeats 16000000 in
theorem itrep1_in {n l Ba Bc n₀ : Nat} {X : Nat → Prop} {I : World → Prop} {w : World} {va cv : Value} {xs : List It} {f : It → It → Int} (hn : 1 ≤ n)
    (bA : Boxed w Ba 22 va) (bC : Boxed w Bc 28 cv) (lA : Ba < n₀ ∧ ¬ X Ba) (lC : Bc < n₀ ∧ ¬ X Bc)
    (ha : ItRd (fun g => g < n₀ ∧ ¬ X g) w va xs) (hc : CmpIs I cv f) (hIw : I w) (hI : ∀ W W', I W → BelX X n₀ W W' → I W') (hw : n₀ ≤ w.heap.size) (hx : xs.length ≤ 4611686018427387903)
    (J Jx : List (Pl xs.length) → World → Prop) (hY : ∀ pre x W, J pre W → (pre ++ [x]).map Subtype.val <+: reps f 0 xs → YieldAt Fence.wide (n - 1) Try.prog l (plEncs xs.length x) W fun e W' =>
      (e = .returned (.bool true) ∧ J (pre ++ [x]) W' ∧ BelX X n₀ W W') ∨ (e = .returned (.bool false) ∧ Jx (pre ++ [x]) W'))
    (W : World) (hJ : AbidesFrom W.heap.size J) (hW : Below w.heap.size w W) (h0 : J [] W) :
    CallsIn Fence.wide n Try.prog 53 #[.func (.yield l) #[] #[], .pointer (some ⟨Ba, 0, none⟩), .pointer (some ⟨Bc, 0, none⟩)] W fun e W' => (∃ v, e = .returned v) ∧
      ((∃ zs : List (Pl xs.length), zs.map Subtype.val = reps f 0 xs ∧ J zs W') ∨ (∃ pre : List (Pl xs.length), pre.map Subtype.val <+: reps f 0 xs ∧ Jx pre W')) := by
  obtain ⟨cg, cl, rfl, eg, hcall⟩ := hc.val
  obtain ⟨ao, ca, rfl, hac, ham, hacl⟩ := ha
  unfold maxLen at ham
  have RA := hide hacl
  have HC := hide hcall
  have HY := hide hY
  have HII := hide hI
  have HIw := hide hIw
  have HJ := hide hJ
  have BA := hide bA
  have BC := hide bC
  clear hacl hcall hY hI hIw hJ bA bC hc
  obtain ⟨Z, hZ⟩ : ∃ Z, reps f 0 xs = Z := ⟨_, rfl⟩
  rw [hZ]
  have HZ := hide hZ
  clear hZ
  refine callsIn_of_wp Try.func53 rfl trivial ?_ rfl
  simp only [Try.ntmps53, List.size_toArray, List.length_cons, List.length_nil, Nat.reduceAdd, Nat.reduceSub, Array.replicate_succ, Array.replicate_zero, List.push_toArray, List.append_toArray, List.nil_append, List.cons_append]
  gi_wp2
  gi_loopw [4] (fun p wr => ∃ (i : Nat) (pre : List (Pl xs.length)), p = .int .i64 ((i + 1 : Nat) : Int) ∧ i ≤ xs.length ∧ Hid (pre.map Subtype.val ++ reps f i (xs.drop i) = Z) ∧ pre.length ≤ i ∧ Hid (BelX X n₀ w wr) ∧ W.heap.size ≤ wr.heap.size ∧ J pre wr)
    (fun p _ => xs.length + 1 - (intOf p).toNat)
  case atStart => exact ⟨0, [], rfl, by omega, hide (by simpa using HZ.out), by simp, hide (BelX.of hW hw), Nat.le_refl _, h0⟩
  case round =>
    obtain ⟨i, pre, rfl, hi, hpre, hpl, hB, hWr, hJw⟩ := hrel
    have bA := hB.out.boxed BA.out lA.1 lA.2
    have bC := hB.out.boxed BC.out lC.1 lC.2
    have cA := bA.cell
    have cC := bC.cell
    by_cases hi1 : i + 1 < xs.length
    · obtain ⟨ga, oa, rfl, Ga, la, ia⟩ := RA.out (by omega)
      have hi2 : i < xs.length := by omega
      obtain ⟨j, hj⟩ : ∃ j, i + 1 = j := ⟨_, rfl⟩
      have hj1 : j < xs.length := by omega
      have q1 : (j : Int) < (xs.length : Int) := by omega
      have q2 : (i : Int) < (xs.length : Int) := by omega
      have q3 : IntKind.i64.wrap ((j : Int) - 1) = (i : Int) := by rw [IntKind.wrap_i64]; omega
      have q4 : (0 : Int) ≤ (i : Int) := by omega
      rw [hj]
      obtain ⟨x1, hx1⟩ : ∃ x, xs[i]'hi2 = x := ⟨_, rfl⟩
      obtain ⟨y1, hy1⟩ : ∃ x, xs[j]'hj1 = x := ⟨_, rfl⟩
      obtain ⟨c1, c1b⟩ : wr.cell? ⟨ga, oa + i * 2, none⟩ = some (.int .i64 (xs[i]'hi2).1) ∧ wr.cell? ⟨ga, oa + i * 2 + 1, none⟩ = some (.int .i64 (xs[i]'hi2).2) := ⟨(hB.out.cell (p := ⟨ga, _, none⟩) Ga.1 Ga.2).trans (ia i hi2).1, (hB.out.cell (p := ⟨ga, _, none⟩) Ga.1 Ga.2).trans (ia i hi2).2⟩
      obtain ⟨c2, c2b⟩ : wr.cell? ⟨ga, oa + j * 2, none⟩ = some (.int .i64 (xs[j]'hj1).1) ∧ wr.cell? ⟨ga, oa + j * 2 + 1, none⟩ = some (.int .i64 (xs[j]'hj1).2) := ⟨(hB.out.cell (p := ⟨ga, _, none⟩) Ga.1 Ga.2).trans (ia j hj1).1, (hB.out.cell (p := ⟨ga, _, none⟩) Ga.1 Ga.2).trans (ia j hj1).2⟩
      rw [hx1] at c1 c1b
      rw [hy1] at c2 c2b
      have HJJ := hide hj
      clear hj
      by_cases hf : f (xs[i]'hi2) (xs[j]'hj1) = 0
      · have hfy : f x1 y1 = 0 := by rw [← hx1, ← hy1]; exact hf
        have HF := hide hf
        have HFY := hide hfy
        clear hf hfy
        gi_wp2
        have HWr : Hid (Below wr.heap.size wr wr.drew) := hide (Below.refl _ _).drew
        have HCX := hide (HC.out wr.drew x1 y1 (HII.out _ _ HIw.out (hB.out.trans (BelX.of HWr.out (Nat.le_trans hw hB.out.size)))))
        rw [HFY.out] at HCX
        refine wpHeld.region (C := fun u => u = wr.drew) (D := fun j => decide (10 ≤ j)) (by kernel_rfl) ?_
        refine wpHeld.tk (i := 0) (d := some 11) (v := .func (.func cg) #[] cl) (by kernel_rfl) rfl (by kernel_rfl) (by kernel_rfl) (by kernel_rfl) (by kernel_rfl) rfl (fun _ _ _ h => h) ⟨Or.inl ⟨by rfl, ?_⟩, fun _ => rfl⟩ rfl ?_
        · rintro _ rfl
          go_simp
        simp only [Act.put, List.setIfInBounds_toArray, List.set_cons_zero, List.set_cons_succ]
        refine wpHeld.tk (i := 1) (d := some 12) (v := .slice (some ⟨ga, oa, none⟩) xs.length ca) (by kernel_rfl) rfl (by kernel_rfl) (by kernel_rfl) (by kernel_rfl) (by kernel_rfl) rfl (fun _ _ _ h => h) ⟨Or.inl ⟨by rfl, ?_⟩, fun _ => rfl⟩ rfl ?_
        · rintro _ rfl
          go_simp
        simp only [Act.put, List.setIfInBounds_toArray, List.set_cons_zero, List.set_cons_succ]
        refine wpHeld.tk (i := 2) (d := some 13) (v := .int .i64 j) (by kernel_rfl) rfl (by kernel_rfl) (by kernel_rfl) (by kernel_rfl) (by kernel_rfl) rfl (fun _ _ _ h => h) ⟨Or.inl ⟨by rfl, ?_⟩, fun _ => rfl⟩ rfl ?_
        · rintro _ rfl
          go_simp
        simp only [Act.put, List.setIfInBounds_toArray, List.set_cons_zero, List.set_cons_succ]
        refine wpHeld.tk (i := 3) (d := some 14) (v := .int .i64 i) (by kernel_rfl) rfl (by kernel_rfl) (by kernel_rfl) (by kernel_rfl) (by kernel_rfl) rfl (fun _ _ _ h => h) ⟨Or.inl ⟨by rfl, ?_⟩, fun _ => rfl⟩ rfl ?_
        · rintro _ rfl
          go_simp
        simp only [Act.put, List.setIfInBounds_toArray, List.set_cons_zero, List.set_cons_succ]
        refine wpHeld.tk (i := 4) (d := some 15) (v := .pointer (some ⟨ga, oa + i * 2, none⟩)) (by kernel_rfl) rfl (by kernel_rfl) (by kernel_rfl) (by kernel_rfl) (by kernel_rfl) rfl (fun _ _ _ h => h) ⟨Or.inl ⟨by rfl, ?_⟩, fun _ => rfl⟩ rfl ?_
        · rintro _ rfl
          go_simp
        simp only [Act.put, List.setIfInBounds_toArray, List.set_cons_zero, List.set_cons_succ]
        refine wpHeld.tk (i := 5) (d := some 16) (v := .agg #[.int .i64 x1.1, .int .i64 x1.2]) (by kernel_rfl) rfl (by kernel_rfl) (by kernel_rfl) (by kernel_rfl) (by kernel_rfl) rfl (fun _ _ _ h => h) ⟨Or.inl ⟨by rfl, ?_⟩, fun _ => rfl⟩ rfl ?_
        · rintro _ rfl
          go_simp
        simp only [Act.put, List.setIfInBounds_toArray, List.set_cons_zero, List.set_cons_succ]
        refine wpHeld.tk (i := 6) (d := some 17) (v := .slice (some ⟨ga, oa, none⟩) xs.length ca) (by kernel_rfl) rfl (by kernel_rfl) (by kernel_rfl) (by kernel_rfl) (by kernel_rfl) rfl (fun _ _ _ h => h) ⟨Or.inl ⟨by rfl, ?_⟩, fun _ => rfl⟩ rfl ?_
        · rintro _ rfl
          go_simp
        simp only [Act.put, List.setIfInBounds_toArray, List.set_cons_zero, List.set_cons_succ]
        refine wpHeld.tk (i := 7) (d := some 18) (v := .int .i64 j) (by kernel_rfl) rfl (by kernel_rfl) (by kernel_rfl) (by kernel_rfl) (by kernel_rfl) rfl (fun _ _ _ h => h) ⟨Or.inl ⟨by rfl, ?_⟩, fun _ => rfl⟩ rfl ?_
        · rintro _ rfl
          go_simp
        simp only [Act.put, List.setIfInBounds_toArray, List.set_cons_zero, List.set_cons_succ]
        refine wpHeld.tk (i := 8) (d := some 19) (v := .pointer (some ⟨ga, oa + j * 2, none⟩)) (by kernel_rfl) rfl (by kernel_rfl) (by kernel_rfl) (by kernel_rfl) (by kernel_rfl) rfl (fun _ _ _ h => h) ⟨Or.inl ⟨by rfl, ?_⟩, fun _ => rfl⟩ rfl ?_
        · rintro _ rfl
          go_simp
        simp only [Act.put, List.setIfInBounds_toArray, List.set_cons_zero, List.set_cons_succ]
        refine wpHeld.tk (i := 9) (d := some 20) (v := .agg #[.int .i64 y1.1, .int .i64 y1.2]) (by kernel_rfl) rfl (by kernel_rfl) (by kernel_rfl) (by kernel_rfl) (by kernel_rfl) rfl (fun _ _ _ h => h) ⟨Or.inl ⟨by rfl, ?_⟩, fun _ => rfl⟩ rfl ?_
        · rintro _ rfl
          go_simp
        simp only [Act.put, List.setIfInBounds_toArray, List.set_cons_zero, List.set_cons_succ]
        refine wpHeld.one (i := 10) (by kernel_rfl) rfl (fun K hK => ?_)
        rw [if_pos (by rfl)]
        go_simp
        refine ⟨trivial, (callsIn_wide.2 HCX.out).mono ?_⟩
        rintro e w8 ⟨rfl, hb⟩
        have HKB := hide hb
        clear hb
        have Jp := HJ.out pre wr _ none hJw (ograwn (HWr.out.trans (HKB.out.mono HWr.out.size))) (fun r e => by cases e)
        obtain ⟨fn, tmps, assign, body, hy, hR⟩ := HY.out pre ⟨j, hj1⟩ w8 Jp (by rw [HZ.out, ← hpre.out, reps_yes hi1 (by simp only [HJJ.out]; exact HF.out), HJJ.out]; exact ⟨reps f j (xs.drop j), by simp⟩)
        dsimp only [plEncs] at hy
        refine hK _ _ ⟨fun h => absurd h (by decide), ?_⟩
        refine wpHeld.change (C' := fun _ => True) (D' := fun _ => false) _ _ _ _ (fun k hk => ?_) ?_
        · have hk' : k < 10 := by simpa using hk
          revert hk'
          revert k
          clear hK
          intro k hk hk'
          match k, hk' with
          | 0, _ => rfl
          | 1, _ => rfl
          | 2, _ => rfl
          | 3, _ => rfl
          | 4, _ => rfl
          | 5, _ => rfl
          | 6, _ => rfl
          | 7, _ => rfl
          | 8, _ => rfl
          | 9, _ => rfl
        clear hK K HCX
        refine wpHeld.tk (i := 11) (d := some 22) (v := .bool true) (by kernel_rfl) rfl (by kernel_rfl) (by kernel_rfl) (by kernel_rfl) (by kernel_rfl) rfl (fun _ _ _ h => h) ⟨Or.inl ⟨by rfl, ?_⟩, fun _ => rfl⟩ trivial ?_
        · rintro _ _
          go_simp
        simp only [Act.put, List.setIfInBounds_toArray, List.set_cons_zero, List.set_cons_succ]
        refine wpHeld.tk (i := 12) (d := some 23) (v := .bool true) (by kernel_rfl) rfl (by kernel_rfl) (by kernel_rfl) (by kernel_rfl) (by kernel_rfl) rfl (fun _ _ _ h => h) ⟨Or.inl ⟨by rfl, ?_⟩, fun _ => rfl⟩ trivial ?_
        · rintro _ _
          go_simp
        simp only [Act.put, List.setIfInBounds_toArray, List.set_cons_zero, List.set_cons_succ]
        refine wpHeld.tk (i := 13) (d := some 24) (v := .func (.yield l) #[] #[]) (by kernel_rfl) rfl (by kernel_rfl) (by kernel_rfl) (by kernel_rfl) (by kernel_rfl) rfl (fun _ _ _ h => h) ⟨Or.inl ⟨by rfl, ?_⟩, fun _ => rfl⟩ trivial ?_
        · rintro _ _
          go_simp
        simp only [Act.put, List.setIfInBounds_toArray, List.set_cons_zero, List.set_cons_succ]
        refine wpHeld.tk (i := 14) (d := some 25) (v := .int .i64 j) (by kernel_rfl) rfl (by kernel_rfl) (by kernel_rfl) (by kernel_rfl) (by kernel_rfl) rfl (fun _ _ _ h => h) ⟨Or.inl ⟨by rfl, ?_⟩, fun _ => rfl⟩ trivial ?_
        · rintro _ _
          go_simp
        simp only [Act.put, List.setIfInBounds_toArray, List.set_cons_zero, List.set_cons_succ]
        refine wpHeld.one (i := 15) (by kernel_rfl) rfl (fun K hK => ?_)
        rw [if_pos (by rfl)]
        go_simp
        refine hR.mono ?_
        rintro e W3 h3
        obtain ⟨b, rfl, h4⟩ := yield_one h3
        have H4 := hide h4
        clear h3 h4
        refine hK _ _ ⟨fun _ => trivial, ?_⟩
        clear hK K
        refine wpHeld.tk (i := 16) (d := some 27) (v := .bool (!b)) (by kernel_rfl) rfl (by kernel_rfl) (by kernel_rfl) (by kernel_rfl) (by kernel_rfl) rfl (fun _ _ _ h => h) ⟨Or.inl ⟨by rfl, ?_⟩, fun _ => rfl⟩ trivial ?_
        · rintro _ _
          go_simp
        simp only [Act.put, List.setIfInBounds_toArray, List.set_cons_zero, List.set_cons_succ]
        refine wpHeld.tk (i := 17) (d := some 28) (v := .bool (!b)) (by kernel_rfl) rfl (by kernel_rfl) (by kernel_rfl) (by kernel_rfl) (by kernel_rfl) rfl (fun _ _ _ h => h) ⟨Or.inl ⟨by rfl, ?_⟩, fun _ => rfl⟩ trivial ?_
        · rintro _ _
          go_simp
        simp only [Act.put, List.setIfInBounds_toArray, List.set_cons_zero, List.set_cons_succ]
        refine wpHeld.done (by kernel_rfl) ?_ _
        rcases H4.out with ⟨rfl, hJ3, hk3⟩ | ⟨rfl, hJx3⟩
        · have hB3 := hide (hB.out.trans ((BelX.of (HWr.out.trans (HKB.out.mono HWr.out.size)) (Nat.le_trans hw hB.out.size)).trans hk3))
          have hs3 := Nat.le_trans hWr (Nat.le_trans (HWr.out.trans (HKB.out.mono HWr.out.size)).size hk3.size)
          clear H4 hk3 hy hR Jp HKB
          gi_wp2
          go_roundw
          case rel => exact ⟨j, _, by simp, by omega, hide (by rw [← hpre.out, reps_yes hi1 (by simp only [HJJ.out]; exact HF.out)]; simp [HJJ.out]), by simp; have := HJJ.out; omega, hB3, hs3, hJ3⟩
          case measure => simp [intOf]; omega
        · clear H4 hy hR Jp HKB
          gi_wp2
          refine bodyPost_ret (results_none rfl _ _ _) rfl ?_
          refine ⟨⟨_, rfl⟩, .inr ⟨_, ?_, hJx3⟩⟩
          rw [← hpre.out, reps_yes hi1 (by simp only [HJJ.out]; exact HF.out)]
          exact ⟨reps f (i + 1) (xs.drop (i + 1)), by simp [HJJ.out]⟩
      · obtain ⟨fv, hfv⟩ : ∃ fv, f x1 y1 = fv := ⟨_, rfl⟩
        have hfy : (fv == 0) = false := by rw [← hfv, ← hx1, ← hy1]; simpa using hf
        have HF := hide hf
        have HFY := hide hfv
        clear hf hfv
        gi_wp2
        have HWr : Hid (Below wr.heap.size wr wr.drew) := hide (Below.refl _ _).drew
        have HCX := hide (HC.out wr.drew x1 y1 (HII.out _ _ HIw.out (hB.out.trans (BelX.of HWr.out (Nat.le_trans hw hB.out.size)))))
        rw [HFY.out] at HCX
        refine wpHeld.region (C := fun u => u = wr.drew) (D := fun j => decide (10 ≤ j)) (by kernel_rfl) ?_
        refine wpHeld.tk (i := 0) (d := some 11) (v := .func (.func cg) #[] cl) (by kernel_rfl) rfl (by kernel_rfl) (by kernel_rfl) (by kernel_rfl) (by kernel_rfl) rfl (fun _ _ _ h => h) ⟨Or.inl ⟨by rfl, ?_⟩, fun _ => rfl⟩ rfl ?_
        · rintro _ rfl
          go_simp
        simp only [Act.put, List.setIfInBounds_toArray, List.set_cons_zero, List.set_cons_succ]
        refine wpHeld.tk (i := 1) (d := some 12) (v := .slice (some ⟨ga, oa, none⟩) xs.length ca) (by kernel_rfl) rfl (by kernel_rfl) (by kernel_rfl) (by kernel_rfl) (by kernel_rfl) rfl (fun _ _ _ h => h) ⟨Or.inl ⟨by rfl, ?_⟩, fun _ => rfl⟩ rfl ?_
        · rintro _ rfl
          go_simp
        simp only [Act.put, List.setIfInBounds_toArray, List.set_cons_zero, List.set_cons_succ]
        refine wpHeld.tk (i := 2) (d := some 13) (v := .int .i64 j) (by kernel_rfl) rfl (by kernel_rfl) (by kernel_rfl) (by kernel_rfl) (by kernel_rfl) rfl (fun _ _ _ h => h) ⟨Or.inl ⟨by rfl, ?_⟩, fun _ => rfl⟩ rfl ?_
        · rintro _ rfl
          go_simp
        simp only [Act.put, List.setIfInBounds_toArray, List.set_cons_zero, List.set_cons_succ]
        refine wpHeld.tk (i := 3) (d := some 14) (v := .int .i64 i) (by kernel_rfl) rfl (by kernel_rfl) (by kernel_rfl) (by kernel_rfl) (by kernel_rfl) rfl (fun _ _ _ h => h) ⟨Or.inl ⟨by rfl, ?_⟩, fun _ => rfl⟩ rfl ?_
        · rintro _ rfl
          go_simp
        simp only [Act.put, List.setIfInBounds_toArray, List.set_cons_zero, List.set_cons_succ]
        refine wpHeld.tk (i := 4) (d := some 15) (v := .pointer (some ⟨ga, oa + i * 2, none⟩)) (by kernel_rfl) rfl (by kernel_rfl) (by kernel_rfl) (by kernel_rfl) (by kernel_rfl) rfl (fun _ _ _ h => h) ⟨Or.inl ⟨by rfl, ?_⟩, fun _ => rfl⟩ rfl ?_
        · rintro _ rfl
          go_simp
        simp only [Act.put, List.setIfInBounds_toArray, List.set_cons_zero, List.set_cons_succ]
        refine wpHeld.tk (i := 5) (d := some 16) (v := .agg #[.int .i64 x1.1, .int .i64 x1.2]) (by kernel_rfl) rfl (by kernel_rfl) (by kernel_rfl) (by kernel_rfl) (by kernel_rfl) rfl (fun _ _ _ h => h) ⟨Or.inl ⟨by rfl, ?_⟩, fun _ => rfl⟩ rfl ?_
        · rintro _ rfl
          go_simp
        simp only [Act.put, List.setIfInBounds_toArray, List.set_cons_zero, List.set_cons_succ]
        refine wpHeld.tk (i := 6) (d := some 17) (v := .slice (some ⟨ga, oa, none⟩) xs.length ca) (by kernel_rfl) rfl (by kernel_rfl) (by kernel_rfl) (by kernel_rfl) (by kernel_rfl) rfl (fun _ _ _ h => h) ⟨Or.inl ⟨by rfl, ?_⟩, fun _ => rfl⟩ rfl ?_
        · rintro _ rfl
          go_simp
        simp only [Act.put, List.setIfInBounds_toArray, List.set_cons_zero, List.set_cons_succ]
        refine wpHeld.tk (i := 7) (d := some 18) (v := .int .i64 j) (by kernel_rfl) rfl (by kernel_rfl) (by kernel_rfl) (by kernel_rfl) (by kernel_rfl) rfl (fun _ _ _ h => h) ⟨Or.inl ⟨by rfl, ?_⟩, fun _ => rfl⟩ rfl ?_
        · rintro _ rfl
          go_simp
        simp only [Act.put, List.setIfInBounds_toArray, List.set_cons_zero, List.set_cons_succ]
        refine wpHeld.tk (i := 8) (d := some 19) (v := .pointer (some ⟨ga, oa + j * 2, none⟩)) (by kernel_rfl) rfl (by kernel_rfl) (by kernel_rfl) (by kernel_rfl) (by kernel_rfl) rfl (fun _ _ _ h => h) ⟨Or.inl ⟨by rfl, ?_⟩, fun _ => rfl⟩ rfl ?_
        · rintro _ rfl
          go_simp
        simp only [Act.put, List.setIfInBounds_toArray, List.set_cons_zero, List.set_cons_succ]
        refine wpHeld.tk (i := 9) (d := some 20) (v := .agg #[.int .i64 y1.1, .int .i64 y1.2]) (by kernel_rfl) rfl (by kernel_rfl) (by kernel_rfl) (by kernel_rfl) (by kernel_rfl) rfl (fun _ _ _ h => h) ⟨Or.inl ⟨by rfl, ?_⟩, fun _ => rfl⟩ rfl ?_
        · rintro _ rfl
          go_simp
        simp only [Act.put, List.setIfInBounds_toArray, List.set_cons_zero, List.set_cons_succ]
        refine wpHeld.one (i := 10) (by kernel_rfl) rfl (fun K hK => ?_)
        rw [if_pos (by rfl)]
        go_simp
        refine ⟨trivial, (callsIn_wide.2 HCX.out).mono ?_⟩
        rintro e w8 ⟨rfl, hb⟩
        have HKB := hide hb
        clear hb
        have Jp := HJ.out pre wr _ none hJw (ograwn (HWr.out.trans (HKB.out.mono HWr.out.size))) (fun r e => by cases e)
        refine hK _ _ ⟨fun h => absurd h (by decide), ?_⟩
        refine wpHeld.change (C' := fun _ => True) (D' := fun _ => false) _ _ _ _ (fun k hk => ?_) ?_
        · have hk' : k < 10 := by simpa using hk
          revert hk'
          revert k
          clear hK
          intro k hk hk'
          match k, hk' with
          | 0, _ => rfl
          | 1, _ => rfl
          | 2, _ => rfl
          | 3, _ => rfl
          | 4, _ => rfl
          | 5, _ => rfl
          | 6, _ => rfl
          | 7, _ => rfl
          | 8, _ => rfl
          | 9, _ => rfl
        clear hK K HCX
        refine wpHeld.tk (i := 11) (d := some 22) (v := .bool false) (by kernel_rfl) rfl (by kernel_rfl) (by kernel_rfl) (by kernel_rfl) (by kernel_rfl) rfl (fun _ _ _ h => h) ⟨Or.inl ⟨by rfl, ?_⟩, fun _ => rfl⟩ trivial ?_
        · rintro _ _
          go_simp
        simp only [Act.put, List.setIfInBounds_toArray, List.set_cons_zero, List.set_cons_succ]
        refine wpHeld.tk (i := 12) (d := some 23) (v := .bool false) (by kernel_rfl) rfl (by kernel_rfl) (by kernel_rfl) (by kernel_rfl) (by kernel_rfl) rfl (fun _ _ _ h => h) ⟨Or.inl ⟨by rfl, ?_⟩, fun _ => rfl⟩ trivial ?_
        · rintro _ _
          go_simp
        simp only [Act.put, List.setIfInBounds_toArray, List.set_cons_zero, List.set_cons_succ]
        refine wpHeld.tk (i := 13) (d := some 24) (v := undef) (by kernel_rfl) rfl (by kernel_rfl) (by kernel_rfl) (by kernel_rfl) (by kernel_rfl) rfl (fun _ _ _ h => h) ⟨Or.inr ⟨by rfl, rfl⟩, fun _ => rfl⟩ trivial ?_
        simp only [Act.put, List.setIfInBounds_toArray, List.set_cons_zero, List.set_cons_succ]
        refine wpHeld.tk (i := 14) (d := some 25) (v := undef) (by kernel_rfl) rfl (by kernel_rfl) (by kernel_rfl) (by kernel_rfl) (by kernel_rfl) rfl (fun _ _ _ h => h) ⟨Or.inr ⟨by rfl, rfl⟩, fun _ => rfl⟩ trivial ?_
        simp only [Act.put, List.setIfInBounds_toArray, List.set_cons_zero, List.set_cons_succ]
        refine wpHeld.tk (i := 15) (d := some 26) (v := undef) (by kernel_rfl) rfl (by kernel_rfl) (by kernel_rfl) (by kernel_rfl) (by kernel_rfl) rfl (fun _ _ _ h => h) ⟨Or.inr ⟨by rfl, rfl⟩, fun _ => rfl⟩ trivial ?_
        simp only [Act.put, List.setIfInBounds_toArray, List.set_cons_zero, List.set_cons_succ]
        refine wpHeld.tk (i := 16) (d := some 27) (v := undef) (by kernel_rfl) rfl (by kernel_rfl) (by kernel_rfl) (by kernel_rfl) (by kernel_rfl) rfl (fun _ _ _ h => h) ⟨Or.inr ⟨by rfl, rfl⟩, fun _ => rfl⟩ trivial ?_
        simp only [Act.put, List.setIfInBounds_toArray, List.set_cons_zero, List.set_cons_succ]
        refine wpHeld.tk (i := 17) (d := some 28) (v := .bool false) (by kernel_rfl) rfl (by kernel_rfl) (by kernel_rfl) (by kernel_rfl) (by kernel_rfl) rfl (fun _ _ _ h => h) ⟨Or.inl ⟨by rfl, ?_⟩, fun _ => rfl⟩ trivial ?_
        · rintro _ _
          go_simp
        simp only [Act.put, List.setIfInBounds_toArray, List.set_cons_zero, List.set_cons_succ]
        refine wpHeld.done (by kernel_rfl) ?_ _
        have hB3 := hide (hB.out.trans (BelX.of (HWr.out.trans (HKB.out.mono HWr.out.size)) (Nat.le_trans hw hB.out.size)))
        have hs3 := Nat.le_trans hWr (HWr.out.trans (HKB.out.mono HWr.out.size)).size
        clear HKB
        gi_wp2
        go_roundw
        case rel => exact ⟨j, pre, by simp, by omega, hide (by rw [← hpre.out, reps_no hi1 (by simp only [HJJ.out]; exact HF.out), HJJ.out]), by have := HJJ.out; omega, hB3, hs3, Jp⟩
        case measure => simp [intOf]; omega
    · have q1 : ¬ (i : Int) + 1 < (xs.length : Int) := by omega
      gi_wp2
      go_end0
      exact ⟨⟨_, rfl⟩, .inl ⟨pre, by have := hpre.out; rw [reps_end hi1] at this; simpa using this, hJw⟩⟩

theorem itrep_told {n Ba Bc n₀ : Nat} {X : Nat → Prop} {I : World → Prop} {w : World} {va cv : Value} {xs : List It} {f : It → It → Int} (hn : 1 ≤ n)
    (bA : Boxed w Ba 22 va) (bC : Boxed w Bc 28 cv) (lA : Ba < n₀ ∧ ¬ X Ba) (lC : Bc < n₀ ∧ ¬ X Bc)
    (ha : ItRd (fun g => g < n₀ ∧ ¬ X g) w va xs) (hc : CmpIs I cv f) (hIw : I w) (hI : ∀ W W', I W → BelX X n₀ W W' → I W') (hw : n₀ ≤ w.heap.size) (hx : xs.length ≤ 4611686018427387903) :
    SeqP Fence.wide n Try.prog 53 #[.pointer (some ⟨Ba, 0, none⟩), .pointer (some ⟨Bc, 0, none⟩)] (plEncs xs.length) (BelX X n₀) (fun pre x => (pre ++ [x]).map Subtype.val <+: reps f 0 xs) (fun zs => zs.map Subtype.val = reps f 0 xs) (fun pre => pre.map Subtype.val <+: reps f 0 xs) w := fun l J Jx W hW hJ _ hY h0 =>
  itrep1_in hn bA bC lA lC ha hc hIw hI hw hx J Jx hY W hJ hW h0

end Go.Proofs.Ytomieeajmelglaa

namespace Go.Proofs.Ytomieeajmelglaa
set_option linter.unusedVariables false

theorem reps_gt {α : Type} (f : α → α → Int) : ∀ (xs : List α) (k : Nat), ∀ x ∈ reps f k xs, k < x ∧ x < k + xs.length
  | [], k, x, h => by simp [reps] at h
  | [a], k, x, h => by simp [reps] at h
  | a :: b :: t, k, x, h => by
    have ih := reps_gt f (b :: t) (k + 1) x
    simp only [List.length_cons] at ih ⊢
    unfold reps at h
    split at h
    · rcases List.mem_cons.1 h with rfl | h
      · omega
      · have := ih h
        omega
    · have := ih h
      omega
theorem reps_inc {α : Type} (f : α → α → Int) : ∀ (xs : List α) (k : Nat), (reps f k xs).Pairwise (· < ·)
  | [], k => by simp [reps]
  | [a], k => by simp [reps]
  | a :: b :: t, k => by
    have ih := reps_inc f (b :: t) (k + 1)
    unfold reps
    split
    · exact List.pairwise_cons.2 ⟨fun x h => (reps_gt f _ _ x h).1, ih⟩
    · exact ih
/-- what is kept, and where the next begins -/
def unqS {α : Type} (xs : List α) (s : List α × Nat) (i : Nat) : List α × Nat := (s.1 ++ (xs.take i).drop s.2, i + 1)
def unq {α : Type} (f : α → α → Int) (xs : List α) : List α := ((reps f 0 xs).foldl (unqS xs) ([], 0)).1 ++ xs.drop ((reps f 0 xs).foldl (unqS xs) ([], 0)).2
theorem unqS_inv {α : Type} (xs : List α) : ∀ (p : List Nat), p.Pairwise (· < ·) → (∀ x ∈ p, x < xs.length) → (p.foldl (unqS xs) ([], 0)).2 ≤ xs.length ∧ (p.foldl (unqS xs) ([], 0)).1.length ≤ (p.foldl (unqS xs) ([], 0)).2 ∧ ∀ x, (∀ y ∈ p, y < x) → (p.foldl (unqS xs) ([], 0)).2 ≤ x := by
  intro p
  induction hp : p.length generalizing p with
  | zero =>
    intro _ _
    obtain rfl := List.eq_nil_of_length_eq_zero hp
    simp
  | succ n ih =>
    intro h1 h2
    have hne : p ≠ [] := by intro e; subst e; simp at hp
    obtain ⟨q, y, rfl⟩ : ∃ q y, p = q ++ [y] := ⟨p.dropLast, p.getLast hne, (List.dropLast_concat_getLast hne).symm⟩
    obtain ⟨g1, g2, g3⟩ := List.pairwise_append.1 h1
    obtain ⟨i1, i2, i3⟩ := ih q (by simp at hp; omega) g1 (fun x h => h2 x (by simp [h]))
    have hy : y < xs.length := h2 y (by simp)
    have i4 := i3 y (fun z hz => g3 z hz y (by simp))
    rw [List.foldl_append]
    simp only [List.foldl_cons, List.foldl_nil, unqS, List.length_append, List.length_drop, List.length_take]
    refine ⟨by omega, by omega, fun x hx => ?_⟩
    have := hx y (by simp)
    omega
/-- at the next place that is told -/
theorem unqS_at {α : Type} {f : α → α → Int} {xs : List α} {p : List Nat} {x : Nat} (h : p ++ [x] <+: reps f 0 xs) : x < xs.length ∧ (p.foldl (unqS xs) ([], 0)).2 ≤ x ∧ (p.foldl (unqS xs) ([], 0)).1.length ≤ (p.foldl (unqS xs) ([], 0)).2 := by
  have hP := (reps_inc f xs 0).sublist h.sublist
  obtain ⟨g1, g2, g3⟩ := List.pairwise_append.1 hP
  have hm : ∀ y ∈ p ++ [x], y < xs.length := fun y hy => by have := (reps_gt f xs 0 y (h.subset hy)).2; omega
  obtain ⟨i1, i2, i3⟩ := unqS_inv xs p g1 (fun y hy => hm y (by simp [hy]))
  exact ⟨hm x (by simp), i3 x (fun z hz => g3 z hz x (by simp)), i2⟩
theorem unqS_end {α : Type} (f : α → α → Int) (xs : List α) : ((reps f 0 xs).foldl (unqS xs) ([], 0)).2 ≤ xs.length ∧ ((reps f 0 xs).foldl (unqS xs) ([], 0)).1.length ≤ ((reps f 0 xs).foldl (unqS xs) ([], 0)).2 := by
  obtain ⟨i1, i2, _⟩ := unqS_inv xs _ (reps_inc f xs 0) (fun y hy => by have := (reps_gt f xs 0 y hy).2; omega)
  exact ⟨i1, i2⟩

end Go.Proofs.Ytomieeajmelglaa

namespace Go.Proofs.Ytomieeajmelglaa
open Go.RowKit Go.Shelf
set_option linter.unusedVariables false
set_option linter.unusedSimpArgs false
attribute [local go_sem] Oper.semAt_some

theorem owns_on {W W' : World} {base e n : Nat} {v : Value} {xs : List Value} {row : Option Nat} (h : W.ownsRow base e 2 v n xs) (hg : W.grownBy W' row) (hr : ∀ r, row = some r → r < base ∨ ∃ o : Obj, W.heap[r]? = some o ∧ o.isCells = false) : W'.ownsRow base e 2 v n xs := by
  obtain ⟨h0, h1 | ⟨g, cap, cur, h1, h2, h3, h4⟩⟩ := h
  · exact ⟨h0, .inl h1⟩
  · refine ⟨h0, .inr ⟨g, cap, cur, h1, h2, (hg.block g (Array.getElem?_eq_some_iff.1 h3).1 (fun e => ?_)).trans h3, h4⟩⟩
    rcases hr g e.symm with h | ⟨o, ho, hc⟩
    · omega
    · rw [h3] at ho
      cases ho
      cases hc
theorem owns_row {W : World} {base e n : Nat} {v : Value} {xs : List Value} (h : W.ownsRow base e 2 v n xs) {k : Nat} (hk : v.ownBlock = some k) : base ≤ k ∧ ∃ cur, W.heap[k]? = some (.cells cur e (0, 0)) := by
  obtain ⟨h0, ⟨rfl, _⟩ | ⟨g, cap, cur, rfl, h2, h3, h4⟩⟩ := h
  · cases hk
  · cases hk
    exact ⟨h2, cur, h3⟩
theorem run_append_items {w : World} {base n : Nat} {v va : Value} {ys : List Value} {l : List It} (hown : w.ownsRow base 27 2 v n ys) (hrd : ItRd (fun _ => True) w va l) (hno : ∀ c, va = .slice none 0 c → c = 0)
    (h63 : n + l.length ≤ maxLen) (hby : (n + l.length) * 16 ≤ 140737488355328) (hbase : base ≤ w.heap.size) (ty : TypeId) :
    ∃ v' w', (Builtin.append_ #[22, 22] ty #[v, va]).run Try.prog w = .ok v' w' ∧ w'.ownsRow base 27 2 v' (n + l.length) (ys ++ flat l) ∧ w.grownBy w' v.ownBlock := by
  obtain ⟨i0, hi0, hz0, hz1, hz2⟩ := info_parts itinfoM
  obtain ⟨ao, ca, rfl, hac, ham, hcl⟩ := hrd
  rcases ao with _ | ad
  · have e : l.length = 0 := by
      rcases Nat.eq_zero_or_pos l.length with e | e
      · exact e
      · obtain ⟨g, o', he, _⟩ := hcl e
        cases he
    obtain rfl := List.eq_nil_of_length_eq_zero e
    obtain rfl := hno ca rfl
    exact ⟨v, w, run_append_owned_none (P := Try.prog) (w := w) base 22 ty 27 i0 2 Try.underlying22 hi0 v n ys hown, by simpa [flat] using hown, ⟨rfl, rfl, rfl, Nat.le_refl _, fun _ _ _ => rfl⟩⟩
  · obtain ⟨v', w', h1, h2, h3, _⟩ := run_append_own (P := Try.prog) w base 22 ty 27 i0 _ 2 16 Try.underlying22 hi0 hz0 hz1 hz2 rfl (by decide) v n ys hown ad l.length ca (flat l) (flat_len l) (by
      by_cases e : l.length = 0
      · obtain rfl := List.eq_nil_of_length_eq_zero e
        intro j u hu
        simp [flat] at hu
      · obtain ⟨g, o', he, _, hg, hin⟩ := hcl (by omega)
        cases he
        exact news_items hin) (flat_one l) h63 hby hbase
    exact ⟨v', w', h1, h2, h3⟩

/-- between two rounds -/
def UqI (xs : List It) (B : Nat) (w8 : World) (pre : List (Pl xs.length)) (W : World) : Prop := ∃ v, W.ownsRow w8.heap.size 27 2 v ((pre.map Subtype.val).foldl (unqS xs) ([], 0)).1.length (flat ((pre.map Subtype.val).foldl (unqS xs) ([], 0)).1) ∧ Boxed W (B + 1) 22 v ∧ Boxed W (B + 1 + 1) 3 (.int .i64 ((((pre.map Subtype.val).foldl (unqS xs) ([], 0)).2 : Nat) : Int)) ∧ BelX (fun k => k = B + 1 ∨ k = B + 1 + 1) w8.heap.size w8 W
theorem uqi_own {xs : List It} {B : Nat} {w8 : World} (h1 : B + 2 < w8.heap.size) : OwnFrom w8.heap.size (UqI xs B w8) := by
  rintro pre W W' row ⟨v, a, b, c, f⟩ hg hr
  have ne : ∀ r, r < w8.heap.size → some r ≠ row := fun r h e => by have := (hr r e.symm).1; omega
  exact ⟨v, owns_on a hg (fun r e => .inr (hr r e).2), b.kept hg (ne _ (by omega)), c.kept hg (ne _ (by omega)), f.trans (BelX.grown hg f.size (fun r e => .inl (hr r e).1))⟩
theorem uqi_step {xs : List It} {B i : Nat} {w8 : World} {pre : List (Pl xs.length)} {x : Pl xs.length} {W w2 : World} {v v' : Value} {s : List It × Nat} (h1 : B + 2 < w8.heap.size) (hs : (pre.map Subtype.val).foldl (unqS xs) ([], 0) = s)
    (a : W.ownsRow w8.heap.size 27 2 v s.1.length (flat s.1)) (b : Boxed W (B + 1) 22 v) (c : Boxed W (B + 1 + 1) 3 (.int .i64 (s.2 : Int))) (f : BelX (fun k => k = B + 1 ∨ k = B + 1 + 1) w8.heap.size w8 W)
    (ho : w2.ownsRow w8.heap.size 27 2 v' (s.1.length + ((xs.take x.1).drop s.2).length) (flat s.1 ++ flat ((xs.take x.1).drop s.2))) (hg : W.drew.grownBy w2 v.ownBlock) :
    KeepsFrom w8.heap.size W ((w2.setCell ⟨B + 1, 0, none⟩ v').setCell ⟨B + 1 + 1, 0, none⟩ (.int .i64 ((x.1 : Int) + 1))) ∧ BelX (fun k => k = B + 1 ∨ k = B + 1 + 1) w8.heap.size W ((w2.setCell ⟨B + 1, 0, none⟩ v').setCell ⟨B + 1 + 1, 0, none⟩ (.int .i64 ((x.1 : Int) + 1))) ∧ UqI xs B w8 (pre ++ [x]) ((w2.setCell ⟨B + 1, 0, none⟩ v').setCell ⟨B + 1 + 1, 0, none⟩ (.int .i64 ((x.1 : Int) + 1))) := by
  have rw1 : ∀ k, v.ownBlock = some k → w8.heap.size ≤ k := fun k hk => (owns_row a hk).1
  have nb : ∀ k, k < w8.heap.size → some k ≠ v.ownBlock := fun k hk e => by have := rw1 k e.symm; omega
  have b0 : BelX (fun k => k = B + 1 ∨ k = B + 1 + 1) w8.heap.size W W.drew := BelX.of ((Below.refl W.heap.size W).drew) f.size
  have b1 : BelX (fun k => k = B + 1 ∨ k = B + 1 + 1) w8.heap.size W.drew w2 := BelX.grown hg f.size (fun k e => .inl (rw1 k e))
  have bx := ((b0.trans b1).trans (belx_set (i := 0) w2 v' (.inl rfl : B + 1 = B + 1 ∨ B + 1 = B + 1 + 1))).trans (belx_set (i := 0) (w2.setCell ⟨B + 1, 0, none⟩ v') (.int .i64 ((x.1 : Int) + 1)) (.inr rfl : B + 1 + 1 = B + 1 ∨ B + 1 + 1 = B + 1 + 1))
  refine ⟨?_, bx, v', ?_, ?_, ?_, f.trans bx⟩
  · refine (((KeepsOthers.drew W).trans (KeepsOthers.of_grownBy hg (fun j o hj ho' => ?_))).trans ((KeepsOthers.setCell _ _ _).trans (KeepsOthers.setCell _ _ _))).from _
    obtain ⟨cur, hc⟩ := (owns_row a hj).2
    have : W.drew.heap[j]? = some (.cells cur 27 (0, 0)) := hc
    rw [this] at ho'
    cases ho'
    rfl
  · rw [List.map_append, List.foldl_append, hs]
    simp only [List.map_cons, List.map_nil, List.foldl_cons, List.foldl_nil, unqS, List.length_append, flat_append]
    exact owns_on (owns_on ho (grownBy_setCell' _ _ _) (fun r e => by cases e; exact .inl (by omega))) (grownBy_setCell' _ _ _) (fun r e => by cases e; exact .inl (by omega))
  · exact ((show Boxed W.drew (B + 1) 22 v from b).kept hg (nb _ (by omega))).set v' |>.other (by omega) _
  · rw [List.map_append, List.foldl_append, hs]
    simp only [List.map_cons, List.map_nil, List.foldl_cons, List.foldl_nil, unqS]
    exact (((show Boxed W.drew (B + 1 + 1) 3 _ from c).kept hg (nb _ (by omega))).other (by omega) _).set _

end Go.Proofs.Ytomieeajmelglaa

namespace Go.Proofs.Ytomieeajmelglaa
open Go.RowKit Go.Shelf
set_option linter.unusedVariables false
set_option linter.unusedSimpArgs false
attribute [local go_sem] Oper.semAt_some

theorem opIn_append {F : Fence} {n : Nat} {o : Oper} {a : Act} {w w' : World} {K : Act → World → Prop} {Q : Exit → Act → World → Prop} (s x : Operand) (hop : o.op = .call { callee := .builtin .append, args := #[s, x], argTypes := #[22, 22] })
    {v va v' : Value} (hs : a.eval s = v) (hx : a.eval x = va) (hrun : (Builtin.append_ #[22, 22] o.type #[v, va]).run Try.prog w = .ok v' w') (h : K (a.put o.dst v') w') : Oper.wpIn F n Try.prog o a w K Q := by
  unfold Oper.wpIn
  refine ⟨by simp [Oper.about, hop, resolve, Target.leads, Sem.run_pure], ?_⟩
  rw [Oper.semAt_plain F _ _ (by rw [hop]; intro c hc'; cases hc')]
  simp [execOp, hop, resolve, invoke, builtin, hs, hx, hrun, Result.andThen]
  exact h
theorem op_append {o : Oper} {a : Act} {w w' : World} {K : Act → World → Prop} {Q : Exit → Act → World → Prop} (s x : Operand) (hop : o.op = .call { callee := .builtin .append, args := #[s, x], argTypes := #[22, 22] })
    {v va v' : Value} (hs : a.eval s = v) (hx : a.eval x = va) (hrun : (Builtin.append_ #[22, 22] o.type #[v, va]).run Try.prog w = .ok v' w') (h : K (a.put o.dst v') w') : Oper.wp Try.prog o a w K Q := by
  unfold Oper.wp
  simp [execOp, hop, resolve, invoke, builtin, hs, hx, hrun, Result.andThen]
  exact h
theorem wp_np {P : Program} {c : Code} {Q : Exit → Act → World → Prop} {a : Act} {w : World} (h : c.wp P (fun e a w => e = .normal ∧ Q .normal a w) a w) : c.wp P Q a w := Code.wp_mono (fun e a w ⟨h1, h2⟩ => by subst h1; exact h2) h
theorem owns_put {u : World} {base e n D : Nat} {v : Value} {xs : List Value} {o o' : Obj} (h : u.ownsRow base e 2 v n xs) (hu : u.heap[D]? = some o) (ho : o.isCells = false) : (u.putObj D o').ownsRow base e 2 v n xs := by
  obtain ⟨h0, h1 | ⟨g, cap, cur, h1, h2, h3, h4⟩⟩ := h
  · exact ⟨h0, .inl h1⟩
  · refine ⟨h0, .inr ⟨g, cap, cur, h1, h2, (World.putObj_heap_other (fun e => ?_)).trans h3, h4⟩⟩
    subst e
    rw [h3] at hu
    cases hu
    cases ho
theorem owns_base {u : World} {b base e n : Nat} {v : Value} {xs : List Value} (hb : b ≤ base) (h : u.ownsRow base e 2 v n xs) : u.ownsRow b e 2 v n xs := by
  obtain ⟨h0, h1 | ⟨g, cap, cur, h1, h2, h3, h4⟩⟩ := h
  · exact ⟨h0, .inl h1⟩
  · exact ⟨h0, .inr ⟨g, cap, cur, h1, Nat.le_trans hb h2, h3, h4⟩⟩
set_option maxRecDepth 100000 in
set_option maxHeartbeats 8000000 in
theorem unique_any {w : World} {va cv : Value} {xs : List It} {f : It → It → Int} {I : World → Prop} (ha : ItRd (fun _ => True) w va xs) (hno : ∀ c, va = .slice none 0 c → c = 0) (hl : xs.length ≤ 8796093022200)
    (hc : CmpIs I cv f) (hIw : I w) (hI : ∀ W W', I W → Below w.heap.size W W' → I W') :
    Calls Try.prog 17 #[va, cv] w fun e w' => (∃ v, e = .returned v ∧ w'.ownsRow w.heap.size 27 2 v (unq f xs).length (flat (unq f xs))) ∧ Below w.heap.size w w' := by
  obtain ⟨Z, hZ⟩ : ∃ Z, unq f xs = Z := ⟨_, rfl⟩
  rw [hZ]
  have HZ := hide hZ
  clear hZ
  have hcc := hc
  obtain ⟨cg, cl, rfl, eg, hcall⟩ := hc.val
  have HA := hide ha
  obtain ⟨ao, ca, rfl, hac, ham, -⟩ := ha
  have NO := hide hno
  have HCC := hide hcc
  have HIw := hide hIw
  have HI := hide hI
  unfold maxLen at ham
  have hfn : ∀ (w : World) f a c, (binOp .eql 28 (.func f a c) .nilFunc).run Try.prog w = .ok (.bool false) w := ofunc_nil itdesc
  obtain ⟨W3, hW3⟩ : ∃ u, ((w.alloc (.cells #[.slice ao xs.length ca] 22)).alloc (.cells #[.slice none 0 0] 22)).alloc (.cells #[.int .i64 0] 3) = u := ⟨_, rfl⟩
  have K3 : Below w.heap.size w W3 := by rw [← hW3]; exact (((Below.refl _ w).alloc (Nat.le_refl _) _).alloc (by simp) _).alloc (by simp; omega) _
  have bL : Boxed W3 w.heap.size 22 (.slice ao xs.length ca) := by rw [← hW3]; exact ((Boxed.new _ _ _).alloc _).alloc _
  have bO : Boxed W3 (w.heap.size + 1) 22 (.slice none 0 0) := by
    rw [← hW3]
    have := (Boxed.new (w.alloc (.cells #[.slice ao xs.length ca] 22)) 22 (.slice none 0 0)).alloc (.cells #[.int .i64 0] 3)
    simpa using this
  have bN : Boxed W3 (w.heap.size + 1 + 1) 3 (.int .i64 0) := by
    rw [← hW3]
    have := Boxed.new ((w.alloc (.cells #[.slice ao xs.length ca] 22)).alloc (.cells #[.slice none 0 0] 22)) 3 (.int .i64 0)
    simpa using this
  have s3 : w.heap.size + 2 < W3.heap.size := bN.lt
  have HW3 := hide hW3
  clear hcc hc hcall hIw hI hno hW3
  refine (callsIn_wide (n := 4)).1 ?_
  refine callsIn_of_wp_marks Try.func17 rfl trivial ?_ rfl
  simp only [Try.ntmps17, List.size_toArray, List.length_cons, List.length_nil, Nat.reduceAdd, Nat.reduceSub, Array.replicate_succ, Array.replicate_zero, List.push_toArray, List.append_toArray, List.nil_append, List.cons_append]
  refine wpIn_wide.2 ?_
  go_wp2_with fail
  rw [HW3.out]
  refine itrep_box.mono ?_
  rintro e w8 ⟨rfl, b1, b2, hb8⟩
  have s8 : W3.heap.size + 1 < w8.heap.size := b2.lt
  have h82 : w.heap.size + 2 < w8.heap.size := by omega
  have K8 : Hid (Below w.heap.size w w8) := hide (K3.trans (hb8.mono K3.size))
  have BL : Hid (Boxed w8 w.heap.size 22 (.slice ao xs.length ca)) := hide ((hb8.block _ bL.lt).trans bL)
  have BO : Hid (Boxed w8 (w.heap.size + 1) 22 (.slice none 0 0)) := hide ((hb8.block _ bO.lt).trans bO)
  have BN : Hid (Boxed w8 (w.heap.size + 1 + 1) 3 (.int .i64 0)) := hide ((hb8.block _ bN.lt).trans bN)
  have RA : Hid (ItRd (fun g => g < w8.heap.size ∧ ¬ (g = w.heap.size + 1 ∨ g = w.heap.size + 1 + 1)) w8 (.slice ao xs.length ca) xs) := hide (((HA.out.mono (H := fun g => g < w.heap.size) (fun g hg _ => hg)).below K8.out).mono (fun g hg h => ⟨hg, by omega⟩))
  have hseq := itrep_told (n := 3) (X := fun k => k = w.heap.size + 1 ∨ k = w.heap.size + 1 + 1) (n₀ := w8.heap.size) (by omega) b1 b2 ⟨by omega, by omega⟩ ⟨by omega, by omega⟩ RA.out HCC.out (HI.out w w8 HIw.out K8.out) (fun U U' h kk => HI.out U U' h (kk.below (by omega) (fun k hk e => by omega))) (Nat.le_refl _) (by omega)
  have HSEQ := hide hseq
  have H8 := hide h82
  clear hseq b1 b2 hb8 bL bO bN K3 HW3 hfn s3 s8 h82
  go_wp2_with fail
  refine (wpIn_wide (n := 4)).1 ?_
  refine' wpIn_rangeP rfl (by omega) (gf := 53) (lb := #[.pointer (some ⟨W3.heap.size, 0, none⟩), .pointer (some ⟨W3.heap.size + 1, 0, none⟩)]) (by simp [go_sem]) trivial (enters_of Try.func53 (by kernel_rfl) rfl)
    HSEQ.out BelX.trans (fun W l o' hl => belx_putObj o' hl) (fun A C hb hs => BelX.of hb hs) (Below.refl _ _) (fun _ => rfl)
    (fun pre W' => UqI xs w.heap.size w8 pre W') (fun _ _ _ => False) (uqi_own H8.out) (fun _ _ _ _ _ hs _ _ => hs) ⟨_, by simpa [flat] using World.ownsRow_nil _ _ _ _, BO.out, BN.out, BelX.refl _ _ _⟩
    (fun x a' W' => a' = { tmps := #[.slice ao xs.length ca, .func (.func cg) #[] cl, .pointer (some ⟨w.heap.size, 0, none⟩), undef, .slice none 0 0, .pointer (some ⟨w.heap.size + 1, 0, none⟩), .pointer (some ⟨w.heap.size + 1 + 1, 0, none⟩), .int .i64 x.1, .func (.func cg) #[] cl, .bool false, .slice ao xs.length ca, .func (.func cg) #[] cl, .func (.func 53) #[] #[.pointer (some ⟨W3.heap.size, 0, none⟩), .pointer (some ⟨W3.heap.size + 1, 0, none⟩)], .int .i64 x.1, undef, undef, undef, undef, undef, undef, undef, undef, undef, undef, undef, undef, undef], defers := [] }) (fun _ _ _ _ _ _ h _ => h) ?hassign ?hbody ?hdone ?hstop
  case hassign =>
    rintro l x W' K hK
    gi_wp2
    exact hK _ _ (Below.refl _ _) rfl
  case hbody =>
    rintro l pre x a' W' hi hrd rfl hsz
    obtain ⟨v, r1, r2, r3, r4⟩ := hi
    rw [List.map_append] at hrd
    obtain ⟨hx1, hx2, hx3⟩ := unqS_at hrd
    obtain ⟨s, hs⟩ : ∃ s, (pre.map Subtype.val).foldl (unqS xs) ([], 0) = s := ⟨_, rfl⟩
    rw [hs] at hx2 hx3 r1 r3
    obtain ⟨x, hx⟩ := x
    simp only at hx1 hx2
    obtain ⟨ga, oa, rfl, hga, hin⟩ : ∃ ga oa, ao = some ⟨ga, oa, none⟩ ∧ (ga < w8.heap.size ∧ ¬ (ga = w.heap.size + 1 ∨ ga = w.heap.size + 1 + 1)) ∧ ItIn w8 ga oa xs := by
      obtain ⟨ao', ca', h1, h2, h3, h4⟩ := RA.out
      cases h1
      obtain ⟨g, o', h5, h6, h7, h8⟩ := h4 (by omega)
      exact ⟨g, o', h5, h6, h8⟩
    have cL := (r4.boxed BL.out (by have := H8.out; omega) (by omega)).cell
    have c1 := r2.cell
    have c2 := r3.cell
    have hsub : ((xs.take x).drop s.2).length = x - s.2 := by rw [List.length_drop, List.length_take]; omega
    have RS : ItRd (fun _ => True) W'.drew (.slice (some ⟨ga, oa + s.2 * 2, none⟩) (x - s.2) (ca - s.2)) ((xs.take x).drop s.2) := by
      refine ⟨_, ca - s.2, by rw [hsub], by omega, by unfold maxLen; omega, fun hp => ⟨ga, _, rfl, trivial, Nat.lt_of_lt_of_le hga.1 r4.size, fun i hi => ?_⟩⟩
      have q := hin (s.2 + i) (by omega)
      have e : ((xs.take x).drop s.2)[i] = xs[s.2 + i]'(by omega) := by rw [List.getElem_drop, List.getElem_take]
      rw [e, show oa + s.2 * 2 + i * 2 = oa + (s.2 + i) * 2 by omega]
      exact ⟨(r4.cell (p := ⟨ga, _, none⟩) hga.1 hga.2).trans q.1, (r4.cell (p := ⟨ga, _, none⟩) hga.1 hga.2).trans q.2⟩
    obtain ⟨v', w2, hrun, ho, hg⟩ := run_append_items (w := W'.drew) (base := w8.heap.size) (v := v) r1 RS (by intro c h; cases h) (by rw [hsub]; unfold maxLen; omega) (by rw [hsub]; omega) r4.size 22
    have SHP : Hid (v' = .slice none 0 0 ∨ ∃ g n c, v' = .slice (some ⟨g, 0, none⟩) n c) := hide (by
      obtain ⟨_, ⟨e, _⟩ | ⟨g, cap, cur, e, _⟩⟩ := ho
      · exact .inl e
      · exact .inr ⟨g, _, cap, e⟩)
    have ST := hide (uqi_step (i := 0) (x := ⟨x, hx⟩) H8.out hs r1 r2 r3 r4 ho hg)
    have nb : ∀ k, k < w8.heap.size → some k ≠ v.ownBlock := fun k hk e => by have := (owns_row r1 e.symm).1; omega
    have d2 := (show Boxed W'.drew (w.heap.size + 1) 22 v from r2).kept hg (nb _ (by have := H8.out; omega))
    have d3 := (show Boxed W'.drew (w.heap.size + 1 + 1) 3 _ from r3).kept hg (nb _ (by have := H8.out; omega))
    have f2 := d2.frozen
    have f3 := (d3.other (B' := w.heap.size + 1) (by omega) v').frozen
    have g2 := d2.cell
    have g3 := (d3.other (B' := w.heap.size + 1) (by omega) v').cell
    have q1 : (s.2 : Int) ≤ (x : Int) := by omega
    have q2 : (x : Int) ≤ (xs.length : Int) := by omega
    have q3 : IntKind.i64.wrap ((x : Int) + 1) = (x : Int) + 1 := by rw [IntKind.wrap_i64]; omega
    have n1 : ¬ ca = s.2 := by omega
    have n2 : s.2 ≤ x := hx2
    have n3 : x ≤ ca := by omega
    obtain ⟨s1, s2⟩ := s
    simp only at *
    clear ho hg RS hin r1 r2 r3 d2 d3 nb hsub hs hrd hx3
    gi_wp2
    refine wpHeld.region (C := fun u => u = W'.drew) (D := fun j => decide (5 ≤ j)) (by kernel_rfl) ?_
    refine wpHeld.tk (i := 0) (d := some 14) (v := v) (by as_aux_lemma => kernel_rfl) rfl (by as_aux_lemma => kernel_rfl) (by as_aux_lemma => kernel_rfl) (by as_aux_lemma => kernel_rfl) (by as_aux_lemma => kernel_rfl) rfl (fun _ _ _ h => h) ⟨Or.inl ⟨by rfl, ?_⟩, fun _ => rfl⟩ rfl ?_
    · rintro _ rfl
      go_simp
    simp only [Act.put, List.setIfInBounds_toArray, List.set_cons_zero, List.set_cons_succ]
    refine wpHeld.tk (i := 1) (d := some 15) (v := .slice (some ⟨ga, oa, none⟩) xs.length ca) (by as_aux_lemma => kernel_rfl) rfl (by as_aux_lemma => kernel_rfl) (by as_aux_lemma => kernel_rfl) (by as_aux_lemma => kernel_rfl) (by as_aux_lemma => kernel_rfl) rfl (fun _ _ _ h => h) ⟨Or.inl ⟨by rfl, ?_⟩, fun _ => rfl⟩ rfl ?_
    · rintro _ rfl
      go_simp
    simp only [Act.put, List.setIfInBounds_toArray, List.set_cons_zero, List.set_cons_succ]
    refine wpHeld.tk (i := 2) (d := some 16) (v := .int .i64 (s2 : Int)) (by as_aux_lemma => kernel_rfl) rfl (by as_aux_lemma => kernel_rfl) (by as_aux_lemma => kernel_rfl) (by as_aux_lemma => kernel_rfl) (by as_aux_lemma => kernel_rfl) rfl (fun _ _ _ h => h) ⟨Or.inl ⟨by rfl, ?_⟩, fun _ => rfl⟩ rfl ?_
    · rintro _ rfl
      go_simp
    simp only [Act.put, List.setIfInBounds_toArray, List.set_cons_zero, List.set_cons_succ]
    refine wpHeld.tk (i := 3) (d := some 17) (v := .int .i64 (x : Int)) (by as_aux_lemma => kernel_rfl) rfl (by as_aux_lemma => kernel_rfl) (by as_aux_lemma => kernel_rfl) (by as_aux_lemma => kernel_rfl) (by as_aux_lemma => kernel_rfl) rfl (fun _ _ _ h => h) ⟨Or.inl ⟨by rfl, ?_⟩, fun _ => rfl⟩ rfl ?_
    · rintro _ rfl
      go_simp
    simp only [Act.put, List.setIfInBounds_toArray, List.set_cons_zero, List.set_cons_succ]
    refine wpHeld.tk (i := 4) (d := some 18) (v := .slice (some ⟨ga, oa + s2 * 2, none⟩) (x - s2) (ca - s2)) (by as_aux_lemma => kernel_rfl) rfl (by as_aux_lemma => kernel_rfl) (by as_aux_lemma => kernel_rfl) (by as_aux_lemma => kernel_rfl) (by as_aux_lemma => kernel_rfl) rfl (fun _ _ _ h => h) ⟨Or.inl ⟨by rfl, ?_⟩, fun _ => rfl⟩ rfl ?_
    · rintro _ rfl
      go_simp
    simp only [Act.put, List.setIfInBounds_toArray, List.set_cons_zero, List.set_cons_succ]
    refine wpHeld.one (i := 5) (by as_aux_lemma => kernel_rfl) rfl (fun KK hKK => ?_)
    rw [if_pos (by rfl)]
    refine opIn_append _ _ rfl rfl rfl hrun ?_
    refine hKK _ _ ⟨fun h => absurd h (by decide), ?_⟩
    clear hKK KK hrun
    simp only [Act.put, List.setIfInBounds_toArray, List.set_cons_zero, List.set_cons_succ]
    refine wpHeld.one (i := 6) (by as_aux_lemma => kernel_rfl) rfl (fun KK hKK => ?_)
    rw [if_pos (by rfl)]
    rcases SHP.out with hv' | ⟨g', n', c', hv'⟩
    all_goals
      subst hv'
      go_simp
      refine hKK _ _ ⟨fun h => absurd h (by decide), ?_⟩
      clear hKK KK
      refine wpHeld.done (by as_aux_lemma => kernel_rfl) ?_ _
      gi_wp2
      exact ST.out
  case hdone =>
    rintro D zs W' hD hzs hi hK
    obtain ⟨v, r1, r2, r3, r4⟩ := hi
    rw [hzs] at r1 r3
    obtain ⟨E1, E2⟩ := unqS_end f xs
    have HZ' := HZ.out
    unfold unq at HZ'
    obtain ⟨s, hs⟩ : ∃ s, (reps f 0 xs).foldl (unqS xs) ([], 0) = s := ⟨_, rfl⟩
    rw [hs] at E1 E2 r1 r3 HZ'
    obtain ⟨s1, s2⟩ := s
    simp only at E1 E2 r1 r3 HZ'
    have cL := (r4.boxed BL.out (by have := H8.out; omega) (by omega)).cell
    have c1 := r2.cell
    have c2 := r3.cell
    have KW : Below w.heap.size w W' := K8.out.trans (r4.below (by have := H8.out; omega) (fun k hk e => by omega))
    have hdl : (xs.drop s2).length = xs.length - s2 := by simp
    have key : ∀ vs, ItRd (fun _ => True) W'.drew vs (xs.drop s2) → (∀ c, vs = .slice none 0 c → c = 0) → ∃ v' w2, (Builtin.append_ #[22, 22] 22 #[v, vs]).run Try.prog W'.drew = .ok v' w2 ∧ Hid (∀ (tm : Array Value) , tm[4]? = some v' → LeavesInM Fence.wide 4 Try.prog Try.f17 tm (fun e w' => (∃ v, e = .returned v ∧ w'.ownsRow w.heap.size 27 2 v Z.length (flat Z)) ∧ Below w.heap.size w w') [mark D] .returning w2) := by
      intro vs RS hn
      obtain ⟨v', w2, hrun, ho, hg⟩ := run_append_items (w := W'.drew) (base := w8.heap.size) (v := v) r1 RS hn (by rw [hdl]; unfold maxLen; omega) (by rw [hdl]; omega) r4.size 22
      rw [← flat_append, HZ', ← List.length_append, HZ'] at ho
      refine ⟨v', w2, hrun, hide (fun tm htm => ?_)⟩
      have KW2 : Below w.heap.size w w2 := by
        have h0 := H8.out
        have b0 : Below w.heap.size W' W'.drew := (Below.refl _ _).drew
        have b1 : BelX (fun _ => False) w8.heap.size W'.drew w2 := BelX.grown hg r4.size (fun k e => .inl (owns_row r1 e).1)
        exact (KW.trans b0).trans (b1.below (B := w.heap.size) (by omega) (fun k _ e => e))
      have hD2 : w2.heap[D]? = some (.deferred (some [])) := (hg.block D (Array.getElem?_eq_some_iff.1 hK).1 (fun e => by
        obtain ⟨cur, hc⟩ := (owns_row r1 e.symm).2
        rw [hK] at hc
        cases hc)).trans hK
      refine marks_leave (A := w8.heap.size) (Inv := fun u => u.ownsRow w8.heap.size 27 2 v' Z.length (flat Z) ∧ Below w.heap.size w u) ?_ ?_ [D] _ (by simp; exact ⟨hD, hD2⟩) (by simp) ⟨ho, KW2⟩
      · rintro u D' ⟨i1, i2⟩ hD' hu
        refine ⟨owns_put i1 hu rfl, i2.trans ((belx_putObj (X := fun _ => False) (n := w.heap.size) (l := D') _ (by have := H8.out; omega)).below (Nat.le_refl _) (fun _ _ e => e))⟩
      · rintro u ⟨i1, i2⟩
        refine ⟨_, results_tmp rfl _ _ _, ⟨v', ?_, owns_base (base := w8.heap.size) (by have := H8.out; omega) i1⟩, i2⟩
        rw [Array.getD_eq_getD_getElem?, htm]
        rfl
    have q1 : ¬ (xs.length : Int) < (s2 : Int) := by omega
    have q2 : (s2 : Int) ≤ (xs.length : Int) := by omega
    rcases ao with _ | ⟨ga, oa, za⟩
    · have hx0 : xs = [] := by
        obtain ⟨ao', ca', h1, h2, h3, h4⟩ := RA.out
        cases h1
        rcases Nat.eq_zero_or_pos xs.length with e | e
        · exact List.eq_nil_of_length_eq_zero e
        · obtain ⟨g, o', h5, _⟩ := h4 e
          cases h5
      subst hx0
      obtain rfl : s2 = 0 := by simp at E1; omega
      obtain rfl : ca = 0 := NO.out ca rfl
      obtain ⟨v', w2, hrun, FIN⟩ := key (.slice none 0 0) (nil_rd rfl rfl (by unfold maxLen; omega)) (by intro c h; cases h; rfl)
      clear key r1 r2 r3 KW
      go_wp2
      refine wp_np ?_
      refine wpHl.region (C := fun u => u = W'.drew) (D := fun j => decide (4 ≤ j)) (by kernel_rfl) ?_
      refine wpHl.tk (i := 0) (d := some 22) (v := v) rfl (by kernel_rfl) (by as_aux_lemma => kernel_rfl) (by as_aux_lemma => kernel_rfl) (by as_aux_lemma => kernel_rfl) rfl (fun _ _ _ h => nomatch h.1) (Or.inl ⟨by rfl, ?_⟩) rfl ?_
      · rintro _ rfl
        go_simp
      simp only [Act.put, List.setIfInBounds_toArray, List.set_cons_zero, List.set_cons_succ]
      refine wpHl.tk (i := 1) (d := some 23) (v := .slice none 0 0) rfl (by kernel_rfl) (by as_aux_lemma => kernel_rfl) (by as_aux_lemma => kernel_rfl) (by as_aux_lemma => kernel_rfl) rfl (fun _ _ _ h => nomatch h.1) (Or.inl ⟨by rfl, ?_⟩) rfl ?_
      · rintro _ rfl
        go_simp
      simp only [Act.put, List.setIfInBounds_toArray, List.set_cons_zero, List.set_cons_succ]
      refine wpHl.tk (i := 2) (d := some 24) (v := .int .i64 ((0 : Nat) : Int)) rfl (by kernel_rfl) (by as_aux_lemma => kernel_rfl) (by as_aux_lemma => kernel_rfl) (by as_aux_lemma => kernel_rfl) rfl (fun _ _ _ h => nomatch h.1) (Or.inl ⟨by rfl, ?_⟩) rfl ?_
      · rintro _ rfl
        go_simp
      simp only [Act.put, List.setIfInBounds_toArray, List.set_cons_zero, List.set_cons_succ]
      refine wpHl.tk (i := 3) (d := some 25) (v := .slice none 0 0) rfl (by kernel_rfl) (by as_aux_lemma => kernel_rfl) (by as_aux_lemma => kernel_rfl) (by as_aux_lemma => kernel_rfl) rfl (fun _ _ _ h => nomatch h.1) (Or.inl ⟨by rfl, ?_⟩) rfl ?_
      · rintro _ rfl
        go_simp
      simp only [Act.put, List.setIfInBounds_toArray, List.set_cons_zero, List.set_cons_succ]
      refine wpHl.one (i := 4) (by as_aux_lemma => kernel_rfl) rfl (fun KK hKK => ?_)
      rw [if_pos (by rfl)]
      refine op_append _ _ rfl rfl rfl hrun ?_
      refine hKK _ _ ⟨fun h => absurd h (by decide), ?_⟩
      clear hKK KK hrun
      simp only [Act.put, List.setIfInBounds_toArray, List.set_cons_zero, List.set_cons_succ]
      refine wpHl.one (i := 5) (by as_aux_lemma => kernel_rfl) rfl (fun KK hKK => ?_)
      rw [if_pos (by rfl)]
      go_simp
      refine hKK _ _ ⟨fun h => absurd h (by decide), ?_⟩
      clear hKK KK
      try simp only [Act.put, List.setIfInBounds_toArray, List.set_cons_zero, List.set_cons_succ]
      refine wpHl.done (by as_aux_lemma => kernel_rfl) ⟨rfl, ?_⟩ _
      go_wp2
      exact FIN.out _ rfl
    · by_cases hcs : ca = s2
      · obtain ⟨v', w2, hrun, FIN⟩ := key (.slice (some ⟨ga, oa, za⟩) 0 0) (nil_rd rfl (List.drop_eq_nil_of_le (by omega)) (by unfold maxLen; omega)) (by intro c h; cases h)
        have hxs : xs.length - s2 = 0 := by omega
        clear key r1 r2 r3 KW
        subst hcs
        go_wp2
        refine wp_np ?_
        refine wpHl.region (C := fun u => u = W'.drew) (D := fun j => decide (4 ≤ j)) (by kernel_rfl) ?_
        refine wpHl.tk (i := 0) (d := some 22) (v := v) rfl (by kernel_rfl) (by as_aux_lemma => kernel_rfl) (by as_aux_lemma => kernel_rfl) (by as_aux_lemma => kernel_rfl) rfl (fun _ _ _ h => nomatch h.1) (Or.inl ⟨by rfl, ?_⟩) rfl ?_
        · rintro _ rfl
          go_simp
        simp only [Act.put, List.setIfInBounds_toArray, List.set_cons_zero, List.set_cons_succ]
        refine wpHl.tk (i := 1) (d := some 23) (v := .slice (some ⟨ga, oa, za⟩) xs.length ca) rfl (by kernel_rfl) (by as_aux_lemma => kernel_rfl) (by as_aux_lemma => kernel_rfl) (by as_aux_lemma => kernel_rfl) rfl (fun _ _ _ h => nomatch h.1) (Or.inl ⟨by rfl, ?_⟩) rfl ?_
        · rintro _ rfl
          go_simp
        simp only [Act.put, List.setIfInBounds_toArray, List.set_cons_zero, List.set_cons_succ]
        refine wpHl.tk (i := 2) (d := some 24) (v := .int .i64 ((ca : Nat) : Int)) rfl (by kernel_rfl) (by as_aux_lemma => kernel_rfl) (by as_aux_lemma => kernel_rfl) (by as_aux_lemma => kernel_rfl) rfl (fun _ _ _ h => nomatch h.1) (Or.inl ⟨by rfl, ?_⟩) rfl ?_
        · rintro _ rfl
          go_simp
        simp only [Act.put, List.setIfInBounds_toArray, List.set_cons_zero, List.set_cons_succ]
        refine wpHl.tk (i := 3) (d := some 25) (v := .slice (some ⟨ga, oa, za⟩) 0 0) rfl (by kernel_rfl) (by as_aux_lemma => kernel_rfl) (by as_aux_lemma => kernel_rfl) (by as_aux_lemma => kernel_rfl) rfl (fun _ _ _ h => nomatch h.1) (Or.inl ⟨by rfl, ?_⟩) rfl ?_
        · rintro _ rfl
          go_simp
        simp only [Act.put, List.setIfInBounds_toArray, List.set_cons_zero, List.set_cons_succ]
        refine wpHl.one (i := 4) (by as_aux_lemma => kernel_rfl) rfl (fun KK hKK => ?_)
        rw [if_pos (by rfl)]
        refine op_append _ _ rfl rfl rfl hrun ?_
        refine hKK _ _ ⟨fun h => absurd h (by decide), ?_⟩
        clear hKK KK hrun
        simp only [Act.put, List.setIfInBounds_toArray, List.set_cons_zero, List.set_cons_succ]
        refine wpHl.one (i := 5) (by as_aux_lemma => kernel_rfl) rfl (fun KK hKK => ?_)
        rw [if_pos (by rfl)]
        go_simp
        refine hKK _ _ ⟨fun h => absurd h (by decide), ?_⟩
        clear hKK KK
        try simp only [Act.put, List.setIfInBounds_toArray, List.set_cons_zero, List.set_cons_succ]
        refine wpHl.done (by as_aux_lemma => kernel_rfl) ⟨rfl, ?_⟩ _
        go_wp2
        exact FIN.out _ rfl
      · have RS : ItRd (fun _ => True) W'.drew (.slice (some ((⟨ga, oa, za⟩ : Addr).add (s2 * 2))) (xs.length - s2) (ca - s2)) (xs.drop s2) := by
          by_cases hz : xs.length - s2 = 0
          · exact nil_rd hz (List.drop_eq_nil_of_le (by omega)) (by unfold maxLen; omega)
          · obtain ⟨ao', ca', h1, h2, h3, h4⟩ := RA.out
            cases h1
            obtain ⟨g, o', h5, h6, h7, hin⟩ := h4 (by omega)
            cases h5
            rw [show (⟨ga, oa, none⟩ : Addr).add (s2 * 2) = ⟨ga, oa + s2 * 2, none⟩ by simp [Addr.add]]
            refine ⟨_, ca - s2, by rw [hdl], by omega, by unfold maxLen; omega, fun hp => ⟨ga, _, rfl, trivial, Nat.lt_of_lt_of_le h6.1 r4.size, fun i hi => ?_⟩⟩
            rw [hdl] at hi
            have q := hin (s2 + i) (by omega)
            have e : (xs.drop s2)[i]'(by omega) = xs[s2 + i]'(by omega) := by rw [List.getElem_drop]
            rw [e, show oa + s2 * 2 + i * 2 = oa + (s2 + i) * 2 by omega]
            exact ⟨(r4.cell (p := ⟨ga, _, none⟩) h6.1 h6.2).trans q.1, (r4.cell (p := ⟨ga, _, none⟩) h6.1 h6.2).trans q.2⟩
        obtain ⟨v', w2, hrun, FIN⟩ := key _ RS (by intro c h; cases h)
        have n2 : s2 ≤ xs.length := E1
        have n3 : xs.length ≤ ca := hac
        clear key r1 r2 r3 KW RS
        go_wp2
        refine wp_np ?_
        refine wpHl.region (C := fun u => u = W'.drew) (D := fun j => decide (4 ≤ j)) (by kernel_rfl) ?_
        refine wpHl.tk (i := 0) (d := some 22) (v := v) rfl (by kernel_rfl) (by as_aux_lemma => kernel_rfl) (by as_aux_lemma => kernel_rfl) (by as_aux_lemma => kernel_rfl) rfl (fun _ _ _ h => nomatch h.1) (Or.inl ⟨by rfl, ?_⟩) rfl ?_
        · rintro _ rfl
          go_simp
        simp only [Act.put, List.setIfInBounds_toArray, List.set_cons_zero, List.set_cons_succ]
        refine wpHl.tk (i := 1) (d := some 23) (v := .slice (some ⟨ga, oa, za⟩) xs.length ca) rfl (by kernel_rfl) (by as_aux_lemma => kernel_rfl) (by as_aux_lemma => kernel_rfl) (by as_aux_lemma => kernel_rfl) rfl (fun _ _ _ h => nomatch h.1) (Or.inl ⟨by rfl, ?_⟩) rfl ?_
        · rintro _ rfl
          go_simp
        simp only [Act.put, List.setIfInBounds_toArray, List.set_cons_zero, List.set_cons_succ]
        refine wpHl.tk (i := 2) (d := some 24) (v := .int .i64 ((s2 : Nat) : Int)) rfl (by kernel_rfl) (by as_aux_lemma => kernel_rfl) (by as_aux_lemma => kernel_rfl) (by as_aux_lemma => kernel_rfl) rfl (fun _ _ _ h => nomatch h.1) (Or.inl ⟨by rfl, ?_⟩) rfl ?_
        · rintro _ rfl
          go_simp
        simp only [Act.put, List.setIfInBounds_toArray, List.set_cons_zero, List.set_cons_succ]
        refine wpHl.tk (i := 3) (d := some 25) (v := .slice (some ((⟨ga, oa, za⟩ : Addr).add (s2 * 2))) (xs.length - s2) (ca - s2)) rfl (by kernel_rfl) (by as_aux_lemma => kernel_rfl) (by as_aux_lemma => kernel_rfl) (by as_aux_lemma => kernel_rfl) rfl (fun _ _ _ h => nomatch h.1) (Or.inl ⟨by rfl, ?_⟩) rfl ?_
        · rintro _ rfl
          go_simp
        simp only [Act.put, List.setIfInBounds_toArray, List.set_cons_zero, List.set_cons_succ]
        refine wpHl.one (i := 4) (by as_aux_lemma => kernel_rfl) rfl (fun KK hKK => ?_)
        rw [if_pos (by rfl)]
        refine op_append _ _ rfl rfl rfl hrun ?_
        refine hKK _ _ ⟨fun h => absurd h (by decide), ?_⟩
        clear hKK KK hrun
        simp only [Act.put, List.setIfInBounds_toArray, List.set_cons_zero, List.set_cons_succ]
        refine wpHl.one (i := 5) (by as_aux_lemma => kernel_rfl) rfl (fun KK hKK => ?_)
        rw [if_pos (by rfl)]
        go_simp
        refine hKK _ _ ⟨fun h => absurd h (by decide), ?_⟩
        clear hKK KK
        try simp only [Act.put, List.setIfInBounds_toArray, List.set_cons_zero, List.set_cons_succ]
        refine wpHl.done (by as_aux_lemma => kernel_rfl) ⟨rfl, ?_⟩ _
        go_wp2
        exact FIN.out _ rfl
  case hstop =>
    rintro D c pre W' hD hpx h hK
    exact h.elim

end Go.Proofs.Ytomieeajmelglaa
