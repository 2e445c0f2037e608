/- OLend, OSame, OSta, OStb, OStc, OMrgC, OSeqP, OSeqO, ORep, OUnM, OUnq, OUnW, OStM -/
import Derived.Test.YtboikfcmbfaaeaaR04
import Derived.Laws.AppendOwnNone
import Derived.Laws.StructEq
import Derived.OwnWalkIn
import Derived.Test.YtboikfcmbfaaeaaR03
import Derived.RangeFuncNested
import Derived.RangeFuncBound
import Derived.RangeFuncCalls
import Derived.RangeFuncLeaves
import Derived.RangeFuncBox
namespace Go.Proofs.Ytboikfcmbfaaeaa
open Go.RowKit Go.Shelf
set_option linter.unusedVariables false
set_option linter.unusedSimpArgs false

def mks (i : Nat) : List It := (List.range i).map fun (k : Nat) => ((-77, -1 - (k : Int)) : It)
theorem mks_len (i : Nat) : (mks i).length = i := by simp [mks]
theorem mks_succ (i : Nat) : mks (i + 1) = mks i ++ [(-77, -1 - (i : Int))] := by simp [mks, List.range_succ]
/-- a list that is lent: its row, with the marks -/
def Lent (base : Nat) (w : World) (g cap : Nat) (l : List It) : Prop := w.ownsRow base 29 2 (.slice (some ⟨g, 0, none⟩) (l.length + 4) cap) (l.length + 4) (flat (l ++ mks 4))
theorem mk_room2 {n : Nat} (hn : n ≤ 8796093022300) (w : World) : (Instr.makeSlice 22 (.int .i64 0) (.int .i64 (n : Int))).run Try.prog w = .ok (.slice (some ⟨w.heap.size, 0, none⟩) 0 n) (w.alloc (.cells (flat (List.replicate n ((0, 0) : It))).toArray 29)) := by
  obtain ⟨i0, hi, hz0, hz1, hz2⟩ := info_parts itinfoM
  have := run_make (P := Try.prog) w 22 29 i0 _ Try.underlying22 hi hz0 .i64 .i64 0 n (by omega) (by omega) (by rw [hz2]; omega) (by omega)
  rw [this, hz1]
  simp only [Int.toNat_natCast, Int.toNat_zero]
  rw [show (Value.agg #[Value.int .i64 0, Value.int .i64 0]).cells = #[Value.int .i64 0, Value.int .i64 0] from rfl, made_items]
theorem news_items {w : World} {g o : Nat} {xs : List It} (h : ItIn w g o xs) : ∀ j u, (flat xs)[j]? = some u → w.cell? ((⟨g, o, none⟩ : Addr).add j) = some u := by
  intro j v hj
  have hjl : j < (flat xs).length := (List.getElem?_eq_some_iff.1 hj).1
  rw [flat_len] at hjl
  have q := h (j / 2) (by omega)
  have fg := flat_get xs (j / 2) (by omega)
  rw [Addr.add_lit]
  rcases (show j % 2 = 0 ∨ j % 2 = 1 by omega) with e | e
  · have ej : j = j / 2 * 2 := by omega
    rw [ej, fg.1] at hj
    rw [ej, ← hj]
    exact q.1
  · have ej : j = j / 2 * 2 + 1 := by omega
    rw [ej, fg.2] at hj
    rw [ej, ← hj, ← Nat.add_assoc]
    exact q.2

/-- a new list of one item -/
theorem one_rd (w : World) (a b : Int) : ItRd (fun _ => True) (w.alloc (.cells #[.int .i64 a, .int .i64 b] 29)) (.slice (some ⟨w.heap.size, 0, none⟩) 1 1) [(a, b)] := by
  refine ⟨_, 1, rfl, by simp, by unfold maxLen; omega, fun _ => ⟨_, _, rfl, trivial, by simp, fun i hi => ?_⟩⟩
  have hi0 : i = 0 := by simp at hi; omega
  subst hi0
  exact ItRow.cell (show ItRow _ w.heap.size [(a, b)] from heap_alloc_new w _) (i := 0) (by simp)
theorem wpList_append_items {w : World} {ops : Array Oper} {rest : List Oper} {o : Oper} {a : Act} {Q : Exit → Act → World → Prop} (hgd : o.guard = none) (s x : Operand)
    (ho : o.op = .call { callee := .builtin .append, args := #[s, x], argTypes := #[22, 22] })
    (base : Nat) (v : Value) (n : Nat) (xs : List Value) (hs : a.eval s = v) (hown : w.ownsRow base 29 2 v n xs)
    (va : Value) (l : List It) (hx : a.eval x = va) (hrd : ItRd (fun _ => True) w va l) (hno : ∀ c, va = .slice none 0 c → c = 0)
    (h63 : n + l.length ≤ maxLen) (hby : (n + l.length) * 16 ≤ 140737488355328) (hbase : base ≤ w.heap.size)
    (h : ∀ v' w', w'.ownsRow base 29 2 v' (n + l.length) (xs ++ flat l) → Below base w w' → wpList Try.prog ops Q rest (a.put o.dst v') w') : wpList Try.prog ops Q (o :: rest) a w := by
  obtain ⟨i0, hi0, hz0, hz1, hz2⟩ := info_parts itinfoM
  obtain ⟨ao, ca, rfl, hac, ham, hcl⟩ := hrd
  have hr : ∀ k, v.ownBlock = some k → base ≤ k := by
    intro k hk
    rcases hown.2 with ⟨rfl, _⟩ | ⟨g, cap, cur, rfl, hg, _⟩
    · cases hk
    · cases hk; exact hg
  rcases ao with _ | ad
  · have e : l.length = 0 := by
      rcases Nat.eq_zero_or_pos l.length with e | e
      · exact e
      · obtain ⟨g, o', he, _⟩ := hcl e
        cases he
    have e2 : l = [] := List.eq_nil_of_length_eq_zero e
    subst e2
    have e3 : ca = 0 := hno ca rfl
    subst e3
    exact wpList_append_own_none hgd s x _ ho base 29 i0 2 Try.underlying22 hi0 v n xs hs hown hx (h v w (by simpa [flat] using hown) (Below.refl _ w))
  · refine wpList_append_own w hgd s x _ ho base 29 i0 _ 2 16 Try.underlying22 hi0 hz0 hz1 hz2 rfl (by decide) v n xs hs hown ad l.length ca (flat l) hx (flat_len l) ?_ (flat_one l) h63 hby hbase fun v' w' h2 h3 _ => h v' w' h2 ((Below.refl _ w).grown h3 hbase hr)
    by_cases e : l.length = 0
    · have e2 := List.eq_nil_of_length_eq_zero e
      subst e2
      intro j u hu
      simp [flat] at hu
    · obtain ⟨g, o', he, _, hg, hin⟩ := hcl (by omega)
      cases he
      exact news_items hin

end Go.Proofs.Ytboikfcmbfaaeaa

namespace Go.Proofs.Ytboikfcmbfaaeaa
open Go.RowKit Go.Shelf
set_option linter.unusedVariables false
set_option linter.unusedSimpArgs false

set_option maxRecDepth 100000 in
set_option maxHeartbeats 8000000 in
theorem osame_any {w : World} {va vb : Value} {l : List It} (ha : ItRd (fun _ => True) w va l) (hb : ItRd (fun _ => True) w vb l) :
    Calls Try.prog 10 #[va, vb] w fun e w' => e = .returned (.bool true) ∧ Below w.heap.size w w' := by
  obtain ⟨ao, ca, rfl, hac, ham, hacl⟩ := ha
  obtain ⟨bo, cb, rfl, hbc, hbm, hbcl⟩ := hb
  unfold maxLen at ham
  have RA := hide hacl
  have RB := hide hbcl
  have hlm : l.length ≤ 9223372036854775807 := by omega
  clear hacl hbcl hac hbc hbm
  go_enter Try.func10, Try.ntmps10
  go_wp2
  go_loopw [5] (fun p wr => ∃ (i : Nat), p = .int .i64 i ∧ i ≤ l.length ∧ Hid (Below w.heap.size w wr)) (fun p _ => l.length - (intOf p).toNat)
  case atStart => exact ⟨0, rfl, by omega, hide (Below.refl _ w)⟩
  case round =>
    obtain ⟨i, rfl, hi, hB⟩ := hrel
    by_cases hil : i < l.length
    · obtain ⟨ga, oa, rfl, _, hga, hin⟩ := RA.out (by omega)
      obtain ⟨gb, ob, rfl, _, hgb, hinb⟩ := RB.out (by omega)
      have q1 : (i : Int) < (l.length : Int) := by omega
      obtain ⟨⟨z1, z2⟩, hzi⟩ : ∃ z, l[i] = z := ⟨_, rfl⟩
      have qz := hin i hil
      rw [hzi] at qz
      have q1a := (hB.out.cell (p := ⟨ga, _, none⟩) hga).trans qz.1
      have q2a := (hB.out.cell (p := ⟨ga, _, none⟩) hga).trans qz.2
      have qy := hinb i hil
      rw [hzi] at qy
      have q1b := (hB.out.cell (p := ⟨gb, _, none⟩) hgb).trans qy.1
      have q2b := (hB.out.cell (p := ⟨gb, _, none⟩) hgb).trans qy.2
      clear hin hinb qz qy hzi
      go_wp2
      go_quiet (fail)
      have HB2 := hide (hB.out.trans ((obel_drewN wr nq).mono hB.out.size))
      have w2' : IntKind.i64.wrap ((i : Int) + 1) = (i : Int) + 1 := by rw [IntKind.wrap_i64]; omega
      go_wp2
      go_roundw
      case rel => exact ⟨i + 1, by simp, by omega, HB2⟩
      case measure => simp [intOf]; omega
    · go_wp2
      go_ret
      exact ⟨rfl, hB.out⟩
/-- what is lent, read -/
theorem Lent.itin {base : Nat} {w : World} {g cap : Nat} {l : List It} (h : Lent base w g cap l) : base ≤ g ∧ g < w.heap.size ∧ l.length + 4 ≤ cap ∧ cap ≤ maxLen ∧ ItIn w g 0 (l ++ mks 4) := by
  obtain ⟨h0, ⟨h1, _⟩ | ⟨g', cap', cur, h1, h2, h3, h4, h5, h6, h7⟩⟩ := h
  · cases h1
  · cases h1
    refine ⟨h2, (Array.getElem?_eq_some_iff.1 h3).1, h4, h5, fun i hi => ?_⟩
    have q := flat_get (l ++ mks 4) i hi
    rw [← h7] at q
    have hl : i < l.length + 4 := by simpa [mks_len] using hi
    rw [List.getElem?_take_of_lt (by omega), List.getElem?_take_of_lt (by omega)] at q
    rw [Nat.zero_add]
    exact ⟨by rw [cell_of_row w g (i * 2) _ _ _ h3]; simpa using q.1, by rw [cell_of_row w g (i * 2 + 1) _ _ _ h3]; simpa using q.2⟩

end Go.Proofs.Ytboikfcmbfaaeaa

namespace Go.Proofs.Ytboikfcmbfaaeaa
open Go.RowKit Go.Shelf
set_option linter.unusedVariables false
set_option linter.unusedSimpArgs false

theorem cnt_step {l : List It} {x : It} {i : Nat} (hi : i < l.length) : (l.take (i + 1)).count x = (l.take i).count x + (if l[i] = x then 1 else 0) := by
  rw [List.take_succ_eq_append_getElem hi, List.count_append]
  by_cases h : l[i] = x <;> simp [h]
set_option maxRecDepth 100000 in
set_option maxHeartbeats 8000000 in
theorem times_any {w : World} {va : Value} {l : List It} {x : It} (ha : ItRd (fun _ => True) w va l) (hl : l.length ≤ 8796093022208) :
    Calls Try.prog 28 #[va, itV x] w fun e w' => e = .returned (.int .i64 (l.count x)) ∧ Below w.heap.size w w' := by
  obtain ⟨x1, x2⟩ := x
  obtain ⟨W1, hW1⟩ : ∃ u, w.alloc (.cells #[.int .i64 x1, .int .i64 x2] 29) = u := ⟨_, rfl⟩
  have K1 : Hid (Below w.heap.size w W1) := by rw [← hW1]; exact hide ((Below.refl _ w).alloc (Nat.le_refl _) _)
  have X1 : Hid (ItRow W1 w.heap.size [(x1, x2)]) := by rw [← hW1]; exact hide (heap_alloc_new w _)
  obtain ⟨ao, ca, rfl, hac, ham, hacl⟩ := ha
  have RA := hide hacl
  clear hacl hac ham
  go_enter Try.func28, Try.ntmps28
  go_wp2
  try rw [hW1]
  have KW : Hid (∀ U, Below W1.heap.size W1 U → U.cell? ⟨w.heap.size, 0, none⟩ = some (.int .i64 x1) ∧ U.cell? ⟨w.heap.size, 1, none⟩ = some (.int .i64 x2)) := hide (fun U k => (X1.out.keep (k.block _ X1.out.lt)).cell (i := 0) (by simp))
  have HS := hide hW1
  go_loopw [5, 6] (fun q p wr => ∃ (i : Nat), q = .int .i64 ((l.take i).count (x1, x2)) ∧ p = .int .i64 i ∧ i ≤ l.length ∧ Hid (Below W1.heap.size W1 wr)) (fun _ p _ => l.length - (intOf p).toNat)
  case atStart => exact ⟨0, by simp, rfl, by omega, by first | exact hide (Below.refl _ _) | (rw [hW1]; exact hide (Below.refl _ _))⟩
  case round =>
    obtain ⟨i, rfl, rfl, hi, hB⟩ := hrel
    by_cases hil : i < l.length
    · obtain ⟨ga, oa, rfl, _, hga, hin⟩ := RA.out (by omega)
      have q1 : (i : Int) < (l.length : Int) := by omega
      obtain ⟨⟨z1, z2⟩, hzi⟩ : ∃ z, l[i] = z := ⟨_, rfl⟩
      have qz := hin i hil
      rw [hzi] at qz
      have hK := K1.out.trans (hB.out.mono K1.out.size)
      have q1a := (hK.cell (p := ⟨ga, _, none⟩) hga).trans qz.1
      have q2a := (hK.cell (p := ⟨ga, _, none⟩) hga).trans qz.2
      obtain ⟨q1b, q2b⟩ := KW.out _ hB.out
      have CS := hide (cnt_step (x := (x1, x2)) hil)
      rw [hzi] at CS
      have CL := hide (Nat.le_trans (List.count_le_length (l := l.take i) (a := (x1, x2))) (by rw [List.length_take]; omega : (l.take i).length ≤ i))
      obtain ⟨c, hc⟩ : ∃ c, (l.take i).count (x1, x2) = c := ⟨_, rfl⟩
      rw [hc] at CS CL ⊢
      have w2' : IntKind.i64.wrap ((i : Int) + 1) = (i : Int) + 1 := by rw [IntKind.wrap_i64]; omega
      have w3' : IntKind.i64.wrap ((c : Int) + 1) = (c : Int) + 1 := by have := CL.out; rw [IntKind.wrap_i64]; omega
      clear hin qz hzi hK hc
      by_cases h1 : z1 = x1
      · subst h1
        by_cases h2 : z2 = x2
        · subst h2
          go_wp2
          go_quiet (fail)
          have HB2 := hide (hB.out.trans ((obel_drewN wr nq).mono hB.out.size))
          go_wp2
          go_roundw
          case rel => exact ⟨i + 1, by rw [CS.out]; simp, by simp, by omega, HB2⟩
          case measure => simp [intOf]; omega
        · go_wp2
          go_quiet (fail)
          have HB2 := hide (hB.out.trans ((obel_drewN wr nq).mono hB.out.size))
          go_wp2
          go_roundw
          case rel => exact ⟨i + 1, by rw [CS.out]; simp [h2], by simp, by omega, HB2⟩
          case measure => simp [intOf]; omega
      · go_wp2
        go_quiet (fail)
        have HB2 := hide (hB.out.trans ((obel_drewN wr nq).mono hB.out.size))
        go_wp2
        go_roundw
        case rel => exact ⟨i + 1, by rw [CS.out]; simp [h1], by simp, by omega, HB2⟩
        case measure => simp [intOf]; omega
    · obtain rfl : i = l.length := by omega
      rw [List.take_length]
      go_wp2
      go_ret
      exact ⟨rfl, K1.out.trans (hB.out.mono K1.out.size)⟩

end Go.Proofs.Ytboikfcmbfaaeaa

namespace Go.Proofs.Ytboikfcmbfaaeaa
open Go.RowKit Go.Shelf
set_option linter.unusedVariables false
set_option linter.unusedSimpArgs false

set_option maxRecDepth 100000 in
set_option maxHeartbeats 8000000 in
theorem rises_any {w : World} {va : Value} {l : List It} {o : Int} (ha : ItRd (fun _ => True) w va l) (hl : l.length ≤ 8796093022208) (hr : ∀ i (h : i + 1 < l.length), ¬ ocmp o l[i + 1] l[i] < 0) :
    Calls Try.prog 13 #[va, .int .i64 o] w fun e w' => e = .returned (.bool true) ∧ Below w.heap.size w w' := by
  obtain ⟨ao, ca, rfl, hac, ham, hacl⟩ := ha
  have RA := hide hacl
  have HR := hide hr
  clear hacl hac ham hr
  go_enter Try.func13, Try.ntmps13
  go_wp2
  go_loopw [5] (fun p wr => ∃ (i : Nat), p = .int .i64 ((i : Int) + 1) ∧ (i + 1 ≤ l.length ∨ i = 0) ∧ Hid (Below w.heap.size w wr)) (fun p _ => l.length - (intOf p).toNat)
  case atStart => exact ⟨0, rfl, Or.inr rfl, hide (Below.refl _ _)⟩
  case round =>
    obtain ⟨i, rfl, hi, hB⟩ := hrel
    by_cases hil : i + 1 < l.length
    · obtain ⟨ga, oa, rfl, _, hga, hin⟩ := RA.out (by omega)
      have q1 : (i : Int) + 1 < (l.length : Int) := by omega
      have hlt : i < l.length := by omega
      have HC0 := HR.out i hil
      obtain ⟨⟨y1, y2⟩, hy⟩ : ∃ y, l[i] = y := ⟨_, rfl⟩
      obtain ⟨⟨z1, z2⟩, hz⟩ : ∃ y, l[i + 1] = y := ⟨_, rfl⟩
      have qy := hin i hlt
      have qz := hin (i + 1) hil
      rw [hy] at qy HC0
      rw [hz] at qz HC0
      have CF : Hid (∀ U, Below wr.heap.size wr U → U.cell? ⟨ga, oa + i * 2, none⟩ = some (.int .i64 y1) ∧ U.cell? ⟨ga, oa + i * 2 + 1, none⟩ = some (.int .i64 y2) ∧ U.cell? ⟨ga, oa + (i + 1) * 2, none⟩ = some (.int .i64 z1) ∧ U.cell? ⟨ga, oa + (i + 1) * 2 + 1, none⟩ = some (.int .i64 z2)) := hide (fun U k => by
        have k2 := hB.out.trans (k.mono hB.out.size)
        exact ⟨(k2.cell (p := ⟨ga, _, none⟩) hga).trans qy.1, (k2.cell (p := ⟨ga, _, none⟩) hga).trans qy.2, (k2.cell (p := ⟨ga, _, none⟩) hga).trans qz.1, (k2.cell (p := ⟨ga, _, none⟩) hga).trans qz.2⟩)
      have K : Below wr.heap.size wr wr.drew := (Below.refl _ _).drew
      have HC := hide (fun (U : World) => ocmp_any (w := U) (o := o) (a := (z1, z2)) (b := (y1, y2)))
      obtain ⟨c, hc⟩ : ∃ c, ocmp o (z1, z2) (y1, y2) = c := ⟨_, rfl⟩
      rw [hc] at HC HC0
      have d0 : decide (c < 0) = false := by simpa using HC0
      have w0 : IntKind.i64.wrap ((i : Int) + 1 - 1) = (i : Int) := by rw [IntKind.wrap_i64]; omega
      have w1 : IntKind.i64.wrap ((i : Int) + 1 + 1) = (i : Int) + 1 + 1 := by rw [IntKind.wrap_i64]; omega
      obtain ⟨j, hj⟩ : ∃ j, i + 1 = j := ⟨_, rfl⟩
      have hjc : (i : Int) + 1 = (j : Int) := by omega
      rw [hj] at CF hil
      rw [hjc] at w0 w1 q1 ⊢
      clear hin qy qz hc hy hz HC0 hi
      go_wp2
      first | go_region_held3 (fun u => u.cell? ⟨ga, oa + i * 2, none⟩ = some (.int .i64 y1) ∧ u.cell? ⟨ga, oa + i * 2 + 1, none⟩ = some (.int .i64 y2) ∧ u.cell? ⟨ga, oa + j * 2, none⟩ = some (.int .i64 z1) ∧ u.cell? ⟨ga, oa + j * 2 + 1, none⟩ = some (.int .i64 z2))
        (first | with_reducible exact CF.out _ K | go_keep)
        (first | (go_at_call 27; (with_reducible refine (HC.out _).mono ?_); rintro e w9 ⟨rfl, hb⟩; replace K := K.trans (hb.mono K.size); clear hb)) | fail "region"
      have HB9 := hide (hB.out.trans (K.mono hB.out.size))
      clear K
      go_wp2
      go_roundw
      case rel => exact ⟨j, by first | rfl | simp, by omega, HB9⟩
      case measure => simp [intOf]; omega
    · have q1 : ¬ (i : Int) + 1 < (l.length : Int) := by omega
      go_wp2
      go_ret
      exact ⟨rfl, hB.out⟩
set_option maxRecDepth 100000 in
set_option maxHeartbeats 8000000 in
theorem shuffled_any {w : World} {va vb : Value} {l m : List It} (ha : ItRd (fun _ => True) w va l) (hb : ItRd (fun _ => True) w vb m) (hl : l.length ≤ 8796093022208) (hp : l.Perm m) :
    Calls Try.prog 14 #[va, vb] w fun e w' => e = .returned (.bool true) ∧ Below w.heap.size w w' := by
  have HA := hide ha
  have HB := hide hb
  obtain ⟨ao, ca, rfl, hac, ham, hacl⟩ := ha
  obtain ⟨bo, cb, rfl, hbc, hbm, hbcl⟩ := hb
  have RA := hide hacl
  have hlm : m.length = l.length := hp.length_eq.symm
  have HP := hide hp
  clear hacl hac ham hbcl hbc hbm hp
  go_enter Try.func14, Try.ntmps14
  rw [hlm]
  go_wp2
  go_loopw [5] (fun p wr => ∃ (i : Nat), p = .int .i64 i ∧ i ≤ l.length ∧ Hid (Below w.heap.size w wr)) (fun p _ => l.length - (intOf p).toNat)
  case atStart => exact ⟨0, rfl, by omega, hide (Below.refl _ _)⟩
  case round =>
    obtain ⟨i, rfl, hi, hB⟩ := hrel
    by_cases hil : i < l.length
    · obtain ⟨ga, oa, rfl, _, hga, hin⟩ := RA.out (by omega)
      have q1 : (i : Int) < (l.length : Int) := by omega
      obtain ⟨⟨y1, y2⟩, hy⟩ : ∃ y, l[i] = y := ⟨_, rfl⟩
      have qy := hin i hil
      rw [hy] at qy
      have CF : Hid (∀ U, Below wr.heap.size wr U → U.cell? ⟨ga, oa + i * 2, none⟩ = some (.int .i64 y1) ∧ U.cell? ⟨ga, oa + i * 2 + 1, none⟩ = some (.int .i64 y2)) := hide (fun U k => by
        have k2 := hB.out.trans (k.mono hB.out.size)
        exact ⟨(k2.cell (p := ⟨ga, _, none⟩) hga).trans qy.1, (k2.cell (p := ⟨ga, _, none⟩) hga).trans qy.2⟩)
      have K : Below wr.heap.size wr wr.drew := (Below.refl _ _).drew
      have HT1 := hide (fun (U : World) (k : Below wr.heap.size wr U) => times_any (w := U) (x := (y1, y2)) (HA.out.below (hB.out.trans (k.mono hB.out.size))) hl)
      have HT2 := hide (fun (U : World) (k : Below wr.heap.size wr U) => times_any (w := U) (x := (y1, y2)) (HB.out.below (hB.out.trans (k.mono hB.out.size))) (by omega))
      rw [← HP.out.count_eq (y1, y2)] at HT2
      rw [hlm] at HT2
      obtain ⟨c, hc⟩ : ∃ c, l.count (y1, y2) = c := ⟨_, rfl⟩
      rw [hc] at HT1 HT2
      have w1 : IntKind.i64.wrap ((i : Int) + 1) = (i : Int) + 1 := by rw [IntKind.wrap_i64]; omega
      clear hin qy hc hy
      go_wp2
      first | go_region_held3 (fun u => u.cell? ⟨ga, oa + i * 2, none⟩ = some (.int .i64 y1) ∧ u.cell? ⟨ga, oa + i * 2 + 1, none⟩ = some (.int .i64 y2))
        (first | with_reducible exact CF.out _ K | go_keep)
        (first | (go_at_call 28; (first | (with_reducible refine (HT1.out _ K).mono ?_) | (with_reducible refine (HT2.out _ K).mono ?_)); rintro e w9 ⟨rfl, hb⟩; replace K := K.trans (hb.mono K.size); clear hb)) | fail "region"
      have HB9 := hide (hB.out.trans (K.mono hB.out.size))
      clear K
      go_wp2
      go_roundw
      case rel => exact ⟨i + 1, by simp, by omega, HB9⟩
      case measure => simp [intOf]; omega
    · go_wp2
      go_ret
      exact ⟨rfl, hB.out⟩

end Go.Proofs.Ytboikfcmbfaaeaa

namespace Go.Proofs.Ytboikfcmbfaaeaa
open Go.RowKit Go.Shelf
set_option linter.unusedVariables false
set_option linter.unusedSimpArgs false

def nmb (d : Nat) (l : List It) : List It := l.mapIdx fun i x => ((x.1, ((d + i : Nat) : Int)) : It)
theorem nmb_len (d : Nat) (l : List It) : (nmb d l).length = l.length := by simp [nmb]
theorem nmb_step (d : Nat) {l : List It} {i : Nat} (hi : i < l.length) : nmb d (l.take (i + 1)) = nmb d (l.take i) ++ [(l[i].1, ((d + i : Nat) : Int))] := by
  rw [List.take_succ_eq_append_getElem hi]
  simp only [nmb, List.mapIdx_append, List.mapIdx_cons, List.mapIdx_nil, List.length_take]
  rw [show 0 + min i l.length = i by omega]
set_option maxRecDepth 100000 in
set_option maxHeartbeats 8000000 in
theorem numbered_any {w : World} {va : Value} {l : List It} {d : Nat} (ha : ItRd (fun _ => True) w va l) (hl : l.length ≤ 8796093022208) (hd : d ≤ 8796093022208) :
    Calls Try.prog 4 #[va, .int .i64 d] w fun e w' => (∃ v, e = .returned v ∧ w'.ownsRow w.heap.size 29 2 v l.length (flat (nmb d l))) ∧ Below w.heap.size w w' := by
  obtain ⟨ao, ca, rfl, hac, ham, hacl⟩ := ha
  have RA := hide hacl
  have H63 := hide (show l.length ≤ maxLen ∧ l.length * 16 ≤ 140737488355328 from ⟨by unfold maxLen; omega, by omega⟩)
  clear hacl hac ham
  go_enter Try.func4, Try.ntmps4
  go_wp2
  go_loopw [5, 6] (fun v p wr => ∃ (i : Nat), p = .int .i64 i ∧ i ≤ l.length ∧ Hid (wr.ownsRow w.heap.size 29 2 v i (flat (nmb d (l.take i)))) ∧ Hid (Below w.heap.size w wr)) (fun _ p _ => l.length - (intOf p).toNat)
  case atStart => exact ⟨0, rfl, by omega, hide (by simpa [nmb, flat] using World.ownsRow_nil _ _ _ _), hide (Below.refl _ _)⟩
  case round =>
    obtain ⟨i, rfl, hi, hO, hB⟩ := hrel
    by_cases hil : i < l.length
    · obtain ⟨ga, oa, rfl, _, hga, hin⟩ := RA.out (by omega)
      have q1 : (i : Int) < (l.length : Int) := by omega
      obtain ⟨⟨y1, y2⟩, hy⟩ : ∃ y, l[i] = y := ⟨_, rfl⟩
      have qy := hin i hil
      rw [hy] at qy
      have c1 := (hB.out.cell (p := ⟨ga, _, none⟩) hga).trans qy.1
      have c2 := (hB.out.cell (p := ⟨ga, _, none⟩) hga).trans qy.2
      have w1' : IntKind.i64.wrap ((d : Int) + (i : Int)) = ((d + i : Nat) : Int) := by rw [IntKind.wrap_i64]; omega
      have w2' : IntKind.i64.wrap ((i : Int) + 1) = (i : Int) + 1 := by rw [IntKind.wrap_i64]; omega
      have SZ := hide hB.out.size
      have NS := hide (nmb_step d hil)
      rw [hy] at NS
      obtain ⟨e, he⟩ : ∃ e, ((d + i : Nat) : Int) = e := ⟨_, rfl⟩
      rw [he] at w1' NS
      have RN := hide (fun (W : World) => one_rd W y1 e)
      clear hin qy hy he
      go_wp2_with (at_builtin; refine wpList_append_items rfl _ _ rfl w.heap.size _ i _ rfl (hO.out.alloc _) _ [(y1, e)] rfl (RN.out _) (by intro c h; cases h) (by have := H63.out; simp; omega) (by have := H63.out; simp; omega) (by have := SZ.out; simp; omega) ?_)
      intro v2 w2 own2 bel2
      have HO2 := hide own2
      have HB2 := hide ((hB.out.alloc SZ.out _).trans bel2)
      clear own2 bel2
      go_wp2
      refine ⟨⟨i + 1, by simp, by omega, hide ?_, HB2⟩, by simp [intOf]; omega⟩
      rw [NS.out, flat_append]
      exact HO2.out
    · obtain rfl : i = l.length := by omega
      rw [List.take_length] at hO
      go_wp2
      go_ret
      exact ⟨⟨_, rfl, hO.out⟩, hB.out⟩

end Go.Proofs.Ytboikfcmbfaaeaa

namespace Go.Proofs.Ytboikfcmbfaaeaa
open Go.RowKit Go.Shelf
set_option linter.unusedVariables false
set_option linter.unusedSimpArgs false
attribute [local go_sem] Oper.semAt_some

theorem owns_blk {W W' : World} {base e g n cap : Nat} {xs : List Value} (h : W.ownsRow base e 2 (.slice (some ⟨g, 0, none⟩) n cap) n xs) (hg : g < W.heap.size → W'.heap[g]? = W.heap[g]?) : W'.ownsRow base e 2 (.slice (some ⟨g, 0, none⟩) n cap) n xs := by
  obtain ⟨h0, ⟨h1, _⟩ | ⟨g', cap', cur, h1, h2, h3, h4⟩⟩ := h
  · cases h1
  · cases h1
    exact ⟨h0, .inr ⟨g, cap, cur, rfl, h2, (hg (Array.getElem?_eq_some_iff.1 h3).1).trans h3, h4⟩⟩
theorem owns_full {W : World} {base g n : Nat} {l : List It} (h : W.ownsRow base 29 2 (.slice (some ⟨g, 0, none⟩) n l.length) n (flat l)) (hn : n = l.length) : Own12 base W (.slice (some ⟨g, 0, none⟩) n l.length) l := by
  obtain ⟨h0, ⟨h1, _⟩ | ⟨g', cap', cur, h1, h2, h3, h4, h5, h6, h7⟩⟩ := h
  · cases h1
  · cases h1
    subst hn
    refine .inr ⟨g, rfl, h2, ?_, h5⟩
    have e : cur.toList = flat l := by rw [← h7, List.take_of_length_le (by rw [Array.length_toList, h6]; exact Nat.le_refl _)]
    unfold ItRow
    rw [h3, ← e]
theorem owns_kept {W W' : World} {base e g n cap : Nat} {xs : List Value} {row : Option Nat} (h : W.ownsRow base e 2 (.slice (some ⟨g, 0, none⟩) n cap) n xs) (hg : W.grownBy W' row) (ne : some g ≠ row) : W'.ownsRow base e 2 (.slice (some ⟨g, 0, none⟩) n cap) n xs := by
  obtain ⟨h0, ⟨h1, _⟩ | ⟨g', cap', cur, h1, h2, h3, h4⟩⟩ := h
  · cases h1
  · cases h1
    exact ⟨h0, .inr ⟨g, cap, cur, rfl, h2, (hg.block g (Array.getElem?_eq_some_iff.1 h3).1 ne).trans h3, h4⟩⟩
/-- between two rounds -/
def MgI (base g Bo cap : Nat) (w8 : World) (pre : List It) (W : World) : Prop := W.ownsRow base 29 2 (.slice (some ⟨g, 0, none⟩) pre.length cap) pre.length (flat pre) ∧ Boxed W Bo 22 (.slice (some ⟨g, 0, none⟩) pre.length cap) ∧ BelX (fun k => k = g ∨ k = Bo) w8.heap.size w8 W
theorem mgi_own {base g Bo cap : Nat} {w8 : World} (h1 : g < w8.heap.size) (h2 : Bo < w8.heap.size) : OwnFrom w8.heap.size (MgI base g Bo cap w8) := by
  rintro pre W W' row ⟨a, b, f⟩ hg hr
  have ne : ∀ r, r < w8.heap.size → some r ≠ row := fun r h e => by have := (hr r e.symm).1; omega
  exact ⟨owns_kept a hg (ne _ h1), b.kept hg (ne _ h2), f.trans (BelX.grown hg f.size (fun r e => .inl (hr r e).1))⟩
theorem mgi_step {base g Bo cap : Nat} {w8 : World} {pre : List It} {W W' : World} {x : It} {o : Obj} (h : MgI base g Bo cap w8 pre W) (h1 : g < w8.heap.size) (h2 : Bo < w8.heap.size) (hne : Bo ≠ g)
    (ho : W'.ownsRow base 29 2 (.slice (some ⟨g, 0, none⟩) (pre.length + 1) cap) (pre.length + 1) (flat pre ++ flat [x])) (hg : (W.alloc o).grownBy W' (some g)) :
    KeepsFrom w8.heap.size W (W'.setCell ⟨Bo, 0, none⟩ (.slice (some ⟨g, 0, none⟩) (pre.length + 1) cap)) ∧ BelX (fun k => k = g ∨ k = Bo) w8.heap.size W (W'.setCell ⟨Bo, 0, none⟩ (.slice (some ⟨g, 0, none⟩) (pre.length + 1) cap)) ∧ MgI base g Bo cap w8 (pre ++ [x]) (W'.setCell ⟨Bo, 0, none⟩ (.slice (some ⟨g, 0, none⟩) (pre.length + 1) cap)) := by
  obtain ⟨a, b, f⟩ := h
  have b1 : BelX (fun k => k = g ∨ k = Bo) w8.heap.size W (W.alloc o) := BelX.of ((Below.refl _ W).alloc (Nat.le_refl _) _) f.size
  have b2 : BelX (fun k => k = g ∨ k = Bo) w8.heap.size (W.alloc o) W' := BelX.grown hg (Nat.le_trans f.size b1.size) (fun k e => by cases e; exact .inr (.inl rfl))
  have b3 : BelX (fun k => k = g ∨ k = Bo) w8.heap.size W' (W'.setCell ⟨Bo, 0, none⟩ (.slice (some ⟨g, 0, none⟩) (pre.length + 1) cap)) := belx_set _ _ (.inr rfl)
  have bx := (b1.trans b2).trans b3
  refine ⟨?_, bx, ?_, ?_, f.trans bx⟩
  · exact (((KeepsOthers.alloc W o).from _).trans (KeepsFrom.of_grownBy hg (fun j e => by cases e; exact h1))).trans ((KeepsOthers.setCell _ _ _).from _)
  · rw [List.length_append, List.length_singleton, flat_append]
    exact owns_kept ho (grownBy_setCell' W' Bo _) (fun e => hne (by cases e; rfl))
  · rw [List.length_append, List.length_singleton]
    exact ((b.alloc o).kept hg (fun e => hne (by cases e; rfl))).set _

end Go.Proofs.Ytboikfcmbfaaeaa

namespace Go.Proofs.Ytboikfcmbfaaeaa
open Go.RowKit
set_option linter.unusedVariables false

theorem bel_grown {A B : World} (h : Below A.heap.size A B) : A.grownBy B none := ⟨h.os, h.tape, h.output, h.size, fun k hk _ => h.block k hk⟩
variable {F : Fence} {n : Nat} {P : Program}
/-- an iterator, and what is known of what it hands to yield -/
def SeqP {α : Type} (F : Fence) (n : Nat) (P : Program) (g : Nat) (lb : Array Value) (encs : α → Array Value) (Kp : World → World → Prop) (Rd : List α → α → Prop) (S Sp : List α → Prop) (w : World) : Prop :=
  ∀ (l : Nat) (J Jx : List α → World → Prop) (W : World), Below w.heap.size w W → AbidesFrom W.heap.size J → AbidesFrom W.heap.size Jx →
    (∀ pre x W1, J pre W1 → Rd pre x → YieldAt F (n - 1) P l (encs x) W1 fun e W' =>
      (e = .returned (.bool true) ∧ J (pre ++ [x]) W' ∧ Kp W1 W') ∨ (e = .returned (.bool false) ∧ Jx (pre ++ [x]) W')) →
    J [] W →
    CallsIn F n P g (#[.func (.yield l) #[] #[]] ++ lb) W fun e W' => (∃ v, e = .returned v) ∧ ((∃ xs, S xs ∧ J xs W') ∨ (∃ pre, Sp pre ∧ Jx pre W'))

theorem wpIn_rangeP {α : Type} {g : Operand} {ps : Array Tmp} {assign body : Code} {Q : Exit → Act → World → Prop} {a : Act} {w : World}
    (hro : F.round = none) (h1 : 1 ≤ n) {gf : Nat} {lb : Array Value} (hg : a.eval g = .func (.func gf) #[] lb) (hFg : F.fn gf) (eg : ∀ args w, (callFunc gf args).run P w = .ok (.enter gf args) w)
    {encs : α → Array Value} {Kp : World → World → Prop} {Rd : List α → α → Prop} {S Sp : List α → Prop} {w0 : World} (hseq : SeqP F (n - 1) P gf lb encs Kp Rd S Sp w0)
    (hKt : ∀ {A B C : World}, Kp A B → Kp B C → Kp A C) (hKb : ∀ (W : World) (l : Nat) (o' : Obj), w.heap.size ≤ l → Kp W (W.putObj l o')) (hKa : ∀ A C : World, Below A.heap.size A C → w.heap.size ≤ A.heap.size → Kp A C) (hb0 : Below w0.heap.size w0 w) (hps : ∀ x, (encs x).size = ps.size)
    (I : List α → World → Prop) (Ix : Code → List α → World → Prop) (hI : OwnFrom w.heap.size I) (hIx : ∀ c, OwnFrom w.heap.size (Ix c)) (h0 : I [] w) (At : α → Act → World → Prop) (hAt : ∀ x a' (A : World) (l : Nat) (r r' : Loop), At x a' A → A.heap[l]? = some (.loop r) → At x a' (A.putObj l (.loop r')))
    (hassign : ∀ (l : Nat) (x : α) (W : World) (K : Act → World → Prop), (∀ a₁ W₁, Below W.heap.size W W₁ → At x a₁ W₁ → K a₁ W₁) →
      assign.wpIn (F.inRound l) (n - 1 - 1) P (Exit.then K (fun _ _ _ => False)) { tmps := (ps.zip (encs x)).foldl (fun t (p, v) => t.setIfInBounds p v) a.tmps, defers := [] } W)
    (hbody : ∀ (l : Nat) (pre : List α) (x : α) (a₁ : Act) (W : World), I pre W → Rd pre x → At x a₁ W → w.heap.size ≤ W.heap.size → body.wpIn (F.inRound l) (n - 1 - 1) P (ownPostG w.heap.size Kp I Ix (pre ++ [x]) W) a₁ W)
    (hdone : ∀ (D : Nat) (xs : List α) (W : World), w.heap.size ≤ D → S xs → I xs W → W.heap[D]? = some (.deferred (some [])) → Q .normal { a with defers := { target := .collected D, args := #[] } :: a.defers } W)
    (hstop : ∀ (D : Nat) (c : Code) (pre : List α) (W : World), w.heap.size ≤ D → Sp pre → Ix c pre W → W.heap[D]? = some (.deferred (some [])) → c.wpIn F n P Q { a with defers := { target := .collected D, args := #[] } :: a.defers } W) :
    (Code.rangeFunc g ps assign body).wpIn F n P Q a w := by
  refine wpIn_rangeFunc fun fn hfn => ?_
  rw [hro]
  have go : ∃ W1 : World, ∃ r0 : Loop, (Instr.enterLoop fn a.tmps ps assign body none).run P w = .ok (w.heap.size + 1, [{ target := .collected w.heap.size, args := #[] }]) W1 ∧ Below w.heap.size w W1 ∧ W1.heap.size = w.heap.size + 2 ∧
      W1.heap[w.heap.size + 1]? = some (.loop r0) ∧ W1.heap[w.heap.size]? = some (.deferred (some [])) ∧ r0.state = .ready ∧ r0.pending = none ∧ r0.fn = fn ∧ r0.tmps = a.tmps ∧ r0.params = ps ∧ r0.assign = assign ∧ r0.body = body := by
    refine ⟨_, { state := .ready, pending := none, fn, tmps := a.tmps, params := ps, assign, body, defers := w.heap.size }, run_enterLoop_outer _ _ _ _ _, ((Below.refl _ w).alloc (Nat.le_refl _) _).alloc (by simp) _, by simp, ?_, ?_, rfl, rfl, rfl, rfl, rfl, rfl, rfl⟩
    · have := World.alloc_heap_new (w.alloc (.deferred (some []))) (.loop { state := .ready, pending := none, fn, tmps := a.tmps, params := ps, assign, body, defers := w.heap.size })
      rwa [World.size_alloc] at this
    · exact (Below.heap_alloc _ _ _ (by simp)).trans (World.alloc_heap_new w _)
  obtain ⟨W1, r0, hen, hB1, hsz, hL, hD, e1, e2, e3, e4, e5, e6, e7⟩ := go
  have isg : ∀ {pre : List α} {A B : World}, I pre A → Below A.heap.size A B → I pre B := fun h hb => hI _ _ _ none h (bel_grown hb) (fun r e => by cases e)
  have ipt : ∀ {pre : List α} {A : World} {r : Loop} (r' : Loop), I pre A → A.heap[w.heap.size + 1]? = some (.loop r) → I pre (A.putObj (w.heap.size + 1) (.loop r')) := fun r' h hl => hI.putObj _ h (by omega) hl rfl
  have xpt : ∀ {c : Code} {pre : List α} {A : World} {r : Loop} (r' : Loop), Ix c pre A → A.heap[w.heap.size + 1]? = some (.loop r) → Ix c pre (A.putObj (w.heap.size + 1) (.loop r')) := fun r' h hl => (hIx _).putObj _ h (by omega) hl rfl
  refine ⟨w.heap.size + 1, [{ target := .collected w.heap.size, args := #[] }], W1, { target := .fn (.func gf) lb, args := #[.func (.yield (w.heap.size + 1)) #[] #[]] }, W1, gf, #[.func (.yield (w.heap.size + 1)) #[] #[]] ++ lb, W1, hen, ?_, ?_, ?_, fun _ => h1, ?_⟩
  · simp only [resolve, hg]
    simp [go_sem]
  · intro f' hf'
    simp [Target.leads] at hf'
    subst hf'
    exact hFg
  · simp [invoke, go_sem, eg]
  have nr : ∀ {A B : World} {row : Option Nat} {k : Nat}, A.grownBy B row → (∀ r, row = some r → W1.heap.size ≤ r ∧ ∃ o : Obj, A.heap[r]? = some o ∧ o.isWalk = true) → k < A.heap.size → k < W1.heap.size → B.heap[k]? = A.heap[k]? := fun hg' hr h2 h3 => hg'.block _ h2 (fun e => by have := (hr _ e.symm).1; omega)
  have hnw : ∀ {A : World} {row : Option Nat}, (∀ r, row = some r → W1.heap.size ≤ r ∧ ∃ o : Obj, A.heap[r]? = some o ∧ o.isWalk = true) → (∀ r, row = some r → w.heap.size ≤ r ∧ ∃ o : Obj, A.heap[r]? = some o ∧ o.isCells = false) := fun hr r e => by
    obtain ⟨hB, o, ho, hw⟩ := hr r e
    exact ⟨by omega, o, ho, Obj.not_cells_of_walk hw⟩
  refine (hseq (w.heap.size + 1) (fun pre W => I pre W ∧ W.heap[w.heap.size + 1]? = some (.loop r0) ∧ W.heap[w.heap.size]? = some (.deferred (some [])))
    (fun pre W => ∃ c r, Ix c pre W ∧ W.heap[w.heap.size + 1]? = some (.loop r) ∧ r.state ≠ .busy ∧ r.pending = some c ∧ W.heap[w.heap.size]? = some (.deferred (some []))) W1 (hb0.trans (hB1.mono hb0.size)) ?_ ?_ ?_ ⟨?_, hL, hD⟩).mono ?_
  · rintro s A B row ⟨hi, hl, hd⟩ hg' hr
    have l1 := (Array.getElem?_eq_some_iff.1 hl).1
    exact ⟨hI s A B row hi hg' (hnw hr), (nr hg' hr l1 (by omega)).trans hl, (nr hg' hr (by omega) (by omega)).trans hd⟩
  · rintro s A B row ⟨c, r, hi, hl, h3, h4, hd⟩ hg' hr
    have l1 := (Array.getElem?_eq_some_iff.1 hl).1
    exact ⟨c, r, hIx c s A B row hi hg' (hnw hr), (nr hg' hr l1 (by omega)).trans hl, h3, h4, (nr hg' hr (by omega) (by omega)).trans hd⟩
  · rintro pre x W ⟨hi, hl, hd⟩ hr
    have hlt0 : w.heap.size + 1 < W.heap.size := (Array.getElem?_eq_some_iff.1 hl).1
    refine ⟨r0.fn, _, r0.assign, r0.body, run_yield (P := P) (args := encs x) hl (by rw [e5]; exact hps x), roundIn_of_wpIn (by rw [e3]; exact hfn) ?_⟩
    rw [e4, e5, e6, e7]
    refine hassign _ x W _ fun a₁ W₁ hbb hat => ?_
    have kA : Kp W W₁ := hKa _ _ hbb (by omega)
    replace hi := isg hi hbb
    replace hl := (hbb.block _ hlt0).trans hl
    replace hd := (hbb.block _ (by omega)).trans hd
    have hlt : w.heap.size + 1 < W₁.heap.size := (Array.getElem?_eq_some_iff.1 hl).1
    refine ⟨_, run_beginRound hl e1, ?_⟩
    have hl2 : (W₁.putObj (w.heap.size + 1) (.loop { r0 with state := .busy })).heap[w.heap.size + 1]? = some (.loop { r0 with state := .busy }) := World.putObj_heap_same hlt
    have hd2 : (W₁.putObj (w.heap.size + 1) (.loop { r0 with state := .busy })).heap[w.heap.size]? = some (.deferred (some [])) := (World.putObj_heap_other (by omega)).trans hd
    have kB : Kp W (W₁.putObj (w.heap.size + 1) (.loop { r0 with state := .busy })) := hKt kA (hKb _ _ _ (by omega))
    refine wpIn_mono (hbody _ pre x a₁ _ (ipt _ hi hl) hr (hAt _ _ _ _ _ _ hat hl) (by simp; omega)) ?_
    have fin : ∀ (jump : Option Code) (W3 : World), KeepsFrom w.heap.size (W₁.putObj (w.heap.size + 1) (.loop { r0 with state := .busy })) W3 →
        (Instr.endRound (w.heap.size + 1) jump).run P W3 = .ok (.bool jump.isNone) (W3.putObj (w.heap.size + 1) (.loop { r0 with state := (if jump.isNone then .ready else .done), pending := jump })) ∧
        (W3.putObj (w.heap.size + 1) (.loop { r0 with state := (if jump.isNone then .ready else .done), pending := jump })).heap[w.heap.size + 1]? = some (.loop { r0 with state := (if jump.isNone then .ready else .done), pending := jump }) ∧
        (W3.putObj (w.heap.size + 1) (.loop { r0 with state := (if jump.isNone then .ready else .done), pending := jump })).heap[w.heap.size]? = some (.deferred (some [])) ∧ W3.heap[w.heap.size + 1]? = some (.loop { r0 with state := .busy }) := fun jump W3 hk => by
      have hs := hk.size
      simp only [World.putObj_size] at hs
      have hl3 := hk.same (w.heap.size + 1) _ (by omega) hl2 rfl
      have hr3 := run_endRound (P := P) (r := { r0 with state := .busy }) jump hl3
      exact ⟨hr3, World.putObj_heap_same (by omega), (World.putObj_heap_other (by omega)).trans (hk.same w.heap.size _ (Nat.le_refl _) hd2 rfl), hl3⟩
    rintro e a3 W3 hp
    cases e with
    | normal =>
      obtain ⟨hk, hkp, hi3⟩ := hp
      obtain ⟨g1, g2, g3, g4⟩ := fin none W3 hk
      refine ⟨_, _, g1, .inl ⟨rfl, ⟨ipt _ hi3 g4, ?_, g3⟩, ?_⟩⟩
      · rw [g2]
        have : r0 = { r0 with state := .ready, pending := none } := by rw [← e1, ← e2]
        rw [this]
        rfl
      · exact hKt (hKt kB hkp) (hKb _ _ _ (by omega))
    | ret =>
      obtain ⟨hk, hi3⟩ := hp
      obtain ⟨g1, g2, g3, g4⟩ := fin (some .ret) W3 hk
      exact ⟨_, _, g1, .inr ⟨rfl, .ret, _, xpt _ hi3 g4, g2, by simp, rfl, g3⟩⟩
    | exit id =>
      obtain ⟨hk, hi3⟩ := hp
      obtain ⟨g1, g2, g3, g4⟩ := fin (some (.exit id)) W3 hk
      exact ⟨_, _, g1, .inr ⟨rfl, .exit id, _, xpt _ hi3 g4, g2, by simp, rfl, g3⟩⟩
    | goto t =>
      obtain ⟨hk, hi3⟩ := hp
      obtain ⟨g1, g2, g3, g4⟩ := fin (some (.goto t)) W3 hk
      exact ⟨_, _, g1, .inr ⟨rfl, .goto t, _, xpt _ hi3 g4, g2, by simp, rfl, g3⟩⟩
    | panic ch => exact hp.elim
    | outgrown => exact hp.elim
  · exact hI _ _ _ none h0 ⟨hB1.os, hB1.tape, hB1.output, hB1.size, fun k hk _ => hB1.block k hk⟩ (fun r e => by cases e)
  · rintro e W2 ⟨⟨v, rfl⟩, (⟨xs, hS, hi, hl, hd⟩ | ⟨pre, hSp, c, r, hi, hl, h3, h4, hd⟩)⟩
    · have h := run_endLoop (P := P) hl (by rw [e1]; simp)
      rw [e2] at h
      exact ⟨none, _, h, hdone _ xs _ (Nat.le_refl _) hS (ipt _ hi hl) ((World.putObj_heap_other (by omega)).trans hd)⟩
    · have h := run_endLoop (P := P) hl h3
      rw [h4] at h
      exact ⟨some c, _, h, hstop _ c pre _ (Nat.le_refl _) hSp (xpt _ hi hl) ((World.putObj_heap_other (by omega)).trans hd)⟩

end Go.Proofs.Ytboikfcmbfaaeaa

namespace Go.Proofs.Ytboikfcmbfaaeaa
open Go.RowKit
set_option linter.unusedVariables false
variable {F : Fence} {n : Nat} {P : Program}

/-- what the body's facts bear: blocks below s and those of O stand -/
structure FrO (s : Nat) (O : Nat → Prop) (A B : World) : Prop where
  os : B.os = A.os
  tape : B.tape = A.tape
  output : B.output = A.output
  size : A.heap.size ≤ B.heap.size
  block : ∀ k, k < A.heap.size → (k < s ∨ O k) → B.heap[k]? = A.heap[k]?
theorem FrO.of_below {s : Nat} {O : Nat → Prop} {A B : World} (h : Below A.heap.size A B) : FrO s O A B := ⟨h.os, h.tape, h.output, h.size, fun k hk _ => h.block k hk⟩
theorem FrO.of_belx {s : Nat} {O X : Nat → Prop} {A B : World} (h : BelX X A.heap.size A B) (hx : ∀ k, X k → s ≤ k ∧ ¬ O k) : FrO s O A B :=
  ⟨h.os, h.tape, h.output, h.size, fun k hk ho => h.block k hk (fun e => ho.elim (fun h => by have := (hx k e).1; omega) (fun h => (hx k e).2 h))⟩
def AbO {α : Type} (s : Nat) (J : (Nat → Prop) → List α → World → Prop) : Prop := ∀ O pre A B, J O pre A → FrO s O A B → J O pre B
/-- the body leaves what is not its own -/
def KbO (s : Nat) (O : Nat → Prop) (A B : World) : Prop := A.heap.size ≤ B.heap.size ∧ ∀ k, s ≤ k → k < A.heap.size → ¬ O k → B.heap[k]? = A.heap[k]?
def SeqO {α : Type} (F : Fence) (n : Nat) (P : Program) (g : Nat) (lb : Array Value) (encs : α → Array Value) (Rd : List α → α → Prop) (S Sp : List α → Prop) (w : World) : Prop :=
  ∀ (l : Nat) (J Jx : (Nat → Prop) → List α → World → Prop) (W : World), Below w.heap.size w W → AbO W.heap.size J → AbO W.heap.size Jx →
    (∀ O pre x W1, J O pre W1 → W.heap.size ≤ W1.heap.size → Rd pre x → YieldAt F (n - 1) P l (encs x) W1 fun e W' =>
      (e = .returned (.bool true) ∧ ∃ O', J O' (pre ++ [x]) W' ∧ KbO W.heap.size O W1 W' ∧ ∀ k, O' k → (O k ∨ W1.heap.size ≤ k) ∧ k < W'.heap.size) ∨ (e = .returned (.bool false) ∧ ∃ O', Jx O' (pre ++ [x]) W')) →
    J (fun _ => False) [] W →
    CallsIn F n P g (#[.func (.yield l) #[] #[]] ++ lb) W fun e W' => (∃ v, e = .returned v) ∧ ((∃ O xs, S xs ∧ J O xs W') ∨ (∃ O pre, Sp pre ∧ Jx O pre W'))
def postO {α : Type} (b : Nat) (I : (Nat → Prop) → List α → World → Prop) (Ix : Code → (Nat → Prop) → List α → World → Prop) (O : Nat → Prop) (xs : List α) (W : World) : Exit → Act → World → Prop
  | .normal, _, W' => KeepsFrom b W W' ∧ KbO (b + 2) O W W' ∧ ∃ O', I O' xs W' ∧ ∀ k, O' k → (O k ∨ W.heap.size ≤ k) ∧ k < W'.heap.size
  | .ret, _, W' => KeepsFrom b W W' ∧ ∃ O', Ix .ret O' xs W'
  | .exit id, _, W' => KeepsFrom b W W' ∧ ∃ O', Ix (.exit id) O' xs W'
  | .goto t, _, W' => KeepsFrom b W W' ∧ ∃ O', Ix (.goto t) O' xs W'
  | .panic _, _, _ => False
  | .outgrown, _, _ => False

theorem wpIn_rangeO {α : Type} {g : Operand} {ps : Array Tmp} {assign body : Code} {Q : Exit → Act → World → Prop} {a : Act} {w : World}
    (hro : F.round = none) (h1 : 1 ≤ n) {gf : Nat} {lb : Array Value} (hg : a.eval g = .func (.func gf) #[] lb) (hFg : F.fn gf) (eg : ∀ args w, (callFunc gf args).run P w = .ok (.enter gf args) w)
    {encs : α → Array Value} {Rd : List α → α → Prop} {S Sp : List α → Prop} {w0 : World} (hseq : SeqO F (n - 1) P gf lb encs Rd S Sp w0)
    (hb0 : Below w0.heap.size w0 w) (hps : ∀ x, (encs x).size = ps.size)
    (I : (Nat → Prop) → List α → World → Prop) (Ix : Code → (Nat → Prop) → List α → World → Prop) (hI : AbO (w.heap.size + 2) I) (hIx : ∀ c, AbO (w.heap.size + 2) (Ix c))
    (hIp : ∀ O pre (A : World) (l : Nat) (r r' : Loop), I O pre A → A.heap[l]? = some (.loop r) → w.heap.size ≤ l → I O pre (A.putObj l (.loop r'))) (hIxp : ∀ c O pre (A : World) (l : Nat) (r r' : Loop), Ix c O pre A → A.heap[l]? = some (.loop r) → w.heap.size ≤ l → Ix c O pre (A.putObj l (.loop r')))
    (h0 : I (fun _ => False) [] w) (At : α → Act → World → Prop) (hAt : ∀ x a' (A : World) (l : Nat) (r r' : Loop), At x a' A → A.heap[l]? = some (.loop r) → At x a' (A.putObj l (.loop r')))
    (hassign : ∀ (l : Nat) (x : α) (W : World) (K : Act → World → Prop), (∀ a₁ W₁, Below W.heap.size W W₁ → At x a₁ W₁ → K a₁ W₁) →
      assign.wpIn (F.inRound l) (n - 1 - 1) P (Exit.then K (fun _ _ _ => False)) { tmps := (ps.zip (encs x)).foldl (fun t (p, v) => t.setIfInBounds p v) a.tmps, defers := [] } W)
    (hbody : ∀ (l : Nat) (O : Nat → Prop) (pre : List α) (x : α) (a₁ : Act) (W : World), I O pre W → Rd pre x → At x a₁ W → w.heap.size + 2 ≤ W.heap.size → body.wpIn (F.inRound l) (n - 1 - 1) P (postO w.heap.size I Ix O (pre ++ [x]) W) a₁ W)
    (hdone : ∀ (D : Nat) (O : Nat → Prop) (xs : List α) (W : World), w.heap.size ≤ D → S xs → I O xs W → W.heap[D]? = some (.deferred (some [])) → Q .normal { a with defers := { target := .collected D, args := #[] } :: a.defers } W)
    (hstop : ∀ (D : Nat) (c : Code) (O : Nat → Prop) (pre : List α) (W : World), w.heap.size ≤ D → Sp pre → Ix c O pre W → W.heap[D]? = some (.deferred (some [])) → c.wpIn F n P Q { a with defers := { target := .collected D, args := #[] } :: a.defers } W) :
    (Code.rangeFunc g ps assign body).wpIn F n P Q a w := by
  refine wpIn_rangeFunc fun fn hfn => ?_
  rw [hro]
  have go : ∃ W1 : World, ∃ r0 : Loop, (Instr.enterLoop fn a.tmps ps assign body none).run P w = .ok (w.heap.size + 1, [{ target := .collected w.heap.size, args := #[] }]) W1 ∧ Below w.heap.size w W1 ∧ W1.heap.size = w.heap.size + 2 ∧
      W1.heap[w.heap.size + 1]? = some (.loop r0) ∧ W1.heap[w.heap.size]? = some (.deferred (some [])) ∧ r0.state = .ready ∧ r0.pending = none ∧ r0.fn = fn ∧ r0.tmps = a.tmps ∧ r0.params = ps ∧ r0.assign = assign ∧ r0.body = body := by
    refine ⟨_, { state := .ready, pending := none, fn, tmps := a.tmps, params := ps, assign, body, defers := w.heap.size }, run_enterLoop_outer _ _ _ _ _, ((Below.refl _ w).alloc (Nat.le_refl _) _).alloc (by simp) _, by simp, ?_, ?_, rfl, rfl, rfl, rfl, rfl, rfl, rfl⟩
    · have := World.alloc_heap_new (w.alloc (.deferred (some []))) (.loop { state := .ready, pending := none, fn, tmps := a.tmps, params := ps, assign, body, defers := w.heap.size })
      rwa [World.size_alloc] at this
    · exact (Below.heap_alloc _ _ _ (by simp)).trans (World.alloc_heap_new w _)
  obtain ⟨W1, r0, hen, hB1, hsz, hL, hD, e1, e2, e3, e4, e5, e6, e7⟩ := go
  have isg : ∀ {O : Nat → Prop} {pre : List α} {A B : World}, I O pre A → Below A.heap.size A B → I O pre B := fun h hb => hI _ _ _ _ h (FrO.of_below hb)
  refine ⟨w.heap.size + 1, [{ target := .collected w.heap.size, args := #[] }], W1, { target := .fn (.func gf) lb, args := #[.func (.yield (w.heap.size + 1)) #[] #[]] }, W1, gf, #[.func (.yield (w.heap.size + 1)) #[] #[]] ++ lb, W1, hen, ?_, ?_, ?_, fun _ => h1, ?_⟩
  · simp only [resolve, hg]
    simp [go_sem]
  · intro f' hf'
    simp [Target.leads] at hf'
    subst hf'
    exact hFg
  · simp [invoke, go_sem, eg]
  refine (hseq (w.heap.size + 1) (fun O pre W => I O pre W ∧ W.heap[w.heap.size + 1]? = some (.loop r0) ∧ W.heap[w.heap.size]? = some (.deferred (some [])))
    (fun O pre W => ∃ c r, Ix c O pre W ∧ W.heap[w.heap.size + 1]? = some (.loop r) ∧ r.state ≠ .busy ∧ r.pending = some c ∧ W.heap[w.heap.size]? = some (.deferred (some []))) W1 (hb0.trans (hB1.mono hb0.size)) ?_ ?_ ?_ ⟨?_, hL, hD⟩).mono ?_
  · rintro O s A B ⟨hi, hl, hd⟩ hf
    have l1 := (Array.getElem?_eq_some_iff.1 hl).1
    rw [hsz] at hf
    exact ⟨hI O s A B hi hf, (hf.block _ l1 (.inl (by omega))).trans hl, (hf.block _ (by omega) (.inl (by omega))).trans hd⟩
  · rintro O s A B ⟨c, r, hi, hl, h3, h4, hd⟩ hf
    have l1 := (Array.getElem?_eq_some_iff.1 hl).1
    rw [hsz] at hf
    exact ⟨c, r, hIx c O s A B hi hf, (hf.block _ l1 (.inl (by omega))).trans hl, h3, h4, (hf.block _ (by omega) (.inl (by omega))).trans hd⟩
  · rintro O pre x W ⟨hi, hl, hd⟩ hWs hr
    rw [hsz] at hWs
    have hlt0 : w.heap.size + 1 < W.heap.size := (Array.getElem?_eq_some_iff.1 hl).1
    refine ⟨r0.fn, _, r0.assign, r0.body, run_yield (P := P) (args := encs x) hl (by rw [e5]; exact hps x), roundIn_of_wpIn (by rw [e3]; exact hfn) ?_⟩
    rw [e4, e5, e6, e7]
    refine hassign _ x W _ fun a₁ W₁ hbb hat => ?_
    have kA := hbb
    replace hi := isg hi hbb
    replace hl := (hbb.block _ hlt0).trans hl
    replace hd := (hbb.block _ (by omega)).trans hd
    have hlt : w.heap.size + 1 < W₁.heap.size := (Array.getElem?_eq_some_iff.1 hl).1
    refine ⟨_, run_beginRound hl e1, ?_⟩
    have hl2 : (W₁.putObj (w.heap.size + 1) (.loop { r0 with state := .busy })).heap[w.heap.size + 1]? = some (.loop { r0 with state := .busy }) := World.putObj_heap_same hlt
    have hd2 : (W₁.putObj (w.heap.size + 1) (.loop { r0 with state := .busy })).heap[w.heap.size]? = some (.deferred (some [])) := (World.putObj_heap_other (by omega)).trans hd
    refine wpIn_mono (hbody _ O pre x a₁ _ (hIp _ _ _ _ _ _ hi hl (by omega)) hr (hAt _ _ _ _ _ _ hat hl) (by have := hbb.size; simp; omega)) ?_
    have fin : ∀ (jump : Option Code) (W3 : World), KeepsFrom w.heap.size (W₁.putObj (w.heap.size + 1) (.loop { r0 with state := .busy })) W3 →
        (Instr.endRound (w.heap.size + 1) jump).run P W3 = .ok (.bool jump.isNone) (W3.putObj (w.heap.size + 1) (.loop { r0 with state := (if jump.isNone then .ready else .done), pending := jump })) ∧
        (W3.putObj (w.heap.size + 1) (.loop { r0 with state := (if jump.isNone then .ready else .done), pending := jump })).heap[w.heap.size + 1]? = some (.loop { r0 with state := (if jump.isNone then .ready else .done), pending := jump }) ∧
        (W3.putObj (w.heap.size + 1) (.loop { r0 with state := (if jump.isNone then .ready else .done), pending := jump })).heap[w.heap.size]? = some (.deferred (some [])) ∧ W3.heap[w.heap.size + 1]? = some (.loop { r0 with state := .busy }) := fun jump W3 hk => by
      have hs := hk.size
      simp only [World.putObj_size] at hs
      have hl3 := hk.same (w.heap.size + 1) _ (by omega) hl2 rfl
      have hr3 := run_endRound (P := P) (r := { r0 with state := .busy }) jump hl3
      exact ⟨hr3, World.putObj_heap_same (by omega), (World.putObj_heap_other (by omega)).trans (hk.same w.heap.size _ (Nat.le_refl _) hd2 rfl), hl3⟩
    rintro e a3 W3 hp
    cases e with
    | normal =>
      obtain ⟨hk, hkb, O', hi3, ho⟩ := hp
      obtain ⟨g1, g2, g3, g4⟩ := fin none W3 hk
      have hs2 := hkb.1
      have hs1 := hbb.size
      simp only [World.putObj_size] at hs2
      refine ⟨_, _, g1, .inl ⟨rfl, O', ⟨hIp _ _ _ _ _ _ hi3 g4 (by omega), ?_, g3⟩, ⟨by simp; omega, fun k hk1 hk2 hk3 => ?_⟩, fun k hk => ?_⟩⟩
      · rw [g2]
        have : r0 = { r0 with state := .ready, pending := none } := by rw [← e1, ← e2]
        rw [this]
        rfl
      · rw [hsz] at hk1
        have h5 := hkb.2 k hk1 (by simp; omega) hk3
        exact (World.putObj_heap_other (by omega)).trans (h5.trans ((World.putObj_heap_other (by omega)).trans (hbb.block k hk2)))
      · have := ho k hk
        simp only [World.putObj_size] at this ⊢
        exact ⟨this.1.imp_right (fun h => by omega), this.2⟩
    | ret =>
      obtain ⟨hk, O', hi3⟩ := hp
      obtain ⟨g1, g2, g3, g4⟩ := fin (some .ret) W3 hk
      exact ⟨_, _, g1, .inr ⟨rfl, O', .ret, _, hIxp _ _ _ _ _ _ _ hi3 g4 (by omega), g2, by simp, rfl, g3⟩⟩
    | exit id =>
      obtain ⟨hk, O', hi3⟩ := hp
      obtain ⟨g1, g2, g3, g4⟩ := fin (some (.exit id)) W3 hk
      exact ⟨_, _, g1, .inr ⟨rfl, O', .exit id, _, hIxp _ _ _ _ _ _ _ hi3 g4 (by omega), g2, by simp, rfl, g3⟩⟩
    | goto t =>
      obtain ⟨hk, O', hi3⟩ := hp
      obtain ⟨g1, g2, g3, g4⟩ := fin (some (.goto t)) W3 hk
      exact ⟨_, _, g1, .inr ⟨rfl, O', .goto t, _, hIxp _ _ _ _ _ _ _ hi3 g4 (by omega), g2, by simp, rfl, g3⟩⟩
    | panic ch => exact hp.elim
    | outgrown => exact hp.elim
  · exact isg h0 hB1
  · rintro e W2 ⟨⟨v, rfl⟩, (⟨O, xs, hS, hi, hl, hd⟩ | ⟨O, pre, hSp, c, r, hi, hl, h3, h4, hd⟩)⟩
    · have h := run_endLoop (P := P) hl (by rw [e1]; simp)
      rw [e2] at h
      exact ⟨none, _, h, hdone _ O xs _ (Nat.le_refl _) hS (hIp _ _ _ _ _ _ hi hl (by omega)) ((World.putObj_heap_other (by omega)).trans hd)⟩
    · have h := run_endLoop (P := P) hl h3
      rw [h4] at h
      exact ⟨some c, _, h, hstop _ c O pre _ (Nat.le_refl _) hSp (hIxp _ _ _ _ _ _ _ hi hl (by omega)) ((World.putObj_heap_other (by omega)).trans hd)⟩

end Go.Proofs.Ytboikfcmbfaaeaa

namespace Go.Proofs.Ytboikfcmbfaaeaa
open Go.RowKit Go.Shelf
set_option linter.unusedVariables false
set_option linter.unusedSimpArgs false
attribute [local go_sem] Oper.semAt_some

end Go.Proofs.Ytboikfcmbfaaeaa

namespace Go.Proofs.Ytboikfcmbfaaeaa
set_option linter.unusedVariables false

theorem reps_gt {α : Type} (f : α → α → Int) : ∀ (xs : List α) (k : Nat), ∀ x ∈ reps f k xs, k < x ∧ x < k + xs.length
  | [], k, x, h => by simp [reps] at h
  | [a], k, x, h => by simp [reps] at h
  | a :: b :: t, k, x, h => by
    have ih := reps_gt f (b :: t) (k + 1) x
    simp only [List.length_cons] at ih ⊢
    unfold reps at h
    split at h
    · rcases List.mem_cons.1 h with rfl | h
      · omega
      · have := ih h
        omega
    · have := ih h
      omega
theorem reps_inc {α : Type} (f : α → α → Int) : ∀ (xs : List α) (k : Nat), (reps f k xs).Pairwise (· < ·)
  | [], k => by simp [reps]
  | [a], k => by simp [reps]
  | a :: b :: t, k => by
    have ih := reps_inc f (b :: t) (k + 1)
    unfold reps
    split
    · exact List.pairwise_cons.2 ⟨fun x h => (reps_gt f _ _ x h).1, ih⟩
    · exact ih
/-- what is kept, and where the next begins -/
def unqS {α : Type} (xs : List α) (s : List α × Nat) (i : Nat) : List α × Nat := (s.1 ++ (xs.take i).drop s.2, i + 1)
def unq {α : Type} (f : α → α → Int) (xs : List α) : List α := ((reps f 0 xs).foldl (unqS xs) ([], 0)).1 ++ xs.drop ((reps f 0 xs).foldl (unqS xs) ([], 0)).2
theorem unqS_inv {α : Type} (xs : List α) : ∀ (p : List Nat), p.Pairwise (· < ·) → (∀ x ∈ p, x < xs.length) → (p.foldl (unqS xs) ([], 0)).2 ≤ xs.length ∧ (p.foldl (unqS xs) ([], 0)).1.length ≤ (p.foldl (unqS xs) ([], 0)).2 ∧ ∀ x, (∀ y ∈ p, y < x) → (p.foldl (unqS xs) ([], 0)).2 ≤ x := by
  intro p
  induction hp : p.length generalizing p with
  | zero =>
    intro _ _
    obtain rfl := List.eq_nil_of_length_eq_zero hp
    simp
  | succ n ih =>
    intro h1 h2
    have hne : p ≠ [] := by intro e; subst e; simp at hp
    obtain ⟨q, y, rfl⟩ : ∃ q y, p = q ++ [y] := ⟨p.dropLast, p.getLast hne, (List.dropLast_concat_getLast hne).symm⟩
    obtain ⟨g1, g2, g3⟩ := List.pairwise_append.1 h1
    obtain ⟨i1, i2, i3⟩ := ih q (by simp at hp; omega) g1 (fun x h => h2 x (by simp [h]))
    have hy : y < xs.length := h2 y (by simp)
    have i4 := i3 y (fun z hz => g3 z hz y (by simp))
    rw [List.foldl_append]
    simp only [List.foldl_cons, List.foldl_nil, unqS, List.length_append, List.length_drop, List.length_take]
    refine ⟨by omega, by omega, fun x hx => ?_⟩
    have := hx y (by simp)
    omega
/-- at the next place that is told -/
theorem unqS_at {α : Type} {f : α → α → Int} {xs : List α} {p : List Nat} {x : Nat} (h : p ++ [x] <+: reps f 0 xs) : x < xs.length ∧ (p.foldl (unqS xs) ([], 0)).2 ≤ x ∧ (p.foldl (unqS xs) ([], 0)).1.length ≤ (p.foldl (unqS xs) ([], 0)).2 := by
  have hP := (reps_inc f xs 0).sublist h.sublist
  obtain ⟨g1, g2, g3⟩ := List.pairwise_append.1 hP
  have hm : ∀ y ∈ p ++ [x], y < xs.length := fun y hy => by have := (reps_gt f xs 0 y (h.subset hy)).2; omega
  obtain ⟨i1, i2, i3⟩ := unqS_inv xs p g1 (fun y hy => hm y (by simp [hy]))
  exact ⟨hm x (by simp), i3 x (fun z hz => g3 z hz x (by simp)), i2⟩
theorem unqS_end {α : Type} (f : α → α → Int) (xs : List α) : ((reps f 0 xs).foldl (unqS xs) ([], 0)).2 ≤ xs.length ∧ ((reps f 0 xs).foldl (unqS xs) ([], 0)).1.length ≤ ((reps f 0 xs).foldl (unqS xs) ([], 0)).2 := by
  obtain ⟨i1, i2, _⟩ := unqS_inv xs _ (reps_inc f xs 0) (fun y hy => by have := (reps_gt f xs 0 y hy).2; omega)
  exact ⟨i1, i2⟩

end Go.Proofs.Ytboikfcmbfaaeaa

namespace Go.Proofs.Ytboikfcmbfaaeaa
open Go.RowKit Go.Shelf
set_option linter.unusedVariables false
set_option linter.unusedSimpArgs false
attribute [local go_sem] Oper.semAt_some

theorem owns_on {W W' : World} {base e n : Nat} {v : Value} {xs : List Value} {row : Option Nat} (h : W.ownsRow base e 2 v n xs) (hg : W.grownBy W' row) (hr : ∀ r, row = some r → r < base ∨ ∃ o : Obj, W.heap[r]? = some o ∧ o.isCells = false) : W'.ownsRow base e 2 v n xs := by
  obtain ⟨h0, h1 | ⟨g, cap, cur, h1, h2, h3, h4⟩⟩ := h
  · exact ⟨h0, .inl h1⟩
  · refine ⟨h0, .inr ⟨g, cap, cur, h1, h2, (hg.block g (Array.getElem?_eq_some_iff.1 h3).1 (fun e => ?_)).trans h3, h4⟩⟩
    rcases hr g e.symm with h | ⟨o, ho, hc⟩
    · omega
    · rw [h3] at ho
      cases ho
      cases hc
theorem owns_row {W : World} {base e n : Nat} {v : Value} {xs : List Value} (h : W.ownsRow base e 2 v n xs) {k : Nat} (hk : v.ownBlock = some k) : base ≤ k ∧ ∃ cur, W.heap[k]? = some (.cells cur e (0, 0)) := by
  obtain ⟨h0, ⟨rfl, _⟩ | ⟨g, cap, cur, rfl, h2, h3, h4⟩⟩ := h
  · cases hk
  · cases hk
    exact ⟨h2, cur, h3⟩
theorem run_append_items {w : World} {base n : Nat} {v va : Value} {ys : List Value} {l : List It} (hown : w.ownsRow base 29 2 v n ys) (hrd : ItRd (fun _ => True) w va l) (hno : ∀ c, va = .slice none 0 c → c = 0)
    (h63 : n + l.length ≤ maxLen) (hby : (n + l.length) * 16 ≤ 140737488355328) (hbase : base ≤ w.heap.size) (ty : TypeId) :
    ∃ v' w', (Builtin.append_ #[22, 22] ty #[v, va]).run Try.prog w = .ok v' w' ∧ w'.ownsRow base 29 2 v' (n + l.length) (ys ++ flat l) ∧ w.grownBy w' v.ownBlock := by
  obtain ⟨i0, hi0, hz0, hz1, hz2⟩ := info_parts itinfoM
  obtain ⟨ao, ca, rfl, hac, ham, hcl⟩ := hrd
  rcases ao with _ | ad
  · have e : l.length = 0 := by
      rcases Nat.eq_zero_or_pos l.length with e | e
      · exact e
      · obtain ⟨g, o', he, _⟩ := hcl e
        cases he
    obtain rfl := List.eq_nil_of_length_eq_zero e
    obtain rfl := hno ca rfl
    exact ⟨v, w, run_append_owned_none (P := Try.prog) (w := w) base 22 ty 29 i0 2 Try.underlying22 hi0 v n ys hown, by simpa [flat] using hown, ⟨rfl, rfl, rfl, Nat.le_refl _, fun _ _ _ => rfl⟩⟩
  · obtain ⟨v', w', h1, h2, h3, _⟩ := run_append_own (P := Try.prog) w base 22 ty 29 i0 _ 2 16 Try.underlying22 hi0 hz0 hz1 hz2 rfl (by decide) v n ys hown ad l.length ca (flat l) (flat_len l) (by
      by_cases e : l.length = 0
      · obtain rfl := List.eq_nil_of_length_eq_zero e
        intro j u hu
        simp [flat] at hu
      · obtain ⟨g, o', he, _, hg, hin⟩ := hcl (by omega)
        cases he
        exact news_items hin) (flat_one l) h63 hby hbase
    exact ⟨v', w', h1, h2, h3⟩

/-- between two rounds -/
def UqI (xs : List It) (B : Nat) (w8 : World) (pre : List (Pl xs.length)) (W : World) : Prop := ∃ v, W.ownsRow w8.heap.size 29 2 v ((pre.map Subtype.val).foldl (unqS xs) ([], 0)).1.length (flat ((pre.map Subtype.val).foldl (unqS xs) ([], 0)).1) ∧ Boxed W (B + 1) 22 v ∧ Boxed W (B + 1 + 1) 3 (.int .i64 ((((pre.map Subtype.val).foldl (unqS xs) ([], 0)).2 : Nat) : Int)) ∧ BelX (fun k => k = B + 1 ∨ k = B + 1 + 1) w8.heap.size w8 W
theorem uqi_own {xs : List It} {B : Nat} {w8 : World} (h1 : B + 2 < w8.heap.size) : OwnFrom w8.heap.size (UqI xs B w8) := by
  rintro pre W W' row ⟨v, a, b, c, f⟩ hg hr
  have ne : ∀ r, r < w8.heap.size → some r ≠ row := fun r h e => by have := (hr r e.symm).1; omega
  exact ⟨v, owns_on a hg (fun r e => .inr (hr r e).2), b.kept hg (ne _ (by omega)), c.kept hg (ne _ (by omega)), f.trans (BelX.grown hg f.size (fun r e => .inl (hr r e).1))⟩
theorem uqi_step {xs : List It} {B i : Nat} {w8 : World} {pre : List (Pl xs.length)} {x : Pl xs.length} {W w2 : World} {v v' : Value} {s : List It × Nat} (h1 : B + 2 < w8.heap.size) (hs : (pre.map Subtype.val).foldl (unqS xs) ([], 0) = s)
    (a : W.ownsRow w8.heap.size 29 2 v s.1.length (flat s.1)) (b : Boxed W (B + 1) 22 v) (c : Boxed W (B + 1 + 1) 3 (.int .i64 (s.2 : Int))) (f : BelX (fun k => k = B + 1 ∨ k = B + 1 + 1) w8.heap.size w8 W)
    (ho : w2.ownsRow w8.heap.size 29 2 v' (s.1.length + ((xs.take x.1).drop s.2).length) (flat s.1 ++ flat ((xs.take x.1).drop s.2))) (hg : W.drew.grownBy w2 v.ownBlock) :
    KeepsFrom w8.heap.size W ((w2.setCell ⟨B + 1, 0, none⟩ v').setCell ⟨B + 1 + 1, 0, none⟩ (.int .i64 ((x.1 : Int) + 1))) ∧ BelX (fun k => k = B + 1 ∨ k = B + 1 + 1) w8.heap.size W ((w2.setCell ⟨B + 1, 0, none⟩ v').setCell ⟨B + 1 + 1, 0, none⟩ (.int .i64 ((x.1 : Int) + 1))) ∧ UqI xs B w8 (pre ++ [x]) ((w2.setCell ⟨B + 1, 0, none⟩ v').setCell ⟨B + 1 + 1, 0, none⟩ (.int .i64 ((x.1 : Int) + 1))) := by
  have rw1 : ∀ k, v.ownBlock = some k → w8.heap.size ≤ k := fun k hk => (owns_row a hk).1
  have nb : ∀ k, k < w8.heap.size → some k ≠ v.ownBlock := fun k hk e => by have := rw1 k e.symm; omega
  have b0 : BelX (fun k => k = B + 1 ∨ k = B + 1 + 1) w8.heap.size W W.drew := BelX.of ((Below.refl W.heap.size W).drew) f.size
  have b1 : BelX (fun k => k = B + 1 ∨ k = B + 1 + 1) w8.heap.size W.drew w2 := BelX.grown hg f.size (fun k e => .inl (rw1 k e))
  have bx := ((b0.trans b1).trans (belx_set (i := 0) w2 v' (.inl rfl : B + 1 = B + 1 ∨ B + 1 = B + 1 + 1))).trans (belx_set (i := 0) (w2.setCell ⟨B + 1, 0, none⟩ v') (.int .i64 ((x.1 : Int) + 1)) (.inr rfl : B + 1 + 1 = B + 1 ∨ B + 1 + 1 = B + 1 + 1))
  refine ⟨?_, bx, v', ?_, ?_, ?_, f.trans bx⟩
  · refine (((KeepsOthers.drew W).trans (KeepsOthers.of_grownBy hg (fun j o hj ho' => ?_))).trans ((KeepsOthers.setCell _ _ _).trans (KeepsOthers.setCell _ _ _))).from _
    obtain ⟨cur, hc⟩ := (owns_row a hj).2
    have : W.drew.heap[j]? = some (.cells cur 29 (0, 0)) := hc
    rw [this] at ho'
    cases ho'
    rfl
  · rw [List.map_append, List.foldl_append, hs]
    simp only [List.map_cons, List.map_nil, List.foldl_cons, List.foldl_nil, unqS, List.length_append, flat_append]
    exact owns_on (owns_on ho (grownBy_setCell' _ _ _) (fun r e => by cases e; exact .inl (by omega))) (grownBy_setCell' _ _ _) (fun r e => by cases e; exact .inl (by omega))
  · exact ((show Boxed W.drew (B + 1) 22 v from b).kept hg (nb _ (by omega))).set v' |>.other (by omega) _
  · rw [List.map_append, List.foldl_append, hs]
    simp only [List.map_cons, List.map_nil, List.foldl_cons, List.foldl_nil, unqS]
    exact (((show Boxed W.drew (B + 1 + 1) 3 _ from c).kept hg (nb _ (by omega))).other (by omega) _).set _

end Go.Proofs.Ytboikfcmbfaaeaa

namespace Go.Proofs.Ytboikfcmbfaaeaa
open Go.RowKit Go.Shelf
set_option linter.unusedVariables false
set_option linter.unusedSimpArgs false
attribute [local go_sem] Oper.semAt_some

theorem opIn_append {F : Fence} {n : Nat} {o : Oper} {a : Act} {w w' : World} {K : Act → World → Prop} {Q : Exit → Act → World → Prop} (s x : Operand) (hop : o.op = .call { callee := .builtin .append, args := #[s, x], argTypes := #[22, 22] })
    {v va v' : Value} (hs : a.eval s = v) (hx : a.eval x = va) (hrun : (Builtin.append_ #[22, 22] o.type #[v, va]).run Try.prog w = .ok v' w') (h : K (a.put o.dst v') w') : Oper.wpIn F n Try.prog o a w K Q := by
  unfold Oper.wpIn
  refine ⟨by simp [Oper.about, hop, resolve, Target.leads, Sem.run_pure], ?_⟩
  rw [Oper.semAt_plain F _ _ (by rw [hop]; intro c hc'; cases hc')]
  simp [execOp, hop, resolve, invoke, builtin, hs, hx, hrun, Result.andThen]
  exact h

theorem op_append {o : Oper} {a : Act} {w w' : World} {K : Act → World → Prop} {Q : Exit → Act → World → Prop} (s x : Operand) (hop : o.op = .call { callee := .builtin .append, args := #[s, x], argTypes := #[22, 22] })
    {v va v' : Value} (hs : a.eval s = v) (hx : a.eval x = va) (hrun : (Builtin.append_ #[22, 22] o.type #[v, va]).run Try.prog w = .ok v' w') (h : K (a.put o.dst v') w') : Oper.wp Try.prog o a w K Q := by
  unfold Oper.wp
  simp [execOp, hop, resolve, invoke, builtin, hs, hx, hrun, Result.andThen]
  exact h

theorem wp_np {P : Program} {c : Code} {Q : Exit → Act → World → Prop} {a : Act} {w : World} (h : c.wp P (fun e a w => e = .normal ∧ Q .normal a w) a w) : c.wp P Q a w := Code.wp_mono (fun e a w ⟨h1, h2⟩ => by subst h1; exact h2) h

theorem owns_put {u : World} {base e n D : Nat} {v : Value} {xs : List Value} {o o' : Obj} (h : u.ownsRow base e 2 v n xs) (hu : u.heap[D]? = some o) (ho : o.isCells = false) : (u.putObj D o').ownsRow base e 2 v n xs := by
  obtain ⟨h0, h1 | ⟨g, cap, cur, h1, h2, h3, h4⟩⟩ := h
  · exact ⟨h0, .inl h1⟩
  · refine ⟨h0, .inr ⟨g, cap, cur, h1, h2, (World.putObj_heap_other (fun e => ?_)).trans h3, h4⟩⟩
    subst e
    rw [h3] at hu
    cases hu
    cases ho

theorem owns_base {u : World} {b base e n : Nat} {v : Value} {xs : List Value} (hb : b ≤ base) (h : u.ownsRow base e 2 v n xs) : u.ownsRow b e 2 v n xs := by
  obtain ⟨h0, h1 | ⟨g, cap, cur, h1, h2, h3, h4⟩⟩ := h
  · exact ⟨h0, .inl h1⟩
  · exact ⟨h0, .inr ⟨g, cap, cur, h1, Nat.le_trans hb h2, h3, h4⟩⟩

end Go.Proofs.Ytboikfcmbfaaeaa

namespace Go.Proofs.Ytboikfcmbfaaeaa
set_option linter.unusedVariables false
set_option linter.unusedSimpArgs false

theorem perm_pw_eq {α : Type} {R : α → α → Prop} (has : ∀ a b, R a b → ¬ R b a) : ∀ {l m : List α}, l.Perm m → l.Pairwise R → m.Pairwise R → l = m
  | [], m, h, _, _ => by have := h.length_eq; simp at this; exact (List.eq_nil_of_length_eq_zero this.symm).symm
  | a :: l, [], h, _, _ => by have := h.length_eq; simp at this
  | a :: l, b :: m, h, hl, hm => by
    obtain ⟨l1, l2⟩ := List.pairwise_cons.1 hl
    obtain ⟨m1, m2⟩ := List.pairwise_cons.1 hm
    have e : a = b := by
      rcases List.mem_cons.1 (h.subset (List.mem_cons_self (a := a) (l := l))) with e | e
      · exact e
      · rcases List.mem_cons.1 (h.symm.subset (List.mem_cons_self (a := b) (l := m))) with k | k
        · exact k.symm
        · exact absurd (m1 a e) (has _ _ (l1 b k))
    subst e
    rw [perm_pw_eq has ((List.perm_cons a).1 h) l2 m2]
def Rs (o : Int) (x y : It) : Prop := oK o x < oK o y ∨ (oK o x = oK o y ∧ x.2 < y.2)
theorem Rs.trans {o : Int} (a b c : It) (h : Rs o a b) (k : Rs o b c) : Rs o a c := by
  unfold Rs at *
  omega
theorem Rs.anti {o : Int} (a b : It) (h : Rs o a b) : ¬ Rs o b a := by
  unfold Rs at *
  omega
theorem apt_no {o : Int} {x y : It} (h : x.2 < y.2) : Apt (byF o) (Rs o) x y := by
  refine ⟨fun e => .inl (byF_lt.1 e), fun e => ?_⟩
  have : ¬ oK o y < oK o x := fun k => e (byF_lt.2 k)
  unfold Rs
  omega
theorem apt_rs {o : Int} {x y : It} (h : Rs o x y) : Apt (byF o) (Rs o) x y := by
  refine ⟨fun e => ?_, fun _ => h⟩
  have := byF_lt.1 e
  unfold Rs at *
  omega
theorem srt_rs {o : Int} {l : List It} (h : l.Pairwise (fun x y => x.2 < y.2)) : (srt (byF o) 1 l).Pairwise (Rs o) := srt_pw Rs.trans (h.imp apt_no)
theorem srt_again {o : Int} {l : List It} (h : l.Pairwise (fun x y => x.2 < y.2)) : srt (byF o) 1 (srt (byF o) 1 l) = srt (byF o) 1 l :=
  perm_pw_eq Rs.anti (srt_perm _ _ _) (srt_pw Rs.trans ((srt_rs h).imp apt_rs)) (srt_rs h)
theorem mrg_whole {o : Int} {a b : List It} (h : (a ++ b).Pairwise (fun x y => x.2 < y.2)) : mrg (byF o) (srt (byF o) 1 a) (srt (byF o) 1 b) = srt (byF o) 1 (a ++ b) := by
  obtain ⟨h1, h2, h3⟩ := List.pairwise_append.1 h
  refine perm_pw_eq Rs.anti ?_ ?_ (srt_rs h)
  · exact (mrg_perm _ _ _).trans (((srt_perm _ _ _).append (srt_perm _ _ _)).trans (srt_perm _ _ _).symm)
  · exact mrg_pw Rs.trans (srt_rs h1) (srt_rs h2) (fun x hx y hy => apt_no (h3 x ((srt_perm _ _ _).subset hx) y ((srt_perm _ _ _).subset hy)))
theorem nmb_get (d : Nat) (l : List It) (i : Nat) (h : i < (nmb d l).length) : (nmb d l)[i].2 = ((d + i : Nat) : Int) := by
  simp [nmb]
theorem nmb_both (x y : List It) : (nmb 0 x ++ nmb x.length y).Pairwise (fun p q => p.2 < q.2) := by
  refine List.pairwise_append.2 ⟨?_, ?_, fun p hp q hq => ?_⟩
  · exact List.pairwise_iff_getElem.2 (fun i j hi hj hij => by rw [nmb_get, nmb_get]; omega)
  · exact List.pairwise_iff_getElem.2 (fun i j hi hj hij => by rw [nmb_get, nmb_get]; omega)
  · obtain ⟨i, hi, rfl⟩ := List.getElem_of_mem hp
    obtain ⟨j, hj, rfl⟩ := List.getElem_of_mem hq
    rw [nmb_get, nmb_get]
    rw [nmb_len] at hi
    omega
/-- of those alike side by side the first -/
def fsr {α : Type} (f : α → α → Int) : α → List α → List α
  | _, [] => []
  | p, b :: t => if f p b = 0 then fsr f b t else b :: fsr f b t
def fs1 {α : Type} (f : α → α → Int) : List α → List α
  | [] => []
  | a :: t => a :: fsr f a t
theorem unq_go {α : Type} (f : α → α → Int) : ∀ (s p : List α) (a : α) (acc : List α) (n : Nat), n ≤ p.length + 1 →
    ((reps f p.length (a :: s)).foldl (unqS (p ++ a :: s)) (acc, n)).1 ++ (p ++ a :: s).drop ((reps f p.length (a :: s)).foldl (unqS (p ++ a :: s)) (acc, n)).2 = acc ++ (p ++ [a]).drop n ++ fsr f a s
  | [], p, a, acc, n, hn => by simp [reps, fsr]
  | b :: t, p, a, acc, n, hn => by
    have e : p ++ a :: b :: t = (p ++ [a]) ++ b :: t := by simp
    have el : (p ++ [a]).length = p.length + 1 := by simp
    have hk : (p ++ a :: b :: t).take (p.length + 1) = p ++ [a] := by
      rw [e, ← el, List.take_left']
      rfl
    unfold reps fsr
    by_cases h : f a b = 0
    · rw [if_pos h, if_pos h, List.foldl_cons]
      have s1 : unqS (p ++ a :: b :: t) (acc, n) (p.length + 1) = (acc ++ (p ++ [a]).drop n, p.length + 1 + 1) := by
        simp only [unqS]
        rw [hk]
      rw [s1, e, ← el, unq_go f t (p ++ [a]) b _ _ (by omega)]
      rw [List.drop_eq_nil_of_le (by simp : (p ++ [a] ++ [b]).length ≤ (p ++ [a]).length + 1)]
      simp
    · rw [if_neg h, if_neg h]
      rw [e, ← el, unq_go f t (p ++ [a]) b acc n (by omega)]
      rw [List.drop_append_of_le_length (l₁ := p ++ [a]) (l₂ := [b]) (by omega)]
      simp
theorem unq_fs {α : Type} (f : α → α → Int) (xs : List α) : unq f xs = fs1 f xs := by
  cases xs with
  | nil => simp [unq, reps, fs1]
  | cons a s =>
    have := unq_go f s [] a [] 0 (by omega)
    simp only [List.length_nil, List.nil_append] at this
    unfold unq
    rw [this]
    simp [fs1]
theorem fsr_append {α : Type} (f : α → α → Int) : ∀ (l m : List α) (p : α), fsr f p (l ++ m) = fsr f p l ++ fsr f ((p :: l).getLast (by simp)) m
  | [], m, p => by simp [fsr]
  | b :: t, m, p => by
    have ih := fsr_append f t m b
    simp only [List.cons_append, fsr]
    rw [List.getLast_cons (by simp)]
    split
    · exact ih
    · rw [ih, List.cons_append]
theorem fs1_take {α : Type} (f : α → α → Int) (d : α) (u : List α) {i : Nat} (hi : i < u.length) : fs1 f (u.take (i + 1)) = fs1 f (u.take i) ++ (if i = 0 ∨ f (u[i - 1]?.getD d) u[i] ≠ 0 then [u[i]] else []) := by
  rw [List.take_succ_eq_append_getElem hi]
  cases u with
  | nil => simp at hi
  | cons a s =>
    cases i with
    | zero => simp [fs1, fsr]
    | succ k =>
      have hk : k < s.length := by simpa using hi
      simp only [List.take_succ_cons, List.cons_append, fs1, List.getElem_cons_succ]
      rw [fsr_append]
      have e : (a :: s.take k).getLast (by simp) = (a :: s)[k + 1 - 1]?.getD d := by
        rw [List.getLast_eq_getElem, List.getElem?_eq_getElem (by simp; omega)]
        simp only [Option.getD_some]
        have l1 : (a :: s.take k).length - 1 = k := by simp; omega
        simp only [l1, Nat.add_sub_cancel]
        have := List.getElem_take (xs := a :: s) (j := k + 1) (i := k) (h := by simp; omega)
        simp only [List.take_succ_cons] at this
        exact this
      rw [e]
      congr 1
      congr 1
      simp only [fsr]
      by_cases h : f ((a :: s)[k + 1 - 1]?.getD d) s[k] = 0
      · simp [h]
      · simp [h]
theorem fs1_pre {α : Type} (f : α → α → Int) (u : List α) (i : Nat) : fs1 f (u.take i) <+: fs1 f u := by
  cases u with
  | nil => simp [fs1]
  | cons a s =>
    cases i with
    | zero => simp [fs1]
    | succ k =>
      simp only [List.take_succ_cons, fs1]
      refine (List.cons_prefix_cons).2 ⟨rfl, ?_⟩
      have := fsr_append f (s.take k) (s.drop k) a
      rw [List.take_append_drop] at this
      rw [this]
      exact List.prefix_append _ _
theorem fsr_le {α : Type} (f : α → α → Int) : ∀ (l : List α) (p : α), (fsr f p l).length ≤ l.length
  | [], p => by simp [fsr]
  | b :: t, p => by
    have := fsr_le f t b
    unfold fsr
    split <;> simp <;> omega
theorem fs1_le {α : Type} (f : α → α → Int) (l : List α) : (fs1 f l).length ≤ l.length := by
  cases l with
  | nil => simp [fs1]
  | cons a t => simp [fs1, fsr_le f t a]
/-- at a place that is the first of those alike -/
theorem fs1_at {α : Type} (f : α → α → Int) (d : α) (u : List α) {i : Nat} (hi : i < u.length) (h : i = 0 ∨ f (u[i - 1]?.getD d) u[i] ≠ 0) : ∃ hn : (fs1 f (u.take i)).length < (fs1 f u).length, (fs1 f u)[(fs1 f (u.take i)).length] = u[i] ∧ (fs1 f (u.take (i + 1))).length = (fs1 f (u.take i)).length + 1 := by
  have e := fs1_take f d u hi
  rw [if_pos h] at e
  obtain ⟨t, ht⟩ := fs1_pre f u (i + 1)
  rw [e] at ht
  have hn : (fs1 f (u.take i)).length < (fs1 f u).length := by rw [← ht]; simp
  refine ⟨hn, ?_, by rw [e]; simp⟩
  have : (fs1 f u)[(fs1 f (u.take i)).length]? = some u[i] := by rw [← ht]; simp
  rw [List.getElem?_eq_getElem hn] at this
  exact Option.some.inj this
theorem fs1_at' {α : Type} (f : α → α → Int) (d : α) (u : List α) {i : Nat} (hi : i < u.length) (h : i = 0 ∨ f (u[i - 1]?.getD d) u[i] ≠ 0) : (fs1 f (u.take i)).length < (fs1 f u).length ∧ (fs1 f u)[(fs1 f (u.take i)).length]? = some u[i] ∧ (fs1 f (u.take (i + 1))).length = (fs1 f (u.take i)).length + 1 := by
  obtain ⟨h1, h2, h3⟩ := fs1_at f d u hi h
  exact ⟨h1, by rw [List.getElem?_eq_getElem h1, h2], h3⟩
theorem get_of {α : Type} {l : List α} {n : Nat} {x : α} (h : n < l.length) (e : l[n]? = some x) : l[n] = x := by
  rw [List.getElem?_eq_getElem h] at e
  exact Option.some.inj e
theorem fs1_not {α : Type} (f : α → α → Int) (d : α) (u : List α) {i : Nat} (hi : i < u.length) (h : ¬ (i = 0 ∨ f (u[i - 1]?.getD d) u[i] ≠ 0)) : fs1 f (u.take (i + 1)) = fs1 f (u.take i) := by
  rw [fs1_take f d u hi, if_neg h, List.append_nil]
theorem fsr_all {o : Int} : ∀ (l : List It) (p : It), (p :: l).Pairwise (fun a b => oK o a ≤ oK o b) → ((fsr (byF o) p l).length = l.length ↔ (p :: l).Pairwise (fun a b => oK o a ≠ oK o b))
  | [], p, _ => by simp [fsr]
  | b :: t, p, h => by
    obtain ⟨h1, h2⟩ := List.pairwise_cons.1 h
    obtain ⟨h3, h4⟩ := List.pairwise_cons.1 h2
    have ih := fsr_all t b h2
    have hb := h1 b (by simp)
    unfold fsr
    by_cases e : byF o p b = 0
    · rw [if_pos e]
      have l1 := fsr_le (byF o) t b
      have e' := byF_eq.1 e
      constructor
      · intro k
        simp at k
        omega
      · intro k
        exact absurd e' ((List.pairwise_cons.1 k).1 b (by simp))
    · rw [if_neg e]
      have e' : oK o p ≠ oK o b := fun k => e (byF_eq.2 k)
      simp only [List.length_cons, Nat.add_right_cancel_iff]
      rw [ih]
      constructor
      · intro k
        refine List.pairwise_cons.2 ⟨fun x hx => ?_, k⟩
        rcases List.mem_cons.1 hx with rfl | hx
        · exact e'
        · have := h3 x hx
          omega
      · intro k
        exact (List.pairwise_cons.1 k).2
theorem fs1_all {o : Int} {u : List It} (h : u.Pairwise (fun a b => oK o a ≤ oK o b)) : (fs1 (byF o) u).length = u.length ↔ u.Pairwise (fun a b => oK o a ≠ oK o b) := by
  cases u with
  | nil => simp [fs1]
  | cons a t => simpa [fs1] using fsr_all t a h
theorem rep_none {o : Int} {l : List It} : (∀ j, ¬ Rep o l j) ↔ l.Pairwise (fun a b => oK o a ≠ oK o b) := by
  rw [List.pairwise_iff_getElem]
  constructor
  · intro h i j hi hj hij e
    exact h j ⟨i, hij, hj, by simpa [List.getElem?_eq_getElem hi, List.getElem?_eq_getElem hj] using e⟩
  · rintro h j ⟨i, hij, hj, e⟩
    exact h i j (by omega) hj hij (by simpa [List.getElem?_eq_getElem hj, List.getElem?_eq_getElem (show i < l.length by omega)] using e)
theorem tw_once (o : Int) (l : List It) : (tw (byF o) l < 0) ↔ (unq (byF o) (srt (byF o) 1 l)).length = l.length := by
  have hp := srt_perm (byF o) 1 l
  rw [unq_fs, ← hp.length_eq, fs1_all (sort_rises o l), hp.pairwise_iff (fun h => Ne.symm h), ← rep_none]
  rcases twice_spec o l with ⟨h1, h2⟩ | ⟨k, h1, h2, h3⟩
  · rw [h1]
    exact ⟨fun _ => h2, fun _ => by omega⟩
  · rw [h1]
    exact ⟨fun e => by omega, fun e => absurd h2 (e k)⟩

end Go.Proofs.Ytboikfcmbfaaeaa
