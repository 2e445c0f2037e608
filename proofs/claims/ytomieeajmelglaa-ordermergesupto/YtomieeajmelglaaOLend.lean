/- lend: a copy with four marks behind it -/
import Derived.Test.YtomieeajmelglaaOSort
import Derived.Laws.AppendOwnNone
namespace Go.Proofs.Ytomieeajmelglaa
open Go.RowKit Go.Shelf
set_option linter.unusedVariables false
set_option linter.unusedSimpArgs false

def mks (i : Nat) : List It := (List.range i).map fun (k : Nat) => ((-77, -1 - (k : Int)) : It)
theorem mks_len (i : Nat) : (mks i).length = i := by simp [mks]
theorem mks_succ (i : Nat) : mks (i + 1) = mks i ++ [(-77, -1 - (i : Int))] := by simp [mks, List.range_succ]
/-- a list that is lent: its row, with the marks -/
def Lent (base : Nat) (w : World) (g cap : Nat) (l : List It) : Prop := w.ownsRow base 27 2 (.slice (some ⟨g, 0, none⟩) (l.length + 4) cap) (l.length + 4) (flat (l ++ mks 4))
theorem mk_room2 {n : Nat} (hn : n ≤ 8796093022300) (w : World) : (Instr.makeSlice 22 (.int .i64 0) (.int .i64 (n : Int))).run Try.prog w = .ok (.slice (some ⟨w.heap.size, 0, none⟩) 0 n) (w.alloc (.cells (flat (List.replicate n ((0, 0) : It))).toArray 27)) := by
  obtain ⟨i0, hi, hz0, hz1, hz2⟩ := info_parts itinfoM
  have := run_make (P := Try.prog) w 22 27 i0 _ Try.underlying22 hi hz0 .i64 .i64 0 n (by omega) (by omega) (by rw [hz2]; omega) (by omega)
  rw [this, hz1]
  simp only [Int.toNat_natCast, Int.toNat_zero]
  rw [show (Value.agg #[Value.int .i64 0, Value.int .i64 0]).cells = #[Value.int .i64 0, Value.int .i64 0] from rfl, made_items]
theorem news_items {w : World} {g o : Nat} {xs : List It} (h : ItIn w g o xs) : ∀ j u, (flat xs)[j]? = some u → w.cell? ((⟨g, o, none⟩ : Addr).add j) = some u := by
  intro j v hj
  have hjl : j < (flat xs).length := (List.getElem?_eq_some_iff.1 hj).1
  rw [flat_len] at hjl
  have q := h (j / 2) (by omega)
  have fg := flat_get xs (j / 2) (by omega)
  rw [Addr.add_lit]
  rcases (show j % 2 = 0 ∨ j % 2 = 1 by omega) with e | e
  · have ej : j = j / 2 * 2 := by omega
    rw [ej, fg.1] at hj
    rw [ej, ← hj]
    exact q.1
  · have ej : j = j / 2 * 2 + 1 := by omega
    rw [ej, fg.2] at hj
    rw [ej, ← hj, ← Nat.add_assoc]
    exact q.2

/-- a new list of one item -/
theorem one_rd (w : World) (a b : Int) : ItRd (fun _ => True) (w.alloc (.cells #[.int .i64 a, .int .i64 b] 27)) (.slice (some ⟨w.heap.size, 0, none⟩) 1 1) [(a, b)] := by
  refine ⟨_, 1, rfl, by simp, by unfold maxLen; omega, fun _ => ⟨_, _, rfl, trivial, by simp, fun i hi => ?_⟩⟩
  have hi0 : i = 0 := by simp at hi; omega
  subst hi0
  exact ItRow.cell (show ItRow _ w.heap.size [(a, b)] from heap_alloc_new w _) (i := 0) (by simp)
theorem wpList_append_items {w : World} {ops : Array Oper} {rest : List Oper} {o : Oper} {a : Act} {Q : Exit → Act → World → Prop} (hgd : o.guard = none) (s x : Operand)
    (ho : o.op = .call { callee := .builtin .append, args := #[s, x], argTypes := #[22, 22] })
    (base : Nat) (v : Value) (n : Nat) (xs : List Value) (hs : a.eval s = v) (hown : w.ownsRow base 27 2 v n xs)
    (va : Value) (l : List It) (hx : a.eval x = va) (hrd : ItRd (fun _ => True) w va l) (hno : ∀ c, va = .slice none 0 c → c = 0)
    (h63 : n + l.length ≤ maxLen) (hby : (n + l.length) * 16 ≤ 140737488355328) (hbase : base ≤ w.heap.size)
    (h : ∀ v' w', w'.ownsRow base 27 2 v' (n + l.length) (xs ++ flat l) → Below base w w' → wpList Try.prog ops Q rest (a.put o.dst v') w') : wpList Try.prog ops Q (o :: rest) a w := by
  obtain ⟨i0, hi0, hz0, hz1, hz2⟩ := info_parts itinfoM
  obtain ⟨ao, ca, rfl, hac, ham, hcl⟩ := hrd
  have hr : ∀ k, v.ownBlock = some k → base ≤ k := by
    intro k hk
    rcases hown.2 with ⟨rfl, _⟩ | ⟨g, cap, cur, rfl, hg, _⟩
    · cases hk
    · cases hk; exact hg
  rcases ao with _ | ad
  · have e : l.length = 0 := by
      rcases Nat.eq_zero_or_pos l.length with e | e
      · exact e
      · obtain ⟨g, o', he, _⟩ := hcl e
        cases he
    have e2 : l = [] := List.eq_nil_of_length_eq_zero e
    subst e2
    have e3 : ca = 0 := hno ca rfl
    subst e3
    exact wpList_append_own_none hgd s x _ ho base 27 i0 2 Try.underlying22 hi0 v n xs hs hown hx (h v w (by simpa [flat] using hown) (Below.refl _ w))
  · refine wpList_append_own w hgd s x _ ho base 27 i0 _ 2 16 Try.underlying22 hi0 hz0 hz1 hz2 rfl (by decide) v n xs hs hown ad l.length ca (flat l) hx (flat_len l) ?_ (flat_one l) h63 hby hbase fun v' w' h2 h3 _ => h v' w' h2 ((Below.refl _ w).grown h3 hbase hr)
    by_cases e : l.length = 0
    · have e2 := List.eq_nil_of_length_eq_zero e
      subst e2
      intro j u hu
      simp [flat] at hu
    · obtain ⟨g, o', he, _, hg, hin⟩ := hcl (by omega)
      cases he
      exact news_items hin

set_option maxRecDepth 100000 in
set_option maxHeartbeats 8000000 in
theorem lend_any {w : World} {va : Value} {l : List It} (ha : ItRd (fun _ => True) w va l) (hno : ∀ c, va = .slice none 0 c → c = 0) (hl : l.length ≤ 8796093022200) :
    Calls Try.prog 7 #[va] w fun e w' => (∃ g cap, e = .returned (.slice (some ⟨g, 0, none⟩) l.length cap) ∧ Lent w.heap.size w' g cap l) ∧ Below w.heap.size w w' := by
  obtain ⟨m, hm⟩ : ∃ m, l.length + 4 = m := ⟨_, rfl⟩
  have mk := mk_room2 (n := m) (by omega)
  have e1 : IntKind.i64.wrap ((l.length : Int) + 4) = (m : Int) := by rw [IntKind.wrap_i64]; omega
  have e2 : (l.length : Int) + 4 = (m : Int) := by omega
  have HM := hide hm
  clear hm
  have H63 := hide (show l.length + 4 ≤ maxLen ∧ (l.length + 4) * 16 ≤ 140737488355328 from ⟨by unfold maxLen; omega, by omega⟩)
  obtain ⟨W0, hW0⟩ : ∃ u, w.alloc (.cells (flat (List.replicate m ((0, 0) : It))).toArray 27) = u := ⟨_, rfl⟩
  have K0 : Hid (Below w.heap.size w W0) := by rw [← hW0]; exact hide ((Below.refl _ w).alloc (Nat.le_refl _) _)
  have O0 : Hid (W0.ownsRow w.heap.size 27 2 (.slice (some ⟨w.heap.size, 0, none⟩) 0 m) 0 []) := by
    have := HM.out
    rw [← hW0]
    exact hide (World.ownsRow_made w _ m (Nat.le_refl _) (by unfold maxLen; omega) (by simp [flat_len]))
  have S0 : Hid (w.heap.size ≤ W0.heap.size) := hide K0.out.size
  have RD := hide ha
  have NO := hide hno
  have R0 : Hid (ItRd (fun _ => True) W0 va l) := by
    obtain ⟨ao, ca, h1, h2, h3, h4⟩ := ha
    refine hide ⟨ao, ca, h1, h2, h3, fun hp => ?_⟩
    obtain ⟨g, o, h5, h6, h7, h8⟩ := h4 hp
    exact ⟨g, o, h5, h6, Nat.lt_of_lt_of_le h7 K0.out.size, fun i hi => ⟨(K0.out.cell (p := ⟨g, _, none⟩) h7).trans (h8 i hi).1, (K0.out.cell (p := ⟨g, _, none⟩) h7).trans (h8 i hi).2⟩⟩
  obtain ⟨ao, ca, hva, -, -, -⟩ := ha
  subst hva
  clear hno
  go_enter Try.func7, Try.ntmps7
  go_wp2_with (at_builtin; refine wpList_append_items rfl _ _ rfl w.heap.size _ 0 _ rfl O0.out _ l rfl R0.out NO.out (by have := H63.out; omega) (by have := H63.out; omega) S0.out ?_)
  intro v1 w1 own1 bel1
  have O1 := hide own1
  have B1 := hide (K0.out.trans bel1)
  clear own1 bel1
  go_wp2
  go_loopw [3, 4] (fun v p wr => ∃ (i : Nat), p = .int .i64 i ∧ i ≤ 4 ∧ Hid (wr.ownsRow w.heap.size 27 2 v (l.length + i) (flat (l ++ mks i))) ∧ Hid (Below w.heap.size w wr)) (fun _ p _ => 4 - (intOf p).toNat)
  case atStart => exact ⟨0, rfl, by omega, hide (by have := O1.out; simpa [mks] using this), B1⟩
  case round =>
    obtain ⟨i, rfl, hi, hO, hB⟩ := hrel
    by_cases hil : i < 4
    · have q1 : (i : Int) < 4 := by omega
      have w1' : IntKind.i64.wrap (-1 - (i : Int)) = -1 - (i : Int) := by rw [IntKind.wrap_i64]; omega
      have w2' : IntKind.i64.wrap ((i : Int) + 1) = (i : Int) + 1 := by rw [IntKind.wrap_i64]; omega
      have SZ := hide hB.out.size
      have RN := hide (fun (W : World) => one_rd W (-77) (-1 - (i : Int)))
      go_wp2_with (at_builtin; refine wpList_append_items rfl _ _ rfl w.heap.size _ (l.length + i) _ rfl (hO.out.alloc _) _ [(-77, -1 - (i : Int))] rfl (RN.out _) (by intro c h; cases h) (by have := H63.out; simp; omega) (by have := H63.out; simp; omega) (by have := SZ.out; simp; omega) ?_)
      intro v2 w2 own2 bel2
      have HO2 := hide own2
      have HB2 := hide ((hB.out.alloc SZ.out _).trans bel2)
      clear own2 bel2
      go_wp2
      refine ⟨⟨i + 1, by simp, by omega, hide ?_, HB2⟩, by simp [intOf]; omega⟩
      have e3 : l ++ mks (i + 1) = (l ++ mks i) ++ [(-77, -1 - (i : Int))] := by rw [mks_succ, List.append_assoc]
      rw [e3, flat_append]
      exact HO2.out
    · have hi4 : i = 4 := by omega
      subst hi4
      have hO2 := hO.out
      obtain ⟨_, ⟨rfl, h0⟩ | ⟨g, cap, cur, rfl, hr⟩⟩ := hO2
      · omega
      · have c1 : l.length ≤ cap := by omega
        have c2 : cap ≤ maxLen := hr.2.2.2.1
        unfold maxLen at c2
        clear hr
        go_wp2
        go_ret
        exact ⟨⟨g, cap, rfl, hO.out⟩, hB.out⟩

end Go.Proofs.Ytomieeajmelglaa
