/- lend, with its room told -/
import Derived.Test.YtomieeajmelglaaOLend
import Derived.Test.YtomieeajmelglaaOApA
namespace Go.Proofs.Ytomieeajmelglaa
open Go.RowKit Go.Shelf
set_option linter.unusedVariables false
set_option linter.unusedSimpArgs false

theorem wpList_append_fit {w : World} {ops : Array Oper} {rest : List Oper} {o : Oper} {a : Act} {Q : Exit → Act → World → Prop} (hgd : o.guard = none) (s x : Operand)
    (ho : o.op = .call { callee := .builtin .append, args := #[s, x], argTypes := #[22, 22] })
    (base g n cap : Nat) (ys : List Value) (hs : a.eval s = .slice (some ⟨g, 0, none⟩) n cap) (hown : w.ownsRow base 27 2 (.slice (some ⟨g, 0, none⟩) n cap) n ys)
    (va : Value) (l : List It) (hx : a.eval x = va) (hrd : ItRd (fun _ => True) w va l) (hno : ∀ c, va = .slice none 0 c → c = 0) (hroom : n + l.length ≤ cap) (hbase : base ≤ w.heap.size)
    (h : ∀ w', w'.ownsRow base 27 2 (.slice (some ⟨g, 0, none⟩) (n + l.length) cap) (n + l.length) (ys ++ flat l) → Below base w w' → wpList Try.prog ops Q rest (a.put o.dst (.slice (some ⟨g, 0, none⟩) (n + l.length) cap)) w') : wpList Try.prog ops Q (o :: rest) a w := by
  obtain ⟨i0, hi0, hz0, hz1, hz2⟩ := info_parts itinfoM
  obtain ⟨ao, ca, rfl, hac, ham, hcl⟩ := hrd
  have hgb : base ≤ g := by
    obtain ⟨_, ⟨e, _⟩ | ⟨g', cap', cur, e, e2, _⟩⟩ := hown
    · cases e
    · cases e
      exact e2
  rcases ao with _ | ad
  · have e : l.length = 0 := by
      rcases Nat.eq_zero_or_pos l.length with e | e
      · exact e
      · obtain ⟨g, o', he, _⟩ := hcl e
        cases he
    obtain rfl := List.eq_nil_of_length_eq_zero e
    obtain rfl := hno ca rfl
    refine wpList_plain hgd fun K hK => ?_
    have hr := run_append_owned_none (P := Try.prog) (w := w) base 22 o.type 27 i0 2 Try.underlying22 hi0 _ n ys hown
    unfold Oper.wp execOp
    simp only [ho, resolve, invoke, builtin, Sem.run_bind, Sem.run_pure, Result.andThen_ok, List.map_toArray, List.map_cons, List.map_nil, hs, hx]
    simp only [List.length_nil] at hr ⊢
    rw [hr]
    exact hK _ _ (h w (by simpa [flat] using hown) (Below.refl _ _))
  · refine wpList_append_fits w hgd s x 22 ho base 27 i0 2 Try.underlying22 hi0 hz1 g n cap ys hs hown ad l.length ca (flat l) hx (flat_len l) (by
      by_cases e : l.length = 0
      · obtain rfl := List.eq_nil_of_length_eq_zero e
        intro j u hu
        simp [flat] at hu
      · obtain ⟨g, o', he, _, hg, hin⟩ := hcl (by omega)
        cases he
        exact news_items hin) (flat_one l) hroom ?_
    intro w' h1 h2
    exact h w' h1 ((BelX.grown (X := fun k => k = g) (n := base) h2 hbase (fun k e => by cases e; exact .inr rfl)).below (Nat.le_refl _) (fun k hk e => by omega))

set_option maxRecDepth 100000 in
set_option maxHeartbeats 8000000 in
theorem lend2_any {w : World} {va : Value} {l : List It} (ha : ItRd (fun _ => True) w va l) (hno : ∀ c, va = .slice none 0 c → c = 0) (hl : l.length ≤ 8796093022200) :
    Calls Try.prog 7 #[va] w fun e w' => (∃ g, e = .returned (.slice (some ⟨g, 0, none⟩) l.length (l.length + 4)) ∧ Lent w.heap.size w' g (l.length + 4) l) ∧ Below w.heap.size w w' := by
  obtain ⟨m, hm⟩ : ∃ m, l.length + 4 = m := ⟨_, rfl⟩
  have mk := mk_room2 (n := m) (by omega)
  have e1 : IntKind.i64.wrap ((l.length : Int) + 4) = (m : Int) := by rw [IntKind.wrap_i64]; omega
  have e2 : (l.length : Int) + 4 = (m : Int) := by omega
  have HM := hide hm
  clear hm
  have H63 := hide (show l.length + 4 ≤ maxLen ∧ (l.length + 4) * 16 ≤ 140737488355328 from ⟨by unfold maxLen; omega, by omega⟩)
  obtain ⟨W0, hW0⟩ : ∃ u, w.alloc (.cells (flat (List.replicate m ((0, 0) : It))).toArray 27) = u := ⟨_, rfl⟩
  have K0 : Hid (Below w.heap.size w W0) := by rw [← hW0]; exact hide ((Below.refl _ w).alloc (Nat.le_refl _) _)
  have O0 : Hid (W0.ownsRow w.heap.size 27 2 (.slice (some ⟨w.heap.size, 0, none⟩) 0 m) 0 []) := by
    have := HM.out
    rw [← hW0]
    exact hide (World.ownsRow_made w _ m (Nat.le_refl _) (by unfold maxLen; omega) (by simp [flat_len]))
  have S0 : Hid (w.heap.size ≤ W0.heap.size) := hide K0.out.size
  have RD := hide ha
  have NO := hide hno
  have R0 : Hid (ItRd (fun _ => True) W0 va l) := by
    obtain ⟨ao, ca, h1, h2, h3, h4⟩ := ha
    refine hide ⟨ao, ca, h1, h2, h3, fun hp => ?_⟩
    obtain ⟨g, o, h5, h6, h7, h8⟩ := h4 hp
    exact ⟨g, o, h5, h6, Nat.lt_of_lt_of_le h7 K0.out.size, fun i hi => ⟨(K0.out.cell (p := ⟨g, _, none⟩) h7).trans (h8 i hi).1, (K0.out.cell (p := ⟨g, _, none⟩) h7).trans (h8 i hi).2⟩⟩
  obtain ⟨ao, ca, hva, -, -, -⟩ := ha
  subst hva
  clear hno
  go_enter Try.func7, Try.ntmps7
  go_wp2_with (at_builtin; refine wpList_append_fit rfl _ _ rfl w.heap.size w.heap.size 0 m _ rfl O0.out _ l rfl R0.out NO.out (by have := HM.out; omega) S0.out ?_)
  intro w1 own1 bel1
  have O1 := hide own1
  have B1 := hide (K0.out.trans bel1)
  clear own1 bel1
  go_wp2
  go_loopw [3, 4] (fun v p wr => ∃ (i : Nat), p = .int .i64 i ∧ v = .slice (some ⟨w.heap.size, 0, none⟩) (l.length + i) m ∧ i ≤ 4 ∧ Hid (wr.ownsRow w.heap.size 27 2 (.slice (some ⟨w.heap.size, 0, none⟩) (l.length + i) m) (l.length + i) (flat (l ++ mks i))) ∧ Hid (Below w.heap.size w wr)) (fun _ p _ => 4 - (intOf p).toNat)
  case atStart => exact ⟨0, rfl, by simp, by omega, hide (by have := O1.out; simpa [mks] using this), B1⟩
  case round =>
    obtain ⟨i, rfl, rfl, hi, hO, hB⟩ := hrel
    by_cases hil : i < 4
    · have q1 : (i : Int) < 4 := by omega
      have w1' : IntKind.i64.wrap (-1 - (i : Int)) = -1 - (i : Int) := by rw [IntKind.wrap_i64]; omega
      have w2' : IntKind.i64.wrap ((i : Int) + 1) = (i : Int) + 1 := by rw [IntKind.wrap_i64]; omega
      have SZ := hide hB.out.size
      have RN := hide (fun (W : World) => one_rd W (-77) (-1 - (i : Int)))
      go_wp2_with (at_builtin; refine wpList_append_fit rfl _ _ rfl w.heap.size w.heap.size (l.length + i) m _ rfl (hO.out.alloc _) _ [(-77, -1 - (i : Int))] rfl (RN.out _) (by intro c h; cases h) (by have := HM.out; simp; omega) (by have := SZ.out; simp; omega) ?_)
      intro w2 own2 bel2
      have HO2 := hide own2
      have HB2 := hide ((hB.out.alloc SZ.out _).trans bel2)
      clear own2 bel2
      go_wp2
      refine ⟨⟨i + 1, by simp, by simp [Nat.add_assoc], by omega, hide ?_, HB2⟩, by simp [intOf]; omega⟩
      have e3 : l ++ mks (i + 1) = (l ++ mks i) ++ [(-77, -1 - (i : Int))] := by rw [mks_succ, List.append_assoc]
      rw [e3, flat_append]
      exact HO2.out
    · have hi4 : i = 4 := by omega
      subst hi4
      have c1 : l.length ≤ m := by have := HM.out; omega
      have c2 : m ≤ 2 ^ 63 - 1 := by have := HM.out; omega
      go_wp2
      go_ret
      obtain rfl : m = l.length + 4 := HM.out.symm
      exact ⟨⟨_, rfl, hO.out⟩, hB.out⟩

end Go.Proofs.Ytomieeajmelglaa
