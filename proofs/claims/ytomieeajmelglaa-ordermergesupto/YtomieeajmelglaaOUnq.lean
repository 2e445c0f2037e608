/- order.Unique: a new list -/
import Derived.OwnWalkIn
import Derived.Test.YtomieeajmelglaaOUnM
import Derived.Test.YtomieeajmelglaaOHl
namespace Go.Proofs.Ytomieeajmelglaa
open Go.RowKit Go.Shelf
set_option linter.unusedVariables false
set_option linter.unusedSimpArgs false
attribute [local go_sem] Oper.semAt_some

theorem owns_on {W W' : World} {base e n : Nat} {v : Value} {xs : List Value} {row : Option Nat} (h : W.ownsRow base e 2 v n xs) (hg : W.grownBy W' row) (hr : ∀ r, row = some r → r < base ∨ ∃ o : Obj, W.heap[r]? = some o ∧ o.isCells = false) : W'.ownsRow base e 2 v n xs := by
  obtain ⟨h0, h1 | ⟨g, cap, cur, h1, h2, h3, h4⟩⟩ := h
  · exact ⟨h0, .inl h1⟩
  · refine ⟨h0, .inr ⟨g, cap, cur, h1, h2, (hg.block g (Array.getElem?_eq_some_iff.1 h3).1 (fun e => ?_)).trans h3, h4⟩⟩
    rcases hr g e.symm with h | ⟨o, ho, hc⟩
    · omega
    · rw [h3] at ho
      cases ho
      cases hc
theorem owns_row {W : World} {base e n : Nat} {v : Value} {xs : List Value} (h : W.ownsRow base e 2 v n xs) {k : Nat} (hk : v.ownBlock = some k) : base ≤ k ∧ ∃ cur, W.heap[k]? = some (.cells cur e (0, 0)) := by
  obtain ⟨h0, ⟨rfl, _⟩ | ⟨g, cap, cur, rfl, h2, h3, h4⟩⟩ := h
  · cases hk
  · cases hk
    exact ⟨h2, cur, h3⟩
theorem run_append_items {w : World} {base n : Nat} {v va : Value} {ys : List Value} {l : List It} (hown : w.ownsRow base 27 2 v n ys) (hrd : ItRd (fun _ => True) w va l) (hno : ∀ c, va = .slice none 0 c → c = 0)
    (h63 : n + l.length ≤ maxLen) (hby : (n + l.length) * 16 ≤ 140737488355328) (hbase : base ≤ w.heap.size) (ty : TypeId) :
    ∃ v' w', (Builtin.append_ #[22, 22] ty #[v, va]).run Try.prog w = .ok v' w' ∧ w'.ownsRow base 27 2 v' (n + l.length) (ys ++ flat l) ∧ w.grownBy w' v.ownBlock := by
  obtain ⟨i0, hi0, hz0, hz1, hz2⟩ := info_parts itinfoM
  obtain ⟨ao, ca, rfl, hac, ham, hcl⟩ := hrd
  rcases ao with _ | ad
  · have e : l.length = 0 := by
      rcases Nat.eq_zero_or_pos l.length with e | e
      · exact e
      · obtain ⟨g, o', he, _⟩ := hcl e
        cases he
    obtain rfl := List.eq_nil_of_length_eq_zero e
    obtain rfl := hno ca rfl
    exact ⟨v, w, run_append_owned_none (P := Try.prog) (w := w) base 22 ty 27 i0 2 Try.underlying22 hi0 v n ys hown, by simpa [flat] using hown, ⟨rfl, rfl, rfl, Nat.le_refl _, fun _ _ _ => rfl⟩⟩
  · obtain ⟨v', w', h1, h2, h3, _⟩ := run_append_own (P := Try.prog) w base 22 ty 27 i0 _ 2 16 Try.underlying22 hi0 hz0 hz1 hz2 rfl (by decide) v n ys hown ad l.length ca (flat l) (flat_len l) (by
      by_cases e : l.length = 0
      · obtain rfl := List.eq_nil_of_length_eq_zero e
        intro j u hu
        simp [flat] at hu
      · obtain ⟨g, o', he, _, hg, hin⟩ := hcl (by omega)
        cases he
        exact news_items hin) (flat_one l) h63 hby hbase
    exact ⟨v', w', h1, h2, h3⟩

/-- between two rounds -/
def UqI (xs : List It) (B : Nat) (w8 : World) (pre : List (Pl xs.length)) (W : World) : Prop := ∃ v, W.ownsRow w8.heap.size 27 2 v ((pre.map Subtype.val).foldl (unqS xs) ([], 0)).1.length (flat ((pre.map Subtype.val).foldl (unqS xs) ([], 0)).1) ∧ Boxed W (B + 1) 22 v ∧ Boxed W (B + 1 + 1) 3 (.int .i64 ((((pre.map Subtype.val).foldl (unqS xs) ([], 0)).2 : Nat) : Int)) ∧ BelX (fun k => k = B + 1 ∨ k = B + 1 + 1) w8.heap.size w8 W
theorem uqi_own {xs : List It} {B : Nat} {w8 : World} (h1 : B + 2 < w8.heap.size) : OwnFrom w8.heap.size (UqI xs B w8) := by
  rintro pre W W' row ⟨v, a, b, c, f⟩ hg hr
  have ne : ∀ r, r < w8.heap.size → some r ≠ row := fun r h e => by have := (hr r e.symm).1; omega
  exact ⟨v, owns_on a hg (fun r e => .inr (hr r e).2), b.kept hg (ne _ (by omega)), c.kept hg (ne _ (by omega)), f.trans (BelX.grown hg f.size (fun r e => .inl (hr r e).1))⟩
theorem uqi_step {xs : List It} {B i : Nat} {w8 : World} {pre : List (Pl xs.length)} {x : Pl xs.length} {W w2 : World} {v v' : Value} {s : List It × Nat} (h1 : B + 2 < w8.heap.size) (hs : (pre.map Subtype.val).foldl (unqS xs) ([], 0) = s)
    (a : W.ownsRow w8.heap.size 27 2 v s.1.length (flat s.1)) (b : Boxed W (B + 1) 22 v) (c : Boxed W (B + 1 + 1) 3 (.int .i64 (s.2 : Int))) (f : BelX (fun k => k = B + 1 ∨ k = B + 1 + 1) w8.heap.size w8 W)
    (ho : w2.ownsRow w8.heap.size 27 2 v' (s.1.length + ((xs.take x.1).drop s.2).length) (flat s.1 ++ flat ((xs.take x.1).drop s.2))) (hg : W.drew.grownBy w2 v.ownBlock) :
    KeepsFrom w8.heap.size W ((w2.setCell ⟨B + 1, 0, none⟩ v').setCell ⟨B + 1 + 1, 0, none⟩ (.int .i64 ((x.1 : Int) + 1))) ∧ BelX (fun k => k = B + 1 ∨ k = B + 1 + 1) w8.heap.size W ((w2.setCell ⟨B + 1, 0, none⟩ v').setCell ⟨B + 1 + 1, 0, none⟩ (.int .i64 ((x.1 : Int) + 1))) ∧ UqI xs B w8 (pre ++ [x]) ((w2.setCell ⟨B + 1, 0, none⟩ v').setCell ⟨B + 1 + 1, 0, none⟩ (.int .i64 ((x.1 : Int) + 1))) := by
  have rw1 : ∀ k, v.ownBlock = some k → w8.heap.size ≤ k := fun k hk => (owns_row a hk).1
  have nb : ∀ k, k < w8.heap.size → some k ≠ v.ownBlock := fun k hk e => by have := rw1 k e.symm; omega
  have b0 : BelX (fun k => k = B + 1 ∨ k = B + 1 + 1) w8.heap.size W W.drew := BelX.of ((Below.refl W.heap.size W).drew) f.size
  have b1 : BelX (fun k => k = B + 1 ∨ k = B + 1 + 1) w8.heap.size W.drew w2 := BelX.grown hg f.size (fun k e => .inl (rw1 k e))
  have bx := ((b0.trans b1).trans (belx_set (i := 0) w2 v' (.inl rfl : B + 1 = B + 1 ∨ B + 1 = B + 1 + 1))).trans (belx_set (i := 0) (w2.setCell ⟨B + 1, 0, none⟩ v') (.int .i64 ((x.1 : Int) + 1)) (.inr rfl : B + 1 + 1 = B + 1 ∨ B + 1 + 1 = B + 1 + 1))
  refine ⟨?_, bx, v', ?_, ?_, ?_, f.trans bx⟩
  · refine (((KeepsOthers.drew W).trans (KeepsOthers.of_grownBy hg (fun j o hj ho' => ?_))).trans ((KeepsOthers.setCell _ _ _).trans (KeepsOthers.setCell _ _ _))).from _
    obtain ⟨cur, hc⟩ := (owns_row a hj).2
    have : W.drew.heap[j]? = some (.cells cur 27 (0, 0)) := hc
    rw [this] at ho'
    cases ho'
    rfl
  · rw [List.map_append, List.foldl_append, hs]
    simp only [List.map_cons, List.map_nil, List.foldl_cons, List.foldl_nil, unqS, List.length_append, flat_append]
    exact owns_on (owns_on ho (grownBy_setCell' _ _ _) (fun r e => by cases e; exact .inl (by omega))) (grownBy_setCell' _ _ _) (fun r e => by cases e; exact .inl (by omega))
  · exact ((show Boxed W.drew (B + 1) 22 v from b).kept hg (nb _ (by omega))).set v' |>.other (by omega) _
  · rw [List.map_append, List.foldl_append, hs]
    simp only [List.map_cons, List.map_nil, List.foldl_cons, List.foldl_nil, unqS]
    exact (((show Boxed W.drew (B + 1 + 1) 3 _ from c).kept hg (nb _ (by omega))).other (by omega) _).set _

end Go.Proofs.Ytomieeajmelglaa
