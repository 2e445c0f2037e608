/- apart: rows of items of one's own: a store, an append of one item, a lent copy with its room -/
import Derived.Maps.AppendAt
import Derived.Test.YtomieeajmelglaaOUnW
import Derived.Test.YtomieeajmelglaaOMrgC
import Derived.Test.YtomieeajmelglaaOFi0
namespace Go.Proofs.Ytomieeajmelglaa
open Go.RowKit Go.Shelf
set_option linter.unusedVariables false
set_option linter.unusedSimpArgs false

theorem owns_set {W : World} {base g n cap k : Nat} {c : List It} (h : W.ownsRow base 27 2 (.slice (some ⟨g, 0, none⟩) n cap) n (flat c)) (hk : k < c.length) (x : It) :
    ((W.setCell ⟨g, k * 2, none⟩ (.int .i64 x.1)).setCell ⟨g, k * 2 + 1, none⟩ (.int .i64 x.2)).ownsRow base 27 2 (.slice (some ⟨g, 0, none⟩) n cap) n (flat (c.set k x)) := by
  obtain ⟨h0, ⟨h1, _⟩ | ⟨g', cap', cur, h1, h2, h3, h4, h5, h6, h7⟩⟩ := h
  · cases h1
  · cases h1
    have hc : c.length = n := by rw [flat_len] at h0; omega
    refine ⟨by rw [flat_len] at h0 ⊢; simpa using h0, .inr ⟨g, cap, _, rfl, h2, heap_setCell_same _ g _ _ _ _ (heap_setCell_same W g (k * 2) _ _ _ h3), h4, h5, by simp [h6], ?_⟩⟩
    rw [← flat_set c k hk x, ← h7]
    simp only [Array.toList_setIfInBounds]
    rw [List.take_set, List.take_set]
theorem owns_cell {W : World} {base g n cap : Nat} {c : List It} (h : W.ownsRow base 27 2 (.slice (some ⟨g, 0, none⟩) n cap) n (flat c)) {k : Nat} (hk : k < c.length) : W.cell? ⟨g, k * 2, none⟩ = some (.int .i64 c[k].1) ∧ W.cell? ⟨g, k * 2 + 1, none⟩ = some (.int .i64 c[k].2) ∧ W.frozen? ⟨g, k * 2, none⟩ = false ∧ W.frozen? ⟨g, k * 2 + 1, none⟩ = false := by
  obtain ⟨h0, ⟨h1, _⟩ | ⟨g', cap', cur, h1, h2, h3, h4, h5, h6, h7⟩⟩ := h
  · cases h1
  · cases h1
    obtain ⟨f1, f2⟩ := flat_get c k hk
    have t1 : ∀ j u, (flat c)[j]? = some u → W.cell? ⟨g, j, none⟩ = some u := fun j u hj => by
      have e : cur[j]? = some u := by
        rw [← h7, List.getElem?_take] at hj
        split at hj
        · simpa using hj
        · cases hj
      rw [cell_of_row W g j cur _ _ h3]
      exact e
    exact ⟨t1 _ _ f1, t1 _ _ f2, frozen_of_row W g _ _ _ h3, frozen_of_row W g _ _ _ h3⟩
theorem owns_pre {W : World} {base g m cap : Nat} {c d : List It} (h : W.ownsRow base 27 2 (.slice (some ⟨g, 0, none⟩) m cap) m (flat (c ++ d))) : W.ownsRow base 27 2 (.slice (some ⟨g, 0, none⟩) c.length cap) c.length (flat c) := by
  obtain ⟨h0, ⟨h1, _⟩ | ⟨g', cap', cur, h1, h2, h3, h4, h5, h6, h7⟩⟩ := h
  · cases h1
  · cases h1
    rw [flat_len, List.length_append] at h0
    refine ⟨flat_len c, .inr ⟨g, cap, cur, rfl, h2, h3, by omega, h5, h6, ?_⟩⟩
    have e : cur.toList.take (c.length * 2) = (cur.toList.take (m * 2)).take (c.length * 2) := by rw [List.take_take, Nat.min_eq_left (by omega)]
    rw [e, h7, flat_append, ← flat_len c, List.take_left]
theorem owns_on2 {W W' : World} {base e n g : Nat} {v : Value} {xs : List Value} (h : W.ownsRow base e 2 v n xs) (hg : W.grownBy W' (some g)) (hr : v.ownBlock ≠ some g) : W'.ownsRow base e 2 v n xs := by
  obtain ⟨h0, h1 | ⟨g', cap, cur, rfl, h2, h3, h4⟩⟩ := h
  · exact ⟨h0, .inl h1⟩
  · exact ⟨h0, .inr ⟨g', cap, cur, rfl, h2, (hg.block g' (Array.getElem?_eq_some_iff.1 h3).1 (fun e => hr e)).trans h3, h4⟩⟩
theorem run_ap1 {w : World} {base n : Nat} {v : Value} {ys : List Value} {x : It} {ad : Addr} {c : Nat} (hown : w.ownsRow base 27 2 v n ys) (hnews : ∀ j u, (flat [x])[j]? = some u → w.cell? (ad.add j) = some u)
    (hby : n + 1 ≤ 8796093022208) (hbase : base ≤ w.heap.size) (ty : TypeId) :
    ∃ v' w', (Builtin.append_ #[22, 22] ty #[v, .slice (some ad) 1 c]).run Try.prog w = .ok v' w' ∧ w'.ownsRow base 27 2 v' (n + 1) (ys ++ flat [x]) ∧
      ((w.grownBy w' none ∧ v'.ownBlock = some w.heap.size) ∨ ∃ g cap, n + 1 ≤ cap ∧ v = .slice (some ⟨g, 0, none⟩) n cap ∧ v' = .slice (some ⟨g, 0, none⟩) (n + 1) cap ∧ w.grownBy w' (some g)) := by
  obtain ⟨i0, hi0, hz0, hz1, hz2⟩ := info_parts itinfoM
  have hl : (flat [x]).length = 1 * 2 := flat_len _
  have hown' := hown
  obtain ⟨h0, ⟨rfl, h1⟩ | ⟨g, cap, cur, rfl, h2, h3, h4, h5, h6, h7⟩⟩ := hown'
  · obtain ⟨v', w', r1, r2, r3, r4, r5⟩ := run_append_own_at (P := Try.prog) w base 22 ty 27 i0 _ 2 16 Try.underlying22 hi0 hz0 hz1 hz2 rfl (by decide) _ n ys hown ad 1 c (flat [x]) hl hnews (flat_one _) (by unfold maxLen; omega) (by omega) hbase
    refine ⟨v', w', r1, r2, .inl ⟨r3, ?_⟩⟩
    rcases r5 with e | e
    · obtain ⟨_, ⟨e1, e2⟩ | ⟨g, cap, cur, rfl, _⟩⟩ := r2
      · omega
      · cases e
    · exact e
  · by_cases hc : n + 1 ≤ cap
    · obtain ⟨w', r1, r2, r3⟩ := run_append_fits (P := Try.prog) w base 22 ty 27 i0 2 Try.underlying22 hi0 hz1 g n cap ys hown ad 1 c (flat [x]) hl hnews (flat_one _) hc
      exact ⟨_, w', r1, r2, .inr ⟨g, cap, hc, rfl, rfl, r3⟩⟩
    · obtain ⟨v', w', r1, r2, r3, r4, r5⟩ := run_append_own_at (P := Try.prog) w base 22 ty 27 i0 _ 2 16 Try.underlying22 hi0 hz0 hz1 hz2 rfl (by decide) _ n ys hown ad 1 c (flat [x]) hl hnews (flat_one _) (by unfold maxLen; omega) (by omega) hbase
      have hr := run_append_grow (P := Try.prog) w 22 ty 27 i0 _ Try.underlying22 hi0 hz0 ⟨g, 0, none⟩ n cap ys (by rw [hz1]; exact hown.1) (hown.cells (g := g) rfl) ad 1 c (flat [x]) (by rw [hz1]; exact hl) hnews (by omega) (by omega) (growslice_fits (by omega) (by rw [hz2]; omega))
      rw [hr] at r1
      injection r1 with e1 e2
      refine ⟨v', w', by rw [hr, e1, e2], r2, .inl ⟨?_, by rw [← e1]; rfl⟩⟩
      rw [← e2]
      exact ⟨rfl, rfl, rfl, by simp, fun k hk _ => (Below.heap_alloc w.drew _ k hk).trans rfl⟩

end Go.Proofs.Ytomieeajmelglaa
