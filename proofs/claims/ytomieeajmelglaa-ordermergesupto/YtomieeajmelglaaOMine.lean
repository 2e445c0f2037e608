/- lists of one's own that stay while others come: Mine; apart of them -/
import Derived.Test.YtomieeajmelglaaOApW
import Derived.Test.YtomieeajmelglaaOLnd
namespace Go.Proofs.Ytomieeajmelglaa
open Go.RowKit Go.Shelf
set_option linter.unusedVariables false
set_option linter.unusedSimpArgs false

/-- a list of one's own in a block from lo on and below hi, with its capacity -/
structure Mine (lo hi cp : Nat) (W : World) (v : Value) (l : List It) : Prop where
  own : W.ownsRow lo 27 2 v l.length (flat l)
  at_ : ∀ k, v.ownBlock = some k → lo ≤ k ∧ k < hi
  shape : (v = .slice none 0 0 ∧ l.length = 0 ∧ cp = 0) ∨ ∃ g, v = .slice (some ⟨g, 0, none⟩) l.length cp
theorem Mine.of_own {B : Nat} {w : World} {v : Value} {l : List It} (h : Own12 B w v l) : Mine B w.heap.size l.length w v l := by
  rcases h with ⟨rfl, rfl⟩ | ⟨g, rfl, hB, hr, hm⟩
  · exact ⟨by simpa [flat] using World.ownsRow_nil _ _ _ _, fun k hk => (by cases hk), .inl ⟨rfl, rfl, rfl⟩⟩
  · refine ⟨⟨flat_len l, .inr ⟨g, _, _, rfl, hB, hr, Nat.le_refl _, hm, by simp [flat_len], ?_⟩⟩, fun k hk => ?_, .inr ⟨g, rfl⟩⟩
    · rw [List.toList_toArray, ← flat_len l, List.take_length]
    · cases hk
      exact ⟨hB, hr.lt⟩
theorem Mine.of_lent {B : Nat} {w : World} {g cap : Nat} {l : List It} (h : Lent B w g cap l) : Mine B w.heap.size cap w (.slice (some ⟨g, 0, none⟩) l.length cap) l := by
  have hh := h.itin
  refine ⟨owns_pre h, fun k hk => ?_, .inr ⟨g, rfl⟩⟩
  cases hk
  exact ⟨hh.1, hh.2.1⟩
theorem Mine.of_row {B n : Nat} {w : World} {v : Value} {l : List It} (h : w.ownsRow B 27 2 v n (flat l)) : ∃ cp, Mine B w.heap.size cp w v l := by
  have hn : n = l.length := by have := h.1; rw [flat_len] at this; omega
  subst hn
  have h' := h
  obtain ⟨h0, ⟨rfl, h1⟩ | ⟨g, cap, cur, rfl, h2, h3, h4⟩⟩ := h'
  · exact ⟨0, h, fun k hk => (by cases hk), .inl ⟨rfl, h1, rfl⟩⟩
  · refine ⟨cap, h, fun k hk => ?_, .inr ⟨g, rfl⟩⟩
    cases hk
    exact ⟨h2, (Array.getElem?_eq_some_iff.1 h3).1⟩
theorem Mine.far {lo hi cp : Nat} {w w' : World} {v : Value} {l : List It} (h : Mine lo hi cp w v l) (hb : Below w.heap.size w w') : Mine lo hi cp w' v l := by
  refine ⟨?_, h.at_, h.shape⟩
  obtain ⟨h0, h1 | ⟨g, cap, cur, h1, h2, h3, h4⟩⟩ := h.own
  · exact ⟨h0, .inl h1⟩
  · exact ⟨h0, .inr ⟨g, cap, cur, h1, h2, (hb.block g (Array.getElem?_eq_some_iff.1 h3).1).trans h3, h4⟩⟩
theorem Mine.belx {lo hi cp gt : Nat} {w w' : World} {v : Value} {l : List It} (h : Mine lo hi cp w v l) (hb : BelX (fun k => k = gt) w.heap.size w w') (hg : gt < lo ∨ hi ≤ gt) : Mine lo hi cp w' v l := by
  refine ⟨?_, h.at_, h.shape⟩
  have ha := h.at_
  obtain ⟨h0, h1 | ⟨g, cap, cur, rfl, h2, h3, h4⟩⟩ := h.own
  · exact ⟨h0, .inl h1⟩
  · have := ha g rfl
    exact ⟨h0, .inr ⟨g, cap, cur, rfl, h2, (hb.block g (Array.getElem?_eq_some_iff.1 h3).1 (by omega)).trans h3, h4⟩⟩
theorem Mine.rd {lo hi cp : Nat} {w : World} {v : Value} {l : List It} (h : Mine lo hi cp w v l) : ItRd (fun _ => True) w v l := by
  obtain ⟨h0, ⟨rfl, h1⟩ | ⟨g, cap, cur, rfl, h2, h3, h4, h5, h6, h7⟩⟩ := h.own
  · exact nil_rd rfl (List.eq_nil_of_length_eq_zero h1) (by unfold maxLen; omega)
  · refine ⟨_, cap, rfl, h4, h5, fun hp => ⟨g, 0, rfl, trivial, (Array.getElem?_eq_some_iff.1 h3).1, fun i hi => ?_⟩⟩
    obtain ⟨a1, a2, _, _⟩ := owns_cell h.own hi
    simp only [Nat.zero_add]
    exact ⟨a1, a2⟩
theorem Mine.no {lo hi cp : Nat} {w : World} {v : Value} {l : List It} (h : Mine lo hi cp w v l) : ∀ c, v = .slice none 0 c → c = 0 := by
  rcases h.shape with ⟨rfl, _⟩ | ⟨g, rfl⟩
  · intro c h
    cases h
    rfl
  · intro c h
    cases h
theorem Mine.sh {lo hi cp : Nat} {w : World} {v : Value} {l : List It} (h : Mine lo hi cp w v l) : ∃ p, v = .slice p l.length cp := by
  rcases h.shape with ⟨rfl, h1, h2⟩ | ⟨g, rfl⟩
  · exact ⟨none, by rw [h1, h2]⟩
  · exact ⟨_, rfl⟩
theorem own_rdA {W : World} {base n : Nat} {v : Value} {l : List It} (h : W.ownsRow base 27 2 v n (flat l)) : ItRd (fun _ => True) W v l := by
  have hn : n = l.length := by have := h.1; rw [flat_len] at this; omega
  subst hn
  have h' := h
  obtain ⟨h0, ⟨rfl, h1⟩ | ⟨g, cap, cur, rfl, h2, h3, h4, h5, h6, h7⟩⟩ := h'
  · exact nil_rd rfl (List.eq_nil_of_length_eq_zero h1) (by unfold maxLen; omega)
  · refine ⟨_, cap, rfl, h4, h5, fun hp => ⟨g, 0, rfl, trivial, (Array.getElem?_eq_some_iff.1 h3).1, fun i hi => ?_⟩⟩
    obtain ⟨a1, a2, _, _⟩ := owns_cell h hi
    simp only [Nat.zero_add]
    exact ⟨a1, a2⟩
/-- two items change places -/
theorem Mine.swap {lo hi cp g i k : Nat} {w : World} {c : List It} (h : Mine lo hi cp w (.slice (some ⟨g, 0, none⟩) c.length cp) c) (hi' : i < c.length) (hk : k < c.length) :
    Mine lo hi cp ((((w.setCell ⟨g, i * 2, none⟩ (.int .i64 c[k].1)).setCell ⟨g, i * 2 + 1, none⟩ (.int .i64 c[k].2)).setCell ⟨g, k * 2, none⟩ (.int .i64 c[i].1)).setCell ⟨g, k * 2 + 1, none⟩ (.int .i64 c[i].2)) (.slice (some ⟨g, 0, none⟩) c.length cp) ((c.set i c[k]).set k c[i]) := by
  have e : ((c.set i c[k]).set k c[i]).length = c.length := by simp
  refine ⟨?_, h.at_, .inr ⟨g, by rw [e]⟩⟩
  rw [e]
  exact owns_set (owns_set h.own hi' _) (by simpa using hk) _
structure Ent where
  v : Value
  l : List It
  lo : Nat
  hi : Nat
  cp : Nat
theorem apartL {w : World} {base gl : Nat} {L : List Ent} (hm : L.length ≤ 100) (hM : ∀ e ∈ L, Mine e.lo e.hi e.cp w e.v e.l ∧ base ≤ e.lo ∧ e.hi ≤ gl ∧ (e.cp + 1 ≤ 8796093022208 ∨ e.l.length + 4097 ≤ 8796093022208)) (hP : L.Pairwise (fun a b => a.hi ≤ b.lo ∨ b.hi ≤ a.lo))
    (hL : w.heap[gl]? = some (.cells (L.map Ent.v).toArray 22 (0, 0))) (hb : base ≤ w.heap.size) :
    Calls Try.prog 14 #[.slice (some ⟨gl, 0, none⟩) L.length L.length] w fun e w' => e = .returned (.bool true) ∧ Below base w w' := by
  have hE : ∀ j (hj : j < L.length), (L[j]?.getD ⟨undef, [], 0, 0, 0⟩) = L[j] := fun j hj => by rw [List.getElem?_eq_getElem hj]; rfl
  have hW := List.pairwise_iff_getElem.1 hP
  refine apart_any (v := fun j => (L[j]?.getD ⟨undef, [], 0, 0, 0⟩).v) (n := fun j => (L[j]?.getD ⟨undef, [], 0, 0, 0⟩).l.length) (cp := fun j => (L[j]?.getD ⟨undef, [], 0, 0, 0⟩).cp) (C0 := fun j => (L[j]?.getD ⟨undef, [], 0, 0, 0⟩).l) hm ?_ ?_ ?_ (Array.getElem?_eq_some_iff.1 hL).1 ?_ hb ?_ ?_
  · intro j hj
    simp only [hE j hj]
    obtain ⟨h1, h2, h3⟩ := hM _ (List.getElem_mem hj)
    exact owns_base h2 h1.own
  · intro i j hi hj hij k hki hkj
    simp only [hE i hi, hE j hj] at hki hkj
    have a1 := (hM _ (List.getElem_mem hi)).1.at_ k hki
    have a2 := (hM _ (List.getElem_mem hj)).1.at_ k hkj
    rcases Nat.lt_or_gt_of_ne hij with h | h
    · have := hW i j hi hj h
      omega
    · have := hW j i hj hi h
      omega
  · intro j hj
    simp only [hE j hj]
    rw [cell_of_row w gl j _ _ _ hL]
    simp [hj]
  · intro j hj e
    simp only [hE j hj] at e
    obtain ⟨h1, h2, h3, h4⟩ := hM _ (List.getElem_mem hj)
    have := h1.at_ gl e
    omega
  · intro j hj
    simp only [hE j hj]
    exact (hM _ (List.getElem_mem hj)).1.shape
  · intro j hj
    simp only [hE j hj]
    exact (hM _ (List.getElem_mem hj)).2.2.2

end Go.Proofs.Ytomieeajmelglaa
