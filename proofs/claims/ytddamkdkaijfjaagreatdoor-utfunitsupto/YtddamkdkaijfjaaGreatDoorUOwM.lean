/- lists of units that were grown lie in memory of their own; a book of them -/
import Derived.Test.YtddamkdkaijfjaaGreatDoorVBookAp
import Derived.Test.YtddamkdkaijfjaaGreatDoorUOwG
import Derived.Test.YtddamkdkaijfjaaGreatDoorURefR
import Derived.Test.YtddamkdkaijfjaaGreatDoorURefT
import Derived.Test.YtddamkdkaijfjaaGreatDoorUBack
namespace Go.Proofs.YtddamkdkaijfjaaGreatDoor
open Go.RowKit
set_option linter.unusedVariables false

theorem lies_own {B : Nat} {w : World} {v : Value} {zs : List Int} {n : Nat} (hn : n = zs.length) (h : w.ownsRow B 52 1 v n (zs.map (Value.int .u16))) : ∃ c, Lies w v zs c ∧ ∀ k, blk v = some k → B ≤ k := by
  subst hn
  obtain ⟨h0, ⟨rfl, h1⟩ | ⟨g, cap, cur, rfl, h2, h3, h4, h5, h6, h7⟩⟩ := h
  · obtain rfl := List.eq_nil_of_length_eq_zero h1
    exact ⟨0, ⟨none, rfl, Nat.le_refl _, by unfold maxLen; omega, fun h => absurd h (by omega)⟩, fun k hk => by cases hk⟩
  · rw [Nat.mul_one] at h6 h7
    refine ⟨cap, ⟨_, rfl, h4, h5, fun _ => ⟨g, cur.toList.drop zs.length, rfl, ?_, ?_⟩⟩, fun k hk => ?_⟩
    · unfold RowV
      rw [← h7, List.take_append_drop]
      exact h3
    · have : cur.toList.length = cur.size := Array.length_toList
      rw [List.length_drop]; omega
    · cases cap with
      | zero => cases hk
      | succ c => cases hk; exact h2
theorem nil_lies (w : World) : Lies w (.slice none 0 0) [] 0 := ⟨none, rfl, Nat.le_refl _, by unfold maxLen; omega, fun h => absurd h (by omega)⟩

/-- utf.Units: a list in memory of its own -/
theorem units_lie {s : ByteArray} {es ps t : List Int} {w : World} (hb : uByt es) (hs : s = strOfNums es) (hl : es.length ≤ 17592186044416) (hS : USplit es ps t) :
    Calls Tryz.prog 16 #[.string s] w fun e w' => ∃ v c, e = .returned (.tuple #[v, .bool t.isEmpty]) ∧ Lies w' v (if t.isEmpty then ps.flatMap uU else []) c ∧ (∀ k, blk v = some k → w.heap.size ≤ k) ∧ Below w.heap.size w w' := by
  by_cases ht : t = []
  · subst ht
    refine (units_text hb hs hl hS).mono ?_
    rintro e w' ⟨v, rfl, ho, h⟩
    obtain ⟨c, h1, h2⟩ := lies_own rfl ho
    exact ⟨v, c, rfl, h1, h2, h⟩
  · refine (units_not hb hs hl hS ht).mono ?_
    rintro e w' ⟨rfl, h⟩
    rw [isEmpty_no ht]
    exact ⟨_, 0, rfl, nil_lies _, fun k hk => (by cases hk), h⟩
/-- two lists that share no block -/
def Far (u v : Value) : Prop := ∀ k, blk u = some k → blk v ≠ some k
theorem Far.symm {u v : Value} (h : Far u v) : Far v u := fun k hk e => h k e hk
/-- lists, each in memory of its own, none below base -/
structure Mem (base : Nat) (w : World) (all : List Value) : Prop where
  each : ∀ v ∈ all, ∃ xs c, Lies w v xs c ∧ xs.length ≤ 4000000
  far : all.Pairwise Far
  above : ∀ v ∈ all, ∀ k, blk v = some k → base ≤ k
theorem Mem.below {base : Nat} {w w' : World} {all : List Value} (h : Mem base w all) (hb : Below w.heap.size w w') : Mem base w' all :=
  ⟨fun v hv => by obtain ⟨xs, c, h1, h2⟩ := h.each v hv; exact ⟨xs, c, h1.below hb, h2⟩, h.far, h.above⟩
theorem Mem.off {base base' g : Nat} {lv : Value} {ps : List (Value × Value)} {w w' : World} {all : List Value} (h : Mem base w all) (hk : Kept base' w g lv ps) (ho : Off g lv w w') : Mem base w' all :=
  ⟨fun v hv => by obtain ⟨xs, c, h1, h2⟩ := h.each v hv; exact ⟨xs, c, ho.lies hk h1, h2⟩, h.far, h.above⟩
theorem Mem.nil (base : Nat) (w : World) : Mem base w [] := ⟨fun v hv => (by cases hv), List.Pairwise.nil, fun v hv => (by cases hv)⟩
/-- one more, made behind a world -/
theorem Mem.add {base : Nat} {w w' : World} {all : List Value} {v : Value} {xs : List Int} {c : Nat} (h : Mem base w all) (hb : Below w.heap.size w w') (hB : base ≤ w.heap.size) (hl : Lies w' v xs c) (hx : xs.length ≤ 4000000) (hv : ∀ k, blk v = some k → w.heap.size ≤ k) : Mem base w' (all ++ [v]) := by
  refine ⟨fun u hu => ?_, List.pairwise_append.2 ⟨h.far, List.pairwise_singleton _ _, fun u hu v' hv' => ?_⟩, fun u hu k hk => ?_⟩
  · rcases List.mem_append.1 hu with hu | hu
    · exact (h.below hb).each u hu
    · rw [List.mem_singleton.1 hu]; exact ⟨xs, c, hl, hx⟩
  · rw [List.mem_singleton.1 hv']
    obtain ⟨zs, d, h1, _⟩ := h.each u hu
    intro k hk hk2
    have := h1.lt hk
    have := hv k hk2
    omega
  · rcases List.mem_append.1 hu with hu | hu
    · exact h.above u hu k hk
    · rw [List.mem_singleton.1 hu] at hk
      have := hv k hk
      omega
/-- one more, that is there -/
theorem Mem.snoc {base : Nat} {w : World} {all : List Value} {v : Value} {xs : List Int} {c : Nat} (h : Mem base w all) (hl : Lies w v xs c) (hx : xs.length ≤ 4000000) (hv : ∀ k, blk v = some k → base ≤ k) (hf : ∀ u ∈ all, Far u v) : Mem base w (all ++ [v]) := by
  refine ⟨fun u hu => ?_, List.pairwise_append.2 ⟨h.far, List.pairwise_singleton _ _, fun u hu v' hv' => ?_⟩, fun u hu k hk => ?_⟩
  · rcases List.mem_append.1 hu with hu | hu
    · exact h.each u hu
    · rw [List.mem_singleton.1 hu]; exact ⟨xs, c, hl, hx⟩
  · rw [List.mem_singleton.1 hv']; exact hf u hu
  · rcases List.mem_append.1 hu with hu | hu
    · exact h.above u hu k hk
    · rw [List.mem_singleton.1 hu] at hk; exact hv k hk
def nilled (vs : List Value) : List (Value × Value) := vs.map fun v => (v, .slice none 0 0)
theorem nilled_snoc (vs : List Value) (v : Value) : nilled (vs ++ [v]) = nilled vs ++ [(v, .slice none 0 0)] := by simp [nilled]
theorem nilled_length (vs : List Value) : (nilled vs).length = vs.length := by simp [nilled]
/-- the book's end -/
theorem apart_mem {base : Nat} {w : World} {g : Nat} {lv : Value} {vs : List Value} (h : Kept base w g lv (nilled vs)) (hb : base ≤ w.heap.size) (hn : vs.length < 1000) (hm : Mem base w vs) :
    Calls Tryz.prog 13 #[.pointer (some ⟨g, 0, none⟩)] w fun e w' => e = .returned (.bool true) ∧ Below base w w' := by
  refine apart_any h hb (by rw [nilled_length]; exact hn) ?_ ?_ ?_ ?_
  · intro i hi
    simp only [nilled, List.getElem_map]
    exact hm.each _ (List.getElem_mem _)
  · intro i j hi hj hne k hk
    simp only [nilled, List.getElem_map] at hk ⊢
    rw [nilled_length] at hi hj
    rcases Nat.lt_or_gt_of_ne hne with hlt | hlt
    · exact (List.pairwise_iff_getElem.1 hm.far i j hi hj hlt) k hk
    · exact ((List.pairwise_iff_getElem.1 hm.far j i hj hi hlt).symm) k hk
  · intro i hi k hk
    simp only [nilled, List.getElem_map] at hk
    exact hm.above _ (List.getElem_mem _) k hk
  · intro i hi
    simp only [nilled, List.getElem_map]
/-- a list is kept -/
theorem keep_mem {base : Nat} {w : World} {g : Nat} {lv v : Value} {vs all : List Value} (h : Kept base w g lv (nilled vs)) (hb : base ≤ w.heap.size) (hn : vs.length < 900) (hm : Mem base w all) (hv : ∃ ao L c, v = .slice ao L c) :
    Calls Tryz.prog 22 #[.pointer (some ⟨g, 0, none⟩), v] w fun e w' => e = .returned (.tuple #[]) ∧ (∃ lv', Kept base w' g lv' (nilled (vs ++ [v]))) ∧ Mem base w' all ∧ Below base w w' := by
  obtain ⟨ao, L, c, rfl⟩ := hv
  refine (plain_any h hb (by rw [nilled_length]; omega)).mono ?_
  rintro e w' ⟨rfl, lv', h1, h2⟩
  exact ⟨rfl, ⟨lv', by rw [nilled_snoc]; exact h1⟩, hm.off h h2, h2.below h hb⟩
theorem Lies.shape {w : World} {v : Value} {xs : List Int} {c : Nat} (h : Lies w v xs c) : ∃ ao L c, v = .slice ao L c := by
  obtain ⟨ao, rfl, _⟩ := h
  exact ⟨ao, _, c, rfl⟩

end Go.Proofs.YtddamkdkaijfjaaGreatDoor
