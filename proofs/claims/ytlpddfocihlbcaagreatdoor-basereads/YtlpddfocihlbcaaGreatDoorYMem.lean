/- lists of answers, each in memory of its own; the book's end -/
import Derived.Test.YtlpddfocihlbcaaGreatDoorYBookAp
namespace Go.Proofs.YtlpddfocihlbcaaGreatDoor
open Go.RowKit

def Far (u v : Value) : Prop := ∀ k, blk u = some k → blk v ≠ some k

theorem Far.symm {u v : Value} (h : Far u v) : Far v u := fun k hv hu => h k hu hv
theorem grown_of_below {w w' : World} (h : Below w.heap.size w w') : w.grownBy w' none := ⟨h.os, h.tape, h.output, h.size, fun k hk _ => h.block k hk⟩

/-- lists, each in memory of its own, none below base -/
structure Mem (base : Nat) (w : World) (all : List Value) : Prop where
  each : ∀ v ∈ all, ∃ xs c, Lies w v xs c ∧ xs.length ≤ 20000000
  far : all.Pairwise Far
  above : ∀ v ∈ all, ∀ k, blk v = some k → base ≤ k
theorem Mem.below {base : Nat} {w w' : World} {all : List Value} (h : Mem base w all) (hb : Below w.heap.size w w') : Mem base w' all :=
  ⟨fun v hv => by obtain ⟨xs, c, h1, h2⟩ := h.each v hv; exact ⟨xs, c, h1.below hb, h2⟩, h.far, h.above⟩
theorem Mem.off {base base' g : Nat} {lv : Value} {ps : List (Value × Value)} {w w' : World} {all : List Value} (h : Mem base w all) (hk : Kept base' w g lv ps) (ho : Off g lv w w') : Mem base w' all :=
  ⟨fun v hv => by obtain ⟨xs, c, h1, h2⟩ := h.each v hv; exact ⟨xs, c, ho.lies hk h1, h2⟩, h.far, h.above⟩

def nilled (vs : List Value) : List (Value × Value) := vs.map fun v => (v, .slice none 0 0)
theorem nilled_snoc (vs : List Value) (v : Value) : nilled (vs ++ [v]) = nilled vs ++ [(v, .slice none 0 0)] := by simp [nilled]
theorem nilled_length (vs : List Value) : (nilled vs).length = vs.length := by simp [nilled]
theorem Kept.below {base : Nat} {w w' : World} {g : Nat} {lv : Value} {ps : List (Value × Value)} (h : Kept base w g lv ps) (hb : Below w.heap.size w w') : Kept base w' g lv ps :=
  h.grown (grown_of_below hb) (fun _ e => by cases e)
/-- the book's end -/
theorem apart_mem {base : Nat} {w : World} {g : Nat} {lv : Value} {vs : List Value} (h : Kept base w g lv (nilled vs)) (hb : base ≤ w.heap.size) (hn : vs.length < 1000) (hm : Mem base w vs) :
    Calls Tryz.prog 10 #[.pointer (some ⟨g, 0, none⟩)] w fun e w' => e = .returned (.bool true) ∧ Below base w w' := by
  refine apart_any h hb (by rw [nilled_length]; exact hn) ?_ ?_ ?_ ?_
  · intro i hi
    simp only [nilled, List.getElem_map]
    exact hm.each _ (List.getElem_mem _)
  · intro i j hi hj hne k hk
    simp only [nilled, List.getElem_map] at hk ⊢
    rw [nilled_length] at hi hj
    rcases Nat.lt_or_gt_of_ne hne with hlt | hlt
    · exact (List.pairwise_iff_getElem.1 hm.far i j hi hj hlt) k hk
    · exact ((List.pairwise_iff_getElem.1 hm.far j i hj hi hlt).symm) k hk
  · intro i hi k hk
    simp only [nilled, List.getElem_map] at hk
    exact hm.above _ (List.getElem_mem _) k hk
  · intro i hi
    simp only [nilled, List.getElem_map]


theorem lies_ans {w w' : World} {g c : Nat} {xs rest : List Int} (hg : w.heap.size ≤ g) (hR : Row .u8 5 w' g (xs ++ rest)) (hc : (xs ++ rest).length = c) (hm : c ≤ maxLen) : Lies w' (.slice (some ⟨g, 0, none⟩) xs.length c) xs c ∧ ∀ k, blk (.slice (some ⟨g, 0, none⟩) xs.length c) = some k → w.heap.size ≤ k := by
  refine ⟨⟨_, rfl, by rw [← hc, List.length_append]; omega, hm, fun _ => ⟨g, rest, rfl, hR, by omega⟩⟩, fun k hk => ?_⟩
  cases c with
  | zero => cases hk
  | succ c => cases hk; exact hg
theorem lies_nil (w : World) : Lies w (.slice none 0 0) [] 0 := ⟨none, rfl, Nat.le_refl _, by unfold maxLen; omega, fun h => by omega⟩
theorem Mem.snoc {base : Nat} {w w' : World} {all : List Value} {v : Value} {zs : List Int} {c : Nat} (h : Mem base w all) (hb : Below w.heap.size w w') (hv : Lies w' v zs c) (l2 : ∀ k, blk v = some k → w.heap.size ≤ k) (hk : zs.length ≤ 20000000) (hB : base ≤ w.heap.size) : Mem base w' (all ++ [v]) := by
  refine ⟨fun u hu => ?_, List.pairwise_append.2 ⟨h.far, by simp, fun u hu v' hv' => ?_⟩, fun u hu j hj => ?_⟩
  · rcases List.mem_append.1 hu with hu | hu
    · exact (h.below hb).each u hu
    · rw [List.mem_singleton.1 hu]
      exact ⟨zs, _, hv, hk⟩
  · rw [List.mem_singleton.1 hv']
    obtain ⟨xs, c, h1, _⟩ := h.each u hu
    intro j hj hj2
    have := h1.lt hj
    have := l2 j hj2
    omega
  · rcases List.mem_append.1 hu with hu | hu
    · exact h.above u hu j hj
    · rw [List.mem_singleton.1 hu] at hj
      have := l2 j hj
      omega
theorem arr_off {base g : Nat} {lv : Value} {ps : List (Value × Value)} {w w' : World} (hk : Kept base w g lv ps) (ho : Off g lv w w') {k : Nat} {cs : Array Value} {t : TypeId} (h : w.heap[k]? = some (.cells cs t (0, 0))) (ht : t ≠ 64) (hne : k ≠ g) : w'.heap[k]? = some (.cells cs t (0, 0)) := by
  rw [ho.block k (Array.getElem?_eq_some_iff.1 h).1 hne ?_]
  · exact h
  · intro e
    rcases hk.own.2 with ⟨rfl, _⟩ | ⟨g', cap, cur, rfl, _, h1, _⟩
    · cases e
    · cases e
      rw [h] at h1
      injection h1 with h1
      injection h1 with _ h2
      exact ht h2

end Go.Proofs.YtlpddfocihlbcaaGreatDoor
