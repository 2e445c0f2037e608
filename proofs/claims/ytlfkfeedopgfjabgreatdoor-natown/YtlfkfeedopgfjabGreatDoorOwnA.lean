/- NatOwn: what is held between the turns -/
import Derived.Test.YtlfkfeedopgfjabGreatDoorAnswers
import Derived.Test.YtlfkfeedopgfjabGreatDoorBookAp
namespace Go.Proofs.YtlfkfeedopgfjabGreatDoor
open Go.RowKit

theorem answers_any {w : World} {va vb : Value} {A B x : Int} {N : Nat} (h_a : Arg w va A 1024) (h_b : Arg w vb B 1024) (hx : x = N) (hN : N ≤ 255) :
    Calls Tryz.prog 9 #[va, vb, .int .u8 x] w fun e w' => ∃ v0 v1 v2 v3 v4 v5 v6, e = .returned (.agg #[v0, v1, v2, v3, v4, v5, v6]) ∧ Seven w.heap.size w' A B N [v0, v1, v2, v3, v4, v5, v6] ∧ Below w.heap.size w w' := by
  subst hx
  by_cases h : A < B
  · exact answers_1 h_a h_b hN h
  · exact answers_0 h_a h_b hN (by omega)

theorem Far.symm {u v : Value} (h : Far u v) : Far v u := fun k hv hu => h k hu hv
theorem grown_of_below {w w' : World} (h : Below w.heap.size w w') : w.grownBy w' none := ⟨h.os, h.tape, h.output, h.size, fun k hk _ => h.block k hk⟩

/-- a list that reads as the number V, with no nought at its end, in memory of its own -/
def Told (w : World) (v : Value) (V : Int) : Prop := ∃ zs c, Lies w v zs c ∧ Nt.Canon zs ∧ Nt.val zs = V ∧ zs.length ≤ 4000
theorem Told.below {w w' : World} {v : Value} {V : Int} (h : Told w v V) (hb : Below w.heap.size w w') : Told w' v V := by
  obtain ⟨zs, c, h1, h2⟩ := h
  exact ⟨zs, c, h1.below hb, h2⟩
theorem Told.off {base g : Nat} {lv : Value} {ps : List (Value × Value)} {w w' : World} {v : Value} {V : Int} (h : Told w v V) (hk : Kept base w g lv ps) (ho : Off g lv w w') : Told w' v V := by
  obtain ⟨zs, c, h1, h2⟩ := h
  exact ⟨zs, c, ho.lies hk h1, h2⟩
theorem Num.told {B : Nat} {w : World} {v : Value} {n : Int} (h : Num B w v n 4000) : Told w v n := by
  obtain ⟨zs, h1, h2, h3, h4⟩ := h
  exact ⟨zs, _, h1.lies.1, h2, h3, h4⟩
theorem Told.twin {w w' : World} {B : Nat} {v v' : Value} {V : Int} {xs : List Int} (h : Told w v V) (hr : Reads .u32 w v xs) (ht : Twin B w' v' xs) : Told w' v' V := by
  obtain ⟨zs, c, h1, h2, h3, h4⟩ := h
  have e : zs = xs := by
    obtain ⟨ao, c', e, _, _, hc⟩ := hr
    obtain ⟨ao2, c2, e2, _, _, hc2⟩ := h1.reads
    rw [e] at e2
    injection e2 with q1 q2 q3
    subst q1
    refine Nt.ext_lb q2.symm fun j hj => ?_
    obtain ⟨b1, o1, e1, _, k1⟩ := hc (by omega)
    obtain ⟨b2, o2, e3, _, k2⟩ := hc2 (by omega)
    rw [e1] at e3
    cases e3
    have := (k1 j (by omega)).symm.trans (k2 j hj)
    injection this with this
    injection this with _ this
    exact this.symm
  subst e
  exact ⟨zs, _, ht.lies.1, h2, h3, h4⟩
theorem same_told {w : World} {u v : Value} {V : Int} (hu : Told w u V) (hv : Told w v V) :
    Calls Tryz.prog 10 #[u, v] w fun e w' => e = .returned (.bool true) ∧ Below w.heap.size w w' := by
  obtain ⟨xs, c, h1, h2, h3, _⟩ := hu
  obtain ⟨ys, d, k1, k2, k3, _⟩ := hv
  have e := Nt.canon_unique h2 k2 (h3.trans k3.symm)
  have := same_any h1.reads k1.reads
  rw [decide_eq_true e] at this
  exact this

/-- lists, each in memory of its own, none below base -/
structure Mem (base : Nat) (w : World) (all : List Value) : Prop where
  each : ∀ v ∈ all, ∃ xs c, Lies w v xs c ∧ xs.length ≤ 4000000
  far : all.Pairwise Far
  above : ∀ v ∈ all, ∀ k, blk v = some k → base ≤ k
theorem Mem.below {base : Nat} {w w' : World} {all : List Value} (h : Mem base w all) (hb : Below w.heap.size w w') : Mem base w' all :=
  ⟨fun v hv => by obtain ⟨xs, c, h1, h2⟩ := h.each v hv; exact ⟨xs, c, h1.below hb, h2⟩, h.far, h.above⟩
theorem Mem.off {base base' g : Nat} {lv : Value} {ps : List (Value × Value)} {w w' : World} {all : List Value} (h : Mem base w all) (hk : Kept base' w g lv ps) (ho : Off g lv w w') : Mem base w' all :=
  ⟨fun v hv => by obtain ⟨xs, c, h1, h2⟩ := h.each v hv; exact ⟨xs, c, ho.lies hk h1, h2⟩, h.far, h.above⟩
/-- seven more -/
theorem Mem.add {base : Nat} {w w' : World} {all vs : List Value} {A B : Int} {N : Nat} (h : Mem base w all) (hb : Below w.heap.size w w') (hs : Seven w.heap.size w' A B N vs) (hB : base ≤ w.heap.size) : Mem base w' (all ++ vs) := by
  refine ⟨fun v hv => ?_, List.pairwise_append.2 ⟨h.far, hs.far, fun u hu v hv => ?_⟩, fun v hv k hk => ?_⟩
  · rcases List.mem_append.1 hv with hv | hv
    · exact (h.below hb).each v hv
    · obtain ⟨i, hi, rfl⟩ := List.getElem_of_mem hv
      obtain ⟨xs, c, h1, h2⟩ := (hs.num i hi).lies
      exact ⟨xs, c, h1, by omega⟩
  · obtain ⟨i, hi, rfl⟩ := List.getElem_of_mem hv
    obtain ⟨xs, c, h1, _⟩ := h.each u hu
    intro k hk hk2
    have := h1.lt hk
    have := ((hs.num i hi).in k hk2).1
    omega
  · rcases List.mem_append.1 hv with hv | hv
    · exact h.above v hv k hk
    · obtain ⟨i, hi, rfl⟩ := List.getElem_of_mem hv
      have := ((hs.num i hi).in k hk).1
      omega
def nilled (vs : List Value) : List (Value × Value) := vs.map fun v => (v, .slice none 0 0)
theorem nilled_snoc (vs : List Value) (v : Value) : nilled (vs ++ [v]) = nilled vs ++ [(v, .slice none 0 0)] := by simp [nilled]
theorem nilled_length (vs : List Value) : (nilled vs).length = vs.length := by simp [nilled]
theorem Kept.below {base : Nat} {w w' : World} {g : Nat} {lv : Value} {ps : List (Value × Value)} (h : Kept base w g lv ps) (hb : Below w.heap.size w w') : Kept base w' g lv ps :=
  h.grown (grown_of_below hb) (fun _ e => by cases e)
/-- the book's end -/
theorem apart_mem {base : Nat} {w : World} {g : Nat} {lv : Value} {vs : List Value} (h : Kept base w g lv (nilled vs)) (hb : base ≤ w.heap.size) (hn : vs.length < 1000) (hm : Mem base w vs) :
    Calls Tryz.prog 12 #[.pointer (some ⟨g, 0, none⟩)] w fun e w' => e = .returned (.bool true) ∧ Below base w w' := by
  refine apart_any h hb (by rw [nilled_length]; exact hn) ?_ ?_ ?_ ?_
  · intro i hi
    simp only [nilled, List.getElem_map]
    exact hm.each _ (List.getElem_mem _)
  · intro i j hi hj hne k hk
    simp only [nilled, List.getElem_map] at hk ⊢
    rw [nilled_length] at hi hj
    rcases Nat.lt_or_gt_of_ne hne with hlt | hlt
    · exact (List.pairwise_iff_getElem.1 hm.far i j hi hj hlt) k hk
    · exact ((List.pairwise_iff_getElem.1 hm.far j i hj hi hlt).symm) k hk
  · intro i hi k hk
    simp only [nilled, List.getElem_map] at hk
    exact hm.above _ (List.getElem_mem _) k hk
  · intro i hi
    simp only [nilled, List.getElem_map]

/-- an array of seven lists -/
def Arr (w : World) (b : Nat) (fs : List Value) : Prop := w.heap[b]? = some (.cells fs.toArray 43 (0, 0)) ∧ fs.length = 7
theorem Arr.lt {w : World} {b : Nat} {fs : List Value} (h : Arr w b fs) : b < w.heap.size := (Array.getElem?_eq_some_iff.1 h.1).1
theorem Arr.below {w w' : World} {b : Nat} {fs : List Value} (h : Arr w b fs) (hb : Below w.heap.size w w') : Arr w' b fs := ⟨by rw [hb.block b h.lt]; exact h.1, h.2⟩
theorem Arr.cell {w : World} {b : Nat} {fs : List Value} (h : Arr w b fs) {i : Nat} (hi : i < fs.length) : w.cell? ⟨b, i, none⟩ = some fs[i] := by
  rw [cell_of_row w b i _ _ _ h.1]
  simp [hi]
theorem Arr.frozen {w : World} {b : Nat} {fs : List Value} (h : Arr w b fs) (i : Nat) : w.frozen? ⟨b, i, none⟩ = false := frozen_of_row w b i _ _ h.1
theorem Arr.off {base g b : Nat} {lv : Value} {ps : List (Value × Value)} {w w' : World} {fs : List Value} (h : Arr w b fs) (hk : Kept base w g lv ps) (ho : Off g lv w w') : Arr w' b fs := by
  refine ⟨?_, h.2⟩
  rw [ho.block b h.lt ?_ ?_]
  · exact h.1
  · rintro rfl
    have h1 := hk.book
    unfold BookAt at h1
    rw [h.1] at h1
    simp at h1
  · intro e
    rcases hk.own.2 with ⟨rfl, _⟩ | ⟨g', cap, cur, rfl, _, h1, _⟩
    · cases e
    · cases e
      rw [h.1] at h1
      simp at h1
theorem Arr.set {w : World} {b : Nat} {fs : List Value} (h : Arr w b fs) (i : Nat) (x : Value) : Arr (w.setCell ⟨b, i, none⟩ x) b (fs.set i x) := by
  refine ⟨?_, by rw [List.length_set]; exact h.2⟩
  rw [heap_setCell_same w b i _ _ _ h.1]
  simp

end Go.Proofs.YtlfkfeedopgfjabGreatDoor
