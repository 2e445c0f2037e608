/- whole: Norm, Neg, Add, Sub, Mul, From -/
import Derived.Test.YtmlmefjbieeofaaGreatDoorWhole
import Derived.Test.YtmlmefjbieeofaaGreatDoorMul
namespace Go.Proofs.YtmlmefjbieeofaaGreatDoor
open Go.RowKit

theorem Num.put {B : Nat} {w : World} {v : Value} {n : Int} {k b : Nat} (h : Num B w v n k) (hb : b < B) (i : Nat) (x : Value) : Num B (w.setCell ⟨b, i, none⟩ x) v n k := by
  obtain ⟨zs, ⟨ao, h1, h2, h3⟩, h4⟩ := h
  refine ⟨zs, ⟨ao, h1, h2, fun hp => ?_⟩, h4⟩
  obtain ⟨g, rest, h5, h6, h7⟩ := h3 hp
  refine ⟨g, rest, h5, h6, ?_⟩
  unfold Row
  rw [Below.heap_setCell _ _ _ _ (by show g ≠ b; omega)]
  exact h7
theorem WNum.put {B : Nat} {w : World} {v : Value} {n : Int} {k b : Nat} (h : WNum B w v n k) (hb : b < B) (i : Nat) (x : Value) : WNum B (w.setCell ⟨b, i, none⟩ x) v n k := by
  obtain ⟨neg, m, a, rfl, h1, h2⟩ := h
  exact ⟨neg, m, a, rfl, h1.put hb i x, h2⟩
theorem WNum.told {B : Nat} {w : World} {v : Value} {n : Int} {k : Nat} (h : WNum B w v n k) : ∃ neg ao l, v = .agg #[.bool neg, .slice ao l l] := by
  obtain ⟨neg, m, a, rfl, ⟨zs, ⟨ao, rfl, _⟩, _⟩, _⟩ := h
  exact ⟨neg, ao, _, rfl⟩
/-- two cells behind one another in a block, which may be written -/
structure Cell2 (w : World) (b : Nat) (x y : Value) : Prop where
  c0 : w.cell? ⟨b, 0, none⟩ = some x
  c1 : w.cell? ⟨b, 1, none⟩ = some y
  f0 : w.frozen? ⟨b, 0, none⟩ = false
  f1 : w.frozen? ⟨b, 1, none⟩ = false
  lt : b < w.heap.size
theorem Cell2.below {w w' : World} {b : Nat} {x y : Value} (h : Cell2 w b x y) (hb : Below w.heap.size w w') : Cell2 w' b x y :=
  ⟨(hb.cell (p := ⟨b, 0, none⟩) h.lt).trans h.c0, (hb.cell (p := ⟨b, 1, none⟩) h.lt).trans h.c1, (hb.frozen (p := ⟨b, 0, none⟩) h.lt).trans h.f0, (hb.frozen (p := ⟨b, 1, none⟩) h.lt).trans h.f1, Nat.lt_of_lt_of_le h.lt hb.size⟩
theorem cell2_new (w : World) (x y : Value) (t : TypeId) : Cell2 (w.alloc (.cells #[x, y] t)) w.heap.size x y := by
  refine ⟨?_, ?_, ?_, ?_, by simp⟩
  · rw [World.cell?_alloc_at _ _ _ _ rfl]; rfl
  · rw [World.cell?_alloc_at _ _ _ _ rfl]; rfl
  · rw [World.frozen?_alloc_at _ _ _ _ rfl]
  · rw [World.frozen?_alloc_at _ _ _ _ rfl]
theorem sg_mul {n m s t a b : Int} (h : Sg n s a) (k : Sg m t b) : (if s * t = -1 then -(a * b) else a * b) = n * m := by
  unfold Sg at h k
  rcases h with ⟨_, rfl, rfl⟩ | ⟨rfl, rfl, rfl⟩ | ⟨_, rfl, rfl⟩ <;> rcases k with ⟨_, rfl, rfl⟩ | ⟨rfl, rfl, rfl⟩ | ⟨_, rfl, rfl⟩ <;> simp [Int.neg_mul, Int.mul_neg]
theorem sg_mul_bound {n m s t a b : Int} (h : Sg n s a) (k : Sg m t b) : -1 ≤ s * t ∧ s * t ≤ 1 := by
  unfold Sg at h k
  rcases h with ⟨_, rfl, rfl⟩ | ⟨rfl, rfl, rfl⟩ | ⟨_, rfl, rfl⟩ <;> rcases k with ⟨_, rfl, rfl⟩ | ⟨rfl, rfl, rfl⟩ | ⟨_, rfl, rfl⟩ <;> simp
theorem Cell2.alloc {w : World} {b : Nat} {x y : Value} (h : Cell2 w b x y) (o : Obj) : Cell2 (w.alloc o) b x y := h.below (bel_alloc w o)
theorem Cell2.put {w : World} {b : Nat} {x y : Value} (h : Cell2 w b x y) (x' y' : Value) : Cell2 ((w.setCell ⟨b, 0, none⟩ x').setCell ⟨b, 1, none⟩ y') b x' y' := by
  have n01 : (⟨b, 0, none⟩ : Addr) ≠ ⟨b, 1, none⟩ := by intro e; injection e with _ e _; cases e
  refine ⟨?_, ?_, ?_, ?_, by simpa [World.setCell] using h.lt⟩
  · rw [World.cell?_setCell_other _ _ _ _ (by first | exact n01 | exact n01.symm)]
    exact World.cell?_setCell_same _ _ _ h.c0
  · refine World.cell?_setCell_same (u := y) _ _ _ ?_
    rw [World.cell?_setCell_other _ _ _ _ (by first | exact n01.symm | exact n01)]
    exact h.c1
  · have := h.f0; simpa [go_sem] using this
  · have := h.f1; simpa [go_sem] using this
theorem Cell2.away {w : World} {b c : Nat} {x y : Value} (h : Cell2 w b x y) (hn : b ≠ c) (x' y' : Value) : Cell2 ((w.setCell ⟨c, 0, none⟩ x').setCell ⟨c, 1, none⟩ y') b x y := by
  have hh : ((w.setCell ⟨c, 0, none⟩ x').setCell ⟨c, 1, none⟩ y').heap[b]? = w.heap[b]? := (Below.heap_setCell _ _ _ _ (by show b ≠ c; exact hn)).trans (Below.heap_setCell _ _ _ _ (by show b ≠ c; exact hn))
  have hc : ∀ i, ((w.setCell ⟨c, 0, none⟩ x').setCell ⟨c, 1, none⟩ y').cell? ⟨b, i, none⟩ = w.cell? ⟨b, i, none⟩ := fun i => World.cell?_of_block hh
  refine ⟨(hc 0).trans h.c0, (hc 1).trans h.c1, ?_, ?_, by simpa [World.setCell] using h.lt⟩
  · have := h.f0; simpa [go_sem] using this
  · have := h.f1; simpa [go_sem] using this
theorem below_put2 {B : Nat} {w w' : World} {b : Nat} (h : Below B w w') (hb : B ≤ b) (x y : Value) : Below B w ((w'.setCell ⟨b, 0, none⟩ x).setCell ⟨b, 1, none⟩ y) :=
  (h.setCell (p := ⟨b, 0, none⟩) hb _).setCell (p := ⟨b, 1, none⟩) hb _

end Go.Proofs.YtmlmefjbieeofaaGreatDoor
