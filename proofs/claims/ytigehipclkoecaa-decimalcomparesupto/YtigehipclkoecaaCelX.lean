/- three cells, for a seat without patterns -/
import Derived.Test.YtigehipclkoecaaKit
namespace Go.Proofs.Ytigehipclkoecaa
open Go.RowKit

theorem bel_new (w : World) (o : Obj) : Below w.heap.size w (w.alloc o) := (Below.refl _ _).alloc (Nat.le_refl _) _
/-- three cells behind one another in a block -/
structure Cell3 (w : World) (b : Nat) (i : Nat) (x y z : Value) : Prop where
  c0 : w.cell? ⟨b, i, none⟩ = some x
  c1 : w.cell? ⟨b, i + 1, none⟩ = some y
  c2 : w.cell? ⟨b, i + 2, none⟩ = some z
  lt : b < w.heap.size
theorem Cell3.below {w w' : World} {b i : Nat} {x y z : Value} (h : Cell3 w b i x y z) (hb : Below w.heap.size w w') : Cell3 w' b i x y z :=
  ⟨(hb.cell (p := ⟨b, i, none⟩) h.lt).trans h.c0, (hb.cell (p := ⟨b, i + 1, none⟩) h.lt).trans h.c1, (hb.cell (p := ⟨b, i + 2, none⟩) h.lt).trans h.c2, Nat.lt_of_lt_of_le h.lt hb.size⟩
theorem cell3_new (w : World) (x y z : Value) (t : TypeId) : Cell3 (w.alloc (.cells #[x, y, z] t)) w.heap.size 0 x y z := by
  refine ⟨?_, ?_, ?_, by simp⟩
  · rw [World.cell?_alloc_at _ _ _ _ rfl]; rfl
  · rw [World.cell?_alloc_at _ _ _ _ rfl]; rfl
  · rw [World.cell?_alloc_at _ _ _ _ rfl]; rfl

end Go.Proofs.Ytigehipclkoecaa
