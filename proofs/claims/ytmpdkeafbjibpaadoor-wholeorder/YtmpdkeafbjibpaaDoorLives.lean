/- lives: a sum and a product that are fixed -/
import Derived.Test.YtmpdkeafbjibpaaDoorAdd
import Derived.Test.YtmpdkeafbjibpaaDoorMul
import Derived.Test.YtmpdkeafbjibpaaDoorSame
namespace Go.Proofs.YtmpdkeafbjibpaaDoor
open Go.RowKit

theorem row_one (w : World) (x : Int) : Row .u32 59 (w.alloc (.cells #[.int .u32 x] 59)) w.heap.size [x] := by
  unfold Row
  rw [heap_alloc_new]
  rfl
theorem val_one (x : Int) : Nt.val [x] = x := by
  show Nt.vt _ 1 = x
  simp only [Nt.vt, Nt.pw, Nt.lb, List.getD_cons_zero]
  omega
theorem ok_one_limb {x : Int} (h : 0 ≤ x ∧ x < 4294967296) : Nt.Ok [x] := by
  intro i
  match i with
  | 0 => exact h
  | i + 1 => simp [Nt.lb]
theorem arg_one (w : World) {x : Int} (h : 0 ≤ x ∧ x < 4294967296) : Arg (w.alloc (.cells #[.int .u32 x] 59)) (.slice (some ⟨w.heap.size, 0, none⟩) 1 1) x 1 := by
  refine ⟨[x], ⟨some ⟨w.heap.size, 0, none⟩, 1, rfl, Nat.le_refl _, by unfold maxLen; omega, fun _ => ⟨w.heap.size, 0, rfl, (row_one w x).lt, fun i hi => ?_⟩⟩, ok_one_limb h, val_one x, Nat.le_refl _⟩
  rw [Nat.zero_add]
  exact (row_one w x).cell hi
theorem below_alloc (w : World) (o : Obj) : Below w.heap.size w (w.alloc o) := (Below.refl _ _).alloc (Nat.le_refl _) _
theorem arg_nil (w : World) : Arg w (.slice none 0 0) 0 0 := ⟨[], ⟨none, 0, rfl, Nat.le_refl _, by unfold maxLen; omega, fun h => absurd h (by simp)⟩, Nt.ok_nil, rfl, Nat.le_refl _⟩
theorem arg_two (w : World) (o : Obj) {x : Int} (h : 0 ≤ x ∧ x < 4294967296) : Arg ((w.alloc o).alloc (.cells #[.int .u32 x] 59)) (.slice (some ⟨w.heap.size + 1, 0, none⟩) 1 1) x 1 := by
  have := arg_one (w.alloc o) h
  simpa using this
/-- two limbs -/
theorem canon_two {x y : Int} (hx : 0 ≤ x ∧ x < 4294967296) (hy : 0 < y ∧ y < 4294967296) : Nt.Canon [x, y] := by
  refine ⟨fun i => ?_, fun _ => ?_⟩
  · match i with
    | 0 => exact hx
    | 1 => exact ⟨Int.le_of_lt hy.1, hy.2⟩
    | i + 2 => simp [Nt.lb]
  · show y ≠ 0; omega
theorem val_two (x y : Int) : Nt.val [x, y] = x + 4294967296 * y := by
  show Nt.vt _ 2 = _
  simp only [Nt.vt, Nt.pw, Nt.lb, List.getD_cons_zero, List.getD_cons_succ]
  omega
theorem made_two {B : Nat} {w : World} {v : Value} {x y : Int} (h : Made .u32 59 B w v [x, y]) : ∃ g, v = .slice (some ⟨g, 0, none⟩) 2 2 ∧ g < w.heap.size ∧ w.cell? ⟨g, 0, none⟩ = some (.int .u32 x) ∧ w.cell? ⟨g, 1, none⟩ = some (.int .u32 y) := by
  obtain ⟨ao, rfl, _, h3⟩ := h
  obtain ⟨g, rest, rfl, _, hr⟩ := h3 (by simp)
  exact ⟨g, rfl, hr.lt, hr.cell (i := 0) (by simp), hr.cell (i := 1) (by simp)⟩

end Go.Proofs.YtmpdkeafbjibpaaDoor
