/- lives: a sum and a product that are fixed -/
import Derived.Test.YtlfkfeedopgfjabGreatDoorAdd
import Derived.Test.YtlfkfeedopgfjabGreatDoorMul
import Derived.Test.YtlfkfeedopgfjabGreatDoorSame
namespace Go.Proofs.YtlfkfeedopgfjabGreatDoor
open Go.RowKit

theorem row_one (w : World) (x : Int) : Row .u32 44 (w.alloc (.cells #[.int .u32 x] 44)) w.heap.size [x] := by
  unfold Row
  rw [heap_alloc_new]
  rfl
theorem val_one (x : Int) : Nt.val [x] = x := by
  show Nt.vt _ 1 = x
  simp only [Nt.vt, Nt.pw, Nt.lb, List.getD_cons_zero]
  omega
theorem ok_one_limb {x : Int} (h : 0 ≤ x ∧ x < 4294967296) : Nt.Ok [x] := by
  intro i
  match i with
  | 0 => exact h
  | i + 1 => simp [Nt.lb]
theorem arg_one (w : World) {x : Int} (h : 0 ≤ x ∧ x < 4294967296) : Arg (w.alloc (.cells #[.int .u32 x] 44)) (.slice (some ⟨w.heap.size, 0, none⟩) 1 1) x 1 := by
  refine ⟨[x], ⟨some ⟨w.heap.size, 0, none⟩, 1, rfl, Nat.le_refl _, by unfold maxLen; omega, fun _ => ⟨w.heap.size, 0, rfl, (row_one w x).lt, fun i hi => ?_⟩⟩, ok_one_limb h, val_one x, Nat.le_refl _⟩
  rw [Nat.zero_add]
  exact (row_one w x).cell hi
theorem below_alloc (w : World) (o : Obj) : Below w.heap.size w (w.alloc o) := (Below.refl _ _).alloc (Nat.le_refl _) _
theorem arg_nil (w : World) : Arg w (.slice none 0 0) 0 0 := ⟨[], ⟨none, 0, rfl, Nat.le_refl _, by unfold maxLen; omega, fun h => absurd h (by simp)⟩, Nt.ok_nil, rfl, Nat.le_refl _⟩
theorem arg_two (w : World) (o : Obj) {x : Int} (h : 0 ≤ x ∧ x < 4294967296) : Arg ((w.alloc o).alloc (.cells #[.int .u32 x] 44)) (.slice (some ⟨w.heap.size + 1, 0, none⟩) 1 1) x 1 := by
  have := arg_one (w.alloc o) h
  simpa using this
/-- two limbs -/
theorem canon_two {x y : Int} (hx : 0 ≤ x ∧ x < 4294967296) (hy : 0 < y ∧ y < 4294967296) : Nt.Canon [x, y] := by
  refine ⟨fun i => ?_, fun _ => ?_⟩
  · match i with
    | 0 => exact hx
    | 1 => exact ⟨Int.le_of_lt hy.1, hy.2⟩
    | i + 2 => simp [Nt.lb]
  · show y ≠ 0; omega
theorem val_two (x y : Int) : Nt.val [x, y] = x + 4294967296 * y := by
  show Nt.vt _ 2 = _
  simp only [Nt.vt, Nt.pw, Nt.lb, List.getD_cons_zero, List.getD_cons_succ]
  omega
theorem made_two {B : Nat} {w : World} {v : Value} {x y : Int} (h : Made .u32 44 B w v [x, y]) : ∃ g, v = .slice (some ⟨g, 0, none⟩) 2 2 ∧ g < w.heap.size ∧ w.cell? ⟨g, 0, none⟩ = some (.int .u32 x) ∧ w.cell? ⟨g, 1, none⟩ = some (.int .u32 y) := by
  obtain ⟨ao, rfl, _, h3⟩ := h
  obtain ⟨g, rest, rfl, _, hr⟩ := h3 (by simp)
  exact ⟨g, rfl, hr.lt, hr.cell (i := 0) (by simp), hr.cell (i := 1) (by simp)⟩

set_option maxHeartbeats 1000000 in
theorem lives_any {w : World} :
    Calls Tryz.prog 7 #[] w fun e w' => e = .returned (.bool true) ∧ Below w.heap.size w w' := by
  go_enter Tryz.func7, Tryz.ntmps7
  go_wp2_with fail
  refine (add_any ((arg_one w (x := 4294967295) (by omega)).below (below_alloc _ _)) (arg_two w _ (x := 1) (by omega)) (by omega) (by omega)).mono ?_
  rintro e w1 ⟨v, rfl, hn, hb⟩
  have hb1 : Below w.heap.size w w1 := below_trans (below_trans (below_alloc _ _) (below_alloc _ _)) hb
  obtain ⟨g, rfl, hg, hc0, hc1⟩ := made_two (hn.made (canon_two (x := 0) (y := 1) (by omega) (by omega)) (by rw [val_two]; omega))
  clear hn hb
  go_wp2_with fail
  refine (mul_any ((arg_one w1 (x := 4294967295) (by omega)).below (below_alloc _ _)) (arg_two w1 _ (x := 4294967295) (by omega)) (by omega) (by omega)).mono ?_
  rintro e w2 ⟨v, rfl, hn, hb⟩
  have hb2 : Below w1.heap.size w1 w2 := below_trans (below_trans (below_alloc _ _) (below_alloc _ _)) hb
  obtain ⟨g', rfl, hg', hd0, hd1⟩ := made_two (hn.made (canon_two (x := 1) (y := 4294967294) (by omega) (by omega)) (by rw [val_two]; omega))
  have hbb := below_trans hb1 hb2
  have hc0' := (hb2.cell (p := ⟨g, 0, none⟩) hg).trans hc0
  have hc1' := (hb2.cell (p := ⟨g, 1, none⟩) hg).trans hc1
  clear hn hb hb1 hb2 hc0 hc1
  go_wp2
  go_ret
  exact ⟨rfl, hbb⟩

end Go.Proofs.YtlfkfeedopgfjabGreatDoor
