/- nat.Norm, nat.From -/
import Derived.Test.YtmmkdihhcmcjjabDoorTrim
import Derived.Laws.CopyOwn
namespace Go.Proofs.YtmmkdihhcmcjjabDoor
open Go.RowKit

theorem splice_all {α : Type} (L cs : List α) (h : L.length = cs.length) : splice L 0 cs = cs := by
  simp [splice, ← h]

/-- a list that was built of two numbers -/
theorem row_two (w : World) (x y : Int) : Row .u32 38 (w.alloc (.cells #[.int .u32 x, .int .u32 y] 38)) w.heap.size [x, y] := by
  unfold Row
  rw [heap_alloc_new]
  rfl

set_option maxHeartbeats 1000000 in
theorem from_any {w : World} (x : Int) (h0 : 0 ≤ x) (h1 : x < 18446744073709551616) :
    Calls Tryd.prog 8 #[.int .u64 x] w fun e w' => ∃ v, e = .returned v ∧ Num w.heap.size w' v x 2 ∧ Below w.heap.size w w' := by
  go_enter Tryd.func8, Tryd.ntmps8
  go_wp2_with fail
  refine (trim_row (B := w.heap.size) (cap := 2) (row_two w (x % 4294967296) (x / 4294967296)) (Nat.le_refl _) (Nat.le_refl _) (by unfold maxLen; omega) ?_).mono ?_
  · intro i
    match i with
    | 0 => simp only [Nt.lb, List.getD_cons_zero]; omega
    | 1 => simp only [Nt.lb, List.getD_cons_succ, List.getD_cons_zero]; omega
    | i + 2 => simp [Nt.lb]
  rintro e w3 ⟨rfl, v, rfl, hnum⟩
  have hv : Nt.val [x % 4294967296, x / 4294967296] = x := by
    show Nt.vt _ 2 = x
    simp only [Nt.vt, Nt.pw, Nt.lb, List.getD_cons_zero, List.getD_cons_succ]
    omega
  have Hn : Hid _ := hnum
  have Hv : Hid _ := hv
  clear hnum hv
  go_wp2
  go_ret
  have hnum := Hn.out
  rw [Hv.out] at hnum
  exact ⟨_, rfl, hnum, (Below.refl _ _).alloc (Nat.le_refl _) _⟩

end Go.Proofs.YtmmkdihhcmcjjabDoor
