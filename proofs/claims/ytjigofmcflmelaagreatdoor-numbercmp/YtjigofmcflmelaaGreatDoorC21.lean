/- VFun -/
import Derived.Test.YtjigofmcflmelaaGreatDoorC14
import Derived.Test.YtjigofmcflmelaaGreatDoorC04
namespace Go.Proofs.YtjigofmcflmelaaGreatDoor
open Go.RowKit
set_option linter.unusedVariables false

/-- Compare of this value against any other answers by the order -/
def CmpOf (x : Va) : Prop := ∀ (w : World) (v v' : Value) (y : Va), Lays w → VaRd w v x → VaRd w v' y → vpts y ≤ 1048576 →
  Calls Tryz.prog 244 #[v, v'] w fun e w' => e = .returned (.int .i64 (vcmp x y)) ∧ Below w.heap.size w w'
theorem kpts_mem {x : Va} {xs : List Va} (h : x ∈ xs) : vpts x ≤ kpts xs := by
  induction xs with
  | nil => cases h
  | cons y l ih =>
    rw [kpts]
    rcases List.mem_cons.1 h with rfl | h
    · omega
    · have := ih h; omega
theorem kpts_len (xs : List Va) : xs.length ≤ kpts xs := by
  induction xs with
  | nil => simp [kpts]
  | cons y l ih => rw [kpts, List.length_cons, vpts_eq]; omega

/-- a box of eight cells -/
def Box8 (w : World) (b : Nat) (a0 a1 a2 a3 a4 a5 a6 a7 : Value) : Prop :=
  w.cell? ⟨b, 0, none⟩ = some a0 ∧ w.cell? ⟨b, 1, none⟩ = some a1 ∧ w.cell? ⟨b, 2, none⟩ = some a2 ∧ w.cell? ⟨b, 3, none⟩ = some a3 ∧ w.cell? ⟨b, 4, none⟩ = some a4 ∧ w.cell? ⟨b, 5, none⟩ = some a5 ∧ w.cell? ⟨b, 6, none⟩ = some a6 ∧ w.cell? ⟨b, 7, none⟩ = some a7
theorem box8_new (w : World) (a0 a1 a2 a3 a4 a5 a6 a7 : Value) (t : Nat) : Box8 (w.alloc (.cells #[a0, a1, a2, a3, a4, a5, a6, a7] t)) w.heap.size a0 a1 a2 a3 a4 a5 a6 a7 := by
  refine ⟨?_, ?_, ?_, ?_, ?_, ?_, ?_, ?_⟩ <;> (rw [World.cell?_alloc_at _ _ _ _ rfl]; rfl)
theorem Box8.below {w w' : World} {b : Nat} {a0 a1 a2 a3 a4 a5 a6 a7 : Value} (h : Box8 w b a0 a1 a2 a3 a4 a5 a6 a7) (hb : Below w.heap.size w w') (hl : b < w.heap.size) : Box8 w' b a0 a1 a2 a3 a4 a5 a6 a7 := by
  obtain ⟨h0, h1, h2, h3, h4, h5, h6, h7⟩ := h
  exact ⟨(hb.cell (p := ⟨b, _, none⟩) hl).trans h0, (hb.cell (p := ⟨b, _, none⟩) hl).trans h1, (hb.cell (p := ⟨b, _, none⟩) hl).trans h2, (hb.cell (p := ⟨b, _, none⟩) hl).trans h3, (hb.cell (p := ⟨b, _, none⟩) hl).trans h4, (hb.cell (p := ⟨b, _, none⟩) hl).trans h5, (hb.cell (p := ⟨b, _, none⟩) hl).trans h6, (hb.cell (p := ⟨b, _, none⟩) hl).trans h7⟩

end Go.Proofs.YtjigofmcflmelaaGreatDoor
