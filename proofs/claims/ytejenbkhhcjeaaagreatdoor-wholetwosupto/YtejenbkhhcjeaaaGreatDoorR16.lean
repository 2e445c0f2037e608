/- Bulk -/
import Derived.Test.YtejenbkhhcjeaaaGreatDoorR15
import Derived.Test.YtejenbkhhcjeaaaGreatDoorTie
import Derived.Test.YtejenbkhhcjeaaaGreatDoorCards
import Derived.SevenTiedAt
import Derived.Deep.DeepHandedRow
import Derived.Lib.LaidTab
namespace Go.Proofs.YtejenbkhhcjeaaaGreatDoor
open Go.ChangeShapes Go.WideShapes Go.ChangeAt Go.RowKit

theorem bulk_one {H : Type} (d : DataW H) : 1 ≤ Rows.uptoBulk d := by
  cases d with
  | lit l => cases l <;> simp [Rows.uptoBulk]
  | _ => simp [Rows.uptoBulk]
theorem bulk_many {H : Type} (l : List (DataW H)) : l.length ≤ Rows.uptoBulkAll l := by
  induction l with
  | nil => simp
  | cons x r ih =>
    have h1 := bulk_one x
    have h2 : Rows.uptoBulkAll (x :: r) = Rows.uptoBulk x + Rows.uptoBulkAll r := by simp only [Rows.uptoBulkAll]
    rw [h2, List.length_cons]
    omega
theorem bulk_slice {H : Type} {e s : List (DataW H)} {d : DataW H} {n : Nat} (hd : d = .slice e s) (h : Rows.uptoBulk d ≤ n) : e.length ≤ n := by
  have h1 := bulk_many e
  rw [hd] at h
  have h2 : Rows.uptoBulk (.slice e s) = Rows.uptoBulkAll e + Rows.uptoBulkAll s + 1 := by simp only [Rows.uptoBulk]
  rw [h2] at h
  omega
theorem lits_length (k : IntKind) (zs : List Int) {H : Type} : (lits (H := H) k zs).length = zs.length := by simp [lits]

def putCells (cs : Array Value) : Obj → Obj
  | .cells _ t frozen => .cells cs t frozen
  | o => o
/-- the settled world, the two tables of utf8 holding what their texts lay -/
noncomputable def tabledWorld (os : Os) : World :=
  { World.holding Tryz.prog os ⟨#[], #[], []⟩ with heap := ((World.holding Tryz.prog os ⟨#[], #[], []⟩).heap.modify 1 (putCells (Go.Pinned.utf8FirstZ.map fun (n : Nat) => Value.int .u8 (n : Int)).toArray)).modify 2 (putCells (([128, 191, 160, 191, 128, 159, 144, 191, 128, 143] ++ List.replicate 22 (0 : Int)).map (Value.int .u8)).toArray) }

end Go.Proofs.YtejenbkhhcjeaaaGreatDoor
