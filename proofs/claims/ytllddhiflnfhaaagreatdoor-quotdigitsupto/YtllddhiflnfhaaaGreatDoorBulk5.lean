/- the second form's bound, and a world in which the five tables lie -/
import Derived.Test.YtllddhiflnfhaaaGreatDoorOpen
import Derived.Test.YtllddhiflnfhaaaGreatDoorTie
import Derived.Test.YtllddhiflnfhaaaGreatDoorCards
import Derived.SevenTiedAt
import Derived.Deep.DeepHandedRow
import Derived.Lib.LaidTab
namespace Go.Proofs.YtllddhiflnfhaaaGreatDoor
open Go.ChangeShapes Go.WideShapes Go.ChangeAt Go.RowKit

theorem bulk_one {H : Type} (d : DataW H) : 1 ≤ Rows.uptoBulk d := by
  cases d with
  | lit l => cases l <;> simp [Rows.uptoBulk]
  | _ => simp [Rows.uptoBulk]
theorem bulk_many {H : Type} (l : List (DataW H)) : l.length ≤ Rows.uptoBulkAll l := by
  induction l with
  | nil => simp
  | cons x r ih =>
    have h1 := bulk_one x
    have h2 : Rows.uptoBulkAll (x :: r) = Rows.uptoBulk x + Rows.uptoBulkAll r := by simp only [Rows.uptoBulkAll]
    rw [h2, List.length_cons]
    omega
theorem bulk_slice {H : Type} {e s : List (DataW H)} {d : DataW H} {n : Nat} (hd : d = .slice e s) (h : Rows.uptoBulk d ≤ n) : e.length ≤ n := by
  have h1 := bulk_many e
  rw [hd] at h
  have h2 : Rows.uptoBulk (.slice e s) = Rows.uptoBulkAll e + Rows.uptoBulkAll s + 1 := by simp only [Rows.uptoBulk]
  rw [h2] at h
  omega
theorem lits_length (k : IntKind) (zs : List Int) {H : Type} : (lits (H := H) k zs).length = zs.length := by simp [lits]

def putCells (cs : Array Value) : Obj → Obj
  | .cells _ t frozen => .cells cs t frozen
  | o => o
def litOf : DataW Unit → Value
  | .lit (.int k n) => .int k n
  | _ => .int .u8 0
/-- the cells of a table that a row lists: numbers, or structs of numbers -/
def cellsOf : DataW Unit → Array Value
  | .agg ds => (ds.flatMap fun
    | .agg es => es.map litOf
    | d => [litOf d]).toArray
  | _ => #[]
/-- the settled world, the five tables holding what their texts lay -/
noncomputable def tabledWorld (os : Os) : World :=
  { World.holding Tryz.prog os ⟨#[], #[], []⟩ with heap := (((((World.holding Tryz.prog os ⟨#[], #[], []⟩).heap.modify 1 (putCells (cellsOf Rows.laid_unicode_utf8_first))).modify 2 (putCells (cellsOf Rows.laid_unicode_utf8_acceptRanges))).modify 5 (putCells (cellsOf Rows.laid_math_bits_deBruijn32tab))).modify 6 (putCells (cellsOf Rows.laid_math_bits_deBruijn64tab))).modify 4 (putCells (cellsOf Rows.laid_internal_strconv_uint64pow10)) }

end Go.Proofs.YtllddhiflnfhaaaGreatDoor
