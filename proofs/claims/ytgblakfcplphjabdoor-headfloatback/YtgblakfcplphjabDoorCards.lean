/-
  DERIVED. GIVEN WITH THE SEED: THE CARDS: each row of YtgblakfcplphjabDoorRows.lean that lists a variable, with what it lists TIED to the program's text (the seventh form; the later family's looks); each row that meets fmt, with fmt's text TOLD by the authors' own Lean function (tested against real Go, not proved from fmt's source: count such statements apart). THE CARD IS WHAT COUNTS. Prove the row's statement (the work); the ties are given (YtgblakfcplphjabDoorTie.lean); close each card by the builder's one call (the guide's Derived/Test/ToyasCard.lean, 'card_holds'). Laid BY PROGRAM, IN A SANDBOX (cutbox-door.mjs). By AI agents, Wed Nov 11 2026. No macro, syntax, notation, axiom, sorry.
-/
import Derived.Test.YtgblakfcplphjabDoorRows
import GoSem.ClaimSeven
namespace Go.Proofs.YtgblakfcplphjabDoor
namespace Rows

/-- THE TIED CARD OF 'cruciblelaw19.HeadFloatBack'. -/
def headFloatBackCard : Claim7 := { stood := { row := headFloatBackRow, standIns := [], harness := (true, "85fb363aeb9fe078d19c94837e88bf9d96256525e9c174eb74cdcbe0825925f3"), looks := true }, kinds := [], alts := [], laidByText := true, laidKinds := [.handle, .sentinel, .sentinel, .sentinel, .sentinel, .sentinel, .sentinel, .sentinel, .sentinel, .sentinel, .sentinel, .sentinel, .data], laidTests := true, laidLooks := .later }
def HeadFloatBackCardSaid : Prop := Claim7.holds Tryd.pinned (.plain (OpenSpec.ofChange headFloatBackSpec)) headFloatBackCard

/-- THE SECOND FORM's CARD OF 'cruciblelaw19.HeadFloatBack'. -/
def headFloatBackUptoCard : Claim7 := { stood := { row := headFloatBackUptoRow, standIns := [], harness := (true, "85fb363aeb9fe078d19c94837e88bf9d96256525e9c174eb74cdcbe0825925f3"), looks := true }, kinds := [], alts := [], laidByText := true, laidKinds := [.handle, .sentinel, .sentinel, .sentinel, .sentinel, .sentinel, .sentinel, .sentinel, .sentinel, .sentinel, .sentinel, .sentinel, .data], laidTests := true, laidLooks := .later }
def HeadFloatBackUptoCardSaid : Prop := Claim7.holds Tryd.pinned (.plain (OpenSpec.upto headFloatBackSpec)) headFloatBackUptoCard
end Rows
end Go.Proofs.YtgblakfcplphjabDoor
