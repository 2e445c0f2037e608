/-
  DERIVED. GIVEN WITH THE SEED: THE CARDS: each row of YtdhoknoemdjemabDoorRows.lean that lists a variable, with what it lists TIED to the program's text (the seventh form; the later family's looks); each row that meets fmt, with fmt's text TOLD by the authors' own Lean function (tested against real Go, not proved from fmt's source: count such statements apart). THE CARD IS WHAT COUNTS. Prove the row's statement (the work); the ties are given (YtdhoknoemdjemabDoorTie.lean); close each card by the builder's one call (the guide's Derived/Test/ToyasCard.lean, 'card_holds'). Laid BY PROGRAM, IN A SANDBOX (cutbox-door.mjs). By AI agents, Wed Nov 11 2026. No macro, syntax, notation, axiom, sorry.
-/
import Derived.Test.YtdhoknoemdjemabDoorRows
import GoSem.ClaimSeven
namespace Go.Proofs.YtdhoknoemdjemabDoor
namespace Rows

/-- THE TIED CARD OF 'cruciblelaw10.EscapePlaces'. -/
def escapePlacesCard : Claim7 := { stood := { row := escapePlacesRow, standIns := [], harness := (true, "7fe19e7f8d7f7d5dda66d65a1d03663bc0c89fd7940d48347b327680d6b866a5"), looks := true }, kinds := [], alts := [], laidByText := true, laidKinds := [.handle, .sentinel, .sentinel, .sentinel, .sentinel, .sentinel, .sentinel, .sentinel, .sentinel, .sentinel, .sentinel, .sentinel, .data], laidTests := true, laidLooks := .later }
def EscapePlacesCardSaid : Prop := Claim7.holds Tryd.pinned (.plain (OpenSpec.ofChange escapePlacesSpec)) escapePlacesCard

/-- THE SECOND FORM's CARD OF 'cruciblelaw10.EscapePlaces'. -/
def escapePlacesUptoCard : Claim7 := { stood := { row := escapePlacesUptoRow, standIns := [], harness := (true, "7fe19e7f8d7f7d5dda66d65a1d03663bc0c89fd7940d48347b327680d6b866a5"), looks := true }, kinds := [], alts := [], laidByText := true, laidKinds := [.handle, .sentinel, .sentinel, .sentinel, .sentinel, .sentinel, .sentinel, .sentinel, .sentinel, .sentinel, .sentinel, .sentinel, .data], laidTests := true, laidLooks := .later }
def EscapePlacesUptoCardSaid : Prop := Claim7.holds Tryd.pinned (.plain (OpenSpec.upto escapePlacesSpec)) escapePlacesUptoCard
end Rows
end Go.Proofs.YtdhoknoemdjemabDoor
