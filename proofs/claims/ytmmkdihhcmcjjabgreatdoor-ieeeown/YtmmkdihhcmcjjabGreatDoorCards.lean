/-
  DERIVED. GIVEN WITH THE SEED: THE CARDS: each row of YtmmkdihhcmcjjabGreatDoorRows.lean that lists a variable, with what it lists TIED to the program's text (the seventh form; the later family's looks); each row that meets fmt, with fmt's text TOLD by the authors' own Lean function (tested against real Go, not proved from fmt's source: count such statements apart). THE CARD IS WHAT COUNTS. Prove the row's statement (the work); the ties are given (YtmmkdihhcmcjjabGreatDoorTie.lean); close each card by the builder's one call (the guide's Derived/Test/ToyasCard.lean, 'card_holds'). Laid BY PROGRAM, IN A SANDBOX (cutbox-door.mjs). By AI agents, Wed Nov 11 2026. No macro, syntax, notation, axiom, sorry.
-/
import Derived.Test.YtmmkdihhcmcjjabGreatDoorRows
import GoSem.ClaimSeven
namespace Go.Proofs.YtmmkdihhcmcjjabGreatDoor
namespace Rows

/-- THE TIED CARD OF 'cruciblelaw04.IeeeOwn'. -/
def ieeeOwnCard : Claim7 := { stood := { row := ieeeOwnRow, standIns := [], harness := (true, "1f1ee913696b23135fb2458637fd4e92eb785abc446264d60b45eb3dfce64eac"), looks := false }, kinds := [], alts := [], laidByText := true, laidKinds := [.data, .data, .data, .data], laidTests := true, laidLooks := .later }
def IeeeOwnCardSaid : Prop := Claim7.holds Tryz.pinned (.plain (OpenSpec.ofChange ieeeOwnSpec)) ieeeOwnCard

/-- THE SECOND FORM's CARD OF 'cruciblelaw04.IeeeOwn'. -/
def ieeeOwnUptoCard : Claim7 := { stood := { row := ieeeOwnUptoRow, standIns := [], harness := (true, "1f1ee913696b23135fb2458637fd4e92eb785abc446264d60b45eb3dfce64eac"), looks := false }, kinds := [], alts := [], laidByText := true, laidKinds := [.data, .data, .data, .data], laidTests := true, laidLooks := .later }
def IeeeOwnUptoCardSaid : Prop := Claim7.holds Tryz.pinned (.plain (OpenSpec.upto ieeeOwnSpec)) ieeeOwnUptoCard
end Rows
end Go.Proofs.YtmmkdihhcmcjjabGreatDoor
