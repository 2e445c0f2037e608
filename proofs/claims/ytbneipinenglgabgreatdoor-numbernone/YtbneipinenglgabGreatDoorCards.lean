/-
  DERIVED. GIVEN WITH THE SEED: THE CARDS: each row of YtbneipinenglgabGreatDoorRows.lean that lists a variable, with what it lists TIED to the program's text (the seventh form; the later family's looks); each row that meets fmt, with fmt's text TOLD by the authors' own Lean function (tested against real Go, not proved from fmt's source: count such statements apart). THE CARD IS WHAT COUNTS. Prove the row's statement (the work); the ties are given (YtbneipinenglgabGreatDoorTie.lean); close each card by the builder's one call (the guide's Derived/Test/ToyasCard.lean, 'card_holds'). Laid BY PROGRAM, IN A SANDBOX (cutbox-door.mjs). By AI agents, Wed Nov 11 2026. No macro, syntax, notation, axiom, sorry.
-/
import Derived.Test.YtbneipinenglgabGreatDoorRows
import GoSem.ClaimSeven
namespace Go.Proofs.YtbneipinenglgabGreatDoor
namespace Rows

/-- THE TIED CARD OF 'cruciblelaw15.NumberOne'. -/
def numberOneCard : Claim7 := { stood := { row := numberOneRow, standIns := [], harness := (true, "1ee7e71f992124e4639fe60afef776d80fa1dca0e1615fde5289e0bcc09b456d"), looks := true }, kinds := [], alts := [], laidByText := true, laidKinds := [.data, .data, .data, .sentinel, .sentinel, .data, .data], laidTests := true, laidLooks := .later }
def NumberOneCardSaid : Prop := Claim7.holds Tryz.pinned (.plain (OpenSpec.ofChange numberOneSpec)) numberOneCard

/-- THE TIED CARD OF 'cruciblelaw15.NumberOrder'. -/
def numberOrderCard : Claim7 := { stood := { row := numberOrderRow, standIns := [], harness := (true, "1ee7e71f992124e4639fe60afef776d80fa1dca0e1615fde5289e0bcc09b456d"), looks := true }, kinds := [], alts := [], laidByText := true, laidKinds := [.data, .data, .data, .sentinel, .sentinel, .data, .data], laidTests := true, laidLooks := .later }
def NumberOrderCardSaid : Prop := Claim7.holds Tryz.pinned (.plain (OpenSpec.ofChange numberOrderSpec)) numberOrderCard

/-- THE TIED CARD OF 'cruciblelaw15.NumberNone'. -/
def numberNoneCard : Claim7 := { stood := { row := numberNoneRow, standIns := [], harness := (true, "1ee7e71f992124e4639fe60afef776d80fa1dca0e1615fde5289e0bcc09b456d"), looks := true }, kinds := [], alts := [], laidByText := true, laidKinds := [.data, .data, .data, .sentinel, .sentinel, .data, .data], laidTests := true, laidLooks := .later }
def NumberNoneCardSaid : Prop := Claim7.holds Tryz.pinned (.plain (OpenSpec.ofChange numberNoneSpec)) numberNoneCard

/-- THE TIED CARD OF 'crucibletop.TopWidths'. -/
def topWidthsCard : Claim7 := { stood := { row := topWidthsRow, standIns := [], harness := (true, "1ee7e71f992124e4639fe60afef776d80fa1dca0e1615fde5289e0bcc09b456d"), looks := true }, kinds := [], alts := [], laidByText := true, laidKinds := [.data, .data, .data, .sentinel, .sentinel, .data, .data], laidTests := true, laidLooks := .later }
def TopWidthsCardSaid : Prop := Claim7.holds Tryz.pinned (.plain (OpenSpec.ofChange topWidthsSpec)) topWidthsCard

/-- THE SECOND FORM's CARD OF 'cruciblelaw15.NumberOne'. -/
def numberOneUptoCard : Claim7 := { stood := { row := numberOneUptoRow, standIns := [], harness := (true, "1ee7e71f992124e4639fe60afef776d80fa1dca0e1615fde5289e0bcc09b456d"), looks := true }, kinds := [], alts := [], laidByText := true, laidKinds := [.data, .data, .data, .sentinel, .sentinel, .data, .data], laidTests := true, laidLooks := .later }
def NumberOneUptoCardSaid : Prop := Claim7.holds Tryz.pinned (.plain (OpenSpec.upto numberOneSpec)) numberOneUptoCard

/-- THE SECOND FORM's CARD OF 'cruciblelaw15.NumberOrder'. -/
def numberOrderUptoCard : Claim7 := { stood := { row := numberOrderUptoRow, standIns := [], harness := (true, "1ee7e71f992124e4639fe60afef776d80fa1dca0e1615fde5289e0bcc09b456d"), looks := true }, kinds := [], alts := [], laidByText := true, laidKinds := [.data, .data, .data, .sentinel, .sentinel, .data, .data], laidTests := true, laidLooks := .later }
def NumberOrderUptoCardSaid : Prop := Claim7.holds Tryz.pinned (.plain (OpenSpec.upto numberOrderSpec)) numberOrderUptoCard

/-- THE SECOND FORM's CARD OF 'cruciblelaw15.NumberNone'. -/
def numberNoneUptoCard : Claim7 := { stood := { row := numberNoneUptoRow, standIns := [], harness := (true, "1ee7e71f992124e4639fe60afef776d80fa1dca0e1615fde5289e0bcc09b456d"), looks := true }, kinds := [], alts := [], laidByText := true, laidKinds := [.data, .data, .data, .sentinel, .sentinel, .data, .data], laidTests := true, laidLooks := .later }
def NumberNoneUptoCardSaid : Prop := Claim7.holds Tryz.pinned (.plain (OpenSpec.upto numberNoneSpec)) numberNoneUptoCard

/-- THE SECOND FORM's CARD OF 'crucibletop.TopWidths'. -/
def topWidthsUptoCard : Claim7 := { stood := { row := topWidthsUptoRow, standIns := [], harness := (true, "1ee7e71f992124e4639fe60afef776d80fa1dca0e1615fde5289e0bcc09b456d"), looks := true }, kinds := [], alts := [], laidByText := true, laidKinds := [.data, .data, .data, .sentinel, .sentinel, .data, .data], laidTests := true, laidLooks := .later }
def TopWidthsUptoCardSaid : Prop := Claim7.holds Tryz.pinned (.plain (OpenSpec.upto topWidthsSpec)) topWidthsUptoCard
end Rows
end Go.Proofs.YtbneipinenglgabGreatDoor
