/-
  DERIVED. GIVEN WITH THE SEED: THE CARDS: each row of YtbjohagiiidpjabDoorRows.lean that lists a variable, with what it lists TIED to the program's text (the seventh form; the later family's looks); each row that meets fmt, with fmt's text TOLD by the authors' own Lean function (tested against real Go, not proved from fmt's source: count such statements apart). THE CARD IS WHAT COUNTS. Prove the row's statement (the work); the ties are given (YtbjohagiiidpjabDoorTie.lean); close each card by the builder's one call (the guide's Derived/Test/ToyasCard.lean, 'card_holds'). Laid BY PROGRAM, IN A SANDBOX (cutbox-door.mjs). By AI agents, Wed Nov 11 2026. No macro, syntax, notation, axiom, sorry.
-/
import Derived.Test.YtbjohagiiidpjabDoorRows
import GoSem.ClaimSeven
namespace Go.Proofs.YtbjohagiiidpjabDoor
namespace Rows

/-- THE TIED CARD OF 'cruciblelaw03.WholeRing'. -/
def wholeRingCard : Claim7 := { stood := { row := wholeRingRow, standIns := [], harness := (true, "582967807a33dd973419e66f8efcaf52c2c8efa487a011bf69e1d5bb87f9cf80"), looks := false }, kinds := [], alts := [], laidByText := true, laidKinds := [.data, .pinned], laidTests := true, laidLooks := .later }
def WholeRingCardSaid : Prop := Claim7.holds Tryd.pinned (.plain (OpenSpec.ofChange wholeRingSpec)) wholeRingCard

/-- THE TIED CARD OF 'cruciblelaw03.WholeOrder'. -/
def wholeOrderCard : Claim7 := { stood := { row := wholeOrderRow, standIns := [], harness := (true, "582967807a33dd973419e66f8efcaf52c2c8efa487a011bf69e1d5bb87f9cf80"), looks := false }, kinds := [], alts := [], laidByText := true, laidKinds := [.data, .pinned], laidTests := true, laidLooks := .later }
def WholeOrderCardSaid : Prop := Claim7.holds Tryd.pinned (.plain (OpenSpec.ofChange wholeOrderSpec)) wholeOrderCard

/-- THE TIED CARD OF 'cruciblelaw03.WholeLeft'. -/
def wholeLeftCard : Claim7 := { stood := { row := wholeLeftRow, standIns := [], harness := (true, "582967807a33dd973419e66f8efcaf52c2c8efa487a011bf69e1d5bb87f9cf80"), looks := false }, kinds := [], alts := [], laidByText := true, laidKinds := [.data, .pinned], laidTests := true, laidLooks := .later }
def WholeLeftCardSaid : Prop := Claim7.holds Tryd.pinned (.plain (OpenSpec.ofChange wholeLeftSpec)) wholeLeftCard

/-- THE TIED CARD OF 'cruciblelaw03.WholeBack'. -/
def wholeBackCard : Claim7 := { stood := { row := wholeBackRow, standIns := [], harness := (true, "582967807a33dd973419e66f8efcaf52c2c8efa487a011bf69e1d5bb87f9cf80"), looks := false }, kinds := [], alts := [], laidByText := true, laidKinds := [.data, .pinned], laidTests := true, laidLooks := .later }
def WholeBackCardSaid : Prop := Claim7.holds Tryd.pinned (.plain (OpenSpec.ofChange wholeBackSpec)) wholeBackCard

/-- THE TIED CARD OF 'cruciblelaw03.WholeBytes'. -/
def wholeBytesCard : Claim7 := { stood := { row := wholeBytesRow, standIns := [], harness := (true, "582967807a33dd973419e66f8efcaf52c2c8efa487a011bf69e1d5bb87f9cf80"), looks := false }, kinds := [], alts := [], laidByText := true, laidKinds := [.data, .pinned], laidTests := true, laidLooks := .later }
def WholeBytesCardSaid : Prop := Claim7.holds Tryd.pinned (.plain (OpenSpec.ofChange wholeBytesSpec)) wholeBytesCard

/-- THE TIED CARD OF 'cruciblelaw03.WholeLoose'. -/
def wholeLooseCard : Claim7 := { stood := { row := wholeLooseRow, standIns := [], harness := (true, "582967807a33dd973419e66f8efcaf52c2c8efa487a011bf69e1d5bb87f9cf80"), looks := false }, kinds := [], alts := [], laidByText := true, laidKinds := [.data, .pinned], laidTests := true, laidLooks := .later }
def WholeLooseCardSaid : Prop := Claim7.holds Tryd.pinned (.plain (OpenSpec.ofChange wholeLooseSpec)) wholeLooseCard

/-- THE SECOND FORM's CARD OF 'cruciblelaw03.WholeRing'. -/
def wholeRingUptoCard : Claim7 := { stood := { row := wholeRingUptoRow, standIns := [], harness := (true, "582967807a33dd973419e66f8efcaf52c2c8efa487a011bf69e1d5bb87f9cf80"), looks := false }, kinds := [], alts := [], laidByText := true, laidKinds := [.data, .pinned], laidTests := true, laidLooks := .later }
def WholeRingUptoCardSaid : Prop := Claim7.holds Tryd.pinned (.plain (OpenSpec.upto wholeRingSpec)) wholeRingUptoCard

/-- THE SECOND FORM's CARD OF 'cruciblelaw03.WholeOrder'. -/
def wholeOrderUptoCard : Claim7 := { stood := { row := wholeOrderUptoRow, standIns := [], harness := (true, "582967807a33dd973419e66f8efcaf52c2c8efa487a011bf69e1d5bb87f9cf80"), looks := false }, kinds := [], alts := [], laidByText := true, laidKinds := [.data, .pinned], laidTests := true, laidLooks := .later }
def WholeOrderUptoCardSaid : Prop := Claim7.holds Tryd.pinned (.plain (OpenSpec.upto wholeOrderSpec)) wholeOrderUptoCard

/-- THE SECOND FORM's CARD OF 'cruciblelaw03.WholeLeft'. -/
def wholeLeftUptoCard : Claim7 := { stood := { row := wholeLeftUptoRow, standIns := [], harness := (true, "582967807a33dd973419e66f8efcaf52c2c8efa487a011bf69e1d5bb87f9cf80"), looks := false }, kinds := [], alts := [], laidByText := true, laidKinds := [.data, .pinned], laidTests := true, laidLooks := .later }
def WholeLeftUptoCardSaid : Prop := Claim7.holds Tryd.pinned (.plain (OpenSpec.upto wholeLeftSpec)) wholeLeftUptoCard

/-- THE SECOND FORM's CARD OF 'cruciblelaw03.WholeBack'. -/
def wholeBackUptoCard : Claim7 := { stood := { row := wholeBackUptoRow, standIns := [], harness := (true, "582967807a33dd973419e66f8efcaf52c2c8efa487a011bf69e1d5bb87f9cf80"), looks := false }, kinds := [], alts := [], laidByText := true, laidKinds := [.data, .pinned], laidTests := true, laidLooks := .later }
def WholeBackUptoCardSaid : Prop := Claim7.holds Tryd.pinned (.plain (OpenSpec.upto wholeBackSpec)) wholeBackUptoCard

/-- THE SECOND FORM's CARD OF 'cruciblelaw03.WholeBytes'. -/
def wholeBytesUptoCard : Claim7 := { stood := { row := wholeBytesUptoRow, standIns := [], harness := (true, "582967807a33dd973419e66f8efcaf52c2c8efa487a011bf69e1d5bb87f9cf80"), looks := false }, kinds := [], alts := [], laidByText := true, laidKinds := [.data, .pinned], laidTests := true, laidLooks := .later }
def WholeBytesUptoCardSaid : Prop := Claim7.holds Tryd.pinned (.plain (OpenSpec.upto wholeBytesSpec)) wholeBytesUptoCard

/-- THE SECOND FORM's CARD OF 'cruciblelaw03.WholeLoose'. -/
def wholeLooseUptoCard : Claim7 := { stood := { row := wholeLooseUptoRow, standIns := [], harness := (true, "582967807a33dd973419e66f8efcaf52c2c8efa487a011bf69e1d5bb87f9cf80"), looks := false }, kinds := [], alts := [], laidByText := true, laidKinds := [.data, .pinned], laidTests := true, laidLooks := .later }
def WholeLooseUptoCardSaid : Prop := Claim7.holds Tryd.pinned (.plain (OpenSpec.upto wholeLooseSpec)) wholeLooseUptoCard
end Rows
end Go.Proofs.YtbjohagiiidpjabDoor
