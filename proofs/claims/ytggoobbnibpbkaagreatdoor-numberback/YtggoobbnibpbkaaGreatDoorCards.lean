/-
  DERIVED. GIVEN WITH THE SEED: THE CARDS: each row of YtggoobbnibpbkaaGreatDoorRows.lean that lists a variable, with what it lists TIED to the program's text (the seventh form; the later family's looks); each row that meets fmt, with fmt's text TOLD by the authors' own Lean function (tested against real Go, not proved from fmt's source: count such statements apart). THE CARD IS WHAT COUNTS. Prove the row's statement (the work); the ties are given (YtggoobbnibpbkaaGreatDoorTie.lean); close each card by the builder's one call (the guide's Derived/Test/ToyasCard.lean, 'card_holds'). Laid BY PROGRAM, IN A SANDBOX (cutbox-door.mjs). By AI agents, Wed Nov 11 2026. No macro, syntax, notation, axiom, sorry.
-/
import Derived.Test.YtggoobbnibpbkaaGreatDoorRows
import GoSem.ClaimSeven
namespace Go.Proofs.YtggoobbnibpbkaaGreatDoor
namespace Rows

/-- THE TIED CARD OF 'cruciblelaw15.NumberOf'. -/
def numberOfCard : Claim7 := { stood := { row := numberOfRow, standIns := [], harness := (true, "e8dec10bddb24e8964595cadca1acf291e321119065b9d7cfda2923b8c12335c"), looks := true }, kinds := [], alts := [], laidByText := true, laidKinds := [.data, .data, .data, .sentinel, .sentinel, .data, .data], laidTests := true, laidLooks := .later }
def NumberOfCardSaid : Prop := Claim7.holds Tryz.pinned (.plain (OpenSpec.ofChange numberOfSpec)) numberOfCard

/-- THE TIED CARD OF 'cruciblelaw15.NumberBits'. -/
def numberBitsCard : Claim7 := { stood := { row := numberBitsRow, standIns := [], harness := (true, "e8dec10bddb24e8964595cadca1acf291e321119065b9d7cfda2923b8c12335c"), looks := true }, kinds := [], alts := [], laidByText := true, laidKinds := [.data, .data, .data, .sentinel, .sentinel, .data, .data], laidTests := true, laidLooks := .later }
def NumberBitsCardSaid : Prop := Claim7.holds Tryz.pinned (.plain (OpenSpec.ofChange numberBitsSpec)) numberBitsCard

/-- THE TIED CARD OF 'cruciblelaw15.NumberCmp'. -/
def numberCmpCard : Claim7 := { stood := { row := numberCmpRow, standIns := [], harness := (true, "e8dec10bddb24e8964595cadca1acf291e321119065b9d7cfda2923b8c12335c"), looks := true }, kinds := [], alts := [], laidByText := true, laidKinds := [.data, .data, .data, .sentinel, .sentinel, .data, .data], laidTests := true, laidLooks := .later }
def NumberCmpCardSaid : Prop := Claim7.holds Tryz.pinned (.plain (OpenSpec.ofChange numberCmpSpec)) numberCmpCard

/-- THE TIED CARD OF 'cruciblelaw15.NumberOwn'. -/
def numberOwnCard : Claim7 := { stood := { row := numberOwnRow, standIns := [], harness := (true, "e8dec10bddb24e8964595cadca1acf291e321119065b9d7cfda2923b8c12335c"), looks := true }, kinds := [], alts := [], laidByText := true, laidKinds := [.data, .data, .data, .sentinel, .sentinel, .data, .data], laidTests := true, laidLooks := .later }
def NumberOwnCardSaid : Prop := Claim7.holds Tryz.pinned (.plain (OpenSpec.ofChange numberOwnSpec)) numberOwnCard

/-- THE TIED CARD OF 'cruciblelaw15.NumberBack'. -/
def numberBackCard : Claim7 := { stood := { row := numberBackRow, standIns := [], harness := (true, "e8dec10bddb24e8964595cadca1acf291e321119065b9d7cfda2923b8c12335c"), looks := true }, kinds := [], alts := [], laidByText := true, laidKinds := [.data, .data, .data, .sentinel, .sentinel, .data, .data], laidTests := true, laidLooks := .later }
def NumberBackCardSaid : Prop := Claim7.holds Tryz.pinned (.plain (OpenSpec.ofChange numberBackSpec)) numberBackCard

/-- THE TIED CARD OF 'cruciblelaw15.NumberNarrow'. -/
def numberNarrowCard : Claim7 := { stood := { row := numberNarrowRow, standIns := [], harness := (true, "e8dec10bddb24e8964595cadca1acf291e321119065b9d7cfda2923b8c12335c"), looks := true }, kinds := [], alts := [], laidByText := true, laidKinds := [.data, .data, .data, .sentinel, .sentinel, .data, .data], laidTests := true, laidLooks := .later }
def NumberNarrowCardSaid : Prop := Claim7.holds Tryz.pinned (.plain (OpenSpec.ofChange numberNarrowSpec)) numberNarrowCard

/-- THE SECOND FORM's CARD OF 'cruciblelaw15.NumberOf'. -/
def numberOfUptoCard : Claim7 := { stood := { row := numberOfUptoRow, standIns := [], harness := (true, "e8dec10bddb24e8964595cadca1acf291e321119065b9d7cfda2923b8c12335c"), looks := true }, kinds := [], alts := [], laidByText := true, laidKinds := [.data, .data, .data, .sentinel, .sentinel, .data, .data], laidTests := true, laidLooks := .later }
def NumberOfUptoCardSaid : Prop := Claim7.holds Tryz.pinned (.plain (OpenSpec.upto numberOfSpec)) numberOfUptoCard

/-- THE SECOND FORM's CARD OF 'cruciblelaw15.NumberBits'. -/
def numberBitsUptoCard : Claim7 := { stood := { row := numberBitsUptoRow, standIns := [], harness := (true, "e8dec10bddb24e8964595cadca1acf291e321119065b9d7cfda2923b8c12335c"), looks := true }, kinds := [], alts := [], laidByText := true, laidKinds := [.data, .data, .data, .sentinel, .sentinel, .data, .data], laidTests := true, laidLooks := .later }
def NumberBitsUptoCardSaid : Prop := Claim7.holds Tryz.pinned (.plain (OpenSpec.upto numberBitsSpec)) numberBitsUptoCard

/-- THE SECOND FORM's CARD OF 'cruciblelaw15.NumberCmp'. -/
def numberCmpUptoCard : Claim7 := { stood := { row := numberCmpUptoRow, standIns := [], harness := (true, "e8dec10bddb24e8964595cadca1acf291e321119065b9d7cfda2923b8c12335c"), looks := true }, kinds := [], alts := [], laidByText := true, laidKinds := [.data, .data, .data, .sentinel, .sentinel, .data, .data], laidTests := true, laidLooks := .later }
def NumberCmpUptoCardSaid : Prop := Claim7.holds Tryz.pinned (.plain (OpenSpec.upto numberCmpSpec)) numberCmpUptoCard

/-- THE SECOND FORM's CARD OF 'cruciblelaw15.NumberOwn'. -/
def numberOwnUptoCard : Claim7 := { stood := { row := numberOwnUptoRow, standIns := [], harness := (true, "e8dec10bddb24e8964595cadca1acf291e321119065b9d7cfda2923b8c12335c"), looks := true }, kinds := [], alts := [], laidByText := true, laidKinds := [.data, .data, .data, .sentinel, .sentinel, .data, .data], laidTests := true, laidLooks := .later }
def NumberOwnUptoCardSaid : Prop := Claim7.holds Tryz.pinned (.plain (OpenSpec.upto numberOwnSpec)) numberOwnUptoCard

/-- THE SECOND FORM's CARD OF 'cruciblelaw15.NumberBack'. -/
def numberBackUptoCard : Claim7 := { stood := { row := numberBackUptoRow, standIns := [], harness := (true, "e8dec10bddb24e8964595cadca1acf291e321119065b9d7cfda2923b8c12335c"), looks := true }, kinds := [], alts := [], laidByText := true, laidKinds := [.data, .data, .data, .sentinel, .sentinel, .data, .data], laidTests := true, laidLooks := .later }
def NumberBackUptoCardSaid : Prop := Claim7.holds Tryz.pinned (.plain (OpenSpec.upto numberBackSpec)) numberBackUptoCard

/-- THE SECOND FORM's CARD OF 'cruciblelaw15.NumberNarrow'. -/
def numberNarrowUptoCard : Claim7 := { stood := { row := numberNarrowUptoRow, standIns := [], harness := (true, "e8dec10bddb24e8964595cadca1acf291e321119065b9d7cfda2923b8c12335c"), looks := true }, kinds := [], alts := [], laidByText := true, laidKinds := [.data, .data, .data, .sentinel, .sentinel, .data, .data], laidTests := true, laidLooks := .later }
def NumberNarrowUptoCardSaid : Prop := Claim7.holds Tryz.pinned (.plain (OpenSpec.upto numberNarrowSpec)) numberNarrowUptoCard
end Rows
end Go.Proofs.YtggoobbnibpbkaaGreatDoor
