/-
  DERIVED. GIVEN WITH THE SEED: THE CARDS: each row of YtjigofmcflmelaaGreatDoorRows.lean that lists a variable, with what it lists TIED to the program's text (the seventh form; the later family's looks); each row that meets fmt, with fmt's text TOLD by the authors' own Lean function (tested against real Go, not proved from fmt's source: count such statements apart). THE CARD IS WHAT COUNTS. Prove the row's statement (the work); the ties are given (YtjigofmcflmelaaGreatDoorTie.lean); close each card by the builder's one call (the guide's Derived/Test/ToyasCard.lean, 'card_holds'). Laid BY PROGRAM, IN A SANDBOX (cutbox-door.mjs). By AI agents, Wed Nov 11 2026. No macro, syntax, notation, axiom, sorry.
-/
import Derived.Test.YtjigofmcflmelaaGreatDoorRows
import GoSem.ClaimSeven
namespace Go.Proofs.YtjigofmcflmelaaGreatDoor
namespace Rows

/-- THE TIED CARD OF 'cruciblelaw15.NumberBits'. -/
def numberBitsCard : Claim7 := { stood := { row := numberBitsRow, standIns := [], harness := (true, "49becf87ade49b6af519c0d748dd67a94075520159945772dbb88c703c1c80f0"), looks := true }, kinds := [], alts := [], laidByText := true, laidKinds := [.data, .data, .data, .sentinel, .sentinel, .data, .data], laidTests := true, laidLooks := .later }
def NumberBitsCardSaid : Prop := Claim7.holds Tryz.pinned (.plain (OpenSpec.ofChange numberBitsSpec)) numberBitsCard

/-- THE TIED CARD OF 'cruciblelaw15.NumberCmp'. -/
def numberCmpCard : Claim7 := { stood := { row := numberCmpRow, standIns := [], harness := (true, "49becf87ade49b6af519c0d748dd67a94075520159945772dbb88c703c1c80f0"), looks := true }, kinds := [], alts := [], laidByText := true, laidKinds := [.data, .data, .data, .sentinel, .sentinel, .data, .data], laidTests := true, laidLooks := .later }
def NumberCmpCardSaid : Prop := Claim7.holds Tryz.pinned (.plain (OpenSpec.ofChange numberCmpSpec)) numberCmpCard

/-- THE TIED CARD OF 'cruciblelaw15.NumberOwn'. -/
def numberOwnCard : Claim7 := { stood := { row := numberOwnRow, standIns := [], harness := (true, "49becf87ade49b6af519c0d748dd67a94075520159945772dbb88c703c1c80f0"), looks := true }, kinds := [], alts := [], laidByText := true, laidKinds := [.data, .data, .data, .sentinel, .sentinel, .data, .data], laidTests := true, laidLooks := .later }
def NumberOwnCardSaid : Prop := Claim7.holds Tryz.pinned (.plain (OpenSpec.ofChange numberOwnSpec)) numberOwnCard

/-- THE SECOND FORM's CARD OF 'cruciblelaw15.NumberBits'. -/
def numberBitsUptoCard : Claim7 := { stood := { row := numberBitsUptoRow, standIns := [], harness := (true, "49becf87ade49b6af519c0d748dd67a94075520159945772dbb88c703c1c80f0"), looks := true }, kinds := [], alts := [], laidByText := true, laidKinds := [.data, .data, .data, .sentinel, .sentinel, .data, .data], laidTests := true, laidLooks := .later }
def NumberBitsUptoCardSaid : Prop := Claim7.holds Tryz.pinned (.plain (OpenSpec.upto numberBitsSpec)) numberBitsUptoCard

/-- THE SECOND FORM's CARD OF 'cruciblelaw15.NumberCmp'. -/
def numberCmpUptoCard : Claim7 := { stood := { row := numberCmpUptoRow, standIns := [], harness := (true, "49becf87ade49b6af519c0d748dd67a94075520159945772dbb88c703c1c80f0"), looks := true }, kinds := [], alts := [], laidByText := true, laidKinds := [.data, .data, .data, .sentinel, .sentinel, .data, .data], laidTests := true, laidLooks := .later }
def NumberCmpUptoCardSaid : Prop := Claim7.holds Tryz.pinned (.plain (OpenSpec.upto numberCmpSpec)) numberCmpUptoCard

/-- THE SECOND FORM's CARD OF 'cruciblelaw15.NumberOwn'. -/
def numberOwnUptoCard : Claim7 := { stood := { row := numberOwnUptoRow, standIns := [], harness := (true, "49becf87ade49b6af519c0d748dd67a94075520159945772dbb88c703c1c80f0"), looks := true }, kinds := [], alts := [], laidByText := true, laidKinds := [.data, .data, .data, .sentinel, .sentinel, .data, .data], laidTests := true, laidLooks := .later }
def NumberOwnUptoCardSaid : Prop := Claim7.holds Tryz.pinned (.plain (OpenSpec.upto numberOwnSpec)) numberOwnUptoCard
end Rows
end Go.Proofs.YtjigofmcflmelaaGreatDoor
