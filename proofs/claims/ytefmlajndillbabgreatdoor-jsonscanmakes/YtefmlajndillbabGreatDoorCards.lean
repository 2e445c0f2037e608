/-
  DERIVED. GIVEN WITH THE SEED: THE CARDS: each row of YtefmlajndillbabGreatDoorRows.lean that lists a variable, with what it lists TIED to the program's text (the seventh form; the later family's looks); each row that meets fmt, with fmt's text TOLD by the authors' own Lean function (tested against real Go, not proved from fmt's source: count such statements apart). THE CARD IS WHAT COUNTS. Prove the row's statement (the work); the ties are given (YtefmlajndillbabGreatDoorTie.lean); close each card by the builder's one call (the guide's Derived/Test/ToyasCard.lean, 'card_holds'). Laid BY PROGRAM, IN A SANDBOX (cutbox-door.mjs). By AI agents, Wed Nov 11 2026. No macro, syntax, notation, axiom, sorry.
-/
import Derived.Test.YtefmlajndillbabGreatDoorRows
import GoSem.ClaimSeven
namespace Go.Proofs.YtefmlajndillbabGreatDoor
namespace Rows

/-- THE TIED CARD OF 'cruciblelaw16.JsonscanLiterals'. -/
def jsonscanLiteralsCard : Claim7 := { stood := { row := jsonscanLiteralsRow, standIns := [], harness := (true, "65c4307808a7b11ea912dbaa519490f20eb171a3a1098615483407207580225a"), looks := true }, kinds := [], alts := [], laidByText := true, laidKinds := [.handle, .sentinel, .sentinel, .sentinel, .sentinel, .sentinel, .sentinel, .sentinel, .sentinel, .sentinel, .sentinel, .sentinel, .data], laidTests := true, laidLooks := .later }
def JsonscanLiteralsCardSaid : Prop := Claim7.holds Tryz.pinned (.plain (OpenSpec.ofChange jsonscanLiteralsSpec)) jsonscanLiteralsCard

/-- THE TIED CARD OF 'cruciblelaw16.JsonscanMakes'. -/
def jsonscanMakesCard : Claim7 := { stood := { row := jsonscanMakesRow, standIns := [], harness := (true, "65c4307808a7b11ea912dbaa519490f20eb171a3a1098615483407207580225a"), looks := true }, kinds := [], alts := [], laidByText := true, laidKinds := [.handle, .sentinel, .sentinel, .sentinel, .sentinel, .sentinel, .sentinel, .sentinel, .sentinel, .sentinel, .sentinel, .sentinel, .data], laidTests := true, laidLooks := .later }
def JsonscanMakesCardSaid : Prop := Claim7.holds Tryz.pinned (.plain (OpenSpec.ofChange jsonscanMakesSpec)) jsonscanMakesCard

/-- THE SECOND FORM's CARD OF 'cruciblelaw16.JsonscanLiterals'. -/
def jsonscanLiteralsUptoCard : Claim7 := { stood := { row := jsonscanLiteralsUptoRow, standIns := [], harness := (true, "65c4307808a7b11ea912dbaa519490f20eb171a3a1098615483407207580225a"), looks := true }, kinds := [], alts := [], laidByText := true, laidKinds := [.handle, .sentinel, .sentinel, .sentinel, .sentinel, .sentinel, .sentinel, .sentinel, .sentinel, .sentinel, .sentinel, .sentinel, .data], laidTests := true, laidLooks := .later }
def JsonscanLiteralsUptoCardSaid : Prop := Claim7.holds Tryz.pinned (.plain (OpenSpec.upto jsonscanLiteralsSpec)) jsonscanLiteralsUptoCard

/-- THE SECOND FORM's CARD OF 'cruciblelaw16.JsonscanMakes'. -/
def jsonscanMakesUptoCard : Claim7 := { stood := { row := jsonscanMakesUptoRow, standIns := [], harness := (true, "65c4307808a7b11ea912dbaa519490f20eb171a3a1098615483407207580225a"), looks := true }, kinds := [], alts := [], laidByText := true, laidKinds := [.handle, .sentinel, .sentinel, .sentinel, .sentinel, .sentinel, .sentinel, .sentinel, .sentinel, .sentinel, .sentinel, .sentinel, .data], laidTests := true, laidLooks := .later }
def JsonscanMakesUptoCardSaid : Prop := Claim7.holds Tryz.pinned (.plain (OpenSpec.upto jsonscanMakesSpec)) jsonscanMakesUptoCard
end Rows
end Go.Proofs.YtefmlajndillbabGreatDoor
