/-
  DERIVED. GIVEN WITH THE SEED: THE CARDS: each row of YtioganiefgmifaaGreatDoorRows.lean that lists a variable, with what it lists TIED to the program's text (the seventh form; the later family's looks); each row that meets fmt, with fmt's text TOLD by the authors' own Lean function (tested against real Go, not proved from fmt's source: count such statements apart). THE CARD IS WHAT COUNTS. Prove the row's statement (the work); the ties are given (YtioganiefgmifaaGreatDoorTie.lean); close each card by the builder's one call (the guide's Derived/Test/ToyasCard.lean, 'card_holds'). Laid BY PROGRAM, IN A SANDBOX (cutbox-door.mjs). By AI agents, Wed Nov 11 2026. No macro, syntax, notation, axiom, sorry.
-/
import Derived.Test.YtioganiefgmifaaGreatDoorRows
import GoSem.ClaimSeven
namespace Go.Proofs.YtioganiefgmifaaGreatDoor
namespace Rows

/-- THE TIED CARD OF 'cruciblelaw06.ShortestOf32'. -/
def shortestOf32Card : Claim7 := { stood := { row := shortestOf32Row, standIns := [], harness := (true, "5577237f9c1f1a31db145c419268691e31667044a1a71c25204f001e16ccf9fd"), looks := false }, kinds := [], alts := [], laidByText := true, laidKinds := [.data, .data], laidTests := true, laidLooks := .later }
def ShortestOf32CardSaid : Prop := Claim7.holds Tryz.pinned (.plain (OpenSpec.ofChange shortestOf32Spec)) shortestOf32Card

/-- THE TIED CARD OF 'cruciblelaw06.ShortestOf16'. -/
def shortestOf16Card : Claim7 := { stood := { row := shortestOf16Row, standIns := [], harness := (true, "5577237f9c1f1a31db145c419268691e31667044a1a71c25204f001e16ccf9fd"), looks := false }, kinds := [], alts := [], laidByText := true, laidKinds := [.data, .data], laidTests := true, laidLooks := .later }
def ShortestOf16CardSaid : Prop := Claim7.holds Tryz.pinned (.plain (OpenSpec.ofChange shortestOf16Spec)) shortestOf16Card

/-- THE SECOND FORM's CARD OF 'cruciblelaw06.ShortestOf32'. -/
def shortestOf32UptoCard : Claim7 := { stood := { row := shortestOf32UptoRow, standIns := [], harness := (true, "5577237f9c1f1a31db145c419268691e31667044a1a71c25204f001e16ccf9fd"), looks := false }, kinds := [], alts := [], laidByText := true, laidKinds := [.data, .data], laidTests := true, laidLooks := .later }
def ShortestOf32UptoCardSaid : Prop := Claim7.holds Tryz.pinned (.plain (OpenSpec.upto shortestOf32Spec)) shortestOf32UptoCard

/-- THE SECOND FORM's CARD OF 'cruciblelaw06.ShortestOf16'. -/
def shortestOf16UptoCard : Claim7 := { stood := { row := shortestOf16UptoRow, standIns := [], harness := (true, "5577237f9c1f1a31db145c419268691e31667044a1a71c25204f001e16ccf9fd"), looks := false }, kinds := [], alts := [], laidByText := true, laidKinds := [.data, .data], laidTests := true, laidLooks := .later }
def ShortestOf16UptoCardSaid : Prop := Claim7.holds Tryz.pinned (.plain (OpenSpec.upto shortestOf16Spec)) shortestOf16UptoCard
end Rows
end Go.Proofs.YtioganiefgmifaaGreatDoor
