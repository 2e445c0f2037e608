/-
  DERIVED. GIVEN WITH THE SEED: THE CARDS: each row of YtioganiefgmifaaDoorRows.lean that lists a variable, with what it lists TIED to the program's text (the seventh form; the later family's looks); each row that meets fmt, with fmt's text TOLD by the authors' own Lean function (tested against real Go, not proved from fmt's source: count such statements apart). THE CARD IS WHAT COUNTS. Prove the row's statement (the work); the ties are given (YtioganiefgmifaaDoorTie.lean); close each card by the builder's one call (the guide's Derived/Test/ToyasCard.lean, 'card_holds'). Laid BY PROGRAM, IN A SANDBOX (cutbox-door.mjs). By AI agents, Wed Nov 11 2026. No macro, syntax, notation, axiom, sorry.
-/
import Derived.Test.YtioganiefgmifaaDoorRows
import GoSem.ClaimSeven
namespace Go.Proofs.YtioganiefgmifaaDoor
namespace Rows

/-- THE TIED CARD OF 'cruciblelaw06.ShortestOf64'. -/
def shortestOf64Card : Claim7 := { stood := { row := shortestOf64Row, standIns := [], harness := (true, "9b111e46f7c1113679dbe004441cf09c6bbe2e229d8d3becf21239f59d3a5a9f"), looks := false }, kinds := [], alts := [], laidByText := true, laidKinds := [.data, .data], laidTests := true, laidLooks := .later }
def ShortestOf64CardSaid : Prop := Claim7.holds Tryd.pinned (.plain (OpenSpec.ofChange shortestOf64Spec)) shortestOf64Card

/-- THE SECOND FORM's CARD OF 'cruciblelaw06.ShortestOf64'. -/
def shortestOf64UptoCard : Claim7 := { stood := { row := shortestOf64UptoRow, standIns := [], harness := (true, "9b111e46f7c1113679dbe004441cf09c6bbe2e229d8d3becf21239f59d3a5a9f"), looks := false }, kinds := [], alts := [], laidByText := true, laidKinds := [.data, .data], laidTests := true, laidLooks := .later }
def ShortestOf64UptoCardSaid : Prop := Claim7.holds Tryd.pinned (.plain (OpenSpec.upto shortestOf64Spec)) shortestOf64UptoCard
end Rows
end Go.Proofs.YtioganiefgmifaaDoor
