/-
  DERIVED. GIVEN WITH THE SEED: THE CARDS: each row of YtigehipclkoecaaDoorRows.lean that lists a variable, with what it lists TIED to the program's text (the seventh form; the later family's looks); each row that meets fmt, with fmt's text TOLD by the authors' own Lean function (tested against real Go, not proved from fmt's source: count such statements apart). THE CARD IS WHAT COUNTS. Prove the row's statement (the work); the ties are given (YtigehipclkoecaaDoorTie.lean); close each card by the builder's one call (the guide's Derived/Test/ToyasCard.lean, 'card_holds'). Laid BY PROGRAM, IN A SANDBOX (cutbox-door.mjs). By AI agents, Wed Nov 11 2026. No macro, syntax, notation, axiom, sorry.
-/
import Derived.Test.YtigehipclkoecaaDoorRows
import GoSem.ClaimSeven
namespace Go.Proofs.YtigehipclkoecaaDoor
namespace Rows

/-- THE TIED CARD OF 'cruciblelaw07.DecimalExacts'. -/
def decimalExactsCard : Claim7 := { stood := { row := decimalExactsRow, standIns := [], harness := (true, "aec8928a46c448ec4eb78bef69c84bd7c6bb0673411c1bcfd9312d7277f411a6"), looks := false }, kinds := [], alts := [], laidByText := true, laidKinds := [.data, .data, .data, .pinned], laidTests := true, laidLooks := .later }
def DecimalExactsCardSaid : Prop := Claim7.holds Tryd.pinned (.plain (OpenSpec.ofChange decimalExactsSpec)) decimalExactsCard

/-- THE SECOND FORM's CARD OF 'cruciblelaw07.DecimalExacts'. -/
def decimalExactsUptoCard : Claim7 := { stood := { row := decimalExactsUptoRow, standIns := [], harness := (true, "aec8928a46c448ec4eb78bef69c84bd7c6bb0673411c1bcfd9312d7277f411a6"), looks := false }, kinds := [], alts := [], laidByText := true, laidKinds := [.data, .data, .data, .pinned], laidTests := true, laidLooks := .later }
def DecimalExactsUptoCardSaid : Prop := Claim7.holds Tryd.pinned (.plain (OpenSpec.upto decimalExactsSpec)) decimalExactsUptoCard
end Rows
end Go.Proofs.YtigehipclkoecaaDoor
