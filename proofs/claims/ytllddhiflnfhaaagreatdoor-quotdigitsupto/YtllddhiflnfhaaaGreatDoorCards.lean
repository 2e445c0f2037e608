/-
  DERIVED. GIVEN WITH THE SEED: THE CARDS: each row of YtllddhiflnfhaaaGreatDoorRows.lean that lists a variable, with what it lists TIED to the program's text (the seventh form; the later family's looks); each row that meets fmt, with fmt's text TOLD by the authors' own Lean function (tested against real Go, not proved from fmt's source: count such statements apart). THE CARD IS WHAT COUNTS. Prove the row's statement (the work); the ties are given (YtllddhiflnfhaaaGreatDoorTie.lean); close each card by the builder's one call (the guide's Derived/Test/ToyasCard.lean, 'card_holds'). Laid BY PROGRAM, IN A SANDBOX (cutbox-door.mjs). By AI agents, Wed Nov 11 2026. No macro, syntax, notation, axiom, sorry.
-/
import Derived.Test.YtllddhiflnfhaaaGreatDoorRows
import GoSem.ClaimSeven
namespace Go.Proofs.YtllddhiflnfhaaaGreatDoor
namespace Rows

/-- THE TIED CARD OF 'cruciblelaw02.QuotDigits'. -/
def quotDigitsCard : Claim7 := { stood := { row := quotDigitsRow, standIns := [], harness := (true, "50f2f9c49390c46622711d5258f87770bc4a72728f829435cbf8a72563023f48"), looks := false }, kinds := [], alts := [], laidByText := true, laidKinds := [.data, .data, .data, .data, .pinned], laidTests := true, laidLooks := .later }
def QuotDigitsCardSaid : Prop := Claim7.holds Tryz.pinned (.plain (OpenSpec.ofChange quotDigitsSpec)) quotDigitsCard

/-- THE SECOND FORM's CARD OF 'cruciblelaw02.QuotDigits'. -/
def quotDigitsUptoCard : Claim7 := { stood := { row := quotDigitsUptoRow, standIns := [], harness := (true, "50f2f9c49390c46622711d5258f87770bc4a72728f829435cbf8a72563023f48"), looks := false }, kinds := [], alts := [], laidByText := true, laidKinds := [.data, .data, .data, .data, .pinned], laidTests := true, laidLooks := .later }
def QuotDigitsUptoCardSaid : Prop := Claim7.holds Tryz.pinned (.plain (OpenSpec.upto quotDigitsSpec)) quotDigitsUptoCard
end Rows
end Go.Proofs.YtllddhiflnfhaaaGreatDoor
