/-
  DERIVED. GIVEN WITH THE SEED: THE CARDS: each row of YtmmkdihhcmcjjabDoorRows.lean that lists a variable, with what it lists TIED to the program's text (the seventh form; the later family's looks); each row that meets fmt, with fmt's text TOLD by the authors' own Lean function (tested against real Go, not proved from fmt's source: count such statements apart). THE CARD IS WHAT COUNTS. Prove the row's statement (the work); the ties are given (YtmmkdihhcmcjjabDoorTie.lean); close each card by the builder's one call (the guide's Derived/Test/ToyasCard.lean, 'card_holds'). Laid BY PROGRAM, IN A SANDBOX (cutbox-door.mjs). By AI agents, Wed Nov 11 2026. No macro, syntax, notation, axiom, sorry.
-/
import Derived.Test.YtmmkdihhcmcjjabDoorRows
import GoSem.ClaimSeven
namespace Go.Proofs.YtmmkdihhcmcjjabDoor
namespace Rows

/-- THE TIED CARD OF 'cruciblelaw04.IeeeMore'. -/
def ieeeMoreCard : Claim7 := { stood := { row := ieeeMoreRow, standIns := [], harness := (true, "396f64fc345af8dcd56edd83adfcda0d4f8323e683f0677fb40e9b7ed3803a17"), looks := false }, kinds := [], alts := [], laidByText := true, laidKinds := [.data, .data], laidTests := true, laidLooks := .later }
def IeeeMoreCardSaid : Prop := Claim7.holds Tryd.pinned (.plain (OpenSpec.ofChange ieeeMoreSpec)) ieeeMoreCard

/-- THE SECOND FORM's CARD OF 'cruciblelaw04.IeeeMore'. -/
def ieeeMoreUptoCard : Claim7 := { stood := { row := ieeeMoreUptoRow, standIns := [], harness := (true, "396f64fc345af8dcd56edd83adfcda0d4f8323e683f0677fb40e9b7ed3803a17"), looks := false }, kinds := [], alts := [], laidByText := true, laidKinds := [.data, .data], laidTests := true, laidLooks := .later }
def IeeeMoreUptoCardSaid : Prop := Claim7.holds Tryd.pinned (.plain (OpenSpec.upto ieeeMoreSpec)) ieeeMoreUptoCard
end Rows
end Go.Proofs.YtmmkdihhcmcjjabDoor
