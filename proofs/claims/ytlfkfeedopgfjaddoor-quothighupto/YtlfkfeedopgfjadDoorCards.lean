/-
  DERIVED. GIVEN WITH THE SEED: THE CARDS: each row of YtlfkfeedopgfjadDoorRows.lean that lists a variable, with what it lists TIED to the program's text (the seventh form; the later family's looks); each row that meets fmt, with fmt's text TOLD by the authors' own Lean function (tested against real Go, not proved from fmt's source: count such statements apart). THE CARD IS WHAT COUNTS. Prove the row's statement (the work); the ties are given (YtlfkfeedopgfjadDoorTie.lean); close each card by the builder's one call (the guide's Derived/Test/ToyasCard.lean, 'card_holds'). Laid BY PROGRAM, IN A SANDBOX (cutbox-door.mjs). By AI agents, Wed Nov 11 2026. No macro, syntax, notation, axiom, sorry.
-/
import Derived.Test.YtlfkfeedopgfjadDoorRows
import GoSem.ClaimSeven
namespace Go.Proofs.YtlfkfeedopgfjadDoor
namespace Rows

/-- THE TIED CARD OF 'cruciblelaw02.QuotTens'. -/
def quotTensCard : Claim7 := { stood := { row := quotTensRow, standIns := [], harness := (true, "86d051929fad584d37b567fe185e4a84e0eeb3f049ab82796239d836abd8b130"), looks := false }, kinds := [], alts := [], laidByText := true, laidKinds := [.data, .pinned], laidTests := true, laidLooks := .later }
def QuotTensCardSaid : Prop := Claim7.holds Tryd.pinned (.plain (OpenSpec.ofChange quotTensSpec)) quotTensCard

/-- THE TIED CARD OF 'cruciblelaw02.QuotHigh'. -/
def quotHighCard : Claim7 := { stood := { row := quotHighRow, standIns := [], harness := (true, "86d051929fad584d37b567fe185e4a84e0eeb3f049ab82796239d836abd8b130"), looks := false }, kinds := [], alts := [], laidByText := true, laidKinds := [.data, .pinned], laidTests := true, laidLooks := .later }
def QuotHighCardSaid : Prop := Claim7.holds Tryd.pinned (.plain (OpenSpec.ofChange quotHighSpec)) quotHighCard

/-- THE SECOND FORM's CARD OF 'cruciblelaw02.QuotTens'. -/
def quotTensUptoCard : Claim7 := { stood := { row := quotTensUptoRow, standIns := [], harness := (true, "86d051929fad584d37b567fe185e4a84e0eeb3f049ab82796239d836abd8b130"), looks := false }, kinds := [], alts := [], laidByText := true, laidKinds := [.data, .pinned], laidTests := true, laidLooks := .later }
def QuotTensUptoCardSaid : Prop := Claim7.holds Tryd.pinned (.plain (OpenSpec.upto quotTensSpec)) quotTensUptoCard

/-- THE SECOND FORM's CARD OF 'cruciblelaw02.QuotHigh'. -/
def quotHighUptoCard : Claim7 := { stood := { row := quotHighUptoRow, standIns := [], harness := (true, "86d051929fad584d37b567fe185e4a84e0eeb3f049ab82796239d836abd8b130"), looks := false }, kinds := [], alts := [], laidByText := true, laidKinds := [.data, .pinned], laidTests := true, laidLooks := .later }
def QuotHighUptoCardSaid : Prop := Claim7.holds Tryd.pinned (.plain (OpenSpec.upto quotHighSpec)) quotHighUptoCard
end Rows
end Go.Proofs.YtlfkfeedopgfjadDoor
