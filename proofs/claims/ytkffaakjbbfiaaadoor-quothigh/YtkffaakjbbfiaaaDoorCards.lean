/-
  DERIVED. GIVEN WITH THE SEED: THE CARDS: each row of YtkffaakjbbfiaaaDoorRows.lean that lists a variable, with what it lists TIED to the program's text (the seventh form; the later family's looks); each row that meets fmt, with fmt's text TOLD by the authors' own Lean function (tested against real Go, not proved from fmt's source: count such statements apart). THE CARD IS WHAT COUNTS. Prove the row's statement (the work); the ties are given (YtkffaakjbbfiaaaDoorTie.lean); close each card by the builder's one call (the guide's Derived/Test/ToyasCard.lean, 'card_holds'). Laid BY PROGRAM, IN A SANDBOX (cutbox-door.mjs). By AI agents, Wed Nov 11 2026. No macro, syntax, notation, axiom, sorry.
-/
import Derived.Test.YtkffaakjbbfiaaaDoorRows
import GoSem.ClaimSeven
namespace Go.Proofs.YtkffaakjbbfiaaaDoor
namespace Rows

/-- THE TIED CARD OF 'cruciblelaw02.QuotBack'. -/
def quotBackCard : Claim7 := { stood := { row := quotBackRow, standIns := [], harness := (true, "6cde00cc8dc3b38ff4635e654a0e7baec0a900444b559ef1a183e7c353397c7a"), looks := false }, kinds := [], alts := [], laidByText := true, laidKinds := [.data, .pinned], laidTests := true, laidLooks := .later }
def QuotBackCardSaid : Prop := Claim7.holds Tryd.pinned (.plain (OpenSpec.ofChange quotBackSpec)) quotBackCard

/-- THE TIED CARD OF 'cruciblelaw02.QuotGreatest'. -/
def quotGreatestCard : Claim7 := { stood := { row := quotGreatestRow, standIns := [], harness := (true, "6cde00cc8dc3b38ff4635e654a0e7baec0a900444b559ef1a183e7c353397c7a"), looks := false }, kinds := [], alts := [], laidByText := true, laidKinds := [.data, .pinned], laidTests := true, laidLooks := .later }
def QuotGreatestCardSaid : Prop := Claim7.holds Tryd.pinned (.plain (OpenSpec.ofChange quotGreatestSpec)) quotGreatestCard

/-- THE TIED CARD OF 'cruciblelaw02.QuotHigh'. -/
def quotHighCard : Claim7 := { stood := { row := quotHighRow, standIns := [], harness := (true, "6cde00cc8dc3b38ff4635e654a0e7baec0a900444b559ef1a183e7c353397c7a"), looks := false }, kinds := [], alts := [], laidByText := true, laidKinds := [.data, .pinned], laidTests := true, laidLooks := .later }
def QuotHighCardSaid : Prop := Claim7.holds Tryd.pinned (.plain (OpenSpec.ofChange quotHighSpec)) quotHighCard

/-- THE SECOND FORM's CARD OF 'cruciblelaw02.QuotBack'. -/
def quotBackUptoCard : Claim7 := { stood := { row := quotBackUptoRow, standIns := [], harness := (true, "6cde00cc8dc3b38ff4635e654a0e7baec0a900444b559ef1a183e7c353397c7a"), looks := false }, kinds := [], alts := [], laidByText := true, laidKinds := [.data, .pinned], laidTests := true, laidLooks := .later }
def QuotBackUptoCardSaid : Prop := Claim7.holds Tryd.pinned (.plain (OpenSpec.upto quotBackSpec)) quotBackUptoCard

/-- THE SECOND FORM's CARD OF 'cruciblelaw02.QuotGreatest'. -/
def quotGreatestUptoCard : Claim7 := { stood := { row := quotGreatestUptoRow, standIns := [], harness := (true, "6cde00cc8dc3b38ff4635e654a0e7baec0a900444b559ef1a183e7c353397c7a"), looks := false }, kinds := [], alts := [], laidByText := true, laidKinds := [.data, .pinned], laidTests := true, laidLooks := .later }
def QuotGreatestUptoCardSaid : Prop := Claim7.holds Tryd.pinned (.plain (OpenSpec.upto quotGreatestSpec)) quotGreatestUptoCard

/-- THE SECOND FORM's CARD OF 'cruciblelaw02.QuotHigh'. -/
def quotHighUptoCard : Claim7 := { stood := { row := quotHighUptoRow, standIns := [], harness := (true, "6cde00cc8dc3b38ff4635e654a0e7baec0a900444b559ef1a183e7c353397c7a"), looks := false }, kinds := [], alts := [], laidByText := true, laidKinds := [.data, .pinned], laidTests := true, laidLooks := .later }
def QuotHighUptoCardSaid : Prop := Claim7.holds Tryd.pinned (.plain (OpenSpec.upto quotHighSpec)) quotHighUptoCard
end Rows
end Go.Proofs.YtkffaakjbbfiaaaDoor
