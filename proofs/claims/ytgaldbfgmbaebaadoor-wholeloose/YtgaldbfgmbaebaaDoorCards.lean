/-
  DERIVED. GIVEN WITH THE SEED: THE CARDS: each row of YtgaldbfgmbaebaaDoorRows.lean that lists a variable, with what it lists TIED to the program's text (the seventh form; the later family's looks); each row that meets fmt, with fmt's text TOLD by the authors' own Lean function (tested against real Go, not proved from fmt's source: count such statements apart). THE CARD IS WHAT COUNTS. Prove the row's statement (the work); the ties are given (YtgaldbfgmbaebaaDoorTie.lean); close each card by the builder's one call (the guide's Derived/Test/ToyasCard.lean, 'card_holds'). Laid BY PROGRAM, IN A SANDBOX (cutbox-door.mjs). By AI agents, Wed Nov 11 2026. No macro, syntax, notation, axiom, sorry.
-/
import Derived.Test.YtgaldbfgmbaebaaDoorRows
import GoSem.ClaimSeven
namespace Go.Proofs.YtgaldbfgmbaebaaDoor
namespace Rows

/-- THE TIED CARD OF 'cruciblelaw02.QuotTens'. -/
def quotTensCard : Claim7 := { stood := { row := quotTensRow, standIns := [], harness := (true, "81ebc616e6018032c9b19ca28975b044ee70418e0dd491e87fa5ad8e8ee6aba6"), looks := false }, kinds := [], alts := [], laidByText := true, laidKinds := [.data, .pinned], laidTests := true, laidLooks := .later }
def QuotTensCardSaid : Prop := Claim7.holds Tryd.pinned (.plain (OpenSpec.ofChange quotTensSpec)) quotTensCard

/-- THE TIED CARD OF 'cruciblelaw03.WholeTells'. -/
def wholeTellsCard : Claim7 := { stood := { row := wholeTellsRow, standIns := [], harness := (true, "81ebc616e6018032c9b19ca28975b044ee70418e0dd491e87fa5ad8e8ee6aba6"), looks := false }, kinds := [], alts := [], laidByText := true, laidKinds := [.data, .pinned], laidTests := true, laidLooks := .later }
def WholeTellsCardSaid : Prop := Claim7.holds Tryd.pinned (.plain (OpenSpec.ofChange wholeTellsSpec)) wholeTellsCard

/-- THE TIED CARD OF 'cruciblelaw03.WholeBack'. -/
def wholeBackCard : Claim7 := { stood := { row := wholeBackRow, standIns := [], harness := (true, "81ebc616e6018032c9b19ca28975b044ee70418e0dd491e87fa5ad8e8ee6aba6"), looks := false }, kinds := [], alts := [], laidByText := true, laidKinds := [.data, .pinned], laidTests := true, laidLooks := .later }
def WholeBackCardSaid : Prop := Claim7.holds Tryd.pinned (.plain (OpenSpec.ofChange wholeBackSpec)) wholeBackCard

/-- THE TIED CARD OF 'cruciblelaw03.WholeLoose'. -/
def wholeLooseCard : Claim7 := { stood := { row := wholeLooseRow, standIns := [], harness := (true, "81ebc616e6018032c9b19ca28975b044ee70418e0dd491e87fa5ad8e8ee6aba6"), looks := false }, kinds := [], alts := [], laidByText := true, laidKinds := [.data, .pinned], laidTests := true, laidLooks := .later }
def WholeLooseCardSaid : Prop := Claim7.holds Tryd.pinned (.plain (OpenSpec.ofChange wholeLooseSpec)) wholeLooseCard

/-- THE SECOND FORM's CARD OF 'cruciblelaw02.QuotTens'. -/
def quotTensUptoCard : Claim7 := { stood := { row := quotTensUptoRow, standIns := [], harness := (true, "81ebc616e6018032c9b19ca28975b044ee70418e0dd491e87fa5ad8e8ee6aba6"), looks := false }, kinds := [], alts := [], laidByText := true, laidKinds := [.data, .pinned], laidTests := true, laidLooks := .later }
def QuotTensUptoCardSaid : Prop := Claim7.holds Tryd.pinned (.plain (OpenSpec.upto quotTensSpec)) quotTensUptoCard

/-- THE SECOND FORM's CARD OF 'cruciblelaw03.WholeTells'. -/
def wholeTellsUptoCard : Claim7 := { stood := { row := wholeTellsUptoRow, standIns := [], harness := (true, "81ebc616e6018032c9b19ca28975b044ee70418e0dd491e87fa5ad8e8ee6aba6"), looks := false }, kinds := [], alts := [], laidByText := true, laidKinds := [.data, .pinned], laidTests := true, laidLooks := .later }
def WholeTellsUptoCardSaid : Prop := Claim7.holds Tryd.pinned (.plain (OpenSpec.upto wholeTellsSpec)) wholeTellsUptoCard

/-- THE SECOND FORM's CARD OF 'cruciblelaw03.WholeBack'. -/
def wholeBackUptoCard : Claim7 := { stood := { row := wholeBackUptoRow, standIns := [], harness := (true, "81ebc616e6018032c9b19ca28975b044ee70418e0dd491e87fa5ad8e8ee6aba6"), looks := false }, kinds := [], alts := [], laidByText := true, laidKinds := [.data, .pinned], laidTests := true, laidLooks := .later }
def WholeBackUptoCardSaid : Prop := Claim7.holds Tryd.pinned (.plain (OpenSpec.upto wholeBackSpec)) wholeBackUptoCard

/-- THE SECOND FORM's CARD OF 'cruciblelaw03.WholeLoose'. -/
def wholeLooseUptoCard : Claim7 := { stood := { row := wholeLooseUptoRow, standIns := [], harness := (true, "81ebc616e6018032c9b19ca28975b044ee70418e0dd491e87fa5ad8e8ee6aba6"), looks := false }, kinds := [], alts := [], laidByText := true, laidKinds := [.data, .pinned], laidTests := true, laidLooks := .later }
def WholeLooseUptoCardSaid : Prop := Claim7.holds Tryd.pinned (.plain (OpenSpec.upto wholeLooseSpec)) wholeLooseUptoCard
end Rows
end Go.Proofs.YtgaldbfgmbaebaaDoor
