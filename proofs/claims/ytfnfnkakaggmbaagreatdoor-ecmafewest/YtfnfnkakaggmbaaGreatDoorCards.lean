/-
  DERIVED. GIVEN WITH THE SEED: THE CARDS: each row of YtfnfnkakaggmbaaGreatDoorRows.lean that lists a variable, with what it lists TIED to the program's text (the seventh form; the later family's looks); each row that meets fmt, with fmt's text TOLD by the authors' own Lean function (tested against real Go, not proved from fmt's source: count such statements apart). THE CARD IS WHAT COUNTS. Prove the row's statement (the work); the ties are given (YtfnfnkakaggmbaaGreatDoorTie.lean); close each card by the builder's one call (the guide's Derived/Test/ToyasCard.lean, 'card_holds'). Laid BY PROGRAM, IN A SANDBOX (cutbox-door.mjs). By AI agents, Wed Nov 11 2026. No macro, syntax, notation, axiom, sorry.
-/
import Derived.Test.YtfnfnkakaggmbaaGreatDoorRows
import GoSem.ClaimSeven
namespace Go.Proofs.YtfnfnkakaggmbaaGreatDoor
namespace Rows

/-- THE TIED CARD OF 'cruciblelaw08.EcmaLayouts'. -/
def ecmaLayoutsCard : Claim7 := { stood := { row := ecmaLayoutsRow, standIns := [], harness := (true, "48fc5b850516c39a3cb7d369f7fbdb936153bcbc1d50c6a5f3222d3bbb24b187"), looks := true }, kinds := [], alts := [], laidByText := true, laidKinds := [.data, .data, .data, .handle, .sentinel, .sentinel, .sentinel, .sentinel, .sentinel, .sentinel, .sentinel, .sentinel, .sentinel, .sentinel, .sentinel, .data], laidTests := true, laidLooks := .later }
def EcmaLayoutsCardSaid : Prop := Claim7.holds Tryz.pinned (.plain (OpenSpec.ofChange ecmaLayoutsSpec)) ecmaLayoutsCard

/-- THE TIED CARD OF 'cruciblelaw08.EcmaShows'. -/
def ecmaShowsCard : Claim7 := { stood := { row := ecmaShowsRow, standIns := [], harness := (true, "48fc5b850516c39a3cb7d369f7fbdb936153bcbc1d50c6a5f3222d3bbb24b187"), looks := true }, kinds := [], alts := [], laidByText := true, laidKinds := [.data, .data, .data, .handle, .sentinel, .sentinel, .sentinel, .sentinel, .sentinel, .sentinel, .sentinel, .sentinel, .sentinel, .sentinel, .sentinel, .data], laidTests := true, laidLooks := .later }
def EcmaShowsCardSaid : Prop := Claim7.holds Tryz.pinned (.plain (OpenSpec.ofChange ecmaShowsSpec)) ecmaShowsCard

/-- THE TIED CARD OF 'cruciblelaw08.EcmaReads'. -/
def ecmaReadsCard : Claim7 := { stood := { row := ecmaReadsRow, standIns := [], harness := (true, "48fc5b850516c39a3cb7d369f7fbdb936153bcbc1d50c6a5f3222d3bbb24b187"), looks := true }, kinds := [], alts := [], laidByText := true, laidKinds := [.data, .data, .data, .handle, .sentinel, .sentinel, .sentinel, .sentinel, .sentinel, .sentinel, .sentinel, .sentinel, .sentinel, .sentinel, .sentinel, .data], laidTests := true, laidLooks := .later }
def EcmaReadsCardSaid : Prop := Claim7.holds Tryz.pinned (.plain (OpenSpec.ofChange ecmaReadsSpec)) ecmaReadsCard

/-- THE TIED CARD OF 'cruciblelaw08.EcmaBack'. -/
def ecmaBackCard : Claim7 := { stood := { row := ecmaBackRow, standIns := [], harness := (true, "48fc5b850516c39a3cb7d369f7fbdb936153bcbc1d50c6a5f3222d3bbb24b187"), looks := true }, kinds := [], alts := [], laidByText := true, laidKinds := [.data, .data, .data, .handle, .sentinel, .sentinel, .sentinel, .sentinel, .sentinel, .sentinel, .sentinel, .sentinel, .sentinel, .sentinel, .sentinel, .data], laidTests := true, laidLooks := .later }
def EcmaBackCardSaid : Prop := Claim7.holds Tryz.pinned (.plain (OpenSpec.ofChange ecmaBackSpec)) ecmaBackCard

/-- THE TIED CARD OF 'cruciblelaw08.EcmaFewest'. -/
def ecmaFewestCard : Claim7 := { stood := { row := ecmaFewestRow, standIns := [], harness := (true, "48fc5b850516c39a3cb7d369f7fbdb936153bcbc1d50c6a5f3222d3bbb24b187"), looks := true }, kinds := [], alts := [], laidByText := true, laidKinds := [.data, .data, .data, .handle, .sentinel, .sentinel, .sentinel, .sentinel, .sentinel, .sentinel, .sentinel, .sentinel, .sentinel, .sentinel, .sentinel, .data], laidTests := true, laidLooks := .later }
def EcmaFewestCardSaid : Prop := Claim7.holds Tryz.pinned (.plain (OpenSpec.ofChange ecmaFewestSpec)) ecmaFewestCard

/-- THE TIED CARD OF 'cruciblelaw08.EcmaPlaces'. -/
def ecmaPlacesCard : Claim7 := { stood := { row := ecmaPlacesRow, standIns := [], harness := (true, "48fc5b850516c39a3cb7d369f7fbdb936153bcbc1d50c6a5f3222d3bbb24b187"), looks := true }, kinds := [], alts := [], laidByText := true, laidKinds := [.data, .data, .data, .handle, .sentinel, .sentinel, .sentinel, .sentinel, .sentinel, .sentinel, .sentinel, .sentinel, .sentinel, .sentinel, .sentinel, .data], laidTests := true, laidLooks := .later }
def EcmaPlacesCardSaid : Prop := Claim7.holds Tryz.pinned (.plain (OpenSpec.ofChange ecmaPlacesSpec)) ecmaPlacesCard

/-- THE SECOND FORM's CARD OF 'cruciblelaw08.EcmaLayouts'. -/
def ecmaLayoutsUptoCard : Claim7 := { stood := { row := ecmaLayoutsUptoRow, standIns := [], harness := (true, "48fc5b850516c39a3cb7d369f7fbdb936153bcbc1d50c6a5f3222d3bbb24b187"), looks := true }, kinds := [], alts := [], laidByText := true, laidKinds := [.data, .data, .data, .handle, .sentinel, .sentinel, .sentinel, .sentinel, .sentinel, .sentinel, .sentinel, .sentinel, .sentinel, .sentinel, .sentinel, .data], laidTests := true, laidLooks := .later }
def EcmaLayoutsUptoCardSaid : Prop := Claim7.holds Tryz.pinned (.plain (OpenSpec.upto ecmaLayoutsSpec)) ecmaLayoutsUptoCard

/-- THE SECOND FORM's CARD OF 'cruciblelaw08.EcmaShows'. -/
def ecmaShowsUptoCard : Claim7 := { stood := { row := ecmaShowsUptoRow, standIns := [], harness := (true, "48fc5b850516c39a3cb7d369f7fbdb936153bcbc1d50c6a5f3222d3bbb24b187"), looks := true }, kinds := [], alts := [], laidByText := true, laidKinds := [.data, .data, .data, .handle, .sentinel, .sentinel, .sentinel, .sentinel, .sentinel, .sentinel, .sentinel, .sentinel, .sentinel, .sentinel, .sentinel, .data], laidTests := true, laidLooks := .later }
def EcmaShowsUptoCardSaid : Prop := Claim7.holds Tryz.pinned (.plain (OpenSpec.upto ecmaShowsSpec)) ecmaShowsUptoCard

/-- THE SECOND FORM's CARD OF 'cruciblelaw08.EcmaReads'. -/
def ecmaReadsUptoCard : Claim7 := { stood := { row := ecmaReadsUptoRow, standIns := [], harness := (true, "48fc5b850516c39a3cb7d369f7fbdb936153bcbc1d50c6a5f3222d3bbb24b187"), looks := true }, kinds := [], alts := [], laidByText := true, laidKinds := [.data, .data, .data, .handle, .sentinel, .sentinel, .sentinel, .sentinel, .sentinel, .sentinel, .sentinel, .sentinel, .sentinel, .sentinel, .sentinel, .data], laidTests := true, laidLooks := .later }
def EcmaReadsUptoCardSaid : Prop := Claim7.holds Tryz.pinned (.plain (OpenSpec.upto ecmaReadsSpec)) ecmaReadsUptoCard

/-- THE SECOND FORM's CARD OF 'cruciblelaw08.EcmaBack'. -/
def ecmaBackUptoCard : Claim7 := { stood := { row := ecmaBackUptoRow, standIns := [], harness := (true, "48fc5b850516c39a3cb7d369f7fbdb936153bcbc1d50c6a5f3222d3bbb24b187"), looks := true }, kinds := [], alts := [], laidByText := true, laidKinds := [.data, .data, .data, .handle, .sentinel, .sentinel, .sentinel, .sentinel, .sentinel, .sentinel, .sentinel, .sentinel, .sentinel, .sentinel, .sentinel, .data], laidTests := true, laidLooks := .later }
def EcmaBackUptoCardSaid : Prop := Claim7.holds Tryz.pinned (.plain (OpenSpec.upto ecmaBackSpec)) ecmaBackUptoCard

/-- THE SECOND FORM's CARD OF 'cruciblelaw08.EcmaFewest'. -/
def ecmaFewestUptoCard : Claim7 := { stood := { row := ecmaFewestUptoRow, standIns := [], harness := (true, "48fc5b850516c39a3cb7d369f7fbdb936153bcbc1d50c6a5f3222d3bbb24b187"), looks := true }, kinds := [], alts := [], laidByText := true, laidKinds := [.data, .data, .data, .handle, .sentinel, .sentinel, .sentinel, .sentinel, .sentinel, .sentinel, .sentinel, .sentinel, .sentinel, .sentinel, .sentinel, .data], laidTests := true, laidLooks := .later }
def EcmaFewestUptoCardSaid : Prop := Claim7.holds Tryz.pinned (.plain (OpenSpec.upto ecmaFewestSpec)) ecmaFewestUptoCard

/-- THE SECOND FORM's CARD OF 'cruciblelaw08.EcmaPlaces'. -/
def ecmaPlacesUptoCard : Claim7 := { stood := { row := ecmaPlacesUptoRow, standIns := [], harness := (true, "48fc5b850516c39a3cb7d369f7fbdb936153bcbc1d50c6a5f3222d3bbb24b187"), looks := true }, kinds := [], alts := [], laidByText := true, laidKinds := [.data, .data, .data, .handle, .sentinel, .sentinel, .sentinel, .sentinel, .sentinel, .sentinel, .sentinel, .sentinel, .sentinel, .sentinel, .sentinel, .data], laidTests := true, laidLooks := .later }
def EcmaPlacesUptoCardSaid : Prop := Claim7.holds Tryz.pinned (.plain (OpenSpec.upto ecmaPlacesSpec)) ecmaPlacesUptoCard
end Rows
end Go.Proofs.YtfnfnkakaggmbaaGreatDoor
