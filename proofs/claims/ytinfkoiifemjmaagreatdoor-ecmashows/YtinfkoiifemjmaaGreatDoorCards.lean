/-
  DERIVED. GIVEN WITH THE SEED: THE CARDS: each row of YtinfkoiifemjmaaGreatDoorRows.lean that lists a variable, with what it lists TIED to the program's text (the seventh form; the later family's looks); each row that meets fmt, with fmt's text TOLD by the authors' own Lean function (tested against real Go, not proved from fmt's source: count such statements apart). THE CARD IS WHAT COUNTS. Prove the row's statement (the work); the ties are given (YtinfkoiifemjmaaGreatDoorTie.lean); close each card by the builder's one call (the guide's Derived/Test/ToyasCard.lean, 'card_holds'). Laid BY PROGRAM, IN A SANDBOX (cutbox-door.mjs). By AI agents, Wed Nov 11 2026. No macro, syntax, notation, axiom, sorry.
-/
import Derived.Test.YtinfkoiifemjmaaGreatDoorRows
import GoSem.ClaimSeven
namespace Go.Proofs.YtinfkoiifemjmaaGreatDoor
namespace Rows

/-- THE TIED CARD OF 'cruciblelaw08.EcmaLayouts'. -/
def ecmaLayoutsCard : Claim7 := { stood := { row := ecmaLayoutsRow, standIns := [], harness := (true, "d6919b4ca7c66b361e946541ef6c15b001d62e3070bbf3c94b53b464ecf4593b"), looks := true }, kinds := [], alts := [], laidByText := true, laidKinds := [.data, .data, .data, .handle, .sentinel, .sentinel, .sentinel, .sentinel, .sentinel, .sentinel, .sentinel, .sentinel, .sentinel, .sentinel, .sentinel, .data], laidTests := true, laidLooks := .later }
def EcmaLayoutsCardSaid : Prop := Claim7.holds Tryz.pinned (.plain (OpenSpec.ofChange ecmaLayoutsSpec)) ecmaLayoutsCard

/-- THE TIED CARD OF 'cruciblelaw08.EcmaShows'. -/
def ecmaShowsCard : Claim7 := { stood := { row := ecmaShowsRow, standIns := [], harness := (true, "d6919b4ca7c66b361e946541ef6c15b001d62e3070bbf3c94b53b464ecf4593b"), looks := true }, kinds := [], alts := [], laidByText := true, laidKinds := [.data, .data, .data, .handle, .sentinel, .sentinel, .sentinel, .sentinel, .sentinel, .sentinel, .sentinel, .sentinel, .sentinel, .sentinel, .sentinel, .data], laidTests := true, laidLooks := .later }
def EcmaShowsCardSaid : Prop := Claim7.holds Tryz.pinned (.plain (OpenSpec.ofChange ecmaShowsSpec)) ecmaShowsCard

/-- THE TIED CARD OF 'cruciblelaw08.EcmaReads'. -/
def ecmaReadsCard : Claim7 := { stood := { row := ecmaReadsRow, standIns := [], harness := (true, "d6919b4ca7c66b361e946541ef6c15b001d62e3070bbf3c94b53b464ecf4593b"), looks := true }, kinds := [], alts := [], laidByText := true, laidKinds := [.data, .data, .data, .handle, .sentinel, .sentinel, .sentinel, .sentinel, .sentinel, .sentinel, .sentinel, .sentinel, .sentinel, .sentinel, .sentinel, .data], laidTests := true, laidLooks := .later }
def EcmaReadsCardSaid : Prop := Claim7.holds Tryz.pinned (.plain (OpenSpec.ofChange ecmaReadsSpec)) ecmaReadsCard

/-- THE SECOND FORM's CARD OF 'cruciblelaw08.EcmaLayouts'. -/
def ecmaLayoutsUptoCard : Claim7 := { stood := { row := ecmaLayoutsUptoRow, standIns := [], harness := (true, "d6919b4ca7c66b361e946541ef6c15b001d62e3070bbf3c94b53b464ecf4593b"), looks := true }, kinds := [], alts := [], laidByText := true, laidKinds := [.data, .data, .data, .handle, .sentinel, .sentinel, .sentinel, .sentinel, .sentinel, .sentinel, .sentinel, .sentinel, .sentinel, .sentinel, .sentinel, .data], laidTests := true, laidLooks := .later }
def EcmaLayoutsUptoCardSaid : Prop := Claim7.holds Tryz.pinned (.plain (OpenSpec.upto ecmaLayoutsSpec)) ecmaLayoutsUptoCard

/-- THE SECOND FORM's CARD OF 'cruciblelaw08.EcmaShows'. -/
def ecmaShowsUptoCard : Claim7 := { stood := { row := ecmaShowsUptoRow, standIns := [], harness := (true, "d6919b4ca7c66b361e946541ef6c15b001d62e3070bbf3c94b53b464ecf4593b"), looks := true }, kinds := [], alts := [], laidByText := true, laidKinds := [.data, .data, .data, .handle, .sentinel, .sentinel, .sentinel, .sentinel, .sentinel, .sentinel, .sentinel, .sentinel, .sentinel, .sentinel, .sentinel, .data], laidTests := true, laidLooks := .later }
def EcmaShowsUptoCardSaid : Prop := Claim7.holds Tryz.pinned (.plain (OpenSpec.upto ecmaShowsSpec)) ecmaShowsUptoCard

/-- THE SECOND FORM's CARD OF 'cruciblelaw08.EcmaReads'. -/
def ecmaReadsUptoCard : Claim7 := { stood := { row := ecmaReadsUptoRow, standIns := [], harness := (true, "d6919b4ca7c66b361e946541ef6c15b001d62e3070bbf3c94b53b464ecf4593b"), looks := true }, kinds := [], alts := [], laidByText := true, laidKinds := [.data, .data, .data, .handle, .sentinel, .sentinel, .sentinel, .sentinel, .sentinel, .sentinel, .sentinel, .sentinel, .sentinel, .sentinel, .sentinel, .data], laidTests := true, laidLooks := .later }
def EcmaReadsUptoCardSaid : Prop := Claim7.holds Tryz.pinned (.plain (OpenSpec.upto ecmaReadsSpec)) ecmaReadsUptoCard
end Rows
end Go.Proofs.YtinfkoiifemjmaaGreatDoor
