/-
  DERIVED. GIVEN WITH THE SEED: THE CARDS: each row of YtlfkfeedopgfjabGreatDoorRows.lean that lists a variable, with what it lists TIED to the program's text (the seventh form; the later family's looks); each row that meets fmt, with fmt's text TOLD by the authors' own Lean function (tested against real Go, not proved from fmt's source: count such statements apart). THE CARD IS WHAT COUNTS. Prove the row's statement (the work); the ties are given (YtlfkfeedopgfjabGreatDoorTie.lean); close each card by the builder's one call (the guide's Derived/Test/ToyasCard.lean, 'card_holds'). Laid BY PROGRAM, IN A SANDBOX (cutbox-door.mjs). By AI agents, Wed Nov 11 2026. No macro, syntax, notation, axiom, sorry.
-/
import Derived.Test.YtlfkfeedopgfjabGreatDoorRows
import GoSem.ClaimSeven
namespace Go.Proofs.YtlfkfeedopgfjabGreatDoor
namespace Rows

/-- THE TIED CARD OF 'cruciblelaw01.NatOwn'. -/
def natOwnCard : Claim7 := { stood := { row := natOwnRow, standIns := [], harness := (true, "05f2bbbbc578e568b4d5232b7d4f1455abdf646acf2c6eb97b3944920c323d61"), looks := false }, kinds := [], alts := [], laidByText := true, laidKinds := [.data, .data, .data], laidTests := true, laidLooks := .later }
def NatOwnCardSaid : Prop := Claim7.holds Tryz.pinned (.plain (OpenSpec.ofChange natOwnSpec)) natOwnCard

/-- THE TIED CARD OF 'cruciblelaw02.QuotDivs'. -/
def quotDivsCard : Claim7 := { stood := { row := quotDivsRow, standIns := [], harness := (true, "05f2bbbbc578e568b4d5232b7d4f1455abdf646acf2c6eb97b3944920c323d61"), looks := false }, kinds := [], alts := [], laidByText := true, laidKinds := [.data, .data, .data, .data, .pinned], laidTests := true, laidLooks := .later }
def QuotDivsCardSaid : Prop := Claim7.holds Tryz.pinned (.plain (OpenSpec.ofChange quotDivsSpec)) quotDivsCard

/-- THE TIED CARD OF 'cruciblelaw02.QuotCommon'. -/
def quotCommonCard : Claim7 := { stood := { row := quotCommonRow, standIns := [], harness := (true, "05f2bbbbc578e568b4d5232b7d4f1455abdf646acf2c6eb97b3944920c323d61"), looks := false }, kinds := [], alts := [], laidByText := true, laidKinds := [.data, .data, .data, .data, .pinned], laidTests := true, laidLooks := .later }
def QuotCommonCardSaid : Prop := Claim7.holds Tryz.pinned (.plain (OpenSpec.ofChange quotCommonSpec)) quotCommonCard

/-- THE SECOND FORM's CARD OF 'cruciblelaw01.NatOwn'. -/
def natOwnUptoCard : Claim7 := { stood := { row := natOwnUptoRow, standIns := [], harness := (true, "05f2bbbbc578e568b4d5232b7d4f1455abdf646acf2c6eb97b3944920c323d61"), looks := false }, kinds := [], alts := [], laidByText := true, laidKinds := [.data, .data, .data], laidTests := true, laidLooks := .later }
def NatOwnUptoCardSaid : Prop := Claim7.holds Tryz.pinned (.plain (OpenSpec.upto natOwnSpec)) natOwnUptoCard

/-- THE SECOND FORM's CARD OF 'cruciblelaw02.QuotDivs'. -/
def quotDivsUptoCard : Claim7 := { stood := { row := quotDivsUptoRow, standIns := [], harness := (true, "05f2bbbbc578e568b4d5232b7d4f1455abdf646acf2c6eb97b3944920c323d61"), looks := false }, kinds := [], alts := [], laidByText := true, laidKinds := [.data, .data, .data, .data, .pinned], laidTests := true, laidLooks := .later }
def QuotDivsUptoCardSaid : Prop := Claim7.holds Tryz.pinned (.plain (OpenSpec.upto quotDivsSpec)) quotDivsUptoCard

/-- THE SECOND FORM's CARD OF 'cruciblelaw02.QuotCommon'. -/
def quotCommonUptoCard : Claim7 := { stood := { row := quotCommonUptoRow, standIns := [], harness := (true, "05f2bbbbc578e568b4d5232b7d4f1455abdf646acf2c6eb97b3944920c323d61"), looks := false }, kinds := [], alts := [], laidByText := true, laidKinds := [.data, .data, .data, .data, .pinned], laidTests := true, laidLooks := .later }
def QuotCommonUptoCardSaid : Prop := Claim7.holds Tryz.pinned (.plain (OpenSpec.upto quotCommonSpec)) quotCommonUptoCard
end Rows
end Go.Proofs.YtlfkfeedopgfjabGreatDoor
