/-
  DERIVED. GIVEN WITH THE SEED: THE CARDS: each row of YthoaibcoklgnhaaGreatDoorRows.lean that lists a variable, with what it lists TIED to the program's text (the seventh form; the later family's looks); each row that meets fmt, with fmt's text TOLD by the authors' own Lean function (tested against real Go, not proved from fmt's source: count such statements apart). THE CARD IS WHAT COUNTS. Prove the row's statement (the work); the ties are given (YthoaibcoklgnhaaGreatDoorTie.lean); close each card by the builder's one call (the guide's Derived/Test/ToyasCard.lean, 'card_holds'). Laid BY PROGRAM, IN A SANDBOX (cutbox-door.mjs). By AI agents, Wed Nov 11 2026. No macro, syntax, notation, axiom, sorry.
-/
import Derived.Test.YthoaibcoklgnhaaGreatDoorRows
import GoSem.ClaimSeven
namespace Go.Proofs.YthoaibcoklgnhaaGreatDoor
namespace Rows

/-- THE TIED CARD OF 'cruciblelaw02.QuotDivs'. -/
def quotDivsCard : Claim7 := { stood := { row := quotDivsRow, standIns := [], harness := (true, "a5efcd52bb32dfb1e78b493a6fca0dd4c2e42587cfa10755be5c019a6f575baa"), looks := false }, kinds := [], alts := [], laidByText := true, laidKinds := [.data, .data, .data, .data, .pinned], laidTests := true, laidLooks := .later }
def QuotDivsCardSaid : Prop := Claim7.holds Tryz.pinned (.plain (OpenSpec.ofChange quotDivsSpec)) quotDivsCard

/-- THE TIED CARD OF 'cruciblelaw02.QuotCommon'. -/
def quotCommonCard : Claim7 := { stood := { row := quotCommonRow, standIns := [], harness := (true, "a5efcd52bb32dfb1e78b493a6fca0dd4c2e42587cfa10755be5c019a6f575baa"), looks := false }, kinds := [], alts := [], laidByText := true, laidKinds := [.data, .data, .data, .data, .pinned], laidTests := true, laidLooks := .later }
def QuotCommonCardSaid : Prop := Claim7.holds Tryz.pinned (.plain (OpenSpec.ofChange quotCommonSpec)) quotCommonCard

/-- THE TIED CARD OF 'cruciblelaw02.QuotBytes'. -/
def quotBytesCard : Claim7 := { stood := { row := quotBytesRow, standIns := [], harness := (true, "a5efcd52bb32dfb1e78b493a6fca0dd4c2e42587cfa10755be5c019a6f575baa"), looks := false }, kinds := [], alts := [], laidByText := true, laidKinds := [.data, .data, .data, .data, .pinned], laidTests := true, laidLooks := .later }
def QuotBytesCardSaid : Prop := Claim7.holds Tryz.pinned (.plain (OpenSpec.ofChange quotBytesSpec)) quotBytesCard

/-- THE SECOND FORM's CARD OF 'cruciblelaw02.QuotDivs'. -/
def quotDivsUptoCard : Claim7 := { stood := { row := quotDivsUptoRow, standIns := [], harness := (true, "a5efcd52bb32dfb1e78b493a6fca0dd4c2e42587cfa10755be5c019a6f575baa"), looks := false }, kinds := [], alts := [], laidByText := true, laidKinds := [.data, .data, .data, .data, .pinned], laidTests := true, laidLooks := .later }
def QuotDivsUptoCardSaid : Prop := Claim7.holds Tryz.pinned (.plain (OpenSpec.upto quotDivsSpec)) quotDivsUptoCard

/-- THE SECOND FORM's CARD OF 'cruciblelaw02.QuotCommon'. -/
def quotCommonUptoCard : Claim7 := { stood := { row := quotCommonUptoRow, standIns := [], harness := (true, "a5efcd52bb32dfb1e78b493a6fca0dd4c2e42587cfa10755be5c019a6f575baa"), looks := false }, kinds := [], alts := [], laidByText := true, laidKinds := [.data, .data, .data, .data, .pinned], laidTests := true, laidLooks := .later }
def QuotCommonUptoCardSaid : Prop := Claim7.holds Tryz.pinned (.plain (OpenSpec.upto quotCommonSpec)) quotCommonUptoCard

/-- THE SECOND FORM's CARD OF 'cruciblelaw02.QuotBytes'. -/
def quotBytesUptoCard : Claim7 := { stood := { row := quotBytesUptoRow, standIns := [], harness := (true, "a5efcd52bb32dfb1e78b493a6fca0dd4c2e42587cfa10755be5c019a6f575baa"), looks := false }, kinds := [], alts := [], laidByText := true, laidKinds := [.data, .data, .data, .data, .pinned], laidTests := true, laidLooks := .later }
def QuotBytesUptoCardSaid : Prop := Claim7.holds Tryz.pinned (.plain (OpenSpec.upto quotBytesSpec)) quotBytesUptoCard
end Rows
end Go.Proofs.YthoaibcoklgnhaaGreatDoor
