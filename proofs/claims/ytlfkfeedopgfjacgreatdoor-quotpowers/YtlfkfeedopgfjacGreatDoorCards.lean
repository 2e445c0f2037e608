/-
  DERIVED. GIVEN WITH THE SEED: THE CARDS: each row of YtlfkfeedopgfjacGreatDoorRows.lean that lists a variable, with what it lists TIED to the program's text (the seventh form; the later family's looks); each row that meets fmt, with fmt's text TOLD by the authors' own Lean function (tested against real Go, not proved from fmt's source: count such statements apart). THE CARD IS WHAT COUNTS. Prove the row's statement (the work); the ties are given (YtlfkfeedopgfjacGreatDoorTie.lean); close each card by the builder's one call (the guide's Derived/Test/ToyasCard.lean, 'card_holds'). Laid BY PROGRAM, IN A SANDBOX (cutbox-door.mjs). By AI agents, Wed Nov 11 2026. No macro, syntax, notation, axiom, sorry.
-/
import Derived.Test.YtlfkfeedopgfjacGreatDoorRows
import GoSem.ClaimSeven
namespace Go.Proofs.YtlfkfeedopgfjacGreatDoor
namespace Rows

/-- THE TIED CARD OF 'cruciblelaw02.QuotPowers'. -/
def quotPowersCard : Claim7 := { stood := { row := quotPowersRow, standIns := [], harness := (true, "1bf16771389c044e91105d30ac80fe8ab4d864f9f3990581d56cf20fd5550d9a"), looks := false }, kinds := [], alts := [], laidByText := true, laidKinds := [.data, .data, .data, .data, .pinned], laidTests := true, laidLooks := .later }
def QuotPowersCardSaid : Prop := Claim7.holds Tryz.pinned (.plain (OpenSpec.ofChange quotPowersSpec)) quotPowersCard

/-- THE TIED CARD OF 'cruciblelaw02.QuotDigits'. -/
def quotDigitsCard : Claim7 := { stood := { row := quotDigitsRow, standIns := [], harness := (true, "1bf16771389c044e91105d30ac80fe8ab4d864f9f3990581d56cf20fd5550d9a"), looks := false }, kinds := [], alts := [], laidByText := true, laidKinds := [.data, .data, .data, .data, .pinned], laidTests := true, laidLooks := .later }
def QuotDigitsCardSaid : Prop := Claim7.holds Tryz.pinned (.plain (OpenSpec.ofChange quotDigitsSpec)) quotDigitsCard

/-- THE TIED CARD OF 'cruciblelaw02.QuotBytes'. -/
def quotBytesCard : Claim7 := { stood := { row := quotBytesRow, standIns := [], harness := (true, "1bf16771389c044e91105d30ac80fe8ab4d864f9f3990581d56cf20fd5550d9a"), looks := false }, kinds := [], alts := [], laidByText := true, laidKinds := [.data, .data, .data, .data, .pinned], laidTests := true, laidLooks := .later }
def QuotBytesCardSaid : Prop := Claim7.holds Tryz.pinned (.plain (OpenSpec.ofChange quotBytesSpec)) quotBytesCard

/-- THE SECOND FORM's CARD OF 'cruciblelaw02.QuotPowers'. -/
def quotPowersUptoCard : Claim7 := { stood := { row := quotPowersUptoRow, standIns := [], harness := (true, "1bf16771389c044e91105d30ac80fe8ab4d864f9f3990581d56cf20fd5550d9a"), looks := false }, kinds := [], alts := [], laidByText := true, laidKinds := [.data, .data, .data, .data, .pinned], laidTests := true, laidLooks := .later }
def QuotPowersUptoCardSaid : Prop := Claim7.holds Tryz.pinned (.plain (OpenSpec.upto quotPowersSpec)) quotPowersUptoCard

/-- THE SECOND FORM's CARD OF 'cruciblelaw02.QuotDigits'. -/
def quotDigitsUptoCard : Claim7 := { stood := { row := quotDigitsUptoRow, standIns := [], harness := (true, "1bf16771389c044e91105d30ac80fe8ab4d864f9f3990581d56cf20fd5550d9a"), looks := false }, kinds := [], alts := [], laidByText := true, laidKinds := [.data, .data, .data, .data, .pinned], laidTests := true, laidLooks := .later }
def QuotDigitsUptoCardSaid : Prop := Claim7.holds Tryz.pinned (.plain (OpenSpec.upto quotDigitsSpec)) quotDigitsUptoCard

/-- THE SECOND FORM's CARD OF 'cruciblelaw02.QuotBytes'. -/
def quotBytesUptoCard : Claim7 := { stood := { row := quotBytesUptoRow, standIns := [], harness := (true, "1bf16771389c044e91105d30ac80fe8ab4d864f9f3990581d56cf20fd5550d9a"), looks := false }, kinds := [], alts := [], laidByText := true, laidKinds := [.data, .data, .data, .data, .pinned], laidTests := true, laidLooks := .later }
def QuotBytesUptoCardSaid : Prop := Claim7.holds Tryz.pinned (.plain (OpenSpec.upto quotBytesSpec)) quotBytesUptoCard
end Rows
end Go.Proofs.YtlfkfeedopgfjacGreatDoor
