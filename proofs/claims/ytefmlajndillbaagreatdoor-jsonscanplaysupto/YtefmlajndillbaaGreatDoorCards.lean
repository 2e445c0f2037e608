/-
  DERIVED. GIVEN WITH THE SEED: THE CARDS: each row of YtefmlajndillbaaGreatDoorRows.lean that lists a variable, with what it lists TIED to the program's text (the seventh form; the later family's looks); each row that meets fmt, with fmt's text TOLD by the authors' own Lean function (tested against real Go, not proved from fmt's source: count such statements apart). THE CARD IS WHAT COUNTS. Prove the row's statement (the work); the ties are given (YtefmlajndillbaaGreatDoorTie.lean); close each card by the builder's one call (the guide's Derived/Test/ToyasCard.lean, 'card_holds'). Laid BY PROGRAM, IN A SANDBOX (cutbox-door.mjs). By AI agents, Wed Nov 11 2026. No macro, syntax, notation, axiom, sorry.
-/
import Derived.Test.YtefmlajndillbaaGreatDoorRows
import GoSem.ClaimSeven
namespace Go.Proofs.YtefmlajndillbaaGreatDoor
namespace Rows

/-- THE TIED CARD OF 'cruciblelaw16.JsonscanPlays'. -/
def jsonscanPlaysCard : Claim7 := { stood := { row := jsonscanPlaysRow, standIns := [], harness := (true, "7c9611ae81160e09e773be933020c4ed83fdfde77332f4e55509a9605840dfe0"), looks := true }, kinds := [], alts := [], laidByText := true, laidKinds := [.handle, .sentinel, .sentinel, .sentinel, .sentinel, .sentinel, .sentinel, .sentinel, .sentinel, .sentinel, .sentinel, .sentinel], laidTests := true, laidLooks := .later }
def JsonscanPlaysCardSaid : Prop := Claim7.holds Tryz.pinned (.plain (OpenSpec.ofChange jsonscanPlaysSpec)) jsonscanPlaysCard

/-- THE TIED CARD OF 'cruciblelaw16.JsonscanNone'. -/
def jsonscanNoneCard : Claim7 := { stood := { row := jsonscanNoneRow, standIns := [], harness := (true, "7c9611ae81160e09e773be933020c4ed83fdfde77332f4e55509a9605840dfe0"), looks := true }, kinds := [], alts := [], laidByText := true, laidKinds := [.handle, .sentinel, .sentinel, .sentinel, .sentinel, .sentinel, .sentinel, .sentinel, .sentinel, .sentinel, .sentinel, .sentinel], laidTests := true, laidLooks := .later }
def JsonscanNoneCardSaid : Prop := Claim7.holds Tryz.pinned (.plain (OpenSpec.ofChange jsonscanNoneSpec)) jsonscanNoneCard

/-- THE TIED CARD OF 'cruciblelaw16.JsonscanTells'. -/
def jsonscanTellsCard : Claim7 := { stood := { row := jsonscanTellsRow, standIns := [], harness := (true, "7c9611ae81160e09e773be933020c4ed83fdfde77332f4e55509a9605840dfe0"), looks := true }, kinds := [], alts := [], laidByText := true, laidKinds := [.handle, .sentinel, .sentinel, .sentinel, .sentinel, .sentinel, .sentinel, .sentinel, .sentinel, .sentinel, .sentinel, .sentinel], laidTests := true, laidLooks := .later }
def JsonscanTellsCardSaid : Prop := Claim7.holds Tryz.pinned (.plain (OpenSpec.ofChange jsonscanTellsSpec)) jsonscanTellsCard

/-- THE SECOND FORM's CARD OF 'cruciblelaw16.JsonscanPlays'. -/
def jsonscanPlaysUptoCard : Claim7 := { stood := { row := jsonscanPlaysUptoRow, standIns := [], harness := (true, "7c9611ae81160e09e773be933020c4ed83fdfde77332f4e55509a9605840dfe0"), looks := true }, kinds := [], alts := [], laidByText := true, laidKinds := [.handle, .sentinel, .sentinel, .sentinel, .sentinel, .sentinel, .sentinel, .sentinel, .sentinel, .sentinel, .sentinel, .sentinel], laidTests := true, laidLooks := .later }
def JsonscanPlaysUptoCardSaid : Prop := Claim7.holds Tryz.pinned (.plain (OpenSpec.upto jsonscanPlaysSpec)) jsonscanPlaysUptoCard

/-- THE SECOND FORM's CARD OF 'cruciblelaw16.JsonscanNone'. -/
def jsonscanNoneUptoCard : Claim7 := { stood := { row := jsonscanNoneUptoRow, standIns := [], harness := (true, "7c9611ae81160e09e773be933020c4ed83fdfde77332f4e55509a9605840dfe0"), looks := true }, kinds := [], alts := [], laidByText := true, laidKinds := [.handle, .sentinel, .sentinel, .sentinel, .sentinel, .sentinel, .sentinel, .sentinel, .sentinel, .sentinel, .sentinel, .sentinel], laidTests := true, laidLooks := .later }
def JsonscanNoneUptoCardSaid : Prop := Claim7.holds Tryz.pinned (.plain (OpenSpec.upto jsonscanNoneSpec)) jsonscanNoneUptoCard

/-- THE SECOND FORM's CARD OF 'cruciblelaw16.JsonscanTells'. -/
def jsonscanTellsUptoCard : Claim7 := { stood := { row := jsonscanTellsUptoRow, standIns := [], harness := (true, "7c9611ae81160e09e773be933020c4ed83fdfde77332f4e55509a9605840dfe0"), looks := true }, kinds := [], alts := [], laidByText := true, laidKinds := [.handle, .sentinel, .sentinel, .sentinel, .sentinel, .sentinel, .sentinel, .sentinel, .sentinel, .sentinel, .sentinel, .sentinel], laidTests := true, laidLooks := .later }
def JsonscanTellsUptoCardSaid : Prop := Claim7.holds Tryz.pinned (.plain (OpenSpec.upto jsonscanTellsSpec)) jsonscanTellsUptoCard
end Rows
end Go.Proofs.YtefmlajndillbaaGreatDoor
