/-
  DERIVED. GIVEN WITH THE SEED: THE CARDS: each row of YtigehipclkoecabGreatDoorRows.lean that lists a variable, with what it lists TIED to the program's text (the seventh form; the later family's looks); each row that meets fmt, with fmt's text TOLD by the authors' own Lean function (tested against real Go, not proved from fmt's source: count such statements apart). THE CARD IS WHAT COUNTS. Prove the row's statement (the work); the ties are given (YtigehipclkoecabGreatDoorTie.lean); close each card by the builder's one call (the guide's Derived/Test/ToyasCard.lean, 'card_holds'). Laid BY PROGRAM, IN A SANDBOX (cutbox-door.mjs). By AI agents, Wed Nov 11 2026. No macro, syntax, notation, axiom, sorry.
-/
import Derived.Test.YtigehipclkoecabGreatDoorRows
import GoSem.ClaimSeven
namespace Go.Proofs.YtigehipclkoecabGreatDoor
namespace Rows

/-- THE TIED CARD OF 'cruciblelaw07.DecimalSorted'. -/
def decimalSortedCard : Claim7 := { stood := { row := decimalSortedRow, standIns := [], harness := (true, "c6a23630037337e4a1947bd07f0e41fe19f523002455975fdde74186d6bdaedf"), looks := false }, kinds := [], alts := [], laidByText := true, laidKinds := [.data, .data, .data, .pinned], laidTests := true, laidLooks := .later }
def DecimalSortedCardSaid : Prop := Claim7.holds Tryz.pinned (.plain (OpenSpec.ofChange decimalSortedSpec)) decimalSortedCard

/-- THE TIED CARD OF 'cruciblelaw07.DecimalAgrees'. -/
def decimalAgreesCard : Claim7 := { stood := { row := decimalAgreesRow, standIns := [], harness := (true, "c6a23630037337e4a1947bd07f0e41fe19f523002455975fdde74186d6bdaedf"), looks := false }, kinds := [], alts := [], laidByText := true, laidKinds := [.data, .data, .data, .pinned], laidTests := true, laidLooks := .later }
def DecimalAgreesCardSaid : Prop := Claim7.holds Tryz.pinned (.plain (OpenSpec.ofChange decimalAgreesSpec)) decimalAgreesCard

/-- THE TIED CARD OF 'cruciblelaw07.DecimalBehind'. -/
def decimalBehindCard : Claim7 := { stood := { row := decimalBehindRow, standIns := [], harness := (true, "c6a23630037337e4a1947bd07f0e41fe19f523002455975fdde74186d6bdaedf"), looks := false }, kinds := [], alts := [], laidByText := true, laidKinds := [.data, .data, .data, .pinned], laidTests := true, laidLooks := .later }
def DecimalBehindCardSaid : Prop := Claim7.holds Tryz.pinned (.plain (OpenSpec.ofChange decimalBehindSpec)) decimalBehindCard

/-- THE TIED CARD OF 'cruciblelaw07.DecimalNearest'. -/
def decimalNearestCard : Claim7 := { stood := { row := decimalNearestRow, standIns := [], harness := (true, "c6a23630037337e4a1947bd07f0e41fe19f523002455975fdde74186d6bdaedf"), looks := false }, kinds := [], alts := [], laidByText := true, laidKinds := [.data, .data, .data, .pinned], laidTests := true, laidLooks := .later }
def DecimalNearestCardSaid : Prop := Claim7.holds Tryz.pinned (.plain (OpenSpec.ofChange decimalNearestSpec)) decimalNearestCard

/-- THE SECOND FORM's CARD OF 'cruciblelaw07.DecimalSorted'. -/
def decimalSortedUptoCard : Claim7 := { stood := { row := decimalSortedUptoRow, standIns := [], harness := (true, "c6a23630037337e4a1947bd07f0e41fe19f523002455975fdde74186d6bdaedf"), looks := false }, kinds := [], alts := [], laidByText := true, laidKinds := [.data, .data, .data, .pinned], laidTests := true, laidLooks := .later }
def DecimalSortedUptoCardSaid : Prop := Claim7.holds Tryz.pinned (.plain (OpenSpec.upto decimalSortedSpec)) decimalSortedUptoCard

/-- THE SECOND FORM's CARD OF 'cruciblelaw07.DecimalAgrees'. -/
def decimalAgreesUptoCard : Claim7 := { stood := { row := decimalAgreesUptoRow, standIns := [], harness := (true, "c6a23630037337e4a1947bd07f0e41fe19f523002455975fdde74186d6bdaedf"), looks := false }, kinds := [], alts := [], laidByText := true, laidKinds := [.data, .data, .data, .pinned], laidTests := true, laidLooks := .later }
def DecimalAgreesUptoCardSaid : Prop := Claim7.holds Tryz.pinned (.plain (OpenSpec.upto decimalAgreesSpec)) decimalAgreesUptoCard

/-- THE SECOND FORM's CARD OF 'cruciblelaw07.DecimalBehind'. -/
def decimalBehindUptoCard : Claim7 := { stood := { row := decimalBehindUptoRow, standIns := [], harness := (true, "c6a23630037337e4a1947bd07f0e41fe19f523002455975fdde74186d6bdaedf"), looks := false }, kinds := [], alts := [], laidByText := true, laidKinds := [.data, .data, .data, .pinned], laidTests := true, laidLooks := .later }
def DecimalBehindUptoCardSaid : Prop := Claim7.holds Tryz.pinned (.plain (OpenSpec.upto decimalBehindSpec)) decimalBehindUptoCard

/-- THE SECOND FORM's CARD OF 'cruciblelaw07.DecimalNearest'. -/
def decimalNearestUptoCard : Claim7 := { stood := { row := decimalNearestUptoRow, standIns := [], harness := (true, "c6a23630037337e4a1947bd07f0e41fe19f523002455975fdde74186d6bdaedf"), looks := false }, kinds := [], alts := [], laidByText := true, laidKinds := [.data, .data, .data, .pinned], laidTests := true, laidLooks := .later }
def DecimalNearestUptoCardSaid : Prop := Claim7.holds Tryz.pinned (.plain (OpenSpec.upto decimalNearestSpec)) decimalNearestUptoCard
end Rows
end Go.Proofs.YtigehipclkoecabGreatDoor
