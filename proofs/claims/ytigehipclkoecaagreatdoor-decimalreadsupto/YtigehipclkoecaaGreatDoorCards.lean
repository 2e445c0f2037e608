/-
  DERIVED. GIVEN WITH THE SEED: THE CARDS: each row of YtigehipclkoecaaGreatDoorRows.lean that lists a variable, with what it lists TIED to the program's text (the seventh form; the later family's looks); each row that meets fmt, with fmt's text TOLD by the authors' own Lean function (tested against real Go, not proved from fmt's source: count such statements apart). THE CARD IS WHAT COUNTS. Prove the row's statement (the work); the ties are given (YtigehipclkoecaaGreatDoorTie.lean); close each card by the builder's one call (the guide's Derived/Test/ToyasCard.lean, 'card_holds'). Laid BY PROGRAM, IN A SANDBOX (cutbox-door.mjs). By AI agents, Wed Nov 11 2026. No macro, syntax, notation, axiom, sorry.
-/
import Derived.Test.YtigehipclkoecaaGreatDoorRows
import GoSem.ClaimSeven
namespace Go.Proofs.YtigehipclkoecaaGreatDoor
namespace Rows

/-- THE TIED CARD OF 'cruciblelaw07.DecimalReads'. -/
def decimalReadsCard : Claim7 := { stood := { row := decimalReadsRow, standIns := [], harness := (true, "d0eea9882fc6347942510feafb9f00aac00f83ebc8227384d79cd60fa1adbb95"), looks := false }, kinds := [], alts := [], laidByText := true, laidKinds := [.data], laidTests := true, laidLooks := .later }
def DecimalReadsCardSaid : Prop := Claim7.holds Tryz.pinned (.plain (OpenSpec.ofChange decimalReadsSpec)) decimalReadsCard

/-- THE TIED CARD OF 'cruciblelaw07.DecimalBack'. -/
def decimalBackCard : Claim7 := { stood := { row := decimalBackRow, standIns := [], harness := (true, "d0eea9882fc6347942510feafb9f00aac00f83ebc8227384d79cd60fa1adbb95"), looks := false }, kinds := [], alts := [], laidByText := true, laidKinds := [.data, .data, .data, .pinned], laidTests := true, laidLooks := .later }
def DecimalBackCardSaid : Prop := Claim7.holds Tryz.pinned (.plain (OpenSpec.ofChange decimalBackSpec)) decimalBackCard

/-- THE TIED CARD OF 'cruciblelaw07.DecimalRises'. -/
def decimalRisesCard : Claim7 := { stood := { row := decimalRisesRow, standIns := [], harness := (true, "d0eea9882fc6347942510feafb9f00aac00f83ebc8227384d79cd60fa1adbb95"), looks := false }, kinds := [], alts := [], laidByText := true, laidKinds := [.data, .data, .data, .pinned], laidTests := true, laidLooks := .later }
def DecimalRisesCardSaid : Prop := Claim7.holds Tryz.pinned (.plain (OpenSpec.ofChange decimalRisesSpec)) decimalRisesCard

/-- THE TIED CARD OF 'cruciblelaw07.DecimalNoughts'. -/
def decimalNoughtsCard : Claim7 := { stood := { row := decimalNoughtsRow, standIns := [], harness := (true, "d0eea9882fc6347942510feafb9f00aac00f83ebc8227384d79cd60fa1adbb95"), looks := false }, kinds := [], alts := [], laidByText := true, laidKinds := [.data, .data, .data, .pinned], laidTests := true, laidLooks := .later }
def DecimalNoughtsCardSaid : Prop := Claim7.holds Tryz.pinned (.plain (OpenSpec.ofChange decimalNoughtsSpec)) decimalNoughtsCard

/-- THE SECOND FORM's CARD OF 'cruciblelaw07.DecimalReads'. -/
def decimalReadsUptoCard : Claim7 := { stood := { row := decimalReadsUptoRow, standIns := [], harness := (true, "d0eea9882fc6347942510feafb9f00aac00f83ebc8227384d79cd60fa1adbb95"), looks := false }, kinds := [], alts := [], laidByText := true, laidKinds := [.data], laidTests := true, laidLooks := .later }
def DecimalReadsUptoCardSaid : Prop := Claim7.holds Tryz.pinned (.plain (OpenSpec.upto decimalReadsSpec)) decimalReadsUptoCard

/-- THE SECOND FORM's CARD OF 'cruciblelaw07.DecimalBack'. -/
def decimalBackUptoCard : Claim7 := { stood := { row := decimalBackUptoRow, standIns := [], harness := (true, "d0eea9882fc6347942510feafb9f00aac00f83ebc8227384d79cd60fa1adbb95"), looks := false }, kinds := [], alts := [], laidByText := true, laidKinds := [.data, .data, .data, .pinned], laidTests := true, laidLooks := .later }
def DecimalBackUptoCardSaid : Prop := Claim7.holds Tryz.pinned (.plain (OpenSpec.upto decimalBackSpec)) decimalBackUptoCard

/-- THE SECOND FORM's CARD OF 'cruciblelaw07.DecimalRises'. -/
def decimalRisesUptoCard : Claim7 := { stood := { row := decimalRisesUptoRow, standIns := [], harness := (true, "d0eea9882fc6347942510feafb9f00aac00f83ebc8227384d79cd60fa1adbb95"), looks := false }, kinds := [], alts := [], laidByText := true, laidKinds := [.data, .data, .data, .pinned], laidTests := true, laidLooks := .later }
def DecimalRisesUptoCardSaid : Prop := Claim7.holds Tryz.pinned (.plain (OpenSpec.upto decimalRisesSpec)) decimalRisesUptoCard

/-- THE SECOND FORM's CARD OF 'cruciblelaw07.DecimalNoughts'. -/
def decimalNoughtsUptoCard : Claim7 := { stood := { row := decimalNoughtsUptoRow, standIns := [], harness := (true, "d0eea9882fc6347942510feafb9f00aac00f83ebc8227384d79cd60fa1adbb95"), looks := false }, kinds := [], alts := [], laidByText := true, laidKinds := [.data, .data, .data, .pinned], laidTests := true, laidLooks := .later }
def DecimalNoughtsUptoCardSaid : Prop := Claim7.holds Tryz.pinned (.plain (OpenSpec.upto decimalNoughtsSpec)) decimalNoughtsUptoCard
end Rows
end Go.Proofs.YtigehipclkoecaaGreatDoor
