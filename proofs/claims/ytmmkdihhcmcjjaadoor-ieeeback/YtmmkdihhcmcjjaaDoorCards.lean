/-
  DERIVED. GIVEN WITH THE SEED: THE CARDS: each row of YtmmkdihhcmcjjaaDoorRows.lean that lists a variable, with what it lists TIED to the program's text (the seventh form; the later family's looks); each row that meets fmt, with fmt's text TOLD by the authors' own Lean function (tested against real Go, not proved from fmt's source: count such statements apart). THE CARD IS WHAT COUNTS. Prove the row's statement (the work); the ties are given (YtmmkdihhcmcjjaaDoorTie.lean); close each card by the builder's one call (the guide's Derived/Test/ToyasCard.lean, 'card_holds'). Laid BY PROGRAM, IN A SANDBOX (cutbox-door.mjs). By AI agents, Wed Nov 11 2026. No macro, syntax, notation, axiom, sorry.
-/
import Derived.Test.YtmmkdihhcmcjjaaDoorRows
import GoSem.ClaimSeven
namespace Go.Proofs.YtmmkdihhcmcjjaaDoor
namespace Rows

/-- THE TIED CARD OF 'cruciblelaw04.IeeeRounds'. -/
def ieeeRoundsCard : Claim7 := { stood := { row := ieeeRoundsRow, standIns := [], harness := (true, "fa08c8db2a8462f11070fac2063591754013c2bd37c792964311d34b5d783ab6"), looks := false }, kinds := [], alts := [], laidByText := true, laidKinds := [.data], laidTests := true, laidLooks := .later }
def IeeeRoundsCardSaid : Prop := Claim7.holds Tryd.pinned (.plain (OpenSpec.ofChange ieeeRoundsSpec)) ieeeRoundsCard

/-- THE TIED CARD OF 'cruciblelaw04.IeeeWidths'. -/
def ieeeWidthsCard : Claim7 := { stood := { row := ieeeWidthsRow, standIns := [], harness := (true, "fa08c8db2a8462f11070fac2063591754013c2bd37c792964311d34b5d783ab6"), looks := false }, kinds := [], alts := [], laidByText := true, laidKinds := [.data, .data], laidTests := true, laidLooks := .later }
def IeeeWidthsCardSaid : Prop := Claim7.holds Tryd.pinned (.plain (OpenSpec.ofChange ieeeWidthsSpec)) ieeeWidthsCard

/-- THE TIED CARD OF 'cruciblelaw04.IeeeWhole'. -/
def ieeeWholeCard : Claim7 := { stood := { row := ieeeWholeRow, standIns := [], harness := (true, "fa08c8db2a8462f11070fac2063591754013c2bd37c792964311d34b5d783ab6"), looks := false }, kinds := [], alts := [], laidByText := true, laidKinds := [.data, .data], laidTests := true, laidLooks := .later }
def IeeeWholeCardSaid : Prop := Claim7.holds Tryd.pinned (.plain (OpenSpec.ofChange ieeeWholeSpec)) ieeeWholeCard

/-- THE TIED CARD OF 'cruciblelaw04.IeeeBack'. -/
def ieeeBackCard : Claim7 := { stood := { row := ieeeBackRow, standIns := [], harness := (true, "fa08c8db2a8462f11070fac2063591754013c2bd37c792964311d34b5d783ab6"), looks := false }, kinds := [], alts := [], laidByText := true, laidKinds := [.data, .data], laidTests := true, laidLooks := .later }
def IeeeBackCardSaid : Prop := Claim7.holds Tryd.pinned (.plain (OpenSpec.ofChange ieeeBackSpec)) ieeeBackCard

/-- THE TIED CARD OF 'cruciblelaw04.IeeeNearest'. -/
def ieeeNearestCard : Claim7 := { stood := { row := ieeeNearestRow, standIns := [], harness := (true, "fa08c8db2a8462f11070fac2063591754013c2bd37c792964311d34b5d783ab6"), looks := false }, kinds := [], alts := [], laidByText := true, laidKinds := [.data, .data], laidTests := true, laidLooks := .later }
def IeeeNearestCardSaid : Prop := Claim7.holds Tryd.pinned (.plain (OpenSpec.ofChange ieeeNearestSpec)) ieeeNearestCard

/-- THE TIED CARD OF 'cruciblelaw04.IeeeRises'. -/
def ieeeRisesCard : Claim7 := { stood := { row := ieeeRisesRow, standIns := [], harness := (true, "fa08c8db2a8462f11070fac2063591754013c2bd37c792964311d34b5d783ab6"), looks := false }, kinds := [], alts := [], laidByText := true, laidKinds := [.data, .data], laidTests := true, laidLooks := .later }
def IeeeRisesCardSaid : Prop := Claim7.holds Tryd.pinned (.plain (OpenSpec.ofChange ieeeRisesSpec)) ieeeRisesCard

/-- THE SECOND FORM's CARD OF 'cruciblelaw04.IeeeRounds'. -/
def ieeeRoundsUptoCard : Claim7 := { stood := { row := ieeeRoundsUptoRow, standIns := [], harness := (true, "fa08c8db2a8462f11070fac2063591754013c2bd37c792964311d34b5d783ab6"), looks := false }, kinds := [], alts := [], laidByText := true, laidKinds := [.data], laidTests := true, laidLooks := .later }
def IeeeRoundsUptoCardSaid : Prop := Claim7.holds Tryd.pinned (.plain (OpenSpec.upto ieeeRoundsSpec)) ieeeRoundsUptoCard

/-- THE SECOND FORM's CARD OF 'cruciblelaw04.IeeeWidths'. -/
def ieeeWidthsUptoCard : Claim7 := { stood := { row := ieeeWidthsUptoRow, standIns := [], harness := (true, "fa08c8db2a8462f11070fac2063591754013c2bd37c792964311d34b5d783ab6"), looks := false }, kinds := [], alts := [], laidByText := true, laidKinds := [.data, .data], laidTests := true, laidLooks := .later }
def IeeeWidthsUptoCardSaid : Prop := Claim7.holds Tryd.pinned (.plain (OpenSpec.upto ieeeWidthsSpec)) ieeeWidthsUptoCard

/-- THE SECOND FORM's CARD OF 'cruciblelaw04.IeeeWhole'. -/
def ieeeWholeUptoCard : Claim7 := { stood := { row := ieeeWholeUptoRow, standIns := [], harness := (true, "fa08c8db2a8462f11070fac2063591754013c2bd37c792964311d34b5d783ab6"), looks := false }, kinds := [], alts := [], laidByText := true, laidKinds := [.data, .data], laidTests := true, laidLooks := .later }
def IeeeWholeUptoCardSaid : Prop := Claim7.holds Tryd.pinned (.plain (OpenSpec.upto ieeeWholeSpec)) ieeeWholeUptoCard

/-- THE SECOND FORM's CARD OF 'cruciblelaw04.IeeeBack'. -/
def ieeeBackUptoCard : Claim7 := { stood := { row := ieeeBackUptoRow, standIns := [], harness := (true, "fa08c8db2a8462f11070fac2063591754013c2bd37c792964311d34b5d783ab6"), looks := false }, kinds := [], alts := [], laidByText := true, laidKinds := [.data, .data], laidTests := true, laidLooks := .later }
def IeeeBackUptoCardSaid : Prop := Claim7.holds Tryd.pinned (.plain (OpenSpec.upto ieeeBackSpec)) ieeeBackUptoCard

/-- THE SECOND FORM's CARD OF 'cruciblelaw04.IeeeNearest'. -/
def ieeeNearestUptoCard : Claim7 := { stood := { row := ieeeNearestUptoRow, standIns := [], harness := (true, "fa08c8db2a8462f11070fac2063591754013c2bd37c792964311d34b5d783ab6"), looks := false }, kinds := [], alts := [], laidByText := true, laidKinds := [.data, .data], laidTests := true, laidLooks := .later }
def IeeeNearestUptoCardSaid : Prop := Claim7.holds Tryd.pinned (.plain (OpenSpec.upto ieeeNearestSpec)) ieeeNearestUptoCard

/-- THE SECOND FORM's CARD OF 'cruciblelaw04.IeeeRises'. -/
def ieeeRisesUptoCard : Claim7 := { stood := { row := ieeeRisesUptoRow, standIns := [], harness := (true, "fa08c8db2a8462f11070fac2063591754013c2bd37c792964311d34b5d783ab6"), looks := false }, kinds := [], alts := [], laidByText := true, laidKinds := [.data, .data], laidTests := true, laidLooks := .later }
def IeeeRisesUptoCardSaid : Prop := Claim7.holds Tryd.pinned (.plain (OpenSpec.upto ieeeRisesSpec)) ieeeRisesUptoCard
end Rows
end Go.Proofs.YtmmkdihhcmcjjaaDoor
