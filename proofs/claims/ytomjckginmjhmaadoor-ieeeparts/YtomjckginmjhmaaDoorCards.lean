/-
  DERIVED. GIVEN WITH THE SEED: THE CARDS: each row of YtomjckginmjhmaaDoorRows.lean that lists a variable, with what it lists TIED to the program's text (the seventh form; the later family's looks); each row that meets fmt, with fmt's text TOLD by the authors' own Lean function (tested against real Go, not proved from fmt's source: count such statements apart). THE CARD IS WHAT COUNTS. Prove the row's statement (the work); the ties are given (YtomjckginmjhmaaDoorTie.lean); close each card by the builder's one call (the guide's Derived/Test/ToyasCard.lean, 'card_holds'). Laid BY PROGRAM, IN A SANDBOX (cutbox-door.mjs). By AI agents, Wed Nov 11 2026. No macro, syntax, notation, axiom, sorry.
-/
import Derived.Test.YtomjckginmjhmaaDoorRows
import GoSem.ClaimSeven
namespace Go.Proofs.YtomjckginmjhmaaDoor
namespace Rows

/-- THE TIED CARD OF 'cruciblelaw04.IeeeParts'. -/
def ieeePartsCard : Claim7 := { stood := { row := ieeePartsRow, standIns := [], harness := (true, "290faded425e4a88d9add1310bd9cb7f3c27bbb52ac4e2a4be8aedd99ff810ba"), looks := false }, kinds := [], alts := [], laidByText := true, laidKinds := [.data, .data], laidTests := true, laidLooks := .later }
def IeeePartsCardSaid : Prop := Claim7.holds Tryd.pinned (.plain (OpenSpec.ofChange ieeePartsSpec)) ieeePartsCard

/-- THE TIED CARD OF 'cruciblelaw04.IeeeOrders'. -/
def ieeeOrdersCard : Claim7 := { stood := { row := ieeeOrdersRow, standIns := [], harness := (true, "290faded425e4a88d9add1310bd9cb7f3c27bbb52ac4e2a4be8aedd99ff810ba"), looks := false }, kinds := [], alts := [], laidByText := true, laidKinds := [.data], laidTests := true, laidLooks := .later }
def IeeeOrdersCardSaid : Prop := Claim7.holds Tryd.pinned (.plain (OpenSpec.ofChange ieeeOrdersSpec)) ieeeOrdersCard

/-- THE TIED CARD OF 'cruciblelaw04.IeeeSteps'. -/
def ieeeStepsCard : Claim7 := { stood := { row := ieeeStepsRow, standIns := [], harness := (true, "290faded425e4a88d9add1310bd9cb7f3c27bbb52ac4e2a4be8aedd99ff810ba"), looks := false }, kinds := [], alts := [], laidByText := true, laidKinds := [.data, .data], laidTests := true, laidLooks := .later }
def IeeeStepsCardSaid : Prop := Claim7.holds Tryd.pinned (.plain (OpenSpec.ofChange ieeeStepsSpec)) ieeeStepsCard

/-- THE TIED CARD OF 'cruciblelaw04.IeeeSorted'. -/
def ieeeSortedCard : Claim7 := { stood := { row := ieeeSortedRow, standIns := [], harness := (true, "290faded425e4a88d9add1310bd9cb7f3c27bbb52ac4e2a4be8aedd99ff810ba"), looks := false }, kinds := [], alts := [], laidByText := true, laidKinds := [.data, .data], laidTests := true, laidLooks := .later }
def IeeeSortedCardSaid : Prop := Claim7.holds Tryd.pinned (.plain (OpenSpec.ofChange ieeeSortedSpec)) ieeeSortedCard

/-- THE SECOND FORM's CARD OF 'cruciblelaw04.IeeeParts'. -/
def ieeePartsUptoCard : Claim7 := { stood := { row := ieeePartsUptoRow, standIns := [], harness := (true, "290faded425e4a88d9add1310bd9cb7f3c27bbb52ac4e2a4be8aedd99ff810ba"), looks := false }, kinds := [], alts := [], laidByText := true, laidKinds := [.data, .data], laidTests := true, laidLooks := .later }
def IeeePartsUptoCardSaid : Prop := Claim7.holds Tryd.pinned (.plain (OpenSpec.upto ieeePartsSpec)) ieeePartsUptoCard

/-- THE SECOND FORM's CARD OF 'cruciblelaw04.IeeeOrders'. -/
def ieeeOrdersUptoCard : Claim7 := { stood := { row := ieeeOrdersUptoRow, standIns := [], harness := (true, "290faded425e4a88d9add1310bd9cb7f3c27bbb52ac4e2a4be8aedd99ff810ba"), looks := false }, kinds := [], alts := [], laidByText := true, laidKinds := [.data], laidTests := true, laidLooks := .later }
def IeeeOrdersUptoCardSaid : Prop := Claim7.holds Tryd.pinned (.plain (OpenSpec.upto ieeeOrdersSpec)) ieeeOrdersUptoCard

/-- THE SECOND FORM's CARD OF 'cruciblelaw04.IeeeSteps'. -/
def ieeeStepsUptoCard : Claim7 := { stood := { row := ieeeStepsUptoRow, standIns := [], harness := (true, "290faded425e4a88d9add1310bd9cb7f3c27bbb52ac4e2a4be8aedd99ff810ba"), looks := false }, kinds := [], alts := [], laidByText := true, laidKinds := [.data, .data], laidTests := true, laidLooks := .later }
def IeeeStepsUptoCardSaid : Prop := Claim7.holds Tryd.pinned (.plain (OpenSpec.upto ieeeStepsSpec)) ieeeStepsUptoCard

/-- THE SECOND FORM's CARD OF 'cruciblelaw04.IeeeSorted'. -/
def ieeeSortedUptoCard : Claim7 := { stood := { row := ieeeSortedUptoRow, standIns := [], harness := (true, "290faded425e4a88d9add1310bd9cb7f3c27bbb52ac4e2a4be8aedd99ff810ba"), looks := false }, kinds := [], alts := [], laidByText := true, laidKinds := [.data, .data], laidTests := true, laidLooks := .later }
def IeeeSortedUptoCardSaid : Prop := Claim7.holds Tryd.pinned (.plain (OpenSpec.upto ieeeSortedSpec)) ieeeSortedUptoCard
end Rows
end Go.Proofs.YtomjckginmjhmaaDoor
