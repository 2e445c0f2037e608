/-
  DERIVED. GIVEN WITH THE SEED: THE CARDS: each row of YtlfkfeedopgfjacDoorRows.lean that lists a variable, with what it lists TIED to the program's text (the seventh form; the later family's looks); each row that meets fmt, with fmt's text TOLD by the authors' own Lean function (tested against real Go, not proved from fmt's source: count such statements apart). THE CARD IS WHAT COUNTS. Prove the row's statement (the work); the ties are given (YtlfkfeedopgfjacDoorTie.lean); close each card by the builder's one call (the guide's Derived/Test/ToyasCard.lean, 'card_holds'). Laid BY PROGRAM, IN A SANDBOX (cutbox-door.mjs). By AI agents, Wed Nov 11 2026. No macro, syntax, notation, axiom, sorry.
-/
import Derived.Test.YtlfkfeedopgfjacDoorRows
import GoSem.ClaimSeven
namespace Go.Proofs.YtlfkfeedopgfjacDoor
namespace Rows

/-- THE TIED CARD OF 'cruciblelaw02.QuotBack'. -/
def quotBackCard : Claim7 := { stood := { row := quotBackRow, standIns := [], harness := (true, "e2bca28da11609e2c8078104835b8c5a76307dee4d0b785ae9b0b9ce1dfcd575"), looks := false }, kinds := [], alts := [], laidByText := true, laidKinds := [.data, .pinned], laidTests := true, laidLooks := .later }
def QuotBackCardSaid : Prop := Claim7.holds Tryd.pinned (.plain (OpenSpec.ofChange quotBackSpec)) quotBackCard

/-- THE TIED CARD OF 'cruciblelaw02.QuotGreatest'. -/
def quotGreatestCard : Claim7 := { stood := { row := quotGreatestRow, standIns := [], harness := (true, "e2bca28da11609e2c8078104835b8c5a76307dee4d0b785ae9b0b9ce1dfcd575"), looks := false }, kinds := [], alts := [], laidByText := true, laidKinds := [.data, .pinned], laidTests := true, laidLooks := .later }
def QuotGreatestCardSaid : Prop := Claim7.holds Tryd.pinned (.plain (OpenSpec.ofChange quotGreatestSpec)) quotGreatestCard

/-- THE TIED CARD OF 'cruciblelaw02.QuotProducts'. -/
def quotProductsCard : Claim7 := { stood := { row := quotProductsRow, standIns := [], harness := (true, "e2bca28da11609e2c8078104835b8c5a76307dee4d0b785ae9b0b9ce1dfcd575"), looks := false }, kinds := [], alts := [], laidByText := true, laidKinds := [.data, .pinned], laidTests := true, laidLooks := .later }
def QuotProductsCardSaid : Prop := Claim7.holds Tryd.pinned (.plain (OpenSpec.ofChange quotProductsSpec)) quotProductsCard

/-- THE SECOND FORM's CARD OF 'cruciblelaw02.QuotBack'. -/
def quotBackUptoCard : Claim7 := { stood := { row := quotBackUptoRow, standIns := [], harness := (true, "e2bca28da11609e2c8078104835b8c5a76307dee4d0b785ae9b0b9ce1dfcd575"), looks := false }, kinds := [], alts := [], laidByText := true, laidKinds := [.data, .pinned], laidTests := true, laidLooks := .later }
def QuotBackUptoCardSaid : Prop := Claim7.holds Tryd.pinned (.plain (OpenSpec.upto quotBackSpec)) quotBackUptoCard

/-- THE SECOND FORM's CARD OF 'cruciblelaw02.QuotGreatest'. -/
def quotGreatestUptoCard : Claim7 := { stood := { row := quotGreatestUptoRow, standIns := [], harness := (true, "e2bca28da11609e2c8078104835b8c5a76307dee4d0b785ae9b0b9ce1dfcd575"), looks := false }, kinds := [], alts := [], laidByText := true, laidKinds := [.data, .pinned], laidTests := true, laidLooks := .later }
def QuotGreatestUptoCardSaid : Prop := Claim7.holds Tryd.pinned (.plain (OpenSpec.upto quotGreatestSpec)) quotGreatestUptoCard

/-- THE SECOND FORM's CARD OF 'cruciblelaw02.QuotProducts'. -/
def quotProductsUptoCard : Claim7 := { stood := { row := quotProductsUptoRow, standIns := [], harness := (true, "e2bca28da11609e2c8078104835b8c5a76307dee4d0b785ae9b0b9ce1dfcd575"), looks := false }, kinds := [], alts := [], laidByText := true, laidKinds := [.data, .pinned], laidTests := true, laidLooks := .later }
def QuotProductsUptoCardSaid : Prop := Claim7.holds Tryd.pinned (.plain (OpenSpec.upto quotProductsSpec)) quotProductsUptoCard
end Rows
end Go.Proofs.YtlfkfeedopgfjacDoor
