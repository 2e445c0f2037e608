/-
  DERIVED. GIVEN WITH THE SEED: THE CARDS: each row of YtfnfnkakaggmbabGreatDoorRows.lean that lists a variable, with what it lists TIED to the program's text (the seventh form; the later family's looks); each row that meets fmt, with fmt's text TOLD by the authors' own Lean function (tested against real Go, not proved from fmt's source: count such statements apart). THE CARD IS WHAT COUNTS. Prove the row's statement (the work); the ties are given (YtfnfnkakaggmbabGreatDoorTie.lean); close each card by the builder's one call (the guide's Derived/Test/ToyasCard.lean, 'card_holds'). Laid BY PROGRAM, IN A SANDBOX (cutbox-door.mjs). By AI agents, Wed Nov 11 2026. No macro, syntax, notation, axiom, sorry.
-/
import Derived.Test.YtfnfnkakaggmbabGreatDoorRows
import GoSem.ClaimSeven
namespace Go.Proofs.YtfnfnkakaggmbabGreatDoor
namespace Rows

/-- THE TIED CARD OF 'cruciblelaw08.EcmaTwice'. -/
def ecmaTwiceCard : Claim7 := { stood := { row := ecmaTwiceRow, standIns := [], harness := (true, "7dde3b90b6eb2a7e608ea63724855e6f6873be439b1c52ea9aaa8eecc6927c5f"), looks := true }, kinds := [], alts := [], laidByText := true, laidKinds := [.data, .data, .data, .handle, .sentinel, .sentinel, .sentinel, .sentinel, .sentinel, .sentinel, .sentinel, .sentinel, .sentinel, .sentinel, .sentinel, .data], laidTests := true, laidLooks := .later }
def EcmaTwiceCardSaid : Prop := Claim7.holds Tryz.pinned (.plain (OpenSpec.ofChange ecmaTwiceSpec)) ecmaTwiceCard

/-- THE TIED CARD OF 'crucibletop.TopShown'. -/
def topShownCard : Claim7 := { stood := { row := topShownRow, standIns := [], harness := (true, "7dde3b90b6eb2a7e608ea63724855e6f6873be439b1c52ea9aaa8eecc6927c5f"), looks := true }, kinds := [], alts := [], laidByText := true, laidKinds := [.data, .data, .data, .data, .sentinel, .data, .pinned], laidTests := true, laidLooks := .later }
def TopShownCardSaid : Prop := Claim7.holds Tryz.pinned (.plain (OpenSpec.ofChange topShownSpec)) topShownCard

/-- THE TIED CARD OF 'crucibletop.TopNumber'. -/
def topNumberCard : Claim7 := { stood := { row := topNumberRow, standIns := [], harness := (true, "7dde3b90b6eb2a7e608ea63724855e6f6873be439b1c52ea9aaa8eecc6927c5f"), looks := true }, kinds := [], alts := [], laidByText := true, laidKinds := [.data, .data, .data, .sentinel, .data], laidTests := true, laidLooks := .later }
def TopNumberCardSaid : Prop := Claim7.holds Tryz.pinned (.plain (OpenSpec.ofChange topNumberSpec)) topNumberCard

/-- THE TIED CARD OF 'crucibletop.TopNearest'. -/
def topNearestCard : Claim7 := { stood := { row := topNearestRow, standIns := [], harness := (true, "7dde3b90b6eb2a7e608ea63724855e6f6873be439b1c52ea9aaa8eecc6927c5f"), looks := true }, kinds := [], alts := [], laidByText := true, laidKinds := [.data, .data, .data, .data, .sentinel, .data, .pinned], laidTests := true, laidLooks := .later }
def TopNearestCardSaid : Prop := Claim7.holds Tryz.pinned (.plain (OpenSpec.ofChange topNearestSpec)) topNearestCard

/-- THE SECOND FORM's CARD OF 'cruciblelaw08.EcmaTwice'. -/
def ecmaTwiceUptoCard : Claim7 := { stood := { row := ecmaTwiceUptoRow, standIns := [], harness := (true, "7dde3b90b6eb2a7e608ea63724855e6f6873be439b1c52ea9aaa8eecc6927c5f"), looks := true }, kinds := [], alts := [], laidByText := true, laidKinds := [.data, .data, .data, .handle, .sentinel, .sentinel, .sentinel, .sentinel, .sentinel, .sentinel, .sentinel, .sentinel, .sentinel, .sentinel, .sentinel, .data], laidTests := true, laidLooks := .later }
def EcmaTwiceUptoCardSaid : Prop := Claim7.holds Tryz.pinned (.plain (OpenSpec.upto ecmaTwiceSpec)) ecmaTwiceUptoCard

/-- THE SECOND FORM's CARD OF 'crucibletop.TopShown'. -/
def topShownUptoCard : Claim7 := { stood := { row := topShownUptoRow, standIns := [], harness := (true, "7dde3b90b6eb2a7e608ea63724855e6f6873be439b1c52ea9aaa8eecc6927c5f"), looks := true }, kinds := [], alts := [], laidByText := true, laidKinds := [.data, .data, .data, .data, .sentinel, .data, .pinned], laidTests := true, laidLooks := .later }
def TopShownUptoCardSaid : Prop := Claim7.holds Tryz.pinned (.plain (OpenSpec.upto topShownSpec)) topShownUptoCard

/-- THE SECOND FORM's CARD OF 'crucibletop.TopNumber'. -/
def topNumberUptoCard : Claim7 := { stood := { row := topNumberUptoRow, standIns := [], harness := (true, "7dde3b90b6eb2a7e608ea63724855e6f6873be439b1c52ea9aaa8eecc6927c5f"), looks := true }, kinds := [], alts := [], laidByText := true, laidKinds := [.data, .data, .data, .sentinel, .data], laidTests := true, laidLooks := .later }
def TopNumberUptoCardSaid : Prop := Claim7.holds Tryz.pinned (.plain (OpenSpec.upto topNumberSpec)) topNumberUptoCard

/-- THE SECOND FORM's CARD OF 'crucibletop.TopNearest'. -/
def topNearestUptoCard : Claim7 := { stood := { row := topNearestUptoRow, standIns := [], harness := (true, "7dde3b90b6eb2a7e608ea63724855e6f6873be439b1c52ea9aaa8eecc6927c5f"), looks := true }, kinds := [], alts := [], laidByText := true, laidKinds := [.data, .data, .data, .data, .sentinel, .data, .pinned], laidTests := true, laidLooks := .later }
def TopNearestUptoCardSaid : Prop := Claim7.holds Tryz.pinned (.plain (OpenSpec.upto topNearestSpec)) topNearestUptoCard
end Rows
end Go.Proofs.YtfnfnkakaggmbabGreatDoor
