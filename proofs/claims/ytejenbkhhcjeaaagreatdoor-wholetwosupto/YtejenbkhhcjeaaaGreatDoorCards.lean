/-
  DERIVED. GIVEN WITH THE SEED: THE CARDS: each row of YtejenbkhhcjeaaaGreatDoorRows.lean that lists a variable, with what it lists TIED to the program's text (the seventh form; the later family's looks); each row that meets fmt, with fmt's text TOLD by the authors' own Lean function (tested against real Go, not proved from fmt's source: count such statements apart). THE CARD IS WHAT COUNTS. Prove the row's statement (the work); the ties are given (YtejenbkhhcjeaaaGreatDoorTie.lean); close each card by the builder's one call (the guide's Derived/Test/ToyasCard.lean, 'card_holds'). Laid BY PROGRAM, IN A SANDBOX (cutbox-door.mjs). By AI agents, Wed Nov 11 2026. No macro, syntax, notation, axiom, sorry.
-/
import Derived.Test.YtejenbkhhcjeaaaGreatDoorRows
import GoSem.ClaimSeven
namespace Go.Proofs.YtejenbkhhcjeaaaGreatDoor
namespace Rows

/-- THE TIED CARD OF 'cruciblelaw03.WholeTwos'. -/
def wholeTwosCard : Claim7 := { stood := { row := wholeTwosRow, standIns := [], harness := (true, "d952e802ea3653c40351de413b604eec97d293f99e965e49eb2a81a23aed35b3"), looks := false }, kinds := [], alts := [], laidByText := true, laidKinds := [.data, .pinned], laidTests := true, laidLooks := .later }
def WholeTwosCardSaid : Prop := Claim7.holds Tryz.pinned (.plain (OpenSpec.ofChange wholeTwosSpec)) wholeTwosCard

/-- THE TIED CARD OF 'cruciblelaw03.WholeOwn'. -/
def wholeOwnCard : Claim7 := { stood := { row := wholeOwnRow, standIns := [], harness := (true, "d952e802ea3653c40351de413b604eec97d293f99e965e49eb2a81a23aed35b3"), looks := false }, kinds := [], alts := [], laidByText := true, laidKinds := [.data, .data, .data, .data, .pinned], laidTests := true, laidLooks := .later }
def WholeOwnCardSaid : Prop := Claim7.holds Tryz.pinned (.plain (OpenSpec.ofChange wholeOwnSpec)) wholeOwnCard

/-- THE SECOND FORM's CARD OF 'cruciblelaw03.WholeTwos'. -/
def wholeTwosUptoCard : Claim7 := { stood := { row := wholeTwosUptoRow, standIns := [], harness := (true, "d952e802ea3653c40351de413b604eec97d293f99e965e49eb2a81a23aed35b3"), looks := false }, kinds := [], alts := [], laidByText := true, laidKinds := [.data, .pinned], laidTests := true, laidLooks := .later }
def WholeTwosUptoCardSaid : Prop := Claim7.holds Tryz.pinned (.plain (OpenSpec.upto wholeTwosSpec)) wholeTwosUptoCard

/-- THE SECOND FORM's CARD OF 'cruciblelaw03.WholeOwn'. -/
def wholeOwnUptoCard : Claim7 := { stood := { row := wholeOwnUptoRow, standIns := [], harness := (true, "d952e802ea3653c40351de413b604eec97d293f99e965e49eb2a81a23aed35b3"), looks := false }, kinds := [], alts := [], laidByText := true, laidKinds := [.data, .data, .data, .data, .pinned], laidTests := true, laidLooks := .later }
def WholeOwnUptoCardSaid : Prop := Claim7.holds Tryz.pinned (.plain (OpenSpec.upto wholeOwnSpec)) wholeOwnUptoCard
end Rows
end Go.Proofs.YtejenbkhhcjeaaaGreatDoor
