/-
  DERIVED. GIVEN WITH THE SEED: THE CARDS: each row of YtefmlajndillbaaDoorRows.lean that lists a variable, with what it lists TIED to the program's text (the seventh form; the later family's looks); each row that meets fmt, with fmt's text TOLD by the authors' own Lean function (tested against real Go, not proved from fmt's source: count such statements apart). THE CARD IS WHAT COUNTS. Prove the row's statement (the work); the ties are given (YtefmlajndillbaaDoorTie.lean); close each card by the builder's one call (the guide's Derived/Test/ToyasCard.lean, 'card_holds'). Laid BY PROGRAM, IN A SANDBOX (cutbox-door.mjs). By AI agents, Wed Nov 11 2026. No macro, syntax, notation, axiom, sorry.
-/
import Derived.Test.YtefmlajndillbaaDoorRows
import GoSem.ClaimSeven
namespace Go.Proofs.YtefmlajndillbaaDoor
namespace Rows

/-- THE TIED CARD OF 'cruciblelaw16.JsonscanCuts'. -/
def jsonscanCutsCard : Claim7 := { stood := { row := jsonscanCutsRow, standIns := [], harness := (true, "af4dd95f17e5494fbd1cd24aa7e149246751abf777c4af27404f6080104c4047"), looks := true }, kinds := [], alts := [], laidByText := true, laidKinds := [.handle, .sentinel, .sentinel, .sentinel, .sentinel, .sentinel, .sentinel, .sentinel, .sentinel, .sentinel, .sentinel, .sentinel], laidTests := true, laidLooks := .later }
def JsonscanCutsCardSaid : Prop := Claim7.holds Tryd.pinned (.plain (OpenSpec.ofChange jsonscanCutsSpec)) jsonscanCutsCard

/-- THE TIED CARD OF 'cruciblelaw16.JsonscanGoes'. -/
def jsonscanGoesCard : Claim7 := { stood := { row := jsonscanGoesRow, standIns := [], harness := (true, "af4dd95f17e5494fbd1cd24aa7e149246751abf777c4af27404f6080104c4047"), looks := true }, kinds := [], alts := [], laidByText := true, laidKinds := [.handle, .sentinel, .sentinel, .sentinel, .sentinel, .sentinel, .sentinel, .sentinel, .sentinel, .sentinel, .sentinel, .sentinel], laidTests := true, laidLooks := .later }
def JsonscanGoesCardSaid : Prop := Claim7.holds Tryd.pinned (.plain (OpenSpec.ofChange jsonscanGoesSpec)) jsonscanGoesCard

/-- THE TIED CARD OF 'cruciblelaw16.JsonscanDeep'. -/
def jsonscanDeepCard : Claim7 := { stood := { row := jsonscanDeepRow, standIns := [], harness := (true, "af4dd95f17e5494fbd1cd24aa7e149246751abf777c4af27404f6080104c4047"), looks := true }, kinds := [], alts := [], laidByText := true, laidKinds := [.handle, .sentinel, .sentinel, .sentinel, .sentinel, .sentinel, .sentinel, .sentinel, .sentinel, .sentinel, .sentinel, .sentinel], laidTests := true, laidLooks := .later }
def JsonscanDeepCardSaid : Prop := Claim7.holds Tryd.pinned (.plain (OpenSpec.ofChange jsonscanDeepSpec)) jsonscanDeepCard

/-- THE SECOND FORM's CARD OF 'cruciblelaw16.JsonscanCuts'. -/
def jsonscanCutsUptoCard : Claim7 := { stood := { row := jsonscanCutsUptoRow, standIns := [], harness := (true, "af4dd95f17e5494fbd1cd24aa7e149246751abf777c4af27404f6080104c4047"), looks := true }, kinds := [], alts := [], laidByText := true, laidKinds := [.handle, .sentinel, .sentinel, .sentinel, .sentinel, .sentinel, .sentinel, .sentinel, .sentinel, .sentinel, .sentinel, .sentinel], laidTests := true, laidLooks := .later }
def JsonscanCutsUptoCardSaid : Prop := Claim7.holds Tryd.pinned (.plain (OpenSpec.upto jsonscanCutsSpec)) jsonscanCutsUptoCard

/-- THE SECOND FORM's CARD OF 'cruciblelaw16.JsonscanGoes'. -/
def jsonscanGoesUptoCard : Claim7 := { stood := { row := jsonscanGoesUptoRow, standIns := [], harness := (true, "af4dd95f17e5494fbd1cd24aa7e149246751abf777c4af27404f6080104c4047"), looks := true }, kinds := [], alts := [], laidByText := true, laidKinds := [.handle, .sentinel, .sentinel, .sentinel, .sentinel, .sentinel, .sentinel, .sentinel, .sentinel, .sentinel, .sentinel, .sentinel], laidTests := true, laidLooks := .later }
def JsonscanGoesUptoCardSaid : Prop := Claim7.holds Tryd.pinned (.plain (OpenSpec.upto jsonscanGoesSpec)) jsonscanGoesUptoCard

/-- THE SECOND FORM's CARD OF 'cruciblelaw16.JsonscanDeep'. -/
def jsonscanDeepUptoCard : Claim7 := { stood := { row := jsonscanDeepUptoRow, standIns := [], harness := (true, "af4dd95f17e5494fbd1cd24aa7e149246751abf777c4af27404f6080104c4047"), looks := true }, kinds := [], alts := [], laidByText := true, laidKinds := [.handle, .sentinel, .sentinel, .sentinel, .sentinel, .sentinel, .sentinel, .sentinel, .sentinel, .sentinel, .sentinel, .sentinel], laidTests := true, laidLooks := .later }
def JsonscanDeepUptoCardSaid : Prop := Claim7.holds Tryd.pinned (.plain (OpenSpec.upto jsonscanDeepSpec)) jsonscanDeepUptoCard
end Rows
end Go.Proofs.YtefmlajndillbaaDoor
