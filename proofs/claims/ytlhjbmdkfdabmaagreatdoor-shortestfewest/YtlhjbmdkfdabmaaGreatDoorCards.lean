/-
  DERIVED. GIVEN WITH THE SEED: THE CARDS: each row of YtlhjbmdkfdabmaaGreatDoorRows.lean that lists a variable, with what it lists TIED to the program's text (the seventh form; the later family's looks); each row that meets fmt, with fmt's text TOLD by the authors' own Lean function (tested against real Go, not proved from fmt's source: count such statements apart). THE CARD IS WHAT COUNTS. Prove the row's statement (the work); the ties are given (YtlhjbmdkfdabmaaGreatDoorTie.lean); close each card by the builder's one call (the guide's Derived/Test/ToyasCard.lean, 'card_holds'). Laid BY PROGRAM, IN A SANDBOX (cutbox-door.mjs). By AI agents, Wed Nov 11 2026. No macro, syntax, notation, axiom, sorry.
-/
import Derived.Test.YtlhjbmdkfdabmaaGreatDoorRows
import GoSem.ClaimSeven
namespace Go.Proofs.YtlhjbmdkfdabmaaGreatDoor
namespace Rows

/-- THE TIED CARD OF 'cruciblelaw06.ShortestOf32'. -/
def shortestOf32Card : Claim7 := { stood := { row := shortestOf32Row, standIns := [], harness := (true, "7b1121793fcd9754c290bacd3bbbcaa8cd3a4902f163db85dc74c4d6f138103e"), looks := false }, kinds := [], alts := [], laidByText := true, laidKinds := [.data, .data], laidTests := true, laidLooks := .later }
def ShortestOf32CardSaid : Prop := Claim7.holds Tryz.pinned (.plain (OpenSpec.ofChange shortestOf32Spec)) shortestOf32Card

/-- THE TIED CARD OF 'cruciblelaw06.ShortestOf16'. -/
def shortestOf16Card : Claim7 := { stood := { row := shortestOf16Row, standIns := [], harness := (true, "7b1121793fcd9754c290bacd3bbbcaa8cd3a4902f163db85dc74c4d6f138103e"), looks := false }, kinds := [], alts := [], laidByText := true, laidKinds := [.data, .data], laidTests := true, laidLooks := .later }
def ShortestOf16CardSaid : Prop := Claim7.holds Tryz.pinned (.plain (OpenSpec.ofChange shortestOf16Spec)) shortestOf16Card

/-- THE TIED CARD OF 'cruciblelaw06.ShortestReads'. -/
def shortestReadsCard : Claim7 := { stood := { row := shortestReadsRow, standIns := [], harness := (true, "7b1121793fcd9754c290bacd3bbbcaa8cd3a4902f163db85dc74c4d6f138103e"), looks := false }, kinds := [], alts := [], laidByText := true, laidKinds := [.data, .data], laidTests := true, laidLooks := .later }
def ShortestReadsCardSaid : Prop := Claim7.holds Tryz.pinned (.plain (OpenSpec.ofChange shortestReadsSpec)) shortestReadsCard

/-- THE TIED CARD OF 'cruciblelaw06.ShortestFewest'. -/
def shortestFewestCard : Claim7 := { stood := { row := shortestFewestRow, standIns := [], harness := (true, "7b1121793fcd9754c290bacd3bbbcaa8cd3a4902f163db85dc74c4d6f138103e"), looks := false }, kinds := [], alts := [], laidByText := true, laidKinds := [.data, .data], laidTests := true, laidLooks := .later }
def ShortestFewestCardSaid : Prop := Claim7.holds Tryz.pinned (.plain (OpenSpec.ofChange shortestFewestSpec)) shortestFewestCard

/-- THE SECOND FORM's CARD OF 'cruciblelaw06.ShortestOf32'. -/
def shortestOf32UptoCard : Claim7 := { stood := { row := shortestOf32UptoRow, standIns := [], harness := (true, "7b1121793fcd9754c290bacd3bbbcaa8cd3a4902f163db85dc74c4d6f138103e"), looks := false }, kinds := [], alts := [], laidByText := true, laidKinds := [.data, .data], laidTests := true, laidLooks := .later }
def ShortestOf32UptoCardSaid : Prop := Claim7.holds Tryz.pinned (.plain (OpenSpec.upto shortestOf32Spec)) shortestOf32UptoCard

/-- THE SECOND FORM's CARD OF 'cruciblelaw06.ShortestOf16'. -/
def shortestOf16UptoCard : Claim7 := { stood := { row := shortestOf16UptoRow, standIns := [], harness := (true, "7b1121793fcd9754c290bacd3bbbcaa8cd3a4902f163db85dc74c4d6f138103e"), looks := false }, kinds := [], alts := [], laidByText := true, laidKinds := [.data, .data], laidTests := true, laidLooks := .later }
def ShortestOf16UptoCardSaid : Prop := Claim7.holds Tryz.pinned (.plain (OpenSpec.upto shortestOf16Spec)) shortestOf16UptoCard

/-- THE SECOND FORM's CARD OF 'cruciblelaw06.ShortestReads'. -/
def shortestReadsUptoCard : Claim7 := { stood := { row := shortestReadsUptoRow, standIns := [], harness := (true, "7b1121793fcd9754c290bacd3bbbcaa8cd3a4902f163db85dc74c4d6f138103e"), looks := false }, kinds := [], alts := [], laidByText := true, laidKinds := [.data, .data], laidTests := true, laidLooks := .later }
def ShortestReadsUptoCardSaid : Prop := Claim7.holds Tryz.pinned (.plain (OpenSpec.upto shortestReadsSpec)) shortestReadsUptoCard

/-- THE SECOND FORM's CARD OF 'cruciblelaw06.ShortestFewest'. -/
def shortestFewestUptoCard : Claim7 := { stood := { row := shortestFewestUptoRow, standIns := [], harness := (true, "7b1121793fcd9754c290bacd3bbbcaa8cd3a4902f163db85dc74c4d6f138103e"), looks := false }, kinds := [], alts := [], laidByText := true, laidKinds := [.data, .data], laidTests := true, laidLooks := .later }
def ShortestFewestUptoCardSaid : Prop := Claim7.holds Tryz.pinned (.plain (OpenSpec.upto shortestFewestSpec)) shortestFewestUptoCard
end Rows
end Go.Proofs.YtlhjbmdkfdabmaaGreatDoor
