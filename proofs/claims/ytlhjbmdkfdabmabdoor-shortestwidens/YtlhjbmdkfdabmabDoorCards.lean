/-
  DERIVED. GIVEN WITH THE SEED: THE CARDS: each row of YtlhjbmdkfdabmabDoorRows.lean that lists a variable, with what it lists TIED to the program's text (the seventh form; the later family's looks); each row that meets fmt, with fmt's text TOLD by the authors' own Lean function (tested against real Go, not proved from fmt's source: count such statements apart). THE CARD IS WHAT COUNTS. Prove the row's statement (the work); the ties are given (YtlhjbmdkfdabmabDoorTie.lean); close each card by the builder's one call (the guide's Derived/Test/ToyasCard.lean, 'card_holds'). Laid BY PROGRAM, IN A SANDBOX (cutbox-door.mjs). By AI agents, Wed Nov 11 2026. No macro, syntax, notation, axiom, sorry.
-/
import Derived.Test.YtlhjbmdkfdabmabDoorRows
import GoSem.ClaimSeven
namespace Go.Proofs.YtlhjbmdkfdabmabDoor
namespace Rows

/-- THE TIED CARD OF 'cruciblelaw06.ShortestRises'. -/
def shortestRisesCard : Claim7 := { stood := { row := shortestRisesRow, standIns := [], harness := (true, "a5ab53ace2b93b525652c949315f5a44b669550e4d387528747fe9ba09b1c6f1"), looks := false }, kinds := [], alts := [], laidByText := true, laidKinds := [.data, .data], laidTests := true, laidLooks := .later }
def ShortestRisesCardSaid : Prop := Claim7.holds Tryd.pinned (.plain (OpenSpec.ofChange shortestRisesSpec)) shortestRisesCard

/-- THE TIED CARD OF 'cruciblelaw06.ShortestWidens'. -/
def shortestWidensCard : Claim7 := { stood := { row := shortestWidensRow, standIns := [], harness := (true, "a5ab53ace2b93b525652c949315f5a44b669550e4d387528747fe9ba09b1c6f1"), looks := false }, kinds := [], alts := [], laidByText := true, laidKinds := [.data, .data], laidTests := true, laidLooks := .later }
def ShortestWidensCardSaid : Prop := Claim7.holds Tryd.pinned (.plain (OpenSpec.ofChange shortestWidensSpec)) shortestWidensCard

/-- THE SECOND FORM's CARD OF 'cruciblelaw06.ShortestRises'. -/
def shortestRisesUptoCard : Claim7 := { stood := { row := shortestRisesUptoRow, standIns := [], harness := (true, "a5ab53ace2b93b525652c949315f5a44b669550e4d387528747fe9ba09b1c6f1"), looks := false }, kinds := [], alts := [], laidByText := true, laidKinds := [.data, .data], laidTests := true, laidLooks := .later }
def ShortestRisesUptoCardSaid : Prop := Claim7.holds Tryd.pinned (.plain (OpenSpec.upto shortestRisesSpec)) shortestRisesUptoCard

/-- THE SECOND FORM's CARD OF 'cruciblelaw06.ShortestWidens'. -/
def shortestWidensUptoCard : Claim7 := { stood := { row := shortestWidensUptoRow, standIns := [], harness := (true, "a5ab53ace2b93b525652c949315f5a44b669550e4d387528747fe9ba09b1c6f1"), looks := false }, kinds := [], alts := [], laidByText := true, laidKinds := [.data, .data], laidTests := true, laidLooks := .later }
def ShortestWidensUptoCardSaid : Prop := Claim7.holds Tryd.pinned (.plain (OpenSpec.upto shortestWidensSpec)) shortestWidensUptoCard
end Rows
end Go.Proofs.YtlhjbmdkfdabmabDoor
