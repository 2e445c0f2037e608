/- fault.is, fault.found: a deferred recover that finds nothing -/
import Derived.Test.YtgblakfcplphjabDoorFSnt
import Derived.Test.YtgblakfcplphjabDoorFErr
namespace Go.Proofs.YtgblakfcplphjabDoor
open Go.RowKit
set_option linter.unusedVariables false

theorem is1_idle (w : World) : CallsD Tryd.prog 31 #[] .returning w fun e u' w' => e = .returned (.tuple #[]) ∧ u' = .returning ∧ w' = w := by
  refine callsD_of_wpS Tryd.func31 rfl fun c₀ cs hu => ?_
  apply wpS_region
  cases c₀
  simp_all [wpOpsS, go_sem, recoverD, Tryd.ntmps31, bodyPostS, results, Tryd.results31]

theorem fis_any {w : World} {a : Nat → Addr} {u : TypeId} {x : Value} {b : Nat → Bool} {i : Nat} (hE : ErrIs w a u x b) (hi : i < 11) :
    Calls Tryd.prog 24 #[.iface u x, .iface 89 (.pointer (some (a i)))] w fun e w' => e = .returned (.bool (b i)) ∧ Below w.heap.size w w' := by
  have HE := hide (hE w (Below.refl _ _) i hi)
  clear hE
  go_enter_defers Tryd.func24, Tryd.ntmps24
  go_wp2_with fail
  refine HE.out.mono ?_
  rintro e w1 ⟨rfl, hb⟩
  replace hb := hide hb
  go_wp2
  refine leaves_cons (f := 31) (args := #[]) (by simp) (by simp [go_sem]) ?_
  refine (is1_idle _).mono ?_
  rintro e u' w'' ⟨rfl, rfl, rfl⟩
  simp [Leaves, settle, results, Tryd.results24, go_sem]
  exact hb.out

end Go.Proofs.YtgblakfcplphjabDoor
