/- fault.is, fault.found: a deferred recover that finds nothing -/
import Derived.Test.YtgblakfcplphjaaDoorFSnt
import Derived.Test.YtgblakfcplphjaaDoorFErr
namespace Go.Proofs.YtgblakfcplphjaaDoor
open Go.RowKit
set_option linter.unusedVariables false

theorem is1_idle (w : World) : CallsD Tryd.prog 45 #[] .returning w fun e u' w' => e = .returned (.tuple #[]) ∧ u' = .returning ∧ w' = w := by
  refine callsD_of_wpS Tryd.func45 rfl fun c₀ cs hu => ?_
  apply wpS_region
  cases c₀
  simp_all [wpOpsS, go_sem, recoverD, Tryd.ntmps45, bodyPostS, results, Tryd.results45]

theorem fis_any {w : World} {a : Nat → Addr} {u : TypeId} {x : Value} {b : Nat → Bool} {i : Nat} (hE : ErrIs w a u x b) (hi : i < 11) :
    Calls Tryd.prog 42 #[.iface u x, .iface 102 (.pointer (some (a i)))] w fun e w' => e = .returned (.bool (b i)) ∧ Below w.heap.size w w' := by
  have HE := hide (hE w (Below.refl _ _) i hi)
  clear hE
  go_enter_defers Tryd.func42, Tryd.ntmps42
  go_wp2_with fail
  refine HE.out.mono ?_
  rintro e w1 ⟨rfl, hb⟩
  replace hb := hide hb
  go_wp2
  refine leaves_cons (f := 45) (args := #[]) (by simp) (by simp [go_sem]) ?_
  refine (is1_idle _).mono ?_
  rintro e u' w'' ⟨rfl, rfl, rfl⟩
  simp [Leaves, settle, results, Tryd.results42, go_sem]
  exact hb.out

end Go.Proofs.YtgblakfcplphjaaDoor
