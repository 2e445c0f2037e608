/- Twice without an order -/
import Derived.Test.YtomieeajmelglaaONil
import Derived.Test.YtomieeajmelglaaOTw
namespace Go.Proofs.Ytomieeajmelglaa
open Go.RowKit Go.Shelf
set_option linter.unusedVariables false
set_option linter.unusedSimpArgs false
set_option maxRecDepth 100000 in
set_option maxHeartbeats 2000000 in
theorem twice_nil {w : World} {ao : Option Addr} {n c : Nat} : Calls Try.prog 24 #[.slice ao n c, .nilFunc] w fun e w' => e = .returned (.int .i64 (-1)) ∧ Below w.heap.size w w' := by
  have hfn : ∀ w : World, (binOp .eql 28 .nilFunc .nilFunc).run Try.prog w = .ok (.bool true) w := onil_nil itdesc
  go_enter Try.func24, Try.ntmps24
  go_wp2
  go_ret
  first
  | exact ⟨rfl, Below.refl _ w⟩
  | exact ⟨rfl, (Below.refl _ w).alloc (Nat.le_refl _) _⟩
  | exact ⟨rfl, ((Below.refl _ w).alloc (Nat.le_refl _) _).alloc (by simp) _⟩
end Go.Proofs.Ytomieeajmelglaa
