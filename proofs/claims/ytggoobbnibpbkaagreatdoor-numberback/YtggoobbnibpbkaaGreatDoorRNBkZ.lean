/- NumberBack: the walk, of any value -/
import Derived.Test.YtggoobbnibpbkaaGreatDoorRNBkW
import Derived.Test.YtggoobbnibpbkaaGreatDoorR20
namespace Go.Proofs.YtggoobbnibpbkaaGreatDoor
open Go.RowKit
set_option linter.unusedVariables false

theorem nback {w : World} (L : Lays w) (T : Brn w) (U : Uss w) {et : TypeId} {eo : Option Addr} (hE : w.cell? ⟨0, 0, none⟩ = some (.iface et (.pointer eo))) (hEl : 0 < w.heap.size) {x : Va} {v : Value} (h : VaRd w v x) {y : Int} (y0 : 0 ≤ y) (y1 : y < 18446744073709551616) :
    Calls Tryz.prog 7 #[.int .u64 y, v] w fun e' w' => e' = .returned (.bool true) ∧ Below w.heap.size w w' := by
  obtain ⟨k, n1, b, e, g, s, mo, ko, ml, mc, kl, kc, rfl, h1, h2⟩ := back_pre L T U hE hEl h
  exact back15 (K1 := x.mag.length) L T U y0 y1 h1 h2

end Go.Proofs.YtggoobbnibpbkaaGreatDoor
