/- FaultMoves' walk -/
import Derived.Test.YtbkgphglojjllaaDoorFMovesT
import Derived.Test.YtbkgphglojjllaaDoorFMovesF
namespace Go.Proofs.YtbkgphglojjllaaDoor
open Go.RowKit
set_option linter.unusedVariables false

theorem movesLaw_walk {w : World} {a : Nat → Addr} {x : Nd} {v : Value} {n : Int} {z : ByteArray} (hS : Snt w a) (hH : Hnd w) (hM : Mx w) (hsm : NdSm x) (hzs : z.size ≤ 1048576) (h : NdSl w v x.kids) :
    Calls Tryd.prog 5 #[ndV x v, .int .i64 n, .string z] w fun e w' => e = .returned (.bool true) ∧ Below w.heap.size w w' := by
  cases hb : oB (ndO x) with
  | true => exact moves_with hS hH hM hsm hzs hb h
  | false => exact moves_without hS hH hM hsm hzs hb h

end Go.Proofs.YtbkgphglojjllaaDoor
