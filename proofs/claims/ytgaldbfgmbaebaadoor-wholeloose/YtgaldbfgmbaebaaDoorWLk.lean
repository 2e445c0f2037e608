/- WholeLoose: the walk, as the row asks it -/
import Derived.Test.YtgaldbfgmbaebaaDoorWLo
namespace Go.Proofs.YtgaldbfgmbaebaaDoor
open Go.RowKit

theorem wloose_wf {w : World} {ng_x : Bool} {v_x : Value} {zs_x : List Int} {ng_y : Bool} {v_y : Value} {zs_y : List Int} {d : Int} (r_x : Reads .u32 w v_x zs_x) (o_x : Nt.Ok zs_x) (j_x : zs_x.length ≤ 70368744177664) (r_y : Reads .u32 w v_y zs_y) (o_y : Nt.Ok zs_y) (j_y : zs_y.length ≤ 70368744177664) (hd : (Lit.int .u8 d).wf = true) :
    Calls Tryd.prog 6 #[.agg #[.bool ng_x, v_x], .agg #[.bool ng_y, v_y], .int .u8 d] w fun e w' => e = .returned (.bool true) ∧ Below w.heap.size w w' := by
  have h1 : 0 ≤ d ∧ d ≤ 255 := by simpa [Lit.wf, IntKind.min, IntKind.max, IntKind.signed, IntKind.bits] using hd
  exact wloose_walk h1.1 (by omega) r_x o_x j_x r_y o_y j_y

end Go.Proofs.YtgaldbfgmbaebaaDoor
