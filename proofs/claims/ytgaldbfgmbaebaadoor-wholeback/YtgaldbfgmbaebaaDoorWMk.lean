/- WholeBack: the walk, whole (mk_wbk.py) -/
import Derived.Test.YtgaldbfgmbaebaaDoorWMn
import Derived.Test.YtgaldbfgmbaebaaDoorWMz
import Derived.Test.YtgaldbfgmbaebaaDoorWMp
namespace Go.Proofs.YtgaldbfgmbaebaaDoor
open Go.RowKit

theorem wback_wf {w : World} {ng_x : Bool} {v_x : Value} {zs_x : List Int} {s : ByteArray} {d : Int} (r_x : Reads .u32 w v_x zs_x) (o_x : Nt.Ok zs_x) (j_x : zs_x.length ≤ 70368744177664) (hs : s.size ≤ 9223372036854775807) (hd : (Lit.int .u8 d).wf = true) :
    Calls Tryd.prog 5 #[.agg #[.bool ng_x, v_x], .string s, .int .u8 d] w fun e w' => e = .returned (.bool true) ∧ Below w.heap.size w w' := by
  have h1 : 0 ≤ d ∧ d ≤ 255 := by simpa [Lit.wf, IntKind.min, IntKind.max, IntKind.signed, IntKind.bits] using hd
  rcases Int.lt_trichotomy (wn ng_x (Nt.val zs_x)) 0 with c | c | c
  · exact wback_neg r_x o_x j_x hs h1.1 (by omega) c
  · exact wback_zero r_x o_x j_x hs h1.1 (by omega) c
  · exact wback_pos r_x o_x j_x hs h1.1 (by omega) c

end Go.Proofs.YtgaldbfgmbaebaaDoor
