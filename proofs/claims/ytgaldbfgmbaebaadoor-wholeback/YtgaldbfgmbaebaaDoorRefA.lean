/- crucibleref01: at, Norm, From, Uint, Len, Cmp -/
import Derived.Test.YtgaldbfgmbaebaaDoorBytes
import Derived.Test.YtgaldbfgmbaebaaDoorLen
import Derived.Test.YtgaldbfgmbaebaaDoorCmp
namespace Go.Proofs.YtgaldbfgmbaebaaDoor
open Go.RowKit

set_option maxHeartbeats 400000 in
theorem at_any (ao : Option Addr) (cap : Nat) (xs : List Int) (k : Nat) (w : World) (hm : xs.length ≤ maxLen) (hc : Cells .i64 w ao xs) :
    Calls Tryd.prog 106 #[.slice ao xs.length cap, .int .i64 k] w fun e w' => e = .returned (.int .i64 (Nt.lb xs k)) ∧ w' = w := by
  unfold maxLen at hm
  by_cases h : k < xs.length
  · obtain ⟨b, off, rfl, hb, hcell⟩ := hc (by omega)
    have hg := hcell k h
    clear hcell hc
    go_enter Tryd.func106, Tryd.ntmps106
    go_wp2
    go_ret
    exact ⟨rfl, rfl⟩
  · have e0 : Nt.lb xs k = 0 := Nt.lb_out (by omega)
    rw [e0]
    clear e0 hc
    go_enter Tryd.func106, Tryd.ntmps106
    go_wp2
    go_ret
    exact ⟨rfl, rfl⟩

set_option maxHeartbeats 400000 in
theorem rnorm_any {w : World} {va : Value} {A : Int} {ka : Nat} (ha : Arg w va A ka) (hka : ka ≤ 1099511627776) :
    Calls Tryd.prog 92 #[va] w fun e w' => ∃ v, e = .returned v ∧ Num w.heap.size w' v A ka ∧ Below w.heap.size w w' := by
  go_enter Tryd.func92, Tryd.ntmps92
  go_wp2_with fail
  refine (bytes_any ha hka).mono ?_
  rintro e w1 ⟨v1, rfl, h1, hb1⟩
  go_wp2_with fail
  refine (limbs_any h1.arg (by omega)).mono ?_
  rintro e w2 ⟨v2, rfl, h2, hb2⟩
  go_wp2
  go_ret
  exact ⟨v2, rfl, (num_since h2 hb1.size).mono (by omega), below_trans hb1 hb2⟩

theorem pb_eight : Nb.pw 8 = 18446744073709551616 := by decide

end Go.Proofs.YtgaldbfgmbaebaaDoor
