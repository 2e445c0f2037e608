/- cruciblelaw04: the helpers, a width each (mk_ieeer.py) -/
import Derived.Test.YtmmkdihhcmcjjabGreatDoorIeeeG
import Derived.Test.YtmmkdihhcmcjjabGreatDoorIeeeR
namespace Go.Proofs.YtmmkdihhcmcjjabGreatDoor
open Go.RowKit
set_option linter.unusedVariables false

theorem nxt_0 (x : Int) (h0 : 0 ≤ x) (h1 : x < 65536) : 0 ≤ nxt 32768 1024 x ∧ nxt 32768 1024 x < 65536 := by
  unfold nxt
  repeat' split
  all_goals omega

theorem nxt_1 (x : Int) (h0 : 0 ≤ x) (h1 : x < 4294967296) : 0 ≤ nxt 2147483648 8388608 x ∧ nxt 2147483648 8388608 x < 4294967296 := by
  unfold nxt
  repeat' split
  all_goals omega

theorem nxt_2 (x : Int) (h0 : 0 ≤ x) (h1 : x < 18446744073709551616) : 0 ≤ nxt 9223372036854775808 4503599627370496 x ∧ nxt 9223372036854775808 4503599627370496 x < 18446744073709551616 := by
  unfold nxt
  repeat' split
  all_goals omega

theorem nxt_3 (x : Int) (h0 : 0 ≤ x) (h1 : x < 4294967296) : 0 ≤ nxt 2147483648 8388608 x ∧ nxt 2147483648 8388608 x < 4294967296 := by
  unfold nxt
  repeat' split
  all_goals omega

end Go.Proofs.YtmmkdihhcmcjjabGreatDoor
