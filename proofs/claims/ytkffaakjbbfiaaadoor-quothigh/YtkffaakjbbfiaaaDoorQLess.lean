/- cruciblelaw02.less -/
import Derived.Test.YtkffaakjbbfiaaaDoorQFrom
import Derived.Test.YtkffaakjbbfiaaaDoorQKit
namespace Go.Proofs.YtkffaakjbbfiaaaDoor
open Go.RowKit

set_option maxRecDepth 20000 in
set_option maxHeartbeats 2000000 in
theorem less_len {w : World} {s t : ByteArray} (h : s.size < t.size) :
    Calls Tryd.prog 16 #[.string s, .string t] w fun e w' => e = .returned (.int .i64 (-1)) ∧ w' = w := by
  have q1 : (s.size : Int) < (t.size : Int) := by omega
  have q2 : ((s.size : Int) != (t.size : Int)) = true := by simp; omega
  go_enter Tryd.func16, Tryd.ntmps16
  go_wp2
  go_ret
  exact ⟨rfl, rfl⟩

set_option maxRecDepth 20000 in
set_option maxHeartbeats 2000000 in
theorem less_more {w : World} {s t : ByteArray} (h : t.size < s.size) :
    Calls Tryd.prog 16 #[.string s, .string t] w fun e w' => e = .returned (.int .i64 1) ∧ w' = w := by
  have q1 : ¬ (s.size : Int) < (t.size : Int) := by omega
  have q2 : ((s.size : Int) != (t.size : Int)) = true := by simp; omega
  have q3 : ((s.size : Int) == (t.size : Int)) = false := by simp; omega
  have q4 : (s.toList == t.toList) = false := by
    simp
    intro e
    rw [ByteArray.toList_eq, ByteArray.toList_eq] at e
    have e2 := congrArg List.length e
    rw [Array.length_toList, Array.length_toList] at e2
    have h1 : s.data.size = s.size := rfl
    have h2 : t.data.size = t.size := rfl
    omega
  go_enter Tryd.func16, Tryd.ntmps16
  go_wp2
  go_ret
  exact ⟨rfl, rfl⟩

set_option maxRecDepth 20000 in
set_option maxHeartbeats 2000000 in
theorem less_same {w : World} {s t : ByteArray} (h : s.size = t.size) :
    Calls Tryd.prog 16 #[.string s, .string t] w fun e w' => e = .returned (.int .i64 (if Op.bytesLess s.toList t.toList = true then -1 else if (s.toList == t.toList) = true then 0 else 1)) ∧ w' = w := by
  obtain ⟨n, hn⟩ : ∃ n, n = t.size := ⟨_, rfl⟩
  have q1 : s.size = n := by omega
  have q2 : t.size = n := by omega
  clear h hn
  cases hb : Op.bytesLess s.toList t.toList
  · cases he : (s.toList == t.toList)
    · go_enter Tryd.func16, Tryd.ntmps16
      go_wp2
      go_ret
      exact ⟨rfl, rfl⟩
    · go_enter Tryd.func16, Tryd.ntmps16
      go_wp2
      go_ret
      exact ⟨rfl, rfl⟩
  · go_enter Tryd.func16, Tryd.ntmps16
    go_wp2
    go_ret
    exact ⟨rfl, rfl⟩

end Go.Proofs.YtkffaakjbbfiaaaDoor
