/- cruciblelaw04.round, a width each (mk_irises.py) -/
import Derived.Test.YtmmkdihhcmcjjaaDoorILives
namespace Go.Proofs.YtmmkdihhcmcjjaaDoor
open Go.RowKit
set_option linter.unusedVariables false

set_option maxHeartbeats 2000000 in
theorem lround_0 {w : World} (L : Lays w) (v : Int) (v0 : 0 ≤ v) (v1 : v < 256) (hv : v % 4 = 0) {va : Value} {A e : Int} {ka : Nat} {neg more : Bool} (ha : Arg w va A ka) (hka : ka ≤ 1099511627776) (e0 : -9223372036854775808 ≤ e) (e1 : e < 9223372036854775808) :
    Calls Tryd.prog 11 #[.int .u8 v, .bool neg, va, .int .i64 e, .bool more] w fun x w' => ∃ r, x = .returned (.int .u64 (r + b2i neg * 32768)) ∧ Near 1024 (-24) 31744 (2 * A + b2i more) (e - 1) r ∧ Below w.heap.size w w' := by
  go_enter Tryd.func11, Tryd.ntmps11
  go_wp2_with fail
  with_reducible refine (round_16 L ha hka e0 e1).mono ?_
  rintro x w1 ⟨r, rfl, hN, K⟩
  have r0 := hN.1
  have r1 := hN.2.1
  have HN := hide hN
  clear hN
  have hb : 0 ≤ b2i neg * 32768 ∧ b2i neg * 32768 ≤ 32768 := by cases neg <;> simp [b2i]
  generalize hq : b2i neg * 32768 = q at *
  obtain ⟨q0, q1⟩ := hb
  have HQ := hide hq
  clear hq
  go_wp2
  go_ret
  exact ⟨r, by rw [HQ.out]; first | rfl | exact ret_int (by omega), HN.out, K⟩

set_option maxHeartbeats 2000000 in
theorem lround_1 {w : World} (L : Lays w) (v : Int) (v0 : 0 ≤ v) (v1 : v < 256) (hv : v % 4 = 1) {va : Value} {A e : Int} {ka : Nat} {neg more : Bool} (ha : Arg w va A ka) (hka : ka ≤ 1099511627776) (e0 : -9223372036854775808 ≤ e) (e1 : e < 9223372036854775808) :
    Calls Tryd.prog 11 #[.int .u8 v, .bool neg, va, .int .i64 e, .bool more] w fun x w' => ∃ r, x = .returned (.int .u64 (r + b2i neg * 2147483648)) ∧ Near 8388608 (-149) 2139095040 (2 * A + b2i more) (e - 1) r ∧ Below w.heap.size w w' := by
  go_enter Tryd.func11, Tryd.ntmps11
  go_wp2_with fail
  with_reducible refine (round_32 L ha hka e0 e1).mono ?_
  rintro x w1 ⟨r, rfl, hN, K⟩
  have r0 := hN.1
  have r1 := hN.2.1
  have HN := hide hN
  clear hN
  have hb : 0 ≤ b2i neg * 2147483648 ∧ b2i neg * 2147483648 ≤ 2147483648 := by cases neg <;> simp [b2i]
  generalize hq : b2i neg * 2147483648 = q at *
  obtain ⟨q0, q1⟩ := hb
  have HQ := hide hq
  clear hq
  go_wp2
  go_ret
  exact ⟨r, by rw [HQ.out]; first | rfl | exact ret_int (by omega), HN.out, K⟩

set_option maxHeartbeats 2000000 in
theorem lround_2 {w : World} (L : Lays w) (v : Int) (v0 : 0 ≤ v) (v1 : v < 256) (hv : v % 4 = 2) {va : Value} {A e : Int} {ka : Nat} {neg more : Bool} (ha : Arg w va A ka) (hka : ka ≤ 1099511627776) (e0 : -9223372036854775808 ≤ e) (e1 : e < 9223372036854775808) :
    Calls Tryd.prog 11 #[.int .u8 v, .bool neg, va, .int .i64 e, .bool more] w fun x w' => ∃ r, x = .returned (.int .u64 (r + b2i neg * 9223372036854775808)) ∧ Near 4503599627370496 (-1074) 9218868437227405312 (2 * A + b2i more) (e - 1) r ∧ Below w.heap.size w w' := by
  go_enter Tryd.func11, Tryd.ntmps11
  go_wp2_with fail
  with_reducible refine (round_64 L ha hka e0 e1).mono ?_
  rintro x w1 ⟨r, rfl, hN, K⟩
  have r0 := hN.1
  have r1 := hN.2.1
  have HN := hide hN
  clear hN
  have hb : 0 ≤ b2i neg * 9223372036854775808 ∧ b2i neg * 9223372036854775808 ≤ 9223372036854775808 := by cases neg <;> simp [b2i]
  generalize hq : b2i neg * 9223372036854775808 = q at *
  obtain ⟨q0, q1⟩ := hb
  have HQ := hide hq
  clear hq
  go_wp2
  go_ret
  exact ⟨r, by rw [HQ.out]; first | rfl | exact ret_int (by omega), HN.out, K⟩

set_option maxHeartbeats 2000000 in
theorem lround_3 {w : World} (L : Lays w) (v : Int) (v0 : 0 ≤ v) (v1 : v < 256) (hv : v % 4 = 3) {va : Value} {A e : Int} {ka : Nat} {neg more : Bool} (ha : Arg w va A ka) (hka : ka ≤ 1099511627776) (e0 : -9223372036854775808 ≤ e) (e1 : e < 9223372036854775808) :
    Calls Tryd.prog 11 #[.int .u8 v, .bool neg, va, .int .i64 e, .bool more] w fun x w' => ∃ r, x = .returned (.int .u64 (r + b2i neg * 2147483648)) ∧ Near 8388608 (-149) 2139095040 (2 * A + b2i more) (e - 1) r ∧ Below w.heap.size w w' := by
  go_enter Tryd.func11, Tryd.ntmps11
  go_wp2_with fail
  with_reducible refine (round_m L ha hka e0 e1).mono ?_
  rintro x w1 ⟨r, rfl, hN, K⟩
  have r0 := hN.1
  have r1 := hN.2.1
  have HN := hide hN
  clear hN
  have hb : 0 ≤ b2i neg * 2147483648 ∧ b2i neg * 2147483648 ≤ 2147483648 := by cases neg <;> simp [b2i]
  generalize hq : b2i neg * 2147483648 = q at *
  obtain ⟨q0, q1⟩ := hb
  have HQ := hide hq
  clear hq
  go_wp2
  go_ret
  exact ⟨r, by rw [HQ.out]; first | rfl | exact ret_int (by omega), HN.out, K⟩

end Go.Proofs.YtmmkdihhcmcjjaaDoor
