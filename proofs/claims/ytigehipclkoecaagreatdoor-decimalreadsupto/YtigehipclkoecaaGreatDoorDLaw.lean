/- cruciblelaw07: read, width, noughts -/
import Derived.Test.YtigehipclkoecaaGreatDoorDRead
import Derived.Test.YtigehipclkoecaaGreatDoorDCmpT
namespace Go.Proofs.YtigehipclkoecaaGreatDoor
open Go.RowKit
set_option linter.unusedVariables false

/-- the width that a number tells -/
def Wd (v F L I S n : Int) : Prop := 0 ≤ v ∧ v < 256 ∧
  ((v % 4 = 0 ∧ F = 1024 ∧ L = -24 ∧ I = 31744 ∧ S = 32768 ∧ n = 16) ∨ (v % 4 = 1 ∧ F = 8388608 ∧ L = -149 ∧ I = 2139095040 ∧ S = 2147483648 ∧ n = 32) ∨
   (v % 4 = 2 ∧ F = 4503599627370496 ∧ L = -1074 ∧ I = 9218868437227405312 ∧ S = 9223372036854775808 ∧ n = 64) ∨ (v % 4 = 3 ∧ F = 1024 ∧ L = -24 ∧ I = 31744 ∧ S = 32768 ∧ n = 16))
theorem wd_of (v : Int) (h0 : 0 ≤ v) (h1 : v < 256) : ∃ F L I S n, Wd v F L I S n := by
  rcases (by omega : v % 4 = 0 ∨ v % 4 = 1 ∨ v % 4 = 2 ∨ v % 4 = 3) with h | h | h | h
  · exact ⟨_, _, _, _, _, h0, h1, .inl ⟨h, rfl, rfl, rfl, rfl, rfl⟩⟩
  · exact ⟨_, _, _, _, _, h0, h1, .inr (.inl ⟨h, rfl, rfl, rfl, rfl, rfl⟩)⟩
  · exact ⟨_, _, _, _, _, h0, h1, .inr (.inr (.inl ⟨h, rfl, rfl, rfl, rfl, rfl⟩))⟩
  · exact ⟨_, _, _, _, _, h0, h1, .inr (.inr (.inr ⟨h, rfl, rfl, rfl, rfl, rfl⟩))⟩
theorem Wd.wide {v F L I S n : Int} (h : Wd v F L I S n) : Wide F L I := by
  rcases h.2.2 with ⟨_, rfl, rfl, rfl, _⟩ | ⟨_, rfl, rfl, rfl, _⟩ | ⟨_, rfl, rfl, rfl, _⟩ | ⟨_, rfl, rfl, rfl, _⟩
  · exact wide_h
  · exact wide_s
  · exact wide_d
  · exact wide_h
theorem Wd.ends {v F L I S n : Int} (h : Wd v F L I S n) : 0 < I ∧ I < S ∧ S ≤ 9223372036854775808 ∧ 16 ≤ n ∧ n ≤ 64 ∧ S = p2 (n - 1).toNat := by
  rcases h.2.2 with ⟨_, rfl, rfl, rfl, rfl, rfl⟩ | ⟨_, rfl, rfl, rfl, rfl, rfl⟩ | ⟨_, rfl, rfl, rfl, rfl, rfl⟩ | ⟨_, rfl, rfl, rfl, rfl, rfl⟩ <;> decide
/-- what is read of a text -/
def ReadIs (F L I S : Int) (es : List Int) (N : Nat) (ng : Bool) (P : Int) (x : Value) (ok : Bool) : Prop :=
  (¬ Dg es ∧ x = .int .u64 0 ∧ ok = false) ∨ (Dg es ∧ ok = true ∧ ∃ r, x = .int .u64 (r + b2i ng * S) ∧ 0 ≤ r ∧ r ≤ I ∧ DV F L I (dg es) (P - N) r)
theorem b2i_cases (ng : Bool) : b2i ng = 0 ∨ b2i ng = 1 := by cases ng <;> simp [b2i]

set_option maxRecDepth 100000 in
set_option maxHeartbeats 8000000 in
theorem lread_h {w : World} (T : Lays w) {v : Int} (v0 : 0 ≤ v) (v1 : v < 256) (hv : v % 4 = 0) {es : List Int} {s : ByteArray} {N : Nat} {ng : Bool} {P : Int} (hd : Byt es) (hs : s = strOfNums es) (hN : es.length = N) (hl : N ≤ 4611686018427387904) (hP : -9223372036854775808 ≤ P) (hP2 : P ≤ 9223372036854775807) :
    Calls Tryz.prog 7 #[.int .u8 v, .agg #[.bool ng, .string s, .int .i64 P]] w fun x w' => Below w.heap.size w w' ∧ ∃ y ok, x = .returned (.tuple #[y, .bool ok]) ∧ ReadIs 1024 (-24) 31744 32768 es N ng P y ok := by
  have H1 := hide (show ∀ w : World, Lays w → _ from fun w T => dread_h (w := w) (ng := ng) (P := P) T hd hs hN hl hP hP2)
  clear hd hs hN
  have K0 : Below w.heap.size w (w.alloc (.cells #[.bool ng, .string s, .int .i64 P] 23)) := al_one _ _
  go_enter Tryz.func7, Tryz.ntmps7
  go_wp2_with fail
  refine (H1.out _ (T.below K0)).mono ?_
  rintro x w1 ⟨b1, hcase⟩
  have K1 := below_trans K0 b1
  clear b1 K0 H1
  rcases hcase with ⟨h, rfl⟩ | ⟨h, r, rfl, hr⟩
  · have H := hide h
    clear h
    go_wp2
    go_ret2
    exact ⟨K1, _, _, rfl, .inl ⟨H.out, rfl, rfl⟩⟩
  · have r0 := hr.1
    have r1 := hr.2.1
    have H := hide (And.intro h hr)
    clear h hr
    have bc := b2i_cases ng
    have q0 : 0 ≤ r + b2i ng * 32768 := by omega
    have q1 : r + b2i ng * 32768 < 65536 := by omega
    go_wp2
    go_ret2
    exact ⟨K1, _, _, rfl, .inr ⟨H.out.1, rfl, r, rfl, r0, r1, H.out.2⟩⟩

set_option maxRecDepth 100000 in
set_option maxHeartbeats 8000000 in
theorem lread_s {w : World} (T : Lays w) {v : Int} (v0 : 0 ≤ v) (v1 : v < 256) (hv : v % 4 = 1) {es : List Int} {s : ByteArray} {N : Nat} {ng : Bool} {P : Int} (hd : Byt es) (hs : s = strOfNums es) (hN : es.length = N) (hl : N ≤ 4611686018427387904) (hP : -9223372036854775808 ≤ P) (hP2 : P ≤ 9223372036854775807) :
    Calls Tryz.prog 7 #[.int .u8 v, .agg #[.bool ng, .string s, .int .i64 P]] w fun x w' => Below w.heap.size w w' ∧ ∃ y ok, x = .returned (.tuple #[y, .bool ok]) ∧ ReadIs 8388608 (-149) 2139095040 2147483648 es N ng P y ok := by
  have H1 := hide (show ∀ w : World, Lays w → _ from fun w T => dread_s (w := w) (ng := ng) (P := P) T hd hs hN hl hP hP2)
  clear hd hs hN
  have K0 : Below w.heap.size w (w.alloc (.cells #[.bool ng, .string s, .int .i64 P] 23)) := al_one _ _
  go_enter Tryz.func7, Tryz.ntmps7
  go_wp2_with fail
  refine (H1.out _ (T.below K0)).mono ?_
  rintro x w1 ⟨b1, hcase⟩
  have K1 := below_trans K0 b1
  clear b1 K0 H1
  rcases hcase with ⟨h, rfl⟩ | ⟨h, r, rfl, hr⟩
  · have H := hide h
    clear h
    go_wp2
    go_ret2
    exact ⟨K1, _, _, rfl, .inl ⟨H.out, rfl, rfl⟩⟩
  · have r0 := hr.1
    have r1 := hr.2.1
    have H := hide (And.intro h hr)
    clear h hr
    have bc := b2i_cases ng
    have q0 : 0 ≤ r + b2i ng * 2147483648 := by omega
    have q1 : r + b2i ng * 2147483648 < 4294967296 := by omega
    go_wp2
    go_ret2
    exact ⟨K1, _, _, rfl, .inr ⟨H.out.1, rfl, r, rfl, r0, r1, H.out.2⟩⟩

set_option maxRecDepth 100000 in
set_option maxHeartbeats 8000000 in
theorem lread_d {w : World} (T : Lays w) {v : Int} (v0 : 0 ≤ v) (v1 : v < 256) (hv : v % 4 = 2) {es : List Int} {s : ByteArray} {N : Nat} {ng : Bool} {P : Int} (hd : Byt es) (hs : s = strOfNums es) (hN : es.length = N) (hl : N ≤ 4611686018427387904) (hP : -9223372036854775808 ≤ P) (hP2 : P ≤ 9223372036854775807) :
    Calls Tryz.prog 7 #[.int .u8 v, .agg #[.bool ng, .string s, .int .i64 P]] w fun x w' => Below w.heap.size w w' ∧ ∃ y ok, x = .returned (.tuple #[y, .bool ok]) ∧ ReadIs 4503599627370496 (-1074) 9218868437227405312 9223372036854775808 es N ng P y ok := by
  have H1 := hide (show ∀ w : World, Lays w → _ from fun w T => dread_d (w := w) (ng := ng) (P := P) T hd hs hN hl hP hP2)
  clear hd hs hN
  have K0 : Below w.heap.size w (w.alloc (.cells #[.bool ng, .string s, .int .i64 P] 23)) := al_one _ _
  go_enter Tryz.func7, Tryz.ntmps7
  go_wp2_with fail
  refine (H1.out _ (T.below K0)).mono ?_
  rintro x w1 ⟨b1, hcase⟩
  have K1 := below_trans K0 b1
  clear b1 K0 H1
  rcases hcase with ⟨h, rfl⟩ | ⟨h, r, rfl, hr⟩
  · have H := hide h
    clear h
    go_wp2
    go_ret2
    exact ⟨K1, _, _, rfl, .inl ⟨H.out, rfl, rfl⟩⟩
  · have r0 := hr.1
    have r1 := hr.2.1
    have H := hide (And.intro h hr)
    clear h hr
    have bc := b2i_cases ng
    have q0 : 0 ≤ r + b2i ng * 9223372036854775808 := by omega
    have q1 : r + b2i ng * 9223372036854775808 < 18446744073709551616 := by omega
    go_wp2
    go_ret2
    exact ⟨K1, _, _, rfl, .inr ⟨H.out.1, rfl, r, rfl, r0, r1, H.out.2⟩⟩

set_option maxRecDepth 100000 in
set_option maxHeartbeats 8000000 in
theorem lread_o {w : World} (T : Lays w) {v : Int} (v0 : 0 ≤ v) (v1 : v < 256) (hv : v % 4 = 3) {es : List Int} {s : ByteArray} {N : Nat} {ng : Bool} {P : Int} (hd : Byt es) (hs : s = strOfNums es) (hN : es.length = N) (hl : N ≤ 4611686018427387904) (hP : -9223372036854775808 ≤ P) (hP2 : P ≤ 9223372036854775807) :
    Calls Tryz.prog 7 #[.int .u8 v, .agg #[.bool ng, .string s, .int .i64 P]] w fun x w' => Below w.heap.size w w' ∧ ∃ y ok, x = .returned (.tuple #[y, .bool ok]) ∧ ReadIs 1024 (-24) 31744 32768 es N ng P y ok := by
  have H1 := hide (show ∀ w : World, Lays w → _ from fun w T => dread_o (w := w) (ng := ng) (P := P) T hd hs hN hl hP hP2)
  clear hd hs hN
  have K0 : Below w.heap.size w (w.alloc (.cells #[.bool ng, .string s, .int .i64 P] 23)) := al_one _ _
  go_enter Tryz.func7, Tryz.ntmps7
  go_wp2_with fail
  refine (H1.out _ (T.below K0)).mono ?_
  rintro x w1 ⟨b1, hcase⟩
  have K1 := below_trans K0 b1
  clear b1 K0 H1
  rcases hcase with ⟨h, rfl⟩ | ⟨h, r, rfl, hr⟩
  · have H := hide h
    clear h
    go_wp2
    go_ret2
    exact ⟨K1, _, _, rfl, .inl ⟨H.out, rfl, rfl⟩⟩
  · have r0 := hr.1
    have r1 := hr.2.1
    have H := hide (And.intro h hr)
    clear h hr
    have bc := b2i_cases ng
    have q0 : 0 ≤ r + b2i ng * 32768 := by omega
    have q1 : r + b2i ng * 32768 < 65536 := by omega
    go_wp2
    go_ret2
    exact ⟨K1, _, _, rfl, .inr ⟨H.out.1, rfl, r, rfl, r0, r1, H.out.2⟩⟩

theorem lread_any {w : World} (T : Lays w) {v F L I S n : Int} (h : Wd v F L I S n) {es : List Int} {s : ByteArray} {N : Nat} {ng : Bool} {P : Int} (hd : Byt es) (hs : s = strOfNums es) (hN : es.length = N) (hl : N ≤ 4611686018427387904) (hP : -9223372036854775808 ≤ P) (hP2 : P ≤ 9223372036854775807) :
    Calls Tryz.prog 7 #[.int .u8 v, .agg #[.bool ng, .string s, .int .i64 P]] w fun x w' => Below w.heap.size w w' ∧ ∃ y ok, x = .returned (.tuple #[y, .bool ok]) ∧ ReadIs F L I S es N ng P y ok := by
  obtain ⟨v0, v1, h⟩ := h
  rcases h with ⟨h, rfl, rfl, rfl, rfl, rfl⟩ | ⟨h, rfl, rfl, rfl, rfl, rfl⟩ | ⟨h, rfl, rfl, rfl, rfl, rfl⟩ | ⟨h, rfl, rfl, rfl, rfl, rfl⟩
  · exact lread_h T v0 v1 h hd hs hN hl hP hP2
  · exact lread_s T v0 v1 h hd hs hN hl hP hP2
  · exact lread_d T v0 v1 h hd hs hN hl hP hP2
  · exact lread_o T v0 v1 h hd hs hN hl hP hP2

set_option maxHeartbeats 1000000 in
theorem lwidth7 {w : World} {v F L I S n : Int} (h : Wd v F L I S n) : Calls Tryz.prog 9 #[.int .u8 v] w fun e w' => e = .returned (.int .i64 n) ∧ w' = w := by
  obtain ⟨v0, v1, h⟩ := h
  rcases h with ⟨h, rfl, rfl, rfl, rfl, rfl⟩ | ⟨h, rfl, rfl, rfl, rfl, rfl⟩ | ⟨h, rfl, rfl, rfl, rfl, rfl⟩ | ⟨h, rfl, rfl, rfl, rfl, rfl⟩
  all_goals
    go_enter Tryz.func9, Tryz.ntmps9
    go_wp2
    go_ret
    exact ⟨rfl, rfl⟩

end Go.Proofs.YtigehipclkoecaaGreatDoor
