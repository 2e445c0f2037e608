/- EShw -/
import Derived.Test.YtinfkoiifemjmaaGreatDoorS28
import Derived.Test.YtinfkoiifemjmaaGreatDoorS23
namespace Go.Proofs.YtinfkoiifemjmaaGreatDoor
open Go.RowKit
set_option linter.unusedVariables false

theorem td_bare {F L s : Int} {M N : Nat} {t : ByteArray} {P : Int} {ds : List Int} (h : Td F L s M t P ds N) : bareB ds = true := by
  unfold bareB
  have h1 : 0 < ds.length := by rw [h.len]; exact h.n0
  have h2 : ds.all isD = true := List.all_eq_true.2 (fun x hx => by have := h.dg x hx; unfold isD; simp; omega)
  have h3 := h.first
  have h4 := h.last
  rw [← h.len] at h4
  simp [h1, h2, h3, h4]
/-- no number, infinite, nought -/
theorem show_zero {w : World} (T : Lays w) {x : Int} (x0 : 0 ≤ x) (x1 : x < 18446744073709551616) (hs : x % 9223372036854775808 = 0) :
    Calls Tryz.prog 9 #[.int .u64 x] w fun e w' => e = .returned (.string ⟨#[48]⟩) ∧ Below w.heap.size w w' := by
  have H := hide (class_64 T x 0 x0 x1 hs)
  rw [show cls 9223372036854775808 4503599627370496 0 = 1 by decide] at H
  clear hs
  go_enter Tryz.func9, Tryz.ntmps9
  go_wp2_with fail
  refine H.out.mono ?_
  rintro e w1 ⟨rfl, b1⟩
  go_wp2
  go_ret
  exact ⟨rfl, b1⟩
theorem show_nan {w : World} (T : Lays w) {x : Int} (x0 : 0 ≤ x) (x1 : x < 18446744073709551616) (hs : 9218868437227405312 < x % 9223372036854775808) :
    Calls Tryz.prog 9 #[.int .u64 x] w fun e w' => e = .returned (.string ⟨#[78, 97, 78]⟩) ∧ Below w.heap.size w w' := by
  have H := hide (class_64 T x _ x0 x1 rfl)
  rw [show cls 9223372036854775808 4503599627370496 (x % 9223372036854775808) = 5 by unfold cls; rw [if_pos (by omega)]] at H
  clear hs
  go_enter Tryz.func9, Tryz.ntmps9
  go_wp2_with fail
  refine H.out.mono ?_
  rintro e w1 ⟨rfl, b1⟩
  go_wp2
  go_ret
  exact ⟨rfl, b1⟩
theorem show_inf {w : World} (T : Lays w) : Calls Tryz.prog 9 #[.int .u64 9218868437227405312] w fun e w' => e = .returned (.string ⟨#[73, 110, 102, 105, 110, 105, 116, 121]⟩) ∧ Below w.heap.size w w' := by
  have H := hide (class_64 T 9218868437227405312 9218868437227405312 (by decide) (by decide) (by decide))
  rw [show cls 9223372036854775808 4503599627370496 9218868437227405312 = 4 by decide] at H
  go_enter Tryz.func9, Tryz.ntmps9
  go_wp2_with fail
  refine H.out.mono ?_
  rintro e w1 ⟨rfl, b1⟩
  go_wp2
  go_ret
  exact ⟨rfl, b1⟩
theorem show_ninf {w : World} (T : Lays w) : Calls Tryz.prog 9 #[.int .u64 18442240474082181120] w fun e w' => e = .returned (.string ⟨#[45, 73, 110, 102, 105, 110, 105, 116, 121]⟩) ∧ Below w.heap.size w w' := by
  have H := hide (class_64 T 18442240474082181120 9218868437227405312 (by decide) (by decide) (by decide))
  rw [show cls 9223372036854775808 4503599627370496 9218868437227405312 = 4 by decide] at H
  go_enter Tryz.func9, Tryz.ntmps9
  go_wp2_with fail
  refine H.out.mono ?_
  rintro e w1 ⟨rfl, b1⟩
  go_wp2
  go_ret
  exact ⟨rfl, b1⟩

end Go.Proofs.YtinfkoiifemjmaaGreatDoor
