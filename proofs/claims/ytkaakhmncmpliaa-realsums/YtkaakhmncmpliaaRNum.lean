/- the complex number of a pair -/
import Derived.Test.YtkaakhmncmpliaaRLives
namespace Go.Proofs.Ytkaakhmncmpliaa
open Go.RowKit
set_option linter.unusedVariables false

theorem below_dN {B : Nat} {a w : World} {n : Nat} (h : Below B a w) : Below B a (w.drewN n) := h.trans ⟨rfl, rfl, rfl, Nat.le_refl _, fun _ _ => rfl⟩
/-- two cells of a block -/
structure Duo (w : World) (b : Nat) (x y : Value) : Prop where
  c0 : w.cell? ⟨b, 0, none⟩ = some x
  c1 : w.cell? ⟨b, 1, none⟩ = some y
  lt : b < w.heap.size
theorem Duo.below {w w' : World} {b : Nat} {x y : Value} (h : Duo w b x y) (hb : Below w.heap.size w w') : Duo w' b x y :=
  ⟨(hb.cell (p := ⟨b, 0, none⟩) h.lt).trans h.c0, (hb.cell (p := ⟨b, 1, none⟩) h.lt).trans h.c1, Nat.lt_of_lt_of_le h.lt hb.size⟩
theorem duo_new (w : World) (x y : Value) (t : TypeId) : Duo (w.alloc (.cells #[x, y] t)) w.heap.size x y := by
  refine ⟨?_, ?_, by simp⟩
  · rw [World.cell?_alloc_at _ _ _ _ rfl]; rfl
  · rw [World.cell?_alloc_at _ _ _ _ rfl]; rfl

set_option maxHeartbeats 2000000 in
theorem number_any (w : World) (x y : Int) : Calls Try.prog 29 #[.agg #[.int .u64 x, .int .u64 y]] w fun e w' => e = .returned (.complex .f64 x.toNat y.toNat) ∧ Below w.heap.size w w' := by
  go_enter Try.func29, Try.ntmps29
  go_upto_region 1 with fail
  have D := duo_new w (.int .u64 x) (.int .u64 y) 58
  have c0 := D.c0
  have c1 := D.c1
  have K := bel_new w (.cells #[.int .u64 x, .int .u64 y] 58)
  generalize w.alloc (.cells #[.int .u64 x, .int .u64 y] 58) = w1 at *
  go_quiet ((first | (go_at_call 9; with_reducible exact Calls.quiet_of_same (float_any _ _)) | (go_at_call 44; with_reducible exact Calls.quiet_of_same (join_any _ _ _))))
  go_wp2
  go_ret
  exact ⟨rfl, below_dN K⟩


end Go.Proofs.Ytkaakhmncmpliaa
