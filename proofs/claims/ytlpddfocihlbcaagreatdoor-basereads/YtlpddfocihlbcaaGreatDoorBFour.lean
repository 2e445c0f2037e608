/- base.fourOf -/
import Derived.Test.YtlpddfocihlbcaaGreatDoorBFrom
import Derived.LoopN
namespace Go.Proofs.YtlpddfocihlbcaaGreatDoor
open Go.RowKit
set_option linter.unusedVariables false

theorem al_b (w : World) (o : Obj) : Below w.heap.size w (w.alloc o) := (Below.refl _ _).alloc (Nat.le_refl _) _

set_option maxRecDepth 100000 in
set_option maxHeartbeats 4000000 in
theorem four_any {w : World} {a b c : Int} (a0 : 0 ≤ a) (a1 : a < 256) (b0 : 0 ≤ b) (b1 : b < 256) (c0 : 0 ≤ c) (c1 : c < 256) :
    Calls Tryz.prog 94 #[.agg #[.int .u8 a, .int .u8 b, .int .u8 c]] w fun e w' => e = .returned (.agg #[.int .u8 (bLet (a / 4)), .int .u8 (bLet (a % 4 * 16 + b / 16)), .int .u8 (bLet (b % 16 * 4 + c / 64)), .int .u8 (bLet (c % 64))]) ∧ Below w.heap.size w w' := by
  have o1 := or32 16 (a := a * 65536) (b := b * 256) (P := 65536) rfl (by omega) (by omega) (by omega) (by omega) (by omega) (by omega)
  have o2 := or32 8 (a := a * 65536 + b * 256) (b := c) (P := 256) rfl (by omega) (by omega) (by omega) (by omega) (by omega) (by omega)
  obtain ⟨n, hn⟩ : ∃ n, a * 65536 + b * 256 + c = n := ⟨_, rfl⟩
  rw [hn] at o2
  have n0 : 0 ≤ n := by omega
  have n1 : n < 16777216 := by omega
  have m0 := and63 (n / 262144) (by omega) (by omega)
  have m1 := and63 (n / 4096) (by omega) (by omega)
  have m2 := and63 (n / 64) (by omega) (by omega)
  have m3 := and63 n (by omega) (by omega)
  have e0 : n / 262144 % 64 = a / 4 := by omega
  have e1 : n / 4096 % 64 = a % 4 * 16 + b / 16 := by omega
  have e2 : n / 64 % 64 = b % 16 * 4 + c / 64 := by omega
  have e3 : n % 64 = c % 64 := by omega
  rw [e0] at m0
  rw [e1] at m1
  rw [e2] at m2
  rw [e3] at m3
  clear e0 e1 e2 e3 hn
  have i0 := fun W => let_index (k := .u32) (i := a / 4) (by omega) (by omega) W
  have i1 := fun W => let_index (k := .u32) (i := a % 4 * 16 + b / 16) (by omega) (by omega) W
  have i2 := fun W => let_index (k := .u32) (i := b % 16 * 4 + c / 64) (by omega) (by omega) W
  have i3 := fun W => let_index (k := .u32) (i := c % 64) (by omega) (by omega) W
  go_enter Tryz.func94, Tryz.ntmps94
  go_wp2
  refine wp_loop_rounds 5 ?_
  rw [rounds_succ]
  go_wp2
  rw [rounds_succ]
  go_wp2
  rw [rounds_succ]
  go_wp2
  rw [rounds_succ]
  go_wp2
  rw [rounds_succ]
  go_wp2
  refine bodyPost_ret (v := .agg #[.int .u8 (bLet (a / 4)), .int .u8 (bLet (a % 4 * 16 + b / 16)), .int .u8 (bLet (b % 16 * 4 + c / 64)), .int .u8 (bLet (c % 64))]) (by simp [results, Tryz.results94, go_sem]) rfl ?_
  exact ⟨rfl, (al_b w _).alloc (by simp) _⟩

end Go.Proofs.YtlpddfocihlbcaaGreatDoor
