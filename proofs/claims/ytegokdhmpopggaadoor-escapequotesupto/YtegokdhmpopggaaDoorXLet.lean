/- escape: letterOf, saidBy -/
import Derived.Test.YtegokdhmpopggaaDoorXIn
namespace Go.Proofs.YtegokdhmpopggaaDoor
open Go.RowKit
set_option linter.unusedVariables false

/-- the table of letters lies in the world -/
def xTab : List Int := [34, 34, 92, 92, 47, 47, 98, 8, 102, 12, 110, 10, 114, 13, 116, 9]
def Tab (w : World) : Prop := 12 < w.heap.size ∧ ∀ j, j < 16 → w.cell? ⟨12, j, none⟩ = some (.int .u8 (xTab.getD j 0))
theorem Tab.below {w w' : World} {B : Nat} (h : Tab w) (hB : 12 < B) (hb : Below B w w') : Tab w' := ⟨Nat.lt_of_lt_of_le h.1 hb.size, fun j hj => by rw [hb.cell (p := ⟨12, j, none⟩) hB]; exact h.2 j hj⟩
/-- the letter that says a byte -/
def xSay (c : Int) : Int := if c = 34 then 34 else if c = 92 then 92 else if c = 47 then 47 else if c = 8 then 98 else if c = 12 then 102 else if c = 10 then 110 else if c = 13 then 114 else if c = 9 then 116 else -1
theorem ret_u8b {a b : Int} {c d : Bool} (h : a = b) (g : c = d) : Ending.returned (.tuple #[.int .u8 a, .bool c]) = .returned (.tuple #[.int .u8 b, .bool d]) := by rw [h, g]
theorem xtab_0 (W : World) : (Instr.index 106 (.agg #[.int .u8 34, .int .u8 34, .int .u8 92, .int .u8 92, .int .u8 47, .int .u8 47, .int .u8 98, .int .u8 8, .int .u8 102, .int .u8 12, .int .u8 110, .int .u8 10, .int .u8 114, .int .u8 13, .int .u8 116, .int .u8 9]) (.int .i64 0)).run Tryd.prog W = .ok (.agg #[.int .u8 34, .int .u8 34]) W := by kernel_rfl
theorem xtab_1 (W : World) : (Instr.index 106 (.agg #[.int .u8 34, .int .u8 34, .int .u8 92, .int .u8 92, .int .u8 47, .int .u8 47, .int .u8 98, .int .u8 8, .int .u8 102, .int .u8 12, .int .u8 110, .int .u8 10, .int .u8 114, .int .u8 13, .int .u8 116, .int .u8 9]) (.int .i64 1)).run Tryd.prog W = .ok (.agg #[.int .u8 92, .int .u8 92]) W := by kernel_rfl
theorem xtab_2 (W : World) : (Instr.index 106 (.agg #[.int .u8 34, .int .u8 34, .int .u8 92, .int .u8 92, .int .u8 47, .int .u8 47, .int .u8 98, .int .u8 8, .int .u8 102, .int .u8 12, .int .u8 110, .int .u8 10, .int .u8 114, .int .u8 13, .int .u8 116, .int .u8 9]) (.int .i64 2)).run Tryd.prog W = .ok (.agg #[.int .u8 47, .int .u8 47]) W := by kernel_rfl
theorem xtab_3 (W : World) : (Instr.index 106 (.agg #[.int .u8 34, .int .u8 34, .int .u8 92, .int .u8 92, .int .u8 47, .int .u8 47, .int .u8 98, .int .u8 8, .int .u8 102, .int .u8 12, .int .u8 110, .int .u8 10, .int .u8 114, .int .u8 13, .int .u8 116, .int .u8 9]) (.int .i64 3)).run Tryd.prog W = .ok (.agg #[.int .u8 98, .int .u8 8]) W := by kernel_rfl
theorem xtab_4 (W : World) : (Instr.index 106 (.agg #[.int .u8 34, .int .u8 34, .int .u8 92, .int .u8 92, .int .u8 47, .int .u8 47, .int .u8 98, .int .u8 8, .int .u8 102, .int .u8 12, .int .u8 110, .int .u8 10, .int .u8 114, .int .u8 13, .int .u8 116, .int .u8 9]) (.int .i64 4)).run Tryd.prog W = .ok (.agg #[.int .u8 102, .int .u8 12]) W := by kernel_rfl
theorem xtab_5 (W : World) : (Instr.index 106 (.agg #[.int .u8 34, .int .u8 34, .int .u8 92, .int .u8 92, .int .u8 47, .int .u8 47, .int .u8 98, .int .u8 8, .int .u8 102, .int .u8 12, .int .u8 110, .int .u8 10, .int .u8 114, .int .u8 13, .int .u8 116, .int .u8 9]) (.int .i64 5)).run Tryd.prog W = .ok (.agg #[.int .u8 110, .int .u8 10]) W := by kernel_rfl
theorem xtab_6 (W : World) : (Instr.index 106 (.agg #[.int .u8 34, .int .u8 34, .int .u8 92, .int .u8 92, .int .u8 47, .int .u8 47, .int .u8 98, .int .u8 8, .int .u8 102, .int .u8 12, .int .u8 110, .int .u8 10, .int .u8 114, .int .u8 13, .int .u8 116, .int .u8 9]) (.int .i64 6)).run Tryd.prog W = .ok (.agg #[.int .u8 114, .int .u8 13]) W := by kernel_rfl
theorem xtab_7 (W : World) : (Instr.index 106 (.agg #[.int .u8 34, .int .u8 34, .int .u8 92, .int .u8 92, .int .u8 47, .int .u8 47, .int .u8 98, .int .u8 8, .int .u8 102, .int .u8 12, .int .u8 110, .int .u8 10, .int .u8 114, .int .u8 13, .int .u8 116, .int .u8 9]) (.int .i64 7)).run Tryd.prog W = .ok (.agg #[.int .u8 116, .int .u8 9]) W := by kernel_rfl

set_option maxRecDepth 100000 in
set_option maxHeartbeats 4000000 in
theorem letterOf_any {w : World} {c : Int} (ht : Tab w) :
    Calls Tryd.prog 36 #[.int .u8 c] w fun e w' => e = .returned (.tuple #[.int .u8 (if xSay c = -1 then 0 else xSay c), .bool (decide (xSay c ≠ -1))]) ∧ Below w.heap.size w w' := by
  have c0 := ht.2 0 (by omega)
  have c1 := ht.2 1 (by omega)
  have c2 := ht.2 2 (by omega)
  have c3 := ht.2 3 (by omega)
  have c4 := ht.2 4 (by omega)
  have c5 := ht.2 5 (by omega)
  have c6 := ht.2 6 (by omega)
  have c7 := ht.2 7 (by omega)
  have c8 := ht.2 8 (by omega)
  have c9 := ht.2 9 (by omega)
  have c10 := ht.2 10 (by omega)
  have c11 := ht.2 11 (by omega)
  have c12 := ht.2 12 (by omega)
  have c13 := ht.2 13 (by omega)
  have c14 := ht.2 14 (by omega)
  have c15 := ht.2 15 (by omega)
  simp only [xTab, List.getD_cons_zero, List.getD_cons_succ] at c0 c1 c2 c3 c4 c5 c6 c7 c8 c9 c10 c11 c12 c13 c14 c15
  have i0 := xtab_0
  have i1 := xtab_1
  have i2 := xtab_2
  have i3 := xtab_3
  have i4 := xtab_4
  have i5 := xtab_5
  have i6 := xtab_6
  have i7 := xtab_7
  obtain ⟨A, hA⟩ : ∃ A, (if xSay c = -1 then 0 else xSay c) = A := ⟨_, rfl⟩
  obtain ⟨D, hD⟩ : ∃ D, decide (xSay c ≠ -1) = D := ⟨_, rfl⟩
  have HA := hide hA
  have HD := hide hD
  rw [hA, hD]; clear hA hD ht
  go_enter Tryd.func36, Tryd.ntmps36
  go_wp2
  refine wp_loop_rounds 9 ?_
  rw [rounds_succ]
  go_wp2
  · rename_i q
    have q := of_beq_true q
    subst q
    go_ret2
    refine ⟨ret_u8b (by rw [← HA.out]; decide) (by rw [← HD.out]; decide), ?_⟩
    repeat (first | exact Below.refl _ _ | refine Below.alloc ?_ (by first | exact Nat.le_refl _ | (simp; omega) | simp) _)
  rename_i q0
  have k0 := hide (of_beq_false q0)
  rw [rounds_succ]
  go_wp2
  · rename_i q
    have q := of_beq_true q
    subst q
    go_ret2
    refine ⟨ret_u8b (by rw [← HA.out]; decide) (by rw [← HD.out]; decide), ?_⟩
    repeat (first | exact Below.refl _ _ | refine Below.alloc ?_ (by first | exact Nat.le_refl _ | (simp; omega) | simp) _)
  rename_i q1
  have k1 := hide (of_beq_false q1)
  rw [rounds_succ]
  go_wp2
  · rename_i q
    have q := of_beq_true q
    subst q
    go_ret2
    refine ⟨ret_u8b (by rw [← HA.out]; decide) (by rw [← HD.out]; decide), ?_⟩
    repeat (first | exact Below.refl _ _ | refine Below.alloc ?_ (by first | exact Nat.le_refl _ | (simp; omega) | simp) _)
  rename_i q2
  have k2 := hide (of_beq_false q2)
  rw [rounds_succ]
  go_wp2
  · rename_i q
    have q := of_beq_true q
    subst q
    go_ret2
    refine ⟨ret_u8b (by rw [← HA.out]; decide) (by rw [← HD.out]; decide), ?_⟩
    repeat (first | exact Below.refl _ _ | refine Below.alloc ?_ (by first | exact Nat.le_refl _ | (simp; omega) | simp) _)
  rename_i q3
  have k3 := hide (of_beq_false q3)
  rw [rounds_succ]
  go_wp2
  · rename_i q
    have q := of_beq_true q
    subst q
    go_ret2
    refine ⟨ret_u8b (by rw [← HA.out]; decide) (by rw [← HD.out]; decide), ?_⟩
    repeat (first | exact Below.refl _ _ | refine Below.alloc ?_ (by first | exact Nat.le_refl _ | (simp; omega) | simp) _)
  rename_i q4
  have k4 := hide (of_beq_false q4)
  rw [rounds_succ]
  go_wp2
  · rename_i q
    have q := of_beq_true q
    subst q
    go_ret2
    refine ⟨ret_u8b (by rw [← HA.out]; decide) (by rw [← HD.out]; decide), ?_⟩
    repeat (first | exact Below.refl _ _ | refine Below.alloc ?_ (by first | exact Nat.le_refl _ | (simp; omega) | simp) _)
  rename_i q5
  have k5 := hide (of_beq_false q5)
  rw [rounds_succ]
  go_wp2
  · rename_i q
    have q := of_beq_true q
    subst q
    go_ret2
    refine ⟨ret_u8b (by rw [← HA.out]; decide) (by rw [← HD.out]; decide), ?_⟩
    repeat (first | exact Below.refl _ _ | refine Below.alloc ?_ (by first | exact Nat.le_refl _ | (simp; omega) | simp) _)
  rename_i q6
  have k6 := hide (of_beq_false q6)
  rw [rounds_succ]
  go_wp2
  · rename_i q
    have q := of_beq_true q
    subst q
    go_ret2
    refine ⟨ret_u8b (by rw [← HA.out]; decide) (by rw [← HD.out]; decide), ?_⟩
    repeat (first | exact Below.refl _ _ | refine Below.alloc ?_ (by first | exact Nat.le_refl _ | (simp; omega) | simp) _)
  rename_i q7
  have k7 := hide (of_beq_false q7)
  rw [rounds_succ]
  go_wp2
  go_ret2
  have e : xSay c = -1 := by unfold xSay; rw [if_neg (by have := k0.out; omega), if_neg (by have := k1.out; omega), if_neg (by have := k2.out; omega), if_neg (by have := k3.out; omega), if_neg (by have := k4.out; omega), if_neg (by have := k5.out; omega), if_neg (by have := k6.out; omega), if_neg (by have := k7.out; omega)]
  refine ⟨ret_u8b (by rw [← HA.out, e]; rfl) (by rw [← HD.out, e]; rfl), ?_⟩
  repeat (first | exact Below.refl _ _ | refine Below.alloc ?_ (by first | exact Nat.le_refl _ | (simp; omega) | simp) _)

set_option maxRecDepth 100000 in
set_option maxHeartbeats 4000000 in
theorem saidBy_any {w : World} {c : Int} (ht : Tab w) :
    Calls Tryd.prog 67 #[.int .u8 c] w fun e w' => e = .returned (.tuple #[.int .u8 (if xLet c = -1 then 0 else xLet c), .bool (decide (xLet c ≠ -1))]) ∧ Below w.heap.size w w' := by
  have c0 := ht.2 0 (by omega)
  have c1 := ht.2 1 (by omega)
  have c2 := ht.2 2 (by omega)
  have c3 := ht.2 3 (by omega)
  have c4 := ht.2 4 (by omega)
  have c5 := ht.2 5 (by omega)
  have c6 := ht.2 6 (by omega)
  have c7 := ht.2 7 (by omega)
  have c8 := ht.2 8 (by omega)
  have c9 := ht.2 9 (by omega)
  have c10 := ht.2 10 (by omega)
  have c11 := ht.2 11 (by omega)
  have c12 := ht.2 12 (by omega)
  have c13 := ht.2 13 (by omega)
  have c14 := ht.2 14 (by omega)
  have c15 := ht.2 15 (by omega)
  simp only [xTab, List.getD_cons_zero, List.getD_cons_succ] at c0 c1 c2 c3 c4 c5 c6 c7 c8 c9 c10 c11 c12 c13 c14 c15
  have i0 := xtab_0
  have i1 := xtab_1
  have i2 := xtab_2
  have i3 := xtab_3
  have i4 := xtab_4
  have i5 := xtab_5
  have i6 := xtab_6
  have i7 := xtab_7
  obtain ⟨A, hA⟩ : ∃ A, (if xLet c = -1 then 0 else xLet c) = A := ⟨_, rfl⟩
  obtain ⟨D, hD⟩ : ∃ D, decide (xLet c ≠ -1) = D := ⟨_, rfl⟩
  have HA := hide hA
  have HD := hide hD
  rw [hA, hD]; clear hA hD ht
  go_enter Tryd.func67, Tryd.ntmps67
  go_wp2
  refine wp_loop_rounds 9 ?_
  rw [rounds_succ]
  go_wp2
  · rename_i q
    have q := of_beq_true q
    subst q
    go_ret2
    refine ⟨ret_u8b (by rw [← HA.out]; decide) (by rw [← HD.out]; decide), ?_⟩
    repeat (first | exact Below.refl _ _ | refine Below.alloc ?_ (by first | exact Nat.le_refl _ | (simp; omega) | simp) _)
  rename_i q0
  have k0 := hide (of_beq_false q0)
  rw [rounds_succ]
  go_wp2
  · rename_i q
    have q := of_beq_true q
    subst q
    go_ret2
    refine ⟨ret_u8b (by rw [← HA.out]; decide) (by rw [← HD.out]; decide), ?_⟩
    repeat (first | exact Below.refl _ _ | refine Below.alloc ?_ (by first | exact Nat.le_refl _ | (simp; omega) | simp) _)
  rename_i q1
  have k1 := hide (of_beq_false q1)
  rw [rounds_succ]
  go_wp2
  · rename_i q
    have q := of_beq_true q
    subst q
    go_ret2
    refine ⟨ret_u8b (by rw [← HA.out]; decide) (by rw [← HD.out]; decide), ?_⟩
    repeat (first | exact Below.refl _ _ | refine Below.alloc ?_ (by first | exact Nat.le_refl _ | (simp; omega) | simp) _)
  rename_i q2
  have k2 := hide (of_beq_false q2)
  rw [rounds_succ]
  go_wp2
  · rename_i q
    have q := of_beq_true q
    subst q
    go_ret2
    refine ⟨ret_u8b (by rw [← HA.out]; decide) (by rw [← HD.out]; decide), ?_⟩
    repeat (first | exact Below.refl _ _ | refine Below.alloc ?_ (by first | exact Nat.le_refl _ | (simp; omega) | simp) _)
  rename_i q3
  have k3 := hide (of_beq_false q3)
  rw [rounds_succ]
  go_wp2
  · rename_i q
    have q := of_beq_true q
    subst q
    go_ret2
    refine ⟨ret_u8b (by rw [← HA.out]; decide) (by rw [← HD.out]; decide), ?_⟩
    repeat (first | exact Below.refl _ _ | refine Below.alloc ?_ (by first | exact Nat.le_refl _ | (simp; omega) | simp) _)
  rename_i q4
  have k4 := hide (of_beq_false q4)
  rw [rounds_succ]
  go_wp2
  · rename_i q
    have q := of_beq_true q
    subst q
    go_ret2
    refine ⟨ret_u8b (by rw [← HA.out]; decide) (by rw [← HD.out]; decide), ?_⟩
    repeat (first | exact Below.refl _ _ | refine Below.alloc ?_ (by first | exact Nat.le_refl _ | (simp; omega) | simp) _)
  rename_i q5
  have k5 := hide (of_beq_false q5)
  rw [rounds_succ]
  go_wp2
  · rename_i q
    have q := of_beq_true q
    subst q
    go_ret2
    refine ⟨ret_u8b (by rw [← HA.out]; decide) (by rw [← HD.out]; decide), ?_⟩
    repeat (first | exact Below.refl _ _ | refine Below.alloc ?_ (by first | exact Nat.le_refl _ | (simp; omega) | simp) _)
  rename_i q6
  have k6 := hide (of_beq_false q6)
  rw [rounds_succ]
  go_wp2
  · rename_i q
    have q := of_beq_true q
    subst q
    go_ret2
    refine ⟨ret_u8b (by rw [← HA.out]; decide) (by rw [← HD.out]; decide), ?_⟩
    repeat (first | exact Below.refl _ _ | refine Below.alloc ?_ (by first | exact Nat.le_refl _ | (simp; omega) | simp) _)
  rename_i q7
  have k7 := hide (of_beq_false q7)
  rw [rounds_succ]
  go_wp2
  go_ret2
  have e : xLet c = -1 := by unfold xLet; rw [if_neg (by have := k0.out; omega), if_neg (by have := k1.out; omega), if_neg (by have := k2.out; omega), if_neg (by have := k3.out; omega), if_neg (by have := k4.out; omega), if_neg (by have := k5.out; omega), if_neg (by have := k6.out; omega), if_neg (by have := k7.out; omega)]
  refine ⟨ret_u8b (by rw [← HA.out, e]; rfl) (by rw [← HD.out, e]; rfl), ?_⟩
  repeat (first | exact Below.refl _ _ | refine Below.alloc ?_ (by first | exact Nat.le_refl _ | (simp; omega) | simp) _)

end Go.Proofs.YtegokdhmpopggaaDoor
