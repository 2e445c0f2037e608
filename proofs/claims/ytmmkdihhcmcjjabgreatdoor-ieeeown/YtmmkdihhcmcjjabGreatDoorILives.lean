/- lives: 3 halves (mk_ilaws.py) -/
import Derived.Test.YtmmkdihhcmcjjabGreatDoorIeeeO
import Derived.Test.YtmmkdihhcmcjjabGreatDoorIeeeL
namespace Go.Proofs.YtmmkdihhcmcjjabGreatDoor
open Go.RowKit
set_option linter.unusedVariables false

/-- a number that a pattern is has it as its nearest -/
theorem near_exact {F L I N E r : Int} (hF : 0 < F) (r0 : 0 ≤ r) (r1 : r ≤ I) (h : ∀ B, B ≤ E → B ≤ L → sc N E B = um F L B r) : Near F L I N E r := by
  refine ⟨r0, r1, fun B hE hB => ?_⟩
  rw [h B hE hB]
  refine ⟨fun _ => ?_, fun hr => ?_⟩
  · have := um_lt (F := F) (L := L) (B := B) (s := r) hF r0 hB
    exact ⟨by omega, fun e => by omega⟩
  · have := um_lt (F := F) (L := L) (B := B) (s := r - 1) hF (by omega) hB
    rw [Int.sub_add_cancel] at this
    exact ⟨by omega, fun e => by omega⟩
theorem i_row_one (w : World) (x : Int) : Row .u32 54 (w.alloc (.cells #[.int .u32 x] 54)) w.heap.size [x] := by
  unfold Row
  rw [heap_alloc_new]
  rfl
theorem i_arg_three (w : World) : Arg (w.alloc (.cells #[.int .u32 3] 54)) (.slice (some ⟨w.heap.size, 0, none⟩) 1 1) 3 1 := by
  refine ⟨[3], ⟨some ⟨w.heap.size, 0, none⟩, 1, rfl, Nat.le_refl _, by unfold maxLen; omega, fun _ => ⟨w.heap.size, 0, rfl, (i_row_one w 3).lt, fun i hi => ?_⟩⟩, ?_, by decide, Nat.le_refl _⟩
  · rw [Nat.zero_add]
    exact (i_row_one w 3).cell hi
  · intro i
    match i with
    | 0 => simp [Nt.lb]
    | i + 1 => simp [Nt.lb]
theorem near_lives {r : Int} (h : Near 1024 (-24) 31744 (2 * 3 + b2i false) (-1 - 1) r) : r = 15872 := by
  refine near_unique (by decide) h (near_exact (by decide) (by decide) (by decide) (fun B hE hB => ?_))
  have e1 : um 1024 (-24) B 15872 = sc 1536 (-10) B := by unfold um; rw [show mst 1024 15872 = 1536 by decide, show est 1024 (-24) 15872 = -10 by decide]
  have e2 := sc_up (N := 6) (E := -10) (B := B) (k := 8) (by omega)
  rw [e1, show (-1 - 1 : Int) = -10 + ((8 : Nat) : Int) by decide, show (2 * 3 + b2i false : Int) = 6 by decide, e2, show (6 * p2 8 : Int) = 1536 by decide]
theorem part_lives {a : Bool} {m e : Int} {ok : Bool} (h : PartIs 1024 (-24) 31744 15872 true a m e ok) : a = true ∧ m = 3 ∧ e = -1 ∧ ok = true := by
  refine h.unique (by decide) ⟨fun h => by omega, fun _ => ⟨rfl, rfl, fun h => by omega, fun _ => ⟨by decide, 9, by decide, by decide, by decide⟩⟩⟩
set_option maxHeartbeats 4000000 in
theorem lives_ok {w : World} (L : Lays w) (T : Brn w) : Calls Tryz.prog 4 #[] w fun e w' => e = .returned (.bool true) ∧ Below w.heap.size w w' := by
  go_enter Tryz.func4, Tryz.ntmps4
  go_wp2_with fail
  with_reducible refine (parts_16 L T 48640 15872 true (by decide) (by decide) (by decide) (by decide)).mono ?_
  rintro x w1 ⟨a, m, e, ok, rfl, hP, K⟩
  obtain ⟨rfl, rfl, rfl, rfl⟩ := part_lives hP
  clear hP
  have HA := hide (i_arg_three w1)
  have K2 := below_trans K (bel_new w1 (.cells #[.int .u32 3] 54))
  have HL := hide (L.below K2)
  go_wp2_with fail
  with_reducible refine (round_16 HL.out HA.out (by decide) (by decide) (by decide)).mono ?_
  rintro x w2 ⟨r, rfl, hN, b2⟩
  obtain rfl := near_lives hN
  replace K2 := below_trans K2 b2
  rw [show (15872 + b2i true * 32768 : Int) = 48640 by decide]
  clear hN b2 HL HA
  go_wp2_with fail
  with_reducible refine (next_16 (L.below K2) 48640 (by decide) (by decide)).mono ?_
  rintro x w3 ⟨rfl, b3⟩
  rw [show nxt 32768 1024 48640 = 48639 by decide]
  go_wp2
  go_ret
  exact ⟨rfl, below_trans K2 b3⟩

end Go.Proofs.YtmmkdihhcmcjjabGreatDoor
