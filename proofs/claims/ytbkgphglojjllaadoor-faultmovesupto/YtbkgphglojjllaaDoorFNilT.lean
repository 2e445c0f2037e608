/- what is told of nil -/
import Derived.Test.YtbkgphglojjllaaDoorFBtG
namespace Go.Proofs.YtbkgphglojjllaaDoor
open Go.RowKit
set_option linter.unusedVariables false

set_option maxHeartbeats 4000000 in
set_option maxRecDepth 100000 in
theorem found_nil {w : World} : Calls Tryd.prog 40 #[.nilIface] w fun e w' => e = .returned (.tuple #[.agg #[.nilIface, .int .i64 0, .string ⟨#[]⟩], .bool false]) ∧ Below w.heap.size w w' := by
  have K1 := hide ((Below.refl w.heap.size w).alloc (Nat.le_refl _) (.cells #[.nilIface, .int .i64 0, .string ⟨#[]⟩] 45))
  have K2 := hide (K1.out.alloc K1.out.size (.cells #[.pointer none] 41))
  have hN := (bel_alloc13 (w.alloc (.cells #[.nilIface, .int .i64 0, .string ⟨#[]⟩] 45)) (.cells #[.pointer none] 41)).block w.heap.size (by simp)
  rw [heap_alloc_new] at hN
  go_enter_defers Tryd.func40, Tryd.ntmps40
  go_wp2
  generalize (w.alloc (.cells #[.nilIface, .int .i64 0, .string ⟨#[]⟩] 45)).alloc (.cells #[.pointer none] 41) = W at hN K2 ⊢
  refine leaves_cons (f := 51) (args := #[]) (by simp) (by simp [go_sem]) ?_
  refine (found1_idle _).mono ?_
  rintro e u' w'' ⟨rfl, rfl, rfl⟩
  have d0 := Lib.cell_of_heap hN 0
  have d1 := Lib.cell_of_heap hN 1
  have d2 := Lib.cell_of_heap hN 2
  simp at d0 d1 d2
  clear hN
  simp [Leaves, settle, results, Tryd.results40, go_sem, d0, d1, d2]
  exact K2.out
theorem fat_nil {w : World} : Calls Tryd.prog 25 #[.nilIface] w fun e w' => e = .returned (.tuple #[.int .i64 0, .bool false]) ∧ Below w.heap.size w w' := by
  have HF := hide (found_nil (w := w))
  go_enter Tryd.func25, Tryd.ntmps25
  go_wp2_with fail
  refine HF.out.mono ?_
  rintro e w1 ⟨rfl, hb⟩
  have K1 := hide (hb.alloc hb.size (.cells #[.nilIface, .int .i64 0, .string ⟨#[]⟩] 45))
  clear HF hb
  go_wp2
  go_ret2
  exact ⟨rfl, K1.out⟩
theorem fpath_nil {w : World} : Calls Tryd.prog 26 #[.nilIface] w fun e w' => e = .returned (.tuple #[.string ⟨#[]⟩, .bool false]) ∧ Below w.heap.size w w' := by
  have HF := hide (found_nil (w := w))
  go_enter Tryd.func26, Tryd.ntmps26
  go_wp2_with fail
  refine HF.out.mono ?_
  rintro e w1 ⟨rfl, hb⟩
  have K1 := hide (hb.alloc hb.size (.cells #[.nilIface, .int .i64 0, .string ⟨#[]⟩] 45))
  clear HF hb
  go_wp2
  go_ret2
  exact ⟨rfl, K1.out⟩
set_option maxHeartbeats 4000000 in
set_option maxRecDepth 100000 in
theorem tells_nil {w : World} : Calls Tryd.prog 12 #[.nilIface, .int .i64 0, .int .i64 0, .string ⟨#[]⟩, .bool false] w fun e w' => e = .returned (.bool true) ∧ Below w.heap.size w w' := by
  have HA := hide (fun (u : World) => fat_nil (w := u))
  have HP := hide (fun (u : World) => fpath_nil (w := u))
  have HC := hide (fun (u : World) => fcode_nil (w := u))
  go_enter Tryd.func12, Tryd.ntmps12
  go_wp2_with fail
  refine (HA.out _).mono ?_
  rintro e w1 ⟨rfl, hb1⟩
  have K1 := hide hb1
  clear hb1
  go_wp2_with fail
  refine (HP.out _).mono ?_
  rintro e w2 ⟨rfl, hb2⟩
  have K2 := hide (K1.out.trans (hb2.mono K1.out.size))
  clear hb2
  go_wp2_with fail
  refine (HC.out _).mono ?_
  rintro e w3 ⟨rfl, rfl⟩
  go_wp2
  go_ret
  exact ⟨rfl, K2.out⟩

end Go.Proofs.YtbkgphglojjllaaDoor
