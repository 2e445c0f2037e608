/- ref10 on the document's scanner: digit, encode -/
import Derived.Test.YtefmlajndillbaaGreatDoorDcI
import Derived.Test.YtefmlajndillbaaGreatDoorXOk
namespace Go.Proofs.YtefmlajndillbaaGreatDoor
open Go.RowKit
set_option linter.unusedVariables false

theorem dret_i64 {x y : Int} (h : x = y) : Ending.returned (.int .i64 x) = Ending.returned (.int .i64 y) := by rw [h]
theorem ddigit {w : World} {c : Int} (h0 : 0 ≤ c) (h1 : c < 256) : Calls Tryz.prog 81 #[.int .u8 c] w fun e w' => e = .returned (.int .i64 (xDig c)) ∧ w' = w := by
  obtain ⟨R, hR⟩ : ∃ R, xDig c = R := ⟨_, rfl⟩
  have HR := hide hR
  rw [hR]; clear hR
  by_cases a1 : 48 ≤ c ∧ c ≤ 57
  · have e : R = c - 48 := by rw [← HR.out]; unfold xDig; rw [if_pos a1]
    have g1 : 48 ≤ c := a1.1
    have g2 : c ≤ 57 := a1.2
    have g3 : IntKind.u8.wrap (c - 48) = c - 48 := by rw [IntKind.wrap_u8]; omega
    subst e
    clear a1 HR
    go_enter Tryz.func81, Tryz.ntmps81
    go_wp2
    go_ret
    exact ⟨rfl, rfl⟩
  · by_cases a2 : 97 ≤ c ∧ c ≤ 102
    · have e : R = c - 87 := by rw [← HR.out]; unfold xDig; rw [if_neg a1, if_pos a2]
      have g1 : 97 ≤ c := a2.1
      have g2 : c ≤ 102 := a2.2
      have g0 : ¬ c ≤ 57 := by omega
      have g00 : 48 ≤ c := by omega
      have g3 : IntKind.u8.wrap (c - 97) = c - 97 := by rw [IntKind.wrap_u8]; omega
      subst e
      clear a1 a2 HR
      go_enter Tryz.func81, Tryz.ntmps81
      go_wp2
      go_ret
      exact ⟨dret_i64 (by omega), rfl⟩
    · by_cases a3 : 65 ≤ c ∧ c ≤ 70
      · have e : R = c - 55 := by rw [← HR.out]; unfold xDig; rw [if_neg a1, if_neg a2, if_pos a3]
        have g1 : 65 ≤ c := a3.1
        have g2 : c ≤ 70 := a3.2
        have g0 : ¬ c ≤ 57 := by omega
        have g00 : 48 ≤ c := by omega
        have g4 : ¬ 97 ≤ c := by omega
        have g3 : IntKind.u8.wrap (c - 65) = c - 65 := by rw [IntKind.wrap_u8]; omega
        subst e
        clear a1 a2 a3 HR
        go_enter Tryz.func81, Tryz.ntmps81
        go_wp2
        go_ret
        exact ⟨dret_i64 (by omega), rfl⟩
      · have e : R = -1 := by rw [← HR.out]; unfold xDig; rw [if_neg a1, if_neg a2, if_neg a3]
        subst e
        clear HR
        go_enter Tryz.func81, Tryz.ntmps81
        go_wp2
        all_goals first
          | (go_ret; exact ⟨rfl, rfl⟩)
          | (exfalso; omega)
theorem dencode {w : World} {p : Int} (hp0 : 0 ≤ p) (hp1 : p ≤ 1114111) : Calls Tryz.prog 82 #[.int .i64 p] w fun e w' => e = .returned (.slice (some ⟨w.heap.size, 0, none⟩) (uEnc p).length (uEnc p).length) ∧ w' = w.alloc (.cells ((uEnc p).map (Value.int .u8)).toArray 5) := by
  have wr : ∀ x, 0 ≤ x → x < 256 → IntKind.u8.wrap x = x := fun x a b => by simp [IntKind.wrap, IntKind.bits, IntKind.signed]; omega
  by_cases h1 : p < 128
  · have e : uEnc p = [p] := by unfold uEnc; rw [if_pos h1]
    rw [e]
    have w1 := wr p (by omega) (by omega)
    clear wr e
    go_enter Tryz.func82, Tryz.ntmps82
    go_wp2; go_ret
    exact ⟨rfl, rfl⟩
  · by_cases h2 : p < 2048
    · have e : uEnc p = [192 + p / 64, 128 + p % 64] := by unfold uEnc; rw [if_neg h1, if_pos h2]
      rw [e]
      have w1 := wr (192 + p / 64) (by omega) (by omega)
      have w2 := wr (128 + p % 64) (by omega) (by omega)
      clear wr e
      go_enter Tryz.func82, Tryz.ntmps82
      go_wp2; go_ret
      exact ⟨rfl, rfl⟩
    · by_cases h3 : p < 65536
      · have e : uEnc p = [224 + p / 4096, 128 + p / 64 % 64, 128 + p % 64] := by unfold uEnc; rw [if_neg h1, if_neg h2, if_pos h3]
        rw [e]
        have w1 := wr (224 + p / 4096) (by omega) (by omega)
        have w2 := wr (128 + p / 64 % 64) (by omega) (by omega)
        have w3 := wr (128 + p % 64) (by omega) (by omega)
        clear wr e
        go_enter Tryz.func82, Tryz.ntmps82
        go_wp2; go_ret
        exact ⟨rfl, rfl⟩
      · have e : uEnc p = [240 + p / 262144, 128 + p / 4096 % 64, 128 + p / 64 % 64, 128 + p % 64] := by unfold uEnc; rw [if_neg h1, if_neg h2, if_neg h3]
        rw [e]
        have w1 := wr (240 + p / 262144) (by omega) (by omega)
        have w2 := wr (128 + p / 64 % 64) (by omega) (by omega)
        have w3 := wr (128 + p % 64) (by omega) (by omega)
        have w4 := wr (128 + p / 4096 % 64) (by omega) (by omega)
        clear wr e
        go_enter Tryz.func82, Tryz.ntmps82
        go_wp2; go_ret
        exact ⟨rfl, rfl⟩
/-- .. as a list of one's own -/
theorem dencode_own {w : World} {p : Int} (hp0 : 0 ≤ p) (hp1 : p ≤ 1114111) : Calls Tryz.prog 82 #[.int .i64 p] w fun e w' => ∃ g, e = .returned (.slice (some ⟨g, 0, none⟩) (uEnc p).length (uEnc p).length) ∧ Cells .u8 w' (some ⟨g, 0, none⟩) (uEnc p) ∧ Below w.heap.size w w' := by
  refine (dencode hp0 hp1).mono ?_
  rintro e w' ⟨rfl, rfl⟩
  refine ⟨_, rfl, fun _ => ⟨_, 0, rfl, by simp, fun i hi => ?_⟩, (Below.refl _ _).alloc (Nat.le_refl _) _⟩
  rw [Lib.cell_of_heap (heap_alloc_new w _)]
  simp [Nt.lb, hi]

end Go.Proofs.YtefmlajndillbaaGreatDoor
