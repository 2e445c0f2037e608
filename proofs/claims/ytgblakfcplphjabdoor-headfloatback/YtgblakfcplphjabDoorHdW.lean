/- layer 19: Write, Float, Read -/
import Derived.Test.YtgblakfcplphjabDoorHdL
namespace Go.Proofs.YtgblakfcplphjabDoor
open Go.RowKit
set_option linter.unusedVariables false

set_option maxRecDepth 100000 in
theorem hwrite_any {w : World} {m x : Int} (hB0 : Beh w) (hm0 : 0 ≤ m) (hm : m < 256) (hx0 : 0 ≤ x) (hx1 : x < 18446744073709551616) :
    Calls Tryd.prog 7 #[.int .u8 m, .int .u64 x] w fun e w' => e = .returned (.tuple #[.string (if hOk m x then strOfNums (hdL m (hS x) x) else ⟨#[]⟩), .bool (hOk m x)]) ∧ Below w.heap.size w w' := by
  have CS := hide (isSimple_any (w := w) (x := x))
  have CT := hide (shortest_any hB0 hx0 hx1)
  obtain ⟨r0, r1, _, _⟩ := hS_rng hx0 hx1
  obtain ⟨b, hb⟩ : ∃ b, hSi x = b := ⟨_, rfl⟩
  obtain ⟨o, ho⟩ : ∃ o, hOk m x = o := ⟨_, rfl⟩
  have ho' := ho
  unfold hOk at ho'
  rw [hb] at ho' CS
  rw [ho]
  by_cases h7 : m ≤ 7
  · have CL := hide (laid_any hB0 hm0 h7 r0 (by omega) hx0 hx1)
    by_cases h77 : m = 7
    · cases b
      · obtain rfl : o = false := by rw [← ho']; simp; omega
        subst h77
        go_enter Tryd.func7, Tryd.ntmps7
        go_wp2_with (go_at_call 14; refine CS.out.mono ?_; rintro e w' ⟨rfl, rfl⟩)
        go_ret2
        exact ⟨rfl, Below.refl _ _⟩
      · obtain rfl : o = true := by rw [← ho']; simp [h77]
        subst h77
        go_enter Tryd.func7, Tryd.ntmps7
        go_wp2_with (first | (go_at_call 14; refine CS.out.mono ?_; rintro e w' ⟨rfl, rfl⟩) | (go_at_call 15; refine CT.out.mono ?_; rintro e w' ⟨rfl, rfl⟩) | (go_at_call 10; refine CL.out.mono ?_; rintro e w' ⟨rfl, hbl⟩))
        go_ret2
        exact ⟨rfl, hbl⟩
    · obtain rfl : o = true := by rw [← ho']; simp; omega
      go_enter Tryd.func7, Tryd.ntmps7
      go_wp2_with (first | (go_at_call 15; refine CT.out.mono ?_; rintro e w' ⟨rfl, rfl⟩) | (go_at_call 10; refine CL.out.mono ?_; rintro e w' ⟨rfl, hbl⟩))
      go_ret2
      exact ⟨rfl, hbl⟩
  · obtain rfl : o = false := by rw [← ho']; simp; omega
    go_enter Tryd.func7, Tryd.ntmps7
    go_wp2
    go_ret2
    exact ⟨rfl, Below.refl _ _⟩

/-- what Float tells: the information, 0 where there is none -/
theorem hF_cases (v x : Int) : (v = 16 ∧ x < 65536 ∧ hF v x = 25) ∨ (v = 32 ∧ x < 4294967296 ∧ hF v x = 26) ∨ (v = 64 ∧ hF v x = 27) ∨ (hF v x = 0 ∧ ¬ (v = 16 ∧ x < 65536) ∧ ¬ (v = 32 ∧ x < 4294967296) ∧ v ≠ 64) := by
  unfold hF
  (repeat' split) <;> omega
set_option maxRecDepth 100000 in
theorem hfloat_any {w : World} {v x : Int} (hB0 : Beh w) (hx0 : 0 ≤ x) (hx1 : x < 18446744073709551616) :
    Calls Tryd.prog 5 #[.int .i64 v, .int .u64 x] w fun e w' => e = .returned (.tuple #[.string (if hF v x = 0 then ⟨#[]⟩ else strOfNums (hdL 7 (hF v x) x)), .bool (hF v x != 0)]) ∧ Below w.heap.size w w' := by
  have HF := hide (show ∀ i : Int, 25 ≤ i → i < 28 → Calls Tryd.prog 9 #[.int .u64 x, .int .u8 i] w fun e w' => e = .returned (.bool (decide (x < p256 (hN i).toNat))) ∧ w' = w from fun i h0 h1 => fits_any hB0 (by omega) h1 hx0 hx1)
  have HL := hide (show ∀ i : Int, 25 ≤ i → i < 28 → Calls Tryd.prog 10 #[.int .u8 7, .int .u8 i, .int .u64 x] w fun e w' => e = .returned (.string (strOfNums (hdL 7 i x))) ∧ Below w.heap.size w w' from fun i h0 h1 => laid_any hB0 (by omega) (by omega) (by omega) h1 hx0 hx1)
  have hc := hF_cases v x
  have hp : p256 (hN 25).toNat = 65536 ∧ p256 (hN 26).toNat = 4294967296 ∧ p256 (hN 27).toNat = 18446744073709551616 := ⟨rfl, rfl, rfl⟩
  have T5 := hB0 25 (by omega)
  have T6 := hB0 26 (by omega)
  have T7 := hB0 27 (by omega)
  rw [show hN ((25 : Nat) : Int) = 2 from rfl] at T5
  rw [show hN ((26 : Nat) : Int) = 4 from rfl] at T6
  rw [show hN ((27 : Nat) : Int) = 8 from rfl] at T7
  have C5 := hide (HF.out 25 (by omega) (by omega))
  have C6 := hide (HF.out 26 (by omega) (by omega))
  have C7 := hide (HF.out 27 (by omega) (by omega))
  have L5 := hide (HL.out 25 (by omega) (by omega))
  have L6 := hide (HL.out 26 (by omega) (by omega))
  have L7 := hide (HL.out 27 (by omega) (by omega))
  rw [hp.1] at C5
  rw [hp.2.1] at C6
  rw [hp.2.2] at C7
  obtain ⟨f, hf⟩ : ∃ f, hF v x = f := ⟨_, rfl⟩
  rw [hf] at hc ⊢
  clear hf HF HL hB0 hp
  go_enter Tryd.func5, Tryd.ntmps5
  go_wp2
  go_loopg [6] 3 (fun c y wr => ∃ i : Int, 25 ≤ i ∧ i ≤ 28 ∧ (f = 0 ∨ i ≤ f) ∧ y = .int .u8 i ∧ c = (28 - i).toNat ∧ wr = w)
  case atStart => exact ⟨25, by omega, by omega, by omega, rfl, rfl, rfl⟩
  case round =>
    obtain ⟨i, h0, h1, hfi, rfl, hcc, rfl⟩ := hrel
    rcases (by omega : i = 25 ∨ i = 26 ∨ i = 27 ∨ i = 28) with rfl | rfl | rfl | rfl
    · by_cases hm : f = 25
      · obtain ⟨rfl, hx⟩ : v = 16 ∧ x < 65536 := by omega
        subst hm
        rw [decide_eq_true hx] at C5
        go_wp2_with (first | (go_at_call 9; refine C5.out.mono ?_; rintro e w' ⟨rfl, rfl⟩) | (go_at_call 10; refine L5.out.mono ?_; rintro e w' ⟨rfl, hbl⟩))
        go_ret2
        exact ⟨rfl, hbl⟩
      · by_cases hv : v = 16
        · subst hv
          rw [decide_eq_false (by omega)] at C5
          go_wp2_with (first | (go_at_call 9; refine C5.out.mono ?_; rintro e w' ⟨rfl, rfl⟩))
          go_roundg 2
          case measure => omega
          case rel => exact ⟨26, by omega, by omega, by omega, rfl, rfl, rfl⟩
        · have hv' : (v == 16) = false := by simpa using hv
          go_wp2
          go_roundg 2
          case measure => omega
          case rel => exact ⟨26, by omega, by omega, by omega, rfl, rfl, rfl⟩
    · by_cases hm : f = 26
      · obtain ⟨rfl, hx⟩ : v = 32 ∧ x < 4294967296 := by omega
        subst hm
        rw [decide_eq_true hx] at C6
        go_wp2_with (first | (go_at_call 9; refine C6.out.mono ?_; rintro e w' ⟨rfl, rfl⟩) | (go_at_call 10; refine L6.out.mono ?_; rintro e w' ⟨rfl, hbl⟩))
        go_ret2
        exact ⟨rfl, hbl⟩
      · by_cases hv : v = 32
        · subst hv
          rw [decide_eq_false (by omega)] at C6
          go_wp2_with (first | (go_at_call 9; refine C6.out.mono ?_; rintro e w' ⟨rfl, rfl⟩))
          go_roundg 1
          case measure => omega
          case rel => exact ⟨27, by omega, by omega, by omega, rfl, rfl, rfl⟩
        · have hv' : (v == 32) = false := by simpa using hv
          go_wp2
          go_roundg 1
          case measure => omega
          case rel => exact ⟨27, by omega, by omega, by omega, rfl, rfl, rfl⟩
    · by_cases hm : f = 27
      · obtain rfl : v = 64 := by omega
        subst hm
        rw [decide_eq_true (by omega)] at C7
        go_wp2_with (first | (go_at_call 9; refine C7.out.mono ?_; rintro e w' ⟨rfl, rfl⟩) | (go_at_call 10; refine L7.out.mono ?_; rintro e w' ⟨rfl, hbl⟩))
        go_ret2
        exact ⟨rfl, hbl⟩
      · have hv : v ≠ 64 := by omega
        have hv' : (v == 64) = false := by simpa using hv
        go_wp2
        go_roundg 0
        case measure => omega
        case rel => exact ⟨28, by omega, by omega, by omega, rfl, rfl, rfl⟩
    · obtain rfl : f = 0 := by omega
      go_wp2
      go_ret2
      exact ⟨rfl, Below.refl _ _⟩

end Go.Proofs.YtgblakfcplphjabDoor
