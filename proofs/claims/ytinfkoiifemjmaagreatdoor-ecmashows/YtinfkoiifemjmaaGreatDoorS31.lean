/- ELay -/
import Derived.Test.YtinfkoiifemjmaaGreatDoorS30
import Derived.Test.YtinfkoiifemjmaaGreatDoorS20
import Derived.Test.YtinfkoiifemjmaaGreatDoorS28
namespace Go.Proofs.YtinfkoiifemjmaaGreatDoor
open Go.RowKit
set_option linter.unusedVariables false

set_option maxHeartbeats 1000000 in
set_option maxRecDepth 100000 in
theorem eBare {w : World} : Calls Tryz.prog 15 #[.string ⟨#[49]⟩] w fun e w' => e = .returned (.bool true) ∧ w' = w := by
  go_enter Tryz.func15, Tryz.ntmps15
  go_wp2
  go_loopg [21] 1 (fun c i wr => ∃ k : Nat, k ≤ 1 ∧ c = 1 - k ∧ i = .int .i64 k ∧ w = wr)
  case atStart => exact ⟨0, by omega, rfl, rfl, rfl⟩
  case round =>
    obtain ⟨k, hk, hgk, rfl, hw⟩ := hrel
    subst hw
    by_cases hkl : k = 0
    · subst hkl
      go_wp2_with fail
      refine (eisDigit_any (c := 49) (by omega) (by omega)).mono ?_
      rintro e w1 ⟨rfl, rfl⟩
      rw [show isD 49 = true from rfl]
      go_wp2
      go_roundg 0
      case measure => omega
      case rel => exact ⟨1, by omega, rfl, rfl, rfl⟩
    · have hk1 : k = 1 := by omega
      subst hk1
      go_wp2
      go_ret
      exact ⟨rfl, rfl⟩
set_option maxHeartbeats 1000000 in
set_option maxRecDepth 100000 in
theorem eNo0 {w : World} {b : Nat} : Calls Tryz.prog 33 #[.pointer (some ⟨b, 0, none⟩), .int .i64 0] w fun e w' => e = .returned (.tuple #[]) ∧ w' = w := by
  go_enter Tryz.func33, Tryz.ntmps33
  go_wp2
  go_loopg [5] 0 (fun c i wr => i = .int .i64 0 ∧ w = wr)
  case atStart => exact ⟨rfl, rfl⟩
  case round =>
    obtain ⟨rfl, hw⟩ := hrel
    subst hw
    go_wp2
    go_end0
    exact ⟨rfl, rfl⟩
set_option maxHeartbeats 2000000 in
set_option maxRecDepth 100000 in
theorem eSz {w : World} {B b : Nat} (h : Lib.IsBuilder 37 5 B b [] w) (hBw : B ≤ w.heap.size) : Calls Tryz.prog 17 #[.pointer (some ⟨b, 0, none⟩), .string ⟨#[49]⟩, .int .i64 0] w fun e w' => e = .returned (.tuple #[]) ∧ Lib.IsBuilder 37 5 B b (Lib.byteCells [48, 46, 49]) w' ∧ Below B w w' := by
  go_enter Tryz.func17, Tryz.ntmps17
  go_wp2_with fail
  refine (bstr h (by simp; decide) hBw).mono ?_
  rintro e w1 ⟨rfl, h1, b1⟩
  have s1 := b1.size
  go_wp2_with fail
  refine eNo0.mono ?_
  rintro e w2 ⟨rfl, rfl⟩
  go_wp2_with fail
  refine (bstr h1 (by decide) (by omega)).mono ?_
  rintro e w3 ⟨rfl, h2, b2⟩
  have K := b1.trans b2
  clear b1 b2 s1
  go_wp2
  go_end0
  exact ⟨rfl, h2, K⟩

set_option maxHeartbeats 4000000 in
set_option maxRecDepth 100000 in
theorem eLay {w : World} : Calls Tryz.prog 7 #[.agg #[.bool false, .string ⟨#[49]⟩, .int .i64 0]] w fun e w' => e = .returned (.tuple #[.string ⟨#[48, 46, 49]⟩, .bool true]) ∧ Below w.heap.size w w' := by
  have K0 : Below w.heap.size w (w.alloc (.cells #[.bool false, .string ⟨#[49]⟩, .int .i64 0] 23)) := (Below.refl _ _).alloc (Nat.le_refl _) _
  have C := cell3_new w (.bool false) (.string ⟨#[49]⟩) (.int .i64 0) 23
  have z1 : (w.alloc (.cells #[.bool false, .string ⟨#[49]⟩, .int .i64 0] 23)).heap.size = w.heap.size + 1 := by simp
  have HF := hide (Lib.fresh_isBuilder 37 5 (w.alloc (.cells #[.bool false, .string ⟨#[49]⟩, .int .i64 0] 23)))
  have C1 := C.below (bel_new _ (.cells #[.pointer none, .slice none 0 0] 37))
  have K1 := below_trans K0 (bel_new _ (.cells #[.pointer none, .slice none 0 0] 37))
  rw [z1] at HF
  have HC1 := hide C1
  have HK1 := hide K1
  have c0 := C.c0; have c1 := C.c1; have c2 := C.c2
  clear C C1 K0 K1 z1
  go_enter Tryz.func7, Tryz.ntmps7
  go_wp2_with fail
  refine eBare.mono ?_
  rintro e w1 ⟨rfl, rfl⟩
  clear c0 c1 c2
  have c0 := HC1.out.c0; have c1 := HC1.out.c1; have c2 := HC1.out.c2
  go_wp2_with fail
  refine (eSz HF.out (by simp)).mono ?_
  rintro e w2 ⟨rfl, h2, b2⟩
  have s2 := b2.size
  have KK := HK1.out
  have s1 : w.heap.size + 1 ≤ w2.heap.size := by simp at s2; omega
  go_wp2_with fail
  refine (bstring h2 s1).mono ?_
  rintro e w3 ⟨rfl, b3⟩
  have K := KK.trans ((b2.trans b3).mono (Nat.le_succ _))
  clear b2 b3 KK
  go_wp2
  go_ret2
  exact ⟨rfl, K⟩
set_option maxHeartbeats 4000000 in
set_option maxRecDepth 100000 in
theorem eShow {w : World} (T : Lays w) (U : Brn w) : Calls Tryz.prog 9 #[.int .u64 4591870180066957722] w fun e w' => e = .returned (.string ⟨#[48, 46, 49]⟩) ∧ Below w.heap.size w w' := by
  go_enter Tryz.func9, Tryz.ntmps9
  go_wp2_with fail
  refine (class_64 T 4591870180066957722 4591870180066957722 (by decide) (by decide) (by decide)).mono ?_
  rintro e w1 ⟨rfl, b1⟩
  rw [show cls 9223372036854775808 4503599627370496 4591870180066957722 = 3 by decide]
  go_wp2_with fail
  refine (digits_d (T.below b1) (U.below b1) 4591870180066957722 4591870180066957722 false (by decide) (by decide) (by decide) (by decide)).mono ?_
  rintro r w2 ⟨v, ok, rfl, dg, b2⟩
  obtain ⟨rfl, rfl⟩ := dg_tenth dg
  clear dg
  have C := cell3_new w2 (.bool false) (.string ⟨#[49]⟩) (.int .i64 0) 23
  have K := below_trans (below_trans b1 b2) (bel_new w2 (.cells #[.bool false, .string ⟨#[49]⟩, .int .i64 0] 23))
  have c0 := C.c0; have c1 := C.c1; have c2 := C.c2
  clear b1 b2 C
  go_wp2_with fail
  refine eLay.mono ?_
  rintro e w3 ⟨rfl, b3⟩
  have KK := below_trans K b3
  clear K b3
  go_wp2
  go_ret
  exact ⟨rfl, KK⟩

end Go.Proofs.YtinfkoiifemjmaaGreatDoor
