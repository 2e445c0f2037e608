import Derived.Test.YticmlelalbaalaaGreatDoorB09
import Derived.Test.YticmlelalbaalaaGreatDoorB04
import Derived.Test.YticmlelalbaalaaGreatDoorB08
import Derived.Test.YticmlelalbaalaaGreatDoorB11
import Derived.Deep.RegionHeld3
import Derived.BigQuiet
namespace Go.Proofs.YticmlelalbaalaaGreatDoor
open Go.RowKit
set_option linter.unusedVariables false
def usTab : List Nat := [0, 0, 1, 2, 4, 16, 16, 32, 32, 33, 1, 24]
structure Uss (w : World) : Prop where
  at_ : ∀ j, j < 12 → w.cell? ⟨11, j, none⟩ = some (.int .u8 (usTab.getD j 0))
  lt : 11 < w.heap.size
theorem Uss.below {w w' : World} (h : Uss w) (hb : Below w.heap.size w w') : Uss w' := ⟨fun j hj => (hb.cell (p := ⟨11, j, none⟩) h.lt).trans (h.at_ j hj), Nat.lt_of_lt_of_le h.lt hb.size⟩
abbrev nvW (g : Bool) (m : Value) : Value := .agg #[.int .i8 3, .int .u64 0, .bool g, m, .int .u64 0, .int .i8 0, .string ⟨#[]⟩, .slice none 0 0]
abbrev nvF (b : Int) : Value := .agg #[.int .i8 4, .int .u64 0, .bool false, .slice none 0 0, .int .u64 b, .int .i8 0, .string ⟨#[]⟩, .slice none 0 0]
def FOk (b : Int) : Prop := 0 ≤ b ∧ b < 18446744073709551616 ∧ b ≠ 0 ∧ (b = 9221120237041090560 ∨ b % 9223372036854775808 = 9218868437227405312 ∨ (b % 9223372036854775808 < 9218868437227405312 ∧ ∃ n, IntIs 4503599627370496 (-1074) 9218868437227405312 (b % 9223372036854775808) (decide (9223372036854775808 ≤ b)) n false))
set_option maxHeartbeats 8000000 in
set_option maxRecDepth 20000 in
theorem isfloat_ok {w : World} (L : Lays w) (T : Brn w) {b : Int} (h : FOk b) : Calls Tryz.prog 108 #[.int .u64 b] w fun e w' => e = .returned (.bool true) ∧ Below w.heap.size w w' := by
  obtain ⟨b0, b1, bn, h⟩ := h
  have HH := hide h
  clear h
  go_enter Tryz.func108, Tryz.ntmps108
  go_wp2_with fail
  with_reducible refine (class_64 L b (b % 9223372036854775808) b0 b1 rfl).mono ?_
  rintro e w1 ⟨rfl, K1⟩
  have HK := hide K1
  have L1 := hide (L.below K1)
  have T1 := hide (T.below K1)
  clear K1
  rcases HH.out with rfl | h | ⟨h, n, hn⟩
  · rw [show cls 9223372036854775808 4503599627370496 (9221120237041090560 % 9223372036854775808) = 5 from by decide]
    go_wp2
    go_ret
    exact ⟨rfl, HK.out⟩
  · rw [show cls 9223372036854775808 4503599627370496 (b % 9223372036854775808) = 4 from by rw [h]; decide]
    clear h
    go_wp2
    go_ret
    exact ⟨rfl, HK.out⟩
  · obtain ⟨c, hc⟩ : ∃ c, cls 9223372036854775808 4503599627370496 (b % 9223372036854775808) = c := ⟨_, rfl⟩
    rw [hc]
    have c5 : c ≠ 5 := by
      rw [← hc, Ne, cls_nan]; omega
    have c4 : c ≠ 4 := by
      rw [← hc]; unfold cls; intro hx
      rw [if_neg (by omega), if_neg (by omega)] at hx
      split at hx
      · omega
      · split at hx <;> omega
    have HN := hide hn
    have e5 : (c == 5) = false := by simp [c5]
    have e4 : (c == 4) = false := by simp [c4]
    clear hc hn h c4 c5 bn HH
    go_wp2_with fail
    with_reducible refine (int_64 L1.out T1.out b (b % 9223372036854775808) (decide (9223372036854775808 ≤ b)) b0 b1 rfl rfl).mono ?_
    rintro e w2 ⟨va, n2, ok, rfl, hW, hI, K2⟩
    obtain ⟨-, rfl⟩ := HN.out.unique (Int.emod_nonneg _ (by decide)) hI
    obtain ⟨ng2, m2, a2, rfl, ⟨zs2, ⟨ao2, rfl, -⟩, -⟩, -, -⟩ := hW
    clear hI HN
    have KK := hide (below_trans HK.out K2)
    clear K2
    go_wp2
    go_ret
    exact ⟨rfl, KK.out.alloc (by have := KK.out.size; omega) _⟩
end Go.Proofs.YticmlelalbaalaaGreatDoor
