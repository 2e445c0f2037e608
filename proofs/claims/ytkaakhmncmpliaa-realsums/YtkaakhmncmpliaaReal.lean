/- real: Float, Bits, Float32, Bits32, Same, Cmp; the document's One, IsNaN, One32, rank, Cmp -/
import Derived.Test.YtkaakhmncmpliaaRMath
import Derived.Laws.Externs
import Derived.Laws.BitsAllLaws
import Derived.Laws.BitsLemmas
import Derived.Deep.RegionHeld3
import Derived.Deep.Cut
import Derived.Handy
import Derived.BigQuiet
namespace Go.Proofs.Ytkaakhmncmpliaa
open Go.RowKit

theorem x_from64 (w : World) (n : Int) : (callFunc 39 #[.int .u64 n]).run Try.prog w = .ok (.value (.float .f64 n.toNat)) w := by
  rw [run_callFunc_extern Try.func39 (by kernel_rfl) (by kernel_rfl) (by kernel_rfl) (e := Extern.MathFloatBits.float64frombits) (by kernel_rfl)]
  rfl

theorem x_bits64 (w : World) (b : Nat) : (callFunc 41 #[.float .f64 b]).run Try.prog w = .ok (.value (.int .u64 b)) w := by
  rw [run_callFunc_extern Try.func41 (by kernel_rfl) (by kernel_rfl) (by kernel_rfl) (e := Extern.MathFloatBits.float64bits) (by kernel_rfl)]
  rfl

theorem x_from32 (w : World) (n : Int) : (callFunc 40 #[.int .u32 n]).run Try.prog w = .ok (.value (.float .f32 n.toNat)) w := by
  rw [run_callFunc_extern Try.func40 (by kernel_rfl) (by kernel_rfl) (by kernel_rfl) (e := Extern.MathFloatBits.float32frombits) (by kernel_rfl)]
  rfl

theorem x_bits32 (w : World) (b : Nat) : (callFunc 42 #[.float .f32 b]).run Try.prog w = .ok (.value (.int .u32 b)) w := by
  rw [run_callFunc_extern Try.func42 (by kernel_rfl) (by kernel_rfl) (by kernel_rfl) (e := Extern.MathFloatBits.float32bits) (by kernel_rfl)]
  rfl

theorem float_any (w : World) (b : Int) : Calls Try.prog 9 #[.int .u64 b] w fun e w' => e = .returned (.float .f64 b.toNat) ∧ w' = w := by
  have hx := x_from64
  go_enter Try.func9, Try.ntmps9
  go_wp2
  go_ret
  exact ⟨rfl, rfl⟩

theorem bits_any (w : World) (b : Nat) : Calls Try.prog 11 #[.float .f64 b] w fun e w' => e = .returned (.int .u64 (oneD b)) ∧ w' = w := by
  have hx := x_bits64
  have hs := order_self' b
  by_cases h : nanD b
  · have Hc := hide (show oneD b = 9221120237041090560 by unfold oneD; rw [if_pos h])
    rw [decide_eq_true h] at hs
    go_enter Try.func11, Try.ntmps11
    go_wp2
    go_ret
    exact ⟨by rw [Hc.out]; rfl, rfl⟩
  · have Hc := hide (show oneD b = b by unfold oneD; rw [if_neg h])
    rw [decide_eq_false h] at hs
    go_enter Try.func11, Try.ntmps11
    go_wp2
    go_ret
    exact ⟨by rw [Hc.out]; rfl, rfl⟩

/-- words of 32 bits -/
def nanS (b : Nat) : Prop := 2139095040 < b % 2147483648
instance (b : Nat) : Decidable (nanS b) := inferInstanceAs (Decidable (_ < _))
def oneS (b : Nat) : Int := if nanS b then 2143289344 else b
theorem sorder_self (b : Nat) : (FloatKind.f32.format.order b b != some .eq) = decide (nanS b) := by
  change ((Ieee.single.read b).order (Ieee.single.read b) != some .eq) = _
  unfold Ieee.Format.read
  rw [show Ieee.single.signWeight = 2147483648 from rfl, show Ieee.single.binade = 8388608 from rfl, show Ieee.single.infRung = 2139095040 from rfl, show Ieee.single.leastPlace = -149 from rfl]
  dsimp only
  generalize (b / 2147483648 % 2 == 1) = s
  have num : ∀ (s : Bool) (m : Nat) (e : Int), ((Ieee.Datum.number s m e).order (Ieee.Datum.number s m e) != some .eq) = false := by
    intro s m e
    change (some (compare (Ieee.signed s m (e - min e e).toNat) (Ieee.signed s m (e - min e e).toNat)) != some .eq) = false
    rw [cmp_int, if_neg (by omega), if_pos rfl]
    rfl
  have dt : 2139095040 < b % 2147483648 → decide (nanS b) = true := fun h => decide_eq_true h
  have df : ¬ 2139095040 < b % 2147483648 → decide (nanS b) = false := fun h => decide_eq_false h
  by_cases c : b % 2147483648 < 8388608
  · rw [if_pos c, num, df (by omega)]
  · rw [if_neg c]
    by_cases d : b % 2147483648 < 2139095040
    · rw [if_pos d, num, df (by omega)]
    · rw [if_neg d]
      by_cases e : b % 2147483648 = 2139095040
      · rw [if_pos e, df (by omega)]
        cases s <;> rfl
      · rw [if_neg e, dt (by omega)]
        rfl

theorem float32_any (w : World) (b : Int) : Calls Try.prog 10 #[.int .u32 b] w fun e w' => e = .returned (.float .f32 b.toNat) ∧ w' = w := by
  have hx := x_from32
  go_enter Try.func10, Try.ntmps10
  go_wp2
  go_ret
  exact ⟨rfl, rfl⟩

theorem bits32_any (w : World) (b : Nat) : Calls Try.prog 13 #[.float .f32 b] w fun e w' => e = .returned (.int .u32 (oneS b)) ∧ w' = w := by
  have hx := x_bits32
  have hs := sorder_self b
  by_cases h : nanS b
  · have Hc := hide (show oneS b = 2143289344 by unfold oneS; rw [if_pos h])
    rw [decide_eq_true h] at hs
    go_enter Try.func13, Try.ntmps13
    go_wp2
    go_ret
    exact ⟨by rw [Hc.out]; rfl, rfl⟩
  · have Hc := hide (show oneS b = b by unfold oneS; rw [if_neg h])
    rw [decide_eq_false h] at hs
    go_enter Try.func13, Try.ntmps13
    go_wp2
    go_ret
    exact ⟨by rw [Hc.out]; rfl, rfl⟩

theorem nat_mask (x n k : Nat) : x &&& ((2 ^ k - 1) * 2 ^ n) = x / 2 ^ n % 2 ^ k * 2 ^ n := by
  apply Nat.eq_of_testBit_eq
  intro i
  rw [Nat.testBit_and, Nat.testBit_mul_two_pow, Nat.testBit_mul_two_pow, Nat.testBit_two_pow_sub_one, Nat.testBit_mod_two_pow, Nat.testBit_div_two_pow]
  by_cases h : n ≤ i
  · rw [Nat.sub_add_cancel h]
    simp [h]
    rw [Bool.and_comm]
  · simp [h]
theorem nat_mask0 (x k : Nat) : x &&& (2 ^ k - 1) = x % 2 ^ k := by
  simpa only [Nat.pow_zero, Nat.mul_one, Nat.div_one] using nat_mask x 0 k
theorem and_exp (x : Int) (h0 : 0 ≤ x) (h1 : x < 18446744073709551616) : bits .and .u64 x 9218868437227405312 = x / 4503599627370496 % 2048 * 4503599627370496 := by
  rw [u64_and x 9218868437227405312 h0 (by omega) (by decide) (by decide)]
  have := nat_mask x.toNat 52 11
  rw [show (9218868437227405312 : Int).toNat = (2 ^ 11 - 1) * 2 ^ 52 from rfl, this]
  omega
theorem and_frac (x : Int) (h0 : 0 ≤ x) (h1 : x < 18446744073709551616) : bits .and .u64 x 4503599627370495 = x % 4503599627370496 := by
  rw [u64_and x 4503599627370495 h0 (by omega) (by decide) (by decide)]
  have := nat_mask0 x.toNat 52
  rw [show (4503599627370495 : Int).toNat = 2 ^ 52 - 1 from rfl, this]
  omega
theorem and_size (x : Int) (h0 : 0 ≤ x) (h1 : x < 18446744073709551616) : bits .and .u64 x 9223372036854775807 = x % 9223372036854775808 := by
  rw [u64_and x 9223372036854775807 h0 (by omega) (by decide) (by decide)]
  have := nat_mask0 x.toNat 63
  rw [show (9223372036854775807 : Int).toNat = 2 ^ 63 - 1 from rfl, this]
  omega
theorem and_exp32 (x : Int) (h0 : 0 ≤ x) (h1 : x < 4294967296) : bits .and .u32 x 2139095040 = x / 8388608 % 256 * 8388608 := by
  rw [u32_and x 2139095040 h0 (by omega) (by decide) (by decide)]
  have := nat_mask x.toNat 23 8
  rw [show (2139095040 : Int).toNat = (2 ^ 8 - 1) * 2 ^ 23 from rfl, this]
  omega
theorem and_frac32 (x : Int) (h0 : 0 ≤ x) (h1 : x < 4294967296) : bits .and .u32 x 8388607 = x % 8388608 := by
  rw [u32_and x 8388607 h0 (by omega) (by decide) (by decide)]
  have := nat_mask0 x.toNat 23
  rw [show (8388607 : Int).toNat = 2 ^ 23 - 1 from rfl, this]
  omega

set_option maxHeartbeats 1000000 in
theorem isnan_any (w : World) (b : Int) (h0 : 0 ≤ b) (h1 : b < 18446744073709551616) : Calls Try.prog 15 #[.int .u64 b] w fun e w' => e = .returned (.bool (decide (nanD b.toNat))) ∧ w' = w := by
  have e1 := and_exp b h0 h1
  have e2 := and_frac b h0 h1
  have key : nanD b.toNat ↔ (b / 4503599627370496 % 2048 * 4503599627370496 = 9218868437227405312 ∧ b % 4503599627370496 ≠ 0) := by
    unfold nanD szD; omega
  generalize b / 4503599627370496 % 2048 * 4503599627370496 = X at *
  generalize b % 4503599627370496 = Y at *
  by_cases c : X = 9218868437227405312
  · have c' : (X == 9218868437227405312) = true := by simp [c]
    by_cases d : Y = 0
    · have d' : (Y == 0) = true := by simp [d]
      have d2 : (Y != 0) = false := by simp [d]
      have Hc := hide (show decide (nanD b.toNat) = false from decide_eq_false (by rw [key]; omega))
      clear key c d h0 h1
      go_enter Try.func15, Try.ntmps15
      go_wp2
      go_ret
      exact ⟨by rw [Hc.out]; rfl, rfl⟩
    · have d' : (Y == 0) = false := by simp [d]
      have d2 : (Y != 0) = true := by simp [d]
      have Hc := hide (show decide (nanD b.toNat) = true from decide_eq_true (by rw [key]; omega))
      clear key c d h0 h1
      go_enter Try.func15, Try.ntmps15
      go_wp2
      go_ret
      exact ⟨by rw [Hc.out]; rfl, rfl⟩
  · have c' : (X == 9218868437227405312) = false := by simp [c]
    have Hc := hide (show decide (nanD b.toNat) = false from decide_eq_false (by rw [key]; omega))
    clear key c h0 h1
    go_enter Try.func15, Try.ntmps15
    go_wp2
    go_ret
    exact ⟨by rw [Hc.out]; rfl, rfl⟩

theorem one_any (w : World) (b : Int) (h0 : 0 ≤ b) (h1 : b < 18446744073709551616) : Calls Try.prog 12 #[.int .u64 b] w fun e w' => e = .returned (.int .u64 (oneD b.toNat)) ∧ w' = w := by
  go_enter Try.func12, Try.ntmps12
  go_wp2_with fail
  with_reducible refine (isnan_any _ b h0 h1).mono ?_
  rintro e w1 ⟨rfl, rfl⟩
  by_cases h : nanD b.toNat
  · have Hc := hide (show oneD b.toNat = 9221120237041090560 by unfold oneD; rw [if_pos h])
    rw [decide_eq_true h]
    clear h h0 h1
    go_wp2
    go_ret
    exact ⟨by rw [Hc.out]; rfl, rfl⟩
  · have Hc := hide (show oneD b.toNat = b by unfold oneD; rw [if_neg h]; omega)
    rw [decide_eq_false h]
    clear h h0 h1
    go_wp2
    go_ret
    exact ⟨by rw [Hc.out]; rfl, rfl⟩

set_option maxHeartbeats 1000000 in
theorem one32_any (w : World) (b : Int) (h0 : 0 ≤ b) (h1 : b < 4294967296) : Calls Try.prog 14 #[.int .u32 b] w fun e w' => e = .returned (.int .u32 (oneS b.toNat)) ∧ w' = w := by
  have e1 := and_exp32 b h0 h1
  have e2 := and_frac32 b h0 h1
  have key : nanS b.toNat ↔ (b / 8388608 % 256 * 8388608 = 2139095040 ∧ b % 8388608 ≠ 0) := by
    unfold nanS; omega
  have val : oneS b.toNat = if nanS b.toNat then 2143289344 else b := by
    unfold oneS
    rw [show ((b.toNat : Nat) : Int) = b by omega]
  generalize b / 8388608 % 256 * 8388608 = X at *
  generalize b % 8388608 = Y at *
  by_cases c : X = 2139095040
  · have c' : (X == 2139095040) = true := by simp [c]
    by_cases d : Y = 0
    · have d' : (Y == 0) = true := by simp [d]
      have d2 : (Y != 0) = false := by simp [d]
      have Hc := hide (show oneS b.toNat = b by rw [val, if_neg (by rw [key]; omega)])
      clear key val c d h0 h1
      go_enter Try.func14, Try.ntmps14
      go_wp2
      go_ret
      exact ⟨by rw [Hc.out]; rfl, rfl⟩
    · have d' : (Y == 0) = false := by simp [d]
      have d2 : (Y != 0) = true := by simp [d]
      have Hc := hide (show oneS b.toNat = 2143289344 by rw [val, if_pos (by rw [key]; omega)])
      clear key val c d h0 h1
      go_enter Try.func14, Try.ntmps14
      go_wp2
      go_ret
      exact ⟨by rw [Hc.out]; rfl, rfl⟩
  · have c' : (X == 2139095040) = false := by simp [c]
    have Hc := hide (show oneS b.toNat = b by rw [val, if_neg (by rw [key]; omega)])
    clear key val c h0 h1
    go_enter Try.func14, Try.ntmps14
    go_wp2
    go_ret
    exact ⟨by rw [Hc.out]; rfl, rfl⟩

theorem same_any (w : World) (a b : Nat) : Calls Try.prog 28 #[.float .f64 a, .float .f64 b] w fun e w' => e = .returned (.bool (oneD a == oneD b)) ∧ w' = w := by
  go_enter Try.func28, Try.ntmps28
  go_wp2_with fail
  with_reducible refine (bits_any _ a).mono ?_
  rintro e w1 ⟨rfl, rfl⟩
  go_wp2_with fail
  with_reducible refine (bits_any _ b).mono ?_
  rintro e w1 ⟨rfl, rfl⟩
  generalize hA : oneD a = x
  generalize hB : oneD b = y
  have HA := hide hA
  have HB := hide hB
  clear hA hB
  by_cases h : x = y
  · have h' : (x == y) = true := by simp [h]
    clear h
    go_wp2
    go_ret
    exact ⟨by rw [HA.out, HB.out, h']; rfl, rfl⟩
  · have h' : (x == y) = false := by simp [h]
    clear h
    go_wp2
    go_ret
    exact ⟨by rw [HA.out, HB.out, h']; rfl, rfl⟩

/-- -1, 0 or 1 -/
def tri (x y : Int) : Int := if x < y then -1 else if y < x then 1 else 0
def cmpD (a b : Nat) : Int := if nanD a ∨ nanD b then 0 else tri (rkD a) (rkD b)
set_option maxHeartbeats 1000000 in
theorem rcmp5_any (w : World) (a b : Nat) : Calls Try.prog 27 #[.float .f64 a, .float .f64 b] w fun e w' => e = .returned (.tuple #[.int .i64 (cmpD a b), .bool (!decide (nanD a) && !decide (nanD b))]) ∧ w' = w := by
  have o1 := order_lt (a := a) (b := b)
  have o2 := order_gt (a := a) (b := b)
  have o3 := order_eq (a := a) (b := b)
  by_cases h : nanD a ∨ nanD b
  · have q : (!decide (nanD a) && !decide (nanD b)) = false := by
      rcases h with h | h
      · rw [decide_eq_true h]; rfl
      · rw [decide_eq_true h]; simp
    rw [q, Bool.false_and] at o1 o2 o3
    have Hc := hide (show cmpD a b = 0 by unfold cmpD; rw [if_pos h])
    rw [q]
    clear q h
    go_enter Try.func27, Try.ntmps27
    go_wp2
    go_ret2
    exact ⟨by rw [Hc.out]; rfl, rfl⟩
  · have q : (!decide (nanD a) && !decide (nanD b)) = true := by
      rw [decide_eq_false (fun g => h (Or.inl g)), decide_eq_false (fun g => h (Or.inr g))]; rfl
    rw [q, Bool.true_and] at o1 o2 o3
    rw [q]
    have c0 : cmpD a b = tri (rkD a) (rkD b) := by unfold cmpD; rw [if_neg h]
    clear q h
    unfold tri at c0
    by_cases l : rkD a < rkD b
    · rw [if_pos l] at c0
      rw [decide_eq_true l] at o1
      have Hc := hide c0
      clear c0 l o2 o3
      go_enter Try.func27, Try.ntmps27
      go_wp2
      go_ret2
      exact ⟨by rw [Hc.out]; rfl, rfl⟩
    · rw [if_neg l] at c0
      rw [decide_eq_false l] at o1
      by_cases g : rkD b < rkD a
      · rw [if_pos g] at c0
        rw [decide_eq_true g] at o2
        have Hc := hide c0
        clear c0 l g o3
        go_enter Try.func27, Try.ntmps27
        go_wp2
        go_ret2
        exact ⟨by rw [Hc.out]; rfl, rfl⟩
      · rw [if_neg g] at c0
        rw [decide_eq_false g] at o2
        rw [decide_eq_true (by omega)] at o3
        have Hc := hide c0
        clear c0 l g
        go_enter Try.func27, Try.ntmps27
        go_wp2
        go_ret2
        exact ⟨by rw [Hc.out]; rfl, rfl⟩

end Go.Proofs.Ytkaakhmncmpliaa
