/- ieee: bits as arithmetic, the table of layouts, three cells of a struct -/
import Derived.Test.YtfnfnkakaggmbabGreatDoorLen
import Derived.Laws.BitsAllLaws
import Derived.Laws.BitsLemmas
import Derived.Deep.RegionHeld3
import Derived.Deep.Cut
import Derived.Handy
namespace Go.Proofs.YtfnfnkakaggmbabGreatDoor
open Go.RowKit

theorem nat_andNot {n x : Nat} (hn : n < 64) (hx : x < 2 ^ (n + 1)) : x &&& (18446744073709551615 - 2 ^ n) = x % 2 ^ n := by
  apply Nat.eq_of_testBit_eq
  intro i
  have hp : 2 ^ n < 2 ^ 64 := Nat.pow_lt_pow_right (by decide) hn
  have e : 18446744073709551615 - 2 ^ n = 2 ^ 64 - (2 ^ n + 1) := by omega
  rw [e, Nat.testBit_and, Nat.testBit_two_pow_sub_succ hp, Nat.testBit_two_pow, Nat.testBit_mod_two_pow]
  by_cases h1 : i < n
  · have : i < 64 := by omega
    simp [h1, this]; omega
  · by_cases h2 : i = n
    · subst h2; simp
    · have h3 : x.testBit i = false := Nat.testBit_lt_two_pow (Nat.lt_of_lt_of_le hx (Nat.pow_le_pow_right (by decide) (by omega)))
      simp [h3]
theorem nat_and {n x : Nat} (hx : x < 2 ^ (n + 1)) : x &&& 2 ^ n = x - x % 2 ^ n := by
  have h := Nat.div_add_mod x (2 ^ n)
  have hp : 0 < 2 ^ n := Nat.two_pow_pos n
  have h2 : x / 2 ^ n < 2 := by rw [Nat.div_lt_iff_lt_mul hp]; rw [Nat.pow_succ] at hx; omega
  apply Nat.eq_of_testBit_eq
  intro i
  have hx' : x - x % 2 ^ n = (x / 2 ^ n) * 2 ^ n := by rw [Nat.mul_comm]; omega
  rw [hx', Nat.testBit_and, Nat.testBit_two_pow, Nat.testBit_mul_two_pow]
  by_cases h3 : i = n
  · subst h3; simp
    rw [Nat.testBit_eq_decide_div_mod_eq]
  · by_cases h4 : i < n
    · have : ¬ n ≤ i := by omega
      simp [this]; omega
    · have h5 : (x / 2 ^ n).testBit (i - n) = false := Nat.testBit_lt_two_pow (Nat.lt_of_lt_of_le h2 (by have := Nat.pow_le_pow_right (n := 2) (by decide) (show 1 ≤ i - n by omega); simpa using this))
      simp [h5]; omega
theorem nat_or {n x : Nat} (hx : x < 2 ^ n) : x ||| 2 ^ n = x + 2 ^ n := by
  rw [Nat.or_comm, Nat.add_comm]
  have := Nat.two_pow_add_eq_or_of_lt hx 1
  simpa using this.symm
theorem nat_not {n x : Nat} (hx : x < 2 ^ n) : (2 ^ n - 1) ^^^ x = 2 ^ n - 1 - x := by
  apply Nat.eq_of_testBit_eq
  intro i
  rw [show 2 ^ n - 1 - x = 2 ^ n - (x + 1) by omega, Nat.testBit_xor, Nat.testBit_two_pow_sub_one, Nat.testBit_two_pow_sub_succ hx]
  by_cases h : i < n
  · simp [h]
  · have h3 : x.testBit i = false := Nat.testBit_lt_two_pow (Nat.lt_of_lt_of_le hx (Nat.pow_le_pow_right (by decide) (by omega)))
    simp [h, h3]
theorem not_h (x : Int) (h0 : 0 ≤ x) (h1 : x < 65536) : bits .xor .u16 65535 x = 65535 - x := by
  rw [u16_xor 65535 x (by decide) (by decide) h0 (by omega)]
  have := nat_not (n := 16) (x := x.toNat) (by omega)
  rw [show (65535 : Int).toNat = 2 ^ 16 - 1 from rfl, this]
  omega
theorem not_s (x : Int) (h0 : 0 ≤ x) (h1 : x < 4294967296) : bits .xor .u32 4294967295 x = 4294967295 - x := by
  rw [u32_xor 4294967295 x (by decide) (by decide) h0 (by omega)]
  have := nat_not (n := 32) (x := x.toNat) (by omega)
  rw [show (4294967295 : Int).toNat = 2 ^ 32 - 1 from rfl, this]
  omega
theorem not_d (x : Int) (h0 : 0 ≤ x) (h1 : x < 18446744073709551616) : bits .xor .u64 18446744073709551615 x = 18446744073709551615 - x := by
  rw [u64_xor 18446744073709551615 x (by decide) (by decide) h0 (by omega)]
  have := nat_not (n := 64) (x := x.toNat) (by omega)
  rw [show (18446744073709551615 : Int).toNat = 2 ^ 64 - 1 from rfl, this]
  omega
theorem andNot_h (x : Int) (h0 : 0 ≤ x) (h1 : x < 65536) : bits .andNot .u64 x 32768 = x % 32768 := by
  rw [u64_andNot x 32768 h0 (by omega) (by decide) (by decide)]
  have := nat_andNot (n := 15) (x := x.toNat) (by decide) (by omega)
  rw [show (32768 : Int).toNat = 2 ^ 15 from rfl, this]
  omega
theorem andNot_s (x : Int) (h0 : 0 ≤ x) (h1 : x < 4294967296) : bits .andNot .u64 x 2147483648 = x % 2147483648 := by
  rw [u64_andNot x 2147483648 h0 (by omega) (by decide) (by decide)]
  have := nat_andNot (n := 31) (x := x.toNat) (by decide) (by omega)
  rw [show (2147483648 : Int).toNat = 2 ^ 31 from rfl, this]
  omega
theorem andNot_d (x : Int) (h0 : 0 ≤ x) (h1 : x < 18446744073709551616) : bits .andNot .u64 x 9223372036854775808 = x % 9223372036854775808 := by
  rw [u64_andNot x 9223372036854775808 h0 (by omega) (by decide) (by decide)]
  have := nat_andNot (n := 63) (x := x.toNat) (by decide) (by omega)
  rw [show (9223372036854775808 : Int).toNat = 2 ^ 63 from rfl, this]
  omega
theorem and_h (x : Int) (h0 : 0 ≤ x) (h1 : x < 65536) : bits .and .u16 x 32768 = x - x % 32768 := by
  rw [u16_and x 32768 h0 (by omega) (by decide) (by decide)]
  have := nat_and (n := 15) (x := x.toNat) (by omega)
  rw [show (32768 : Int).toNat = 2 ^ 15 from rfl, this]
  omega
theorem and_s (x : Int) (h0 : 0 ≤ x) (h1 : x < 4294967296) : bits .and .u32 x 2147483648 = x - x % 2147483648 := by
  rw [u32_and x 2147483648 h0 (by omega) (by decide) (by decide)]
  have := nat_and (n := 31) (x := x.toNat) (by omega)
  rw [show (2147483648 : Int).toNat = 2 ^ 31 from rfl, this]
  omega
theorem and_d (x : Int) (h0 : 0 ≤ x) (h1 : x < 18446744073709551616) : bits .and .u64 x 9223372036854775808 = x - x % 9223372036854775808 := by
  rw [u64_and x 9223372036854775808 h0 (by omega) (by decide) (by decide)]
  have := nat_and (n := 63) (x := x.toNat) (by omega)
  rw [show (9223372036854775808 : Int).toNat = 2 ^ 63 from rfl, this]
  omega
theorem or_h (x : Int) (h0 : 0 ≤ x) (h1 : x < 32768) : bits .or .u16 x 32768 = x + 32768 := by
  rw [u16_or x 32768 h0 (by omega) (by decide) (by decide)]
  have := nat_or (n := 15) (x := x.toNat) (by omega)
  rw [show (32768 : Int).toNat = 2 ^ 15 from rfl, this]
  omega
theorem or_s (x : Int) (h0 : 0 ≤ x) (h1 : x < 2147483648) : bits .or .u32 x 2147483648 = x + 2147483648 := by
  rw [u32_or x 2147483648 h0 (by omega) (by decide) (by decide)]
  have := nat_or (n := 31) (x := x.toNat) (by omega)
  rw [show (2147483648 : Int).toNat = 2 ^ 31 from rfl, this]
  omega
theorem or_d (x : Int) (h0 : 0 ≤ x) (h1 : x < 9223372036854775808) : bits .or .u64 x 9223372036854775808 = x + 9223372036854775808 := by
  rw [u64_or x 9223372036854775808 h0 (by omega) (by decide) (by decide)]
  have := nat_or (n := 63) (x := x.toNat) (by omega)
  rw [show (9223372036854775808 : Int).toNat = 2 ^ 63 from rfl, this]
  omega

theorem bel_new (w : World) (o : Obj) : Below w.heap.size w (w.alloc o) := (Below.refl _ _).alloc (Nat.le_refl _) _
/-- three cells behind one another in a block -/
structure Cell3 (w : World) (b : Nat) (i : Nat) (x y z : Value) : Prop where
  c0 : w.cell? ⟨b, i, none⟩ = some x
  c1 : w.cell? ⟨b, i + 1, none⟩ = some y
  c2 : w.cell? ⟨b, i + 2, none⟩ = some z
  lt : b < w.heap.size
theorem Cell3.below {w w' : World} {b i : Nat} {x y z : Value} (h : Cell3 w b i x y z) (hb : Below w.heap.size w w') : Cell3 w' b i x y z :=
  ⟨(hb.cell (p := ⟨b, i, none⟩) h.lt).trans h.c0, (hb.cell (p := ⟨b, i + 1, none⟩) h.lt).trans h.c1, (hb.cell (p := ⟨b, i + 2, none⟩) h.lt).trans h.c2, Nat.lt_of_lt_of_le h.lt hb.size⟩
theorem cell3_new (w : World) (x y z : Value) (t : TypeId) : Cell3 (w.alloc (.cells #[x, y, z] t)) w.heap.size 0 x y z := by
  refine ⟨?_, ?_, ?_, by simp⟩
  · rw [World.cell?_alloc_at _ _ _ _ rfl]; rfl
  · rw [World.cell?_alloc_at _ _ _ _ rfl]; rfl
  · rw [World.cell?_alloc_at _ _ _ _ rfl]; rfl
/-- -1, 0 or 1 -/
def tri (x y : Int) : Int := if x < y then -1 else if y < x then 1 else 0
theorem tri_self (a : Int) : tri a a = 0 := by unfold tri; rw [if_neg (by omega), if_neg (by omega)]
/-- the class of a size -/
def cls (S F s : Int) : Int := if S - F < s then 5 else if s = S - F then 4 else if s = 0 then 1 else if s < F then 2 else 3
/-- the place of a pattern in the total order -/
def rk (S x : Int) : Int := if x < S then x + S else 2 * S - 1 - x
def nxt (S F x : Int) : Int := if S - F < x % S ∨ x = S - F then x else if x % S = 0 then 1 else if S ≤ x then x - 1 else x + 1
def cmpOk (S F x y : Int) : Bool := decide (x % S ≤ S - F ∧ y % S ≤ S - F)
def cmpC (S F x y : Int) : Int := if x % S ≤ S - F ∧ y % S ≤ S - F then (if x % S = 0 ∧ y % S = 0 then 0 else tri (rk S x) (rk S y)) else 0
theorem cls_nan (S F s : Int) : cls S F s = 5 ↔ S - F < s := by
  unfold cls
  constructor
  · intro h
    by_cases a : S - F < s
    · exact a
    · rw [if_neg a] at h
      repeat' split at h
      all_goals omega
  · intro h; rw [if_pos h]
theorem cls_zero {S F s : Int} (h : 0 < S - F) : cls S F s = 1 ↔ s = 0 := by
  unfold cls
  constructor
  · intro g
    by_cases a : s = 0
    · exact a
    · repeat' split at g
      all_goals omega
  · intro g; rw [if_neg (by omega), if_neg (by omega), if_pos g]
theorem cmp_cases (S F x y s r : Int) (hF : 0 < S - F) (hs : x % S = s) (hr : y % S = r) :
    (cls S F s = 5 ∨ cls S F r = 5 → cmpC S F x y = 0 ∧ cmpOk S F x y = false) ∧
    (¬ cls S F s = 5 → ¬ cls S F r = 5 → cls S F s = 1 ∧ cls S F r = 1 → cmpC S F x y = 0 ∧ cmpOk S F x y = true) ∧
    (¬ cls S F s = 5 → ¬ cls S F r = 5 → ¬ (cls S F s = 1 ∧ cls S F r = 1) → cmpC S F x y = tri (rk S x) (rk S y) ∧ cmpOk S F x y = true) := by
  rw [cls_nan, cls_nan, cls_zero hF, cls_zero hF]
  unfold cmpC cmpOk
  rw [hs, hr]
  refine ⟨fun h => ?_, fun h g k => ?_, fun h g k => ?_⟩
  · rw [if_neg (by omega)]; exact ⟨rfl, decide_eq_false (by omega)⟩
  · rw [if_pos (by omega), if_pos k]; exact ⟨rfl, decide_eq_true (by omega)⟩
  · rw [if_pos (by omega), if_neg k]; exact ⟨rfl, decide_eq_true (by omega)⟩
theorem next_1 (S F x s : Int) (hs : x % S = s) : S - F < s ∨ x = S - F → nxt S F x = x := fun h => by unfold nxt; rw [hs, if_pos h]
theorem next_2 (S F x s : Int) (hs : x % S = s) : ¬ S - F < s → ¬ x = S - F → s = 0 → nxt S F x = 1 := fun h g k => by unfold nxt; rw [hs, if_neg (by omega), if_pos k]
theorem next_3 (S F x s : Int) (hs : x % S = s) : ¬ S - F < s → ¬ x = S - F → ¬ s = 0 → S ≤ x → nxt S F x = x - 1 := fun h g k l => by unfold nxt; rw [hs, if_neg (by omega), if_neg k, if_pos l]
theorem next_4 (S F x s : Int) (hs : x % S = s) : ¬ S - F < s → ¬ x = S - F → ¬ s = 0 → ¬ S ≤ x → nxt S F x = x + 1 := fun h g k l => by unfold nxt; rw [hs, if_neg (by omega), if_neg k, if_neg l]
/-- the table of the layouts, as its text lays it -/
structure Lays (w : World) : Prop where
  h : Cell3 w 11 0 (.int .i64 16) (.int .i64 10) (.int .i64 (-24))
  s : Cell3 w 11 3 (.int .i64 32) (.int .i64 23) (.int .i64 (-149))
  d : Cell3 w 11 6 (.int .i64 64) (.int .i64 52) (.int .i64 (-1074))
theorem Lays.below {w w' : World} (h : Lays w) (hb : Below w.heap.size w w') : Lays w' := ⟨h.h.below hb, h.s.below hb, h.d.below hb⟩

end Go.Proofs.YtfnfnkakaggmbabGreatDoor
