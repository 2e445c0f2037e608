/- Ieee, IeeeM, IeeeG -/
import Derived.Test.YticmlelalbaalaaGreatDoorR03
import Derived.Laws.BitsAllLaws
import Derived.Laws.BitsLemmas
import Derived.Deep.RegionHeld3
import Derived.Deep.Cut
import Derived.Handy
namespace Go.Proofs.YticmlelalbaalaaGreatDoor
open Go.RowKit

theorem nat_andNot {n x : Nat} (hn : n < 64) (hx : x < 2 ^ (n + 1)) : x &&& (18446744073709551615 - 2 ^ n) = x % 2 ^ n := by
  apply Nat.eq_of_testBit_eq
  intro i
  have hp : 2 ^ n < 2 ^ 64 := Nat.pow_lt_pow_right (by decide) hn
  have e : 18446744073709551615 - 2 ^ n = 2 ^ 64 - (2 ^ n + 1) := by omega
  rw [e, Nat.testBit_and, Nat.testBit_two_pow_sub_succ hp, Nat.testBit_two_pow, Nat.testBit_mod_two_pow]
  by_cases h1 : i < n
  · have : i < 64 := by omega
    simp [h1, this]; omega
  · by_cases h2 : i = n
    · subst h2; simp
    · have h3 : x.testBit i = false := Nat.testBit_lt_two_pow (Nat.lt_of_lt_of_le hx (Nat.pow_le_pow_right (by decide) (by omega)))
      simp [h3]
theorem nat_and {n x : Nat} (hx : x < 2 ^ (n + 1)) : x &&& 2 ^ n = x - x % 2 ^ n := by
  have h := Nat.div_add_mod x (2 ^ n)
  have hp : 0 < 2 ^ n := Nat.two_pow_pos n
  have h2 : x / 2 ^ n < 2 := by rw [Nat.div_lt_iff_lt_mul hp]; rw [Nat.pow_succ] at hx; omega
  apply Nat.eq_of_testBit_eq
  intro i
  have hx' : x - x % 2 ^ n = (x / 2 ^ n) * 2 ^ n := by rw [Nat.mul_comm]; omega
  rw [hx', Nat.testBit_and, Nat.testBit_two_pow, Nat.testBit_mul_two_pow]
  by_cases h3 : i = n
  · subst h3; simp
    rw [Nat.testBit_eq_decide_div_mod_eq]
  · by_cases h4 : i < n
    · have : ¬ n ≤ i := by omega
      simp [this]; omega
    · have h5 : (x / 2 ^ n).testBit (i - n) = false := Nat.testBit_lt_two_pow (Nat.lt_of_lt_of_le h2 (by have := Nat.pow_le_pow_right (n := 2) (by decide) (show 1 ≤ i - n by omega); simpa using this))
      simp [h5]; omega
theorem nat_or {n x : Nat} (hx : x < 2 ^ n) : x ||| 2 ^ n = x + 2 ^ n := by
  rw [Nat.or_comm, Nat.add_comm]
  have := Nat.two_pow_add_eq_or_of_lt hx 1
  simpa using this.symm
theorem nat_not {n x : Nat} (hx : x < 2 ^ n) : (2 ^ n - 1) ^^^ x = 2 ^ n - 1 - x := by
  apply Nat.eq_of_testBit_eq
  intro i
  rw [show 2 ^ n - 1 - x = 2 ^ n - (x + 1) by omega, Nat.testBit_xor, Nat.testBit_two_pow_sub_one, Nat.testBit_two_pow_sub_succ hx]
  by_cases h : i < n
  · simp [h]
  · have h3 : x.testBit i = false := Nat.testBit_lt_two_pow (Nat.lt_of_lt_of_le hx (Nat.pow_le_pow_right (by decide) (by omega)))
    simp [h, h3]
theorem not_h (x : Int) (h0 : 0 ≤ x) (h1 : x < 65536) : bits .xor .u16 65535 x = 65535 - x := by
  rw [u16_xor 65535 x (by decide) (by decide) h0 (by omega)]
  have := nat_not (n := 16) (x := x.toNat) (by omega)
  rw [show (65535 : Int).toNat = 2 ^ 16 - 1 from rfl, this]
  omega
theorem not_s (x : Int) (h0 : 0 ≤ x) (h1 : x < 4294967296) : bits .xor .u32 4294967295 x = 4294967295 - x := by
  rw [u32_xor 4294967295 x (by decide) (by decide) h0 (by omega)]
  have := nat_not (n := 32) (x := x.toNat) (by omega)
  rw [show (4294967295 : Int).toNat = 2 ^ 32 - 1 from rfl, this]
  omega
theorem not_d (x : Int) (h0 : 0 ≤ x) (h1 : x < 18446744073709551616) : bits .xor .u64 18446744073709551615 x = 18446744073709551615 - x := by
  rw [u64_xor 18446744073709551615 x (by decide) (by decide) h0 (by omega)]
  have := nat_not (n := 64) (x := x.toNat) (by omega)
  rw [show (18446744073709551615 : Int).toNat = 2 ^ 64 - 1 from rfl, this]
  omega
theorem andNot_h (x : Int) (h0 : 0 ≤ x) (h1 : x < 65536) : bits .andNot .u64 x 32768 = x % 32768 := by
  rw [u64_andNot x 32768 h0 (by omega) (by decide) (by decide)]
  have := nat_andNot (n := 15) (x := x.toNat) (by decide) (by omega)
  rw [show (32768 : Int).toNat = 2 ^ 15 from rfl, this]
  omega
theorem andNot_s (x : Int) (h0 : 0 ≤ x) (h1 : x < 4294967296) : bits .andNot .u64 x 2147483648 = x % 2147483648 := by
  rw [u64_andNot x 2147483648 h0 (by omega) (by decide) (by decide)]
  have := nat_andNot (n := 31) (x := x.toNat) (by decide) (by omega)
  rw [show (2147483648 : Int).toNat = 2 ^ 31 from rfl, this]
  omega
theorem andNot_d (x : Int) (h0 : 0 ≤ x) (h1 : x < 18446744073709551616) : bits .andNot .u64 x 9223372036854775808 = x % 9223372036854775808 := by
  rw [u64_andNot x 9223372036854775808 h0 (by omega) (by decide) (by decide)]
  have := nat_andNot (n := 63) (x := x.toNat) (by decide) (by omega)
  rw [show (9223372036854775808 : Int).toNat = 2 ^ 63 from rfl, this]
  omega
theorem and_h (x : Int) (h0 : 0 ≤ x) (h1 : x < 65536) : bits .and .u16 x 32768 = x - x % 32768 := by
  rw [u16_and x 32768 h0 (by omega) (by decide) (by decide)]
  have := nat_and (n := 15) (x := x.toNat) (by omega)
  rw [show (32768 : Int).toNat = 2 ^ 15 from rfl, this]
  omega
theorem and_s (x : Int) (h0 : 0 ≤ x) (h1 : x < 4294967296) : bits .and .u32 x 2147483648 = x - x % 2147483648 := by
  rw [u32_and x 2147483648 h0 (by omega) (by decide) (by decide)]
  have := nat_and (n := 31) (x := x.toNat) (by omega)
  rw [show (2147483648 : Int).toNat = 2 ^ 31 from rfl, this]
  omega
theorem and_d (x : Int) (h0 : 0 ≤ x) (h1 : x < 18446744073709551616) : bits .and .u64 x 9223372036854775808 = x - x % 9223372036854775808 := by
  rw [u64_and x 9223372036854775808 h0 (by omega) (by decide) (by decide)]
  have := nat_and (n := 63) (x := x.toNat) (by omega)
  rw [show (9223372036854775808 : Int).toNat = 2 ^ 63 from rfl, this]
  omega
theorem or_h (x : Int) (h0 : 0 ≤ x) (h1 : x < 32768) : bits .or .u16 x 32768 = x + 32768 := by
  rw [u16_or x 32768 h0 (by omega) (by decide) (by decide)]
  have := nat_or (n := 15) (x := x.toNat) (by omega)
  rw [show (32768 : Int).toNat = 2 ^ 15 from rfl, this]
  omega
theorem or_s (x : Int) (h0 : 0 ≤ x) (h1 : x < 2147483648) : bits .or .u32 x 2147483648 = x + 2147483648 := by
  rw [u32_or x 2147483648 h0 (by omega) (by decide) (by decide)]
  have := nat_or (n := 31) (x := x.toNat) (by omega)
  rw [show (2147483648 : Int).toNat = 2 ^ 31 from rfl, this]
  omega
theorem or_d (x : Int) (h0 : 0 ≤ x) (h1 : x < 9223372036854775808) : bits .or .u64 x 9223372036854775808 = x + 9223372036854775808 := by
  rw [u64_or x 9223372036854775808 h0 (by omega) (by decide) (by decide)]
  have := nat_or (n := 63) (x := x.toNat) (by omega)
  rw [show (9223372036854775808 : Int).toNat = 2 ^ 63 from rfl, this]
  omega

theorem bel_new (w : World) (o : Obj) : Below w.heap.size w (w.alloc o) := (Below.refl _ _).alloc (Nat.le_refl _) _
/-- three cells behind one another in a block -/
structure Cell3 (w : World) (b : Nat) (i : Nat) (x y z : Value) : Prop where
  c0 : w.cell? ⟨b, i, none⟩ = some x
  c1 : w.cell? ⟨b, i + 1, none⟩ = some y
  c2 : w.cell? ⟨b, i + 2, none⟩ = some z
  lt : b < w.heap.size
theorem Cell3.below {w w' : World} {b i : Nat} {x y z : Value} (h : Cell3 w b i x y z) (hb : Below w.heap.size w w') : Cell3 w' b i x y z :=
  ⟨(hb.cell (p := ⟨b, i, none⟩) h.lt).trans h.c0, (hb.cell (p := ⟨b, i + 1, none⟩) h.lt).trans h.c1, (hb.cell (p := ⟨b, i + 2, none⟩) h.lt).trans h.c2, Nat.lt_of_lt_of_le h.lt hb.size⟩
theorem cell3_new (w : World) (x y z : Value) (t : TypeId) : Cell3 (w.alloc (.cells #[x, y, z] t)) w.heap.size 0 x y z := by
  refine ⟨?_, ?_, ?_, by simp⟩
  · rw [World.cell?_alloc_at _ _ _ _ rfl]; rfl
  · rw [World.cell?_alloc_at _ _ _ _ rfl]; rfl
  · rw [World.cell?_alloc_at _ _ _ _ rfl]; rfl
/-- -1, 0 or 1 -/
def tri (x y : Int) : Int := if x < y then -1 else if y < x then 1 else 0
theorem tri_self (a : Int) : tri a a = 0 := by unfold tri; rw [if_neg (by omega), if_neg (by omega)]
/-- the class of a size -/
def cls (S F s : Int) : Int := if S - F < s then 5 else if s = S - F then 4 else if s = 0 then 1 else if s < F then 2 else 3
/-- the place of a pattern in the total order -/
def rk (S x : Int) : Int := if x < S then x + S else 2 * S - 1 - x
def nxt (S F x : Int) : Int := if S - F < x % S ∨ x = S - F then x else if x % S = 0 then 1 else if S ≤ x then x - 1 else x + 1
def cmpOk (S F x y : Int) : Bool := decide (x % S ≤ S - F ∧ y % S ≤ S - F)
def cmpC (S F x y : Int) : Int := if x % S ≤ S - F ∧ y % S ≤ S - F then (if x % S = 0 ∧ y % S = 0 then 0 else tri (rk S x) (rk S y)) else 0
theorem cls_nan (S F s : Int) : cls S F s = 5 ↔ S - F < s := by
  unfold cls
  constructor
  · intro h
    by_cases a : S - F < s
    · exact a
    · rw [if_neg a] at h
      repeat' split at h
      all_goals omega
  · intro h; rw [if_pos h]
theorem cls_zero {S F s : Int} (h : 0 < S - F) : cls S F s = 1 ↔ s = 0 := by
  unfold cls
  constructor
  · intro g
    by_cases a : s = 0
    · exact a
    · repeat' split at g
      all_goals omega
  · intro g; rw [if_neg (by omega), if_neg (by omega), if_pos g]
theorem cmp_cases (S F x y s r : Int) (hF : 0 < S - F) (hs : x % S = s) (hr : y % S = r) :
    (cls S F s = 5 ∨ cls S F r = 5 → cmpC S F x y = 0 ∧ cmpOk S F x y = false) ∧
    (¬ cls S F s = 5 → ¬ cls S F r = 5 → cls S F s = 1 ∧ cls S F r = 1 → cmpC S F x y = 0 ∧ cmpOk S F x y = true) ∧
    (¬ cls S F s = 5 → ¬ cls S F r = 5 → ¬ (cls S F s = 1 ∧ cls S F r = 1) → cmpC S F x y = tri (rk S x) (rk S y) ∧ cmpOk S F x y = true) := by
  rw [cls_nan, cls_nan, cls_zero hF, cls_zero hF]
  unfold cmpC cmpOk
  rw [hs, hr]
  refine ⟨fun h => ?_, fun h g k => ?_, fun h g k => ?_⟩
  · rw [if_neg (by omega)]; exact ⟨rfl, decide_eq_false (by omega)⟩
  · rw [if_pos (by omega), if_pos k]; exact ⟨rfl, decide_eq_true (by omega)⟩
  · rw [if_pos (by omega), if_neg k]; exact ⟨rfl, decide_eq_true (by omega)⟩
theorem next_1 (S F x s : Int) (hs : x % S = s) : S - F < s ∨ x = S - F → nxt S F x = x := fun h => by unfold nxt; rw [hs, if_pos h]
theorem next_2 (S F x s : Int) (hs : x % S = s) : ¬ S - F < s → ¬ x = S - F → s = 0 → nxt S F x = 1 := fun h g k => by unfold nxt; rw [hs, if_neg (by omega), if_pos k]
theorem next_3 (S F x s : Int) (hs : x % S = s) : ¬ S - F < s → ¬ x = S - F → ¬ s = 0 → S ≤ x → nxt S F x = x - 1 := fun h g k l => by unfold nxt; rw [hs, if_neg (by omega), if_neg k, if_pos l]
theorem next_4 (S F x s : Int) (hs : x % S = s) : ¬ S - F < s → ¬ x = S - F → ¬ s = 0 → ¬ S ≤ x → nxt S F x = x + 1 := fun h g k l => by unfold nxt; rw [hs, if_neg (by omega), if_neg k, if_neg l]
/-- the table of the layouts, as its text lays it -/
structure Lays (w : World) : Prop where
  h : Cell3 w 14 0 (.int .i64 16) (.int .i64 10) (.int .i64 (-24))
  s : Cell3 w 14 3 (.int .i64 32) (.int .i64 23) (.int .i64 (-149))
  d : Cell3 w 14 6 (.int .i64 64) (.int .i64 52) (.int .i64 (-1074))
theorem Lays.below {w w' : World} (h : Lays w) (hb : Below w.heap.size w w') : Lays w' := ⟨h.h.below hb, h.s.below hb, h.d.below hb⟩

end Go.Proofs.YticmlelalbaalaaGreatDoor

namespace Go.Proofs.YticmlelalbaalaaGreatDoor
open Go.RowKit

theorem sign_h (w : World) : Calls Tryz.prog 133 #[.agg #[.int .i64 16, .int .i64 10, .int .i64 (-24)]] w fun e w' => e = .returned (.int .u64 32768) ∧ Below w.heap.size w w' := by
  go_enter Tryz.func133, Tryz.ntmps133
  go_wp2
  go_ret
  exact ⟨rfl, bel_new _ _⟩

theorem leastNormal_h (w : World) : Calls Tryz.prog 161 #[.agg #[.int .i64 16, .int .i64 10, .int .i64 (-24)]] w fun e w' => e = .returned (.int .u64 1024) ∧ Below w.heap.size w w' := by
  go_enter Tryz.func161, Tryz.ntmps161
  go_wp2
  go_ret
  exact ⟨rfl, bel_new _ _⟩

set_option maxHeartbeats 1000000 in
theorem infinite_h (w : World) : Calls Tryz.prog 160 #[.agg #[.int .i64 16, .int .i64 10, .int .i64 (-24)]] w fun e w' => e = .returned (.int .u64 31744) ∧ Below w.heap.size w w' := by
  go_enter Tryz.func160, Tryz.ntmps160
  go_upto_region 1 with fail
  have C1 := cell3_new w (.int .i64 16) (.int .i64 10) (.int .i64 (-24)) 180
  have K1 := bel_new w (.cells #[.int .i64 16, .int .i64 10, .int .i64 (-24)] 180)
  generalize w.alloc (.cells #[.int .i64 16, .int .i64 10, .int .i64 (-24)] 180) = w1 at *
  have K : Below w1.heap.size w1 w1.drew := (Below.refl _ _).drew
  go_region_held3 (fun w' => w'.cell? ⟨w.heap.size, 0, none⟩ = some (.int .i64 16) ∧ w'.cell? ⟨w.heap.size, 1, none⟩ = some (.int .i64 10) ∧ w'.cell? ⟨w.heap.size, 2, none⟩ = some (.int .i64 (-24)))
    (first
      | with_reducible exact ⟨(C1.below K).c0, (C1.below K).c1, (C1.below K).c2⟩
      | go_keep)
    (first
      | (go_at_call 133; (with_reducible refine (sign_h _).mono ?_); rintro e w2 ⟨rfl, hb⟩; replace K := below_trans K hb; clear hb)
      | (go_at_call 161; (with_reducible refine (leastNormal_h _).mono ?_); rintro e w2 ⟨rfl, hb⟩; replace K := below_trans K hb; clear hb))
  all_goals go_wp2
  all_goals go_ret
  all_goals exact ⟨rfl, below_trans K1 K⟩

set_option maxHeartbeats 1000000 in
theorem size_h (w : World) (x s : Int) (h0 : 0 ≤ x) (h1 : x < 65536) (hs : x % 32768 = s) : Calls Tryz.prog 159 #[.agg #[.int .i64 16, .int .i64 10, .int .i64 (-24)], .int .u64 x] w fun e w' => e = .returned (.int .u64 s) ∧ Below w.heap.size w w' := by
  have hb := andNot_h x h0 h1
  rw [hs] at hb
  clear hs
  go_enter Tryz.func159, Tryz.ntmps159
  go_wp2_with fail
  with_reducible refine (sign_h _).mono ?_
  rintro e w2 ⟨rfl, hb2⟩
  go_wp2
  go_ret
  exact ⟨rfl, below_trans (bel_new _ _) hb2⟩

theorem sign_s (w : World) : Calls Tryz.prog 133 #[.agg #[.int .i64 32, .int .i64 23, .int .i64 (-149)]] w fun e w' => e = .returned (.int .u64 2147483648) ∧ Below w.heap.size w w' := by
  go_enter Tryz.func133, Tryz.ntmps133
  go_wp2
  go_ret
  exact ⟨rfl, bel_new _ _⟩

theorem leastNormal_s (w : World) : Calls Tryz.prog 161 #[.agg #[.int .i64 32, .int .i64 23, .int .i64 (-149)]] w fun e w' => e = .returned (.int .u64 8388608) ∧ Below w.heap.size w w' := by
  go_enter Tryz.func161, Tryz.ntmps161
  go_wp2
  go_ret
  exact ⟨rfl, bel_new _ _⟩

set_option maxHeartbeats 1000000 in
theorem infinite_s (w : World) : Calls Tryz.prog 160 #[.agg #[.int .i64 32, .int .i64 23, .int .i64 (-149)]] w fun e w' => e = .returned (.int .u64 2139095040) ∧ Below w.heap.size w w' := by
  go_enter Tryz.func160, Tryz.ntmps160
  go_upto_region 1 with fail
  have C1 := cell3_new w (.int .i64 32) (.int .i64 23) (.int .i64 (-149)) 180
  have K1 := bel_new w (.cells #[.int .i64 32, .int .i64 23, .int .i64 (-149)] 180)
  generalize w.alloc (.cells #[.int .i64 32, .int .i64 23, .int .i64 (-149)] 180) = w1 at *
  have K : Below w1.heap.size w1 w1.drew := (Below.refl _ _).drew
  go_region_held3 (fun w' => w'.cell? ⟨w.heap.size, 0, none⟩ = some (.int .i64 32) ∧ w'.cell? ⟨w.heap.size, 1, none⟩ = some (.int .i64 23) ∧ w'.cell? ⟨w.heap.size, 2, none⟩ = some (.int .i64 (-149)))
    (first
      | with_reducible exact ⟨(C1.below K).c0, (C1.below K).c1, (C1.below K).c2⟩
      | go_keep)
    (first
      | (go_at_call 133; (with_reducible refine (sign_s _).mono ?_); rintro e w2 ⟨rfl, hb⟩; replace K := below_trans K hb; clear hb)
      | (go_at_call 161; (with_reducible refine (leastNormal_s _).mono ?_); rintro e w2 ⟨rfl, hb⟩; replace K := below_trans K hb; clear hb))
  all_goals go_wp2
  all_goals go_ret
  all_goals exact ⟨rfl, below_trans K1 K⟩

set_option maxHeartbeats 1000000 in
theorem size_s (w : World) (x s : Int) (h0 : 0 ≤ x) (h1 : x < 4294967296) (hs : x % 2147483648 = s) : Calls Tryz.prog 159 #[.agg #[.int .i64 32, .int .i64 23, .int .i64 (-149)], .int .u64 x] w fun e w' => e = .returned (.int .u64 s) ∧ Below w.heap.size w w' := by
  have hb := andNot_s x h0 h1
  rw [hs] at hb
  clear hs
  go_enter Tryz.func159, Tryz.ntmps159
  go_wp2_with fail
  with_reducible refine (sign_s _).mono ?_
  rintro e w2 ⟨rfl, hb2⟩
  go_wp2
  go_ret
  exact ⟨rfl, below_trans (bel_new _ _) hb2⟩

theorem sign_d (w : World) : Calls Tryz.prog 133 #[.agg #[.int .i64 64, .int .i64 52, .int .i64 (-1074)]] w fun e w' => e = .returned (.int .u64 9223372036854775808) ∧ Below w.heap.size w w' := by
  go_enter Tryz.func133, Tryz.ntmps133
  go_wp2
  go_ret
  exact ⟨rfl, bel_new _ _⟩

theorem leastNormal_d (w : World) : Calls Tryz.prog 161 #[.agg #[.int .i64 64, .int .i64 52, .int .i64 (-1074)]] w fun e w' => e = .returned (.int .u64 4503599627370496) ∧ Below w.heap.size w w' := by
  go_enter Tryz.func161, Tryz.ntmps161
  go_wp2
  go_ret
  exact ⟨rfl, bel_new _ _⟩

set_option maxHeartbeats 1000000 in
theorem infinite_d (w : World) : Calls Tryz.prog 160 #[.agg #[.int .i64 64, .int .i64 52, .int .i64 (-1074)]] w fun e w' => e = .returned (.int .u64 9218868437227405312) ∧ Below w.heap.size w w' := by
  go_enter Tryz.func160, Tryz.ntmps160
  go_upto_region 1 with fail
  have C1 := cell3_new w (.int .i64 64) (.int .i64 52) (.int .i64 (-1074)) 180
  have K1 := bel_new w (.cells #[.int .i64 64, .int .i64 52, .int .i64 (-1074)] 180)
  generalize w.alloc (.cells #[.int .i64 64, .int .i64 52, .int .i64 (-1074)] 180) = w1 at *
  have K : Below w1.heap.size w1 w1.drew := (Below.refl _ _).drew
  go_region_held3 (fun w' => w'.cell? ⟨w.heap.size, 0, none⟩ = some (.int .i64 64) ∧ w'.cell? ⟨w.heap.size, 1, none⟩ = some (.int .i64 52) ∧ w'.cell? ⟨w.heap.size, 2, none⟩ = some (.int .i64 (-1074)))
    (first
      | with_reducible exact ⟨(C1.below K).c0, (C1.below K).c1, (C1.below K).c2⟩
      | go_keep)
    (first
      | (go_at_call 133; (with_reducible refine (sign_d _).mono ?_); rintro e w2 ⟨rfl, hb⟩; replace K := below_trans K hb; clear hb)
      | (go_at_call 161; (with_reducible refine (leastNormal_d _).mono ?_); rintro e w2 ⟨rfl, hb⟩; replace K := below_trans K hb; clear hb))
  all_goals go_wp2
  all_goals go_ret
  all_goals exact ⟨rfl, below_trans K1 K⟩

set_option maxHeartbeats 1000000 in
theorem size_d (w : World) (x s : Int) (h0 : 0 ≤ x) (h1 : x < 18446744073709551616) (hs : x % 9223372036854775808 = s) : Calls Tryz.prog 159 #[.agg #[.int .i64 64, .int .i64 52, .int .i64 (-1074)], .int .u64 x] w fun e w' => e = .returned (.int .u64 s) ∧ Below w.heap.size w w' := by
  have hb := andNot_d x h0 h1
  rw [hs] at hb
  clear hs
  go_enter Tryz.func159, Tryz.ntmps159
  go_wp2_with fail
  with_reducible refine (sign_d _).mono ?_
  rintro e w2 ⟨rfl, hb2⟩
  go_wp2
  go_ret
  exact ⟨rfl, below_trans (bel_new _ _) hb2⟩

end Go.Proofs.YticmlelalbaalaaGreatDoor

namespace Go.Proofs.YticmlelalbaalaaGreatDoor
open Go.RowKit

theorem isNaN_32 (w : World) (x : Int) : Calls Tryz.prog 158 #[.int .u32 x] w fun e w' => e = .returned (.bool false) ∧ w' = w := by
  go_enter Tryz.func158, Tryz.ntmps158
  go_wp2
  go_ret
  exact ⟨rfl, rfl⟩
set_option maxHeartbeats 1000000 in
theorem compare_32 (w : World) (x y : Int) : Calls Tryz.prog 131 #[.int .u32 x, .int .u32 y] w fun e w' => e = .returned (.int .i64 (tri x y)) ∧ w' = w := by
  go_enter Tryz.func131, Tryz.ntmps131
  go_wp2_with fail
  with_reducible refine (isNaN_32 _ _).mono ?_
  rintro e w1 ⟨rfl, rfl⟩
  go_wp2_with fail
  with_reducible refine (isNaN_32 _ _).mono ?_
  rintro e w1 ⟨rfl, rfl⟩
  by_cases a : x < y
  · have Hc := hide (show tri x y = -1 by unfold tri; rw [if_pos a])
    go_wp2
    go_ret
    exact ⟨by rw [Hc.out]; rfl, rfl⟩
  · by_cases b : y < x
    · have Hc := hide (show tri x y = 1 by unfold tri; rw [if_neg a, if_pos b])
      go_wp2
      go_ret
      exact ⟨by rw [Hc.out]; rfl, rfl⟩
    · have Hc := hide (show tri x y = 0 by unfold tri; rw [if_neg a, if_neg b])
      go_wp2
      go_ret
      exact ⟨by rw [Hc.out]; rfl, rfl⟩

set_option maxHeartbeats 1000000 in
theorem layoutOf_64 {w : World} (L : Lays w) : Calls Tryz.prog 132 #[] w fun e w' => e = .returned (.agg #[.int .i64 64, .int .i64 52, .int .i64 (-1074)]) ∧ Below w.heap.size w w' := by
  have C := (L.below (bel_new w (.cells #[.int .i64 0, .int .i64 0, .int .i64 0] 180))).d
  have c0 := C.c0
  have c1 := C.c1
  have c2 := C.c2
  have lt := L.d.lt
  clear C L
  go_enter Tryz.func132, Tryz.ntmps132
  go_wp2
  go_returns
  exact ⟨rfl, bel_new _ _⟩

set_option maxHeartbeats 2000000 in
theorem class_64 {w : World} (L : Lays w) (x s : Int) (h0 : 0 ≤ x) (h1 : x < 18446744073709551616) (hs : x % 9223372036854775808 = s) : Calls Tryz.prog 137 #[.int .u64 x] w fun e w' => e = .returned (.int .i8 (cls 9223372036854775808 4503599627370496 s)) ∧ Below w.heap.size w w' := by
  have s0 : 0 ≤ s := by omega
  have s1 : s < 9223372036854775808 := by omega
  go_enter Tryz.func137, Tryz.ntmps137
  go_wp2_with fail
  with_reducible refine (layoutOf_64 L).mono ?_
  rintro e w1 ⟨rfl, K1⟩
  go_upto_region 2 with fail
  have C := cell3_new w1 (.int .i64 64) (.int .i64 52) (.int .i64 (-1074)) 180
  have K2 := below_trans K1 (bel_new w1 (.cells #[.int .i64 64, .int .i64 52, .int .i64 (-1074)] 180))
  generalize w1.alloc (.cells #[.int .i64 64, .int .i64 52, .int .i64 (-1074)] 180) = w2 at *
  have c0 := C.c0; have c1 := C.c1; have c2 := C.c2
  go_wp2_with fail
  with_reducible refine (size_d _ x s h0 h1 hs).mono ?_
  rintro e w3 ⟨rfl, b3⟩
  clear c0 c1 c2
  replace C := C.below b3
  replace K2 := below_trans K2 b3
  clear b3
  have c0 := C.c0; have c1 := C.c1; have c2 := C.c2
  go_wp2_with fail
  with_reducible refine (infinite_d _).mono ?_
  rintro e w4 ⟨rfl, b4⟩
  clear c0 c1 c2
  replace C := C.below b4
  replace K2 := below_trans K2 b4
  clear b4
  clear h0 h1 hs
  by_cases a1 : 9218868437227405312 < s
  · have hc : cls 9223372036854775808 4503599627370496 s = 5 := by unfold cls; rw [if_pos (by omega)]
    have Hc := hide hc
    clear hc
    go_wp2
    go_ret
    exact ⟨by rw [Hc.out]; rfl, K2⟩
  have c0 := C.c0; have c1 := C.c1; have c2 := C.c2
  go_wp2_with fail
  with_reducible refine (infinite_d _).mono ?_
  rintro e w5 ⟨rfl, b5⟩
  clear c0 c1 c2
  replace C := C.below b5
  replace K2 := below_trans K2 b5
  clear b5
  by_cases a2 : s = 9218868437227405312
  · have hc : cls 9223372036854775808 4503599627370496 s = 4 := by unfold cls; rw [if_neg (by omega), if_pos (by omega)]
    have a2' : (s == 9218868437227405312) = true := by simp [a2]
    have Hc := hide hc
    clear hc a2 a1
    go_wp2
    go_ret
    exact ⟨by rw [Hc.out]; rfl, K2⟩
  have a2' : (s == 9218868437227405312) = false := by simp [a2]
  by_cases a3 : s = 0
  · have hc : cls 9223372036854775808 4503599627370496 s = 1 := by unfold cls; rw [if_neg (by omega), if_neg (by omega), if_pos (by omega)]
    have a3' : (s == 0) = true := by simp [a3]
    have Hc := hide hc
    clear hc a2 a1 a3
    go_wp2
    go_ret
    exact ⟨by rw [Hc.out]; rfl, K2⟩
  have a3' : (s == 0) = false := by simp [a3]
  have c0 := C.c0; have c1 := C.c1; have c2 := C.c2
  go_wp2_with fail
  with_reducible refine (leastNormal_d _).mono ?_
  rintro e w5 ⟨rfl, b5⟩
  clear c0 c1 c2
  replace C := C.below b5
  replace K2 := below_trans K2 b5
  clear b5
  by_cases a4 : s < 4503599627370496
  · have hc : cls 9223372036854775808 4503599627370496 s = 2 := by unfold cls; rw [if_neg (by omega), if_neg (by omega), if_neg (by omega), if_pos (by omega)]
    have Hc := hide hc
    clear hc
    go_wp2
    go_ret
    exact ⟨by rw [Hc.out]; rfl, K2⟩
  · have hc : cls 9223372036854775808 4503599627370496 s = 3 := by unfold cls; rw [if_neg (by omega), if_neg (by omega), if_neg (by omega), if_neg (by omega)]
    have Hc := hide hc
    clear hc
    go_wp2
    go_ret
    exact ⟨by rw [Hc.out]; rfl, K2⟩

set_option maxHeartbeats 1000000 in
theorem rank_64 {w : World} (L : Lays w) (x : Int) (h0 : 0 ≤ x) (h1 : x < 18446744073709551616) : Calls Tryz.prog 97 #[.int .u64 x] w fun e w' => e = .returned (.int .u64 (rk 9223372036854775808 x)) ∧ Below w.heap.size w w' := by
  have hb := and_d x h0 h1
  go_enter Tryz.func97, Tryz.ntmps97
  go_wp2_with fail
  with_reducible refine (layoutOf_64 L).mono ?_
  rintro e w1 ⟨rfl, K1⟩
  go_wp2_with fail
  with_reducible refine (sign_d _).mono ?_
  rintro e w2 ⟨rfl, K2⟩
  by_cases a : x < 9223372036854775808
  · rw [show x - x % 9223372036854775808 = 0 by omega] at hb
    have ho := or_d x h0 a
    have hc : rk 9223372036854775808 x = x + 9223372036854775808 := by unfold rk; rw [if_pos a]
    have Hc := hide hc
    clear hc
    go_wp2
    go_ret
    exact ⟨by rw [Hc.out]; rfl, below_trans K1 K2⟩
  · rw [show x - x % 9223372036854775808 = 9223372036854775808 by omega] at hb
    have hc : rk 9223372036854775808 x = 18446744073709551615 - x := by unfold rk; rw [if_neg a]; omega
    have Hc := hide hc
    have hn := not_d x h0 h1
    clear hc
    go_wp2
    go_ret
    exact ⟨by rw [Hc.out]; first | rfl | exact ret_int hn, below_trans K1 K2⟩

theorem isNaN_64 (w : World) (x : Int) : Calls Tryz.prog 92 #[.int .u64 x] w fun e w' => e = .returned (.bool false) ∧ w' = w := by
  go_enter Tryz.func92, Tryz.ntmps92
  go_wp2
  go_ret
  exact ⟨rfl, rfl⟩
set_option maxHeartbeats 1000000 in
theorem compare_64 (w : World) (x y : Int) : Calls Tryz.prog 51 #[.int .u64 x, .int .u64 y] w fun e w' => e = .returned (.int .i64 (tri x y)) ∧ w' = w := by
  go_enter Tryz.func51, Tryz.ntmps51
  go_wp2_with fail
  with_reducible refine (isNaN_64 _ _).mono ?_
  rintro e w1 ⟨rfl, rfl⟩
  go_wp2_with fail
  with_reducible refine (isNaN_64 _ _).mono ?_
  rintro e w1 ⟨rfl, rfl⟩
  by_cases a : x < y
  · have Hc := hide (show tri x y = -1 by unfold tri; rw [if_pos a])
    go_wp2
    go_ret
    exact ⟨by rw [Hc.out]; rfl, rfl⟩
  · by_cases b : y < x
    · have Hc := hide (show tri x y = 1 by unfold tri; rw [if_neg a, if_pos b])
      go_wp2
      go_ret
      exact ⟨by rw [Hc.out]; rfl, rfl⟩
    · have Hc := hide (show tri x y = 0 by unfold tri; rw [if_neg a, if_neg b])
      go_wp2
      go_ret
      exact ⟨by rw [Hc.out]; rfl, rfl⟩

set_option maxHeartbeats 1000000 in
theorem total_64 {w : World} (L : Lays w) (x y : Int) (h0 : 0 ≤ x) (h1 : x < 18446744073709551616) (g0 : 0 ≤ y) (g1 : y < 18446744073709551616) : Calls Tryz.prog 54 #[.int .u64 x, .int .u64 y] w fun e w' => e = .returned (.int .i64 (tri (rk 9223372036854775808 x) (rk 9223372036854775808 y))) ∧ Below w.heap.size w w' := by
  go_enter Tryz.func54, Tryz.ntmps54
  go_wp2_with fail
  with_reducible refine (rank_64 L x h0 h1).mono ?_
  rintro e w1 ⟨rfl, K1⟩
  go_wp2_with fail
  with_reducible refine (rank_64 (L.below K1) y g0 g1).mono ?_
  rintro e w2 ⟨rfl, K2⟩
  generalize hA : rk 9223372036854775808 x = a
  generalize hB : rk 9223372036854775808 y = b
  have HA := hide hA
  have HB := hide hB
  clear hA hB
  go_wp2_with fail
  with_reducible refine (compare_64 _ a b).mono ?_
  rintro e w3 ⟨rfl, rfl⟩
  generalize hC : tri a b = c
  have HC := hide hC
  clear hC
  go_wp2
  go_ret
  exact ⟨by rw [HA.out, HB.out, HC.out]; rfl, below_trans K1 K2⟩

end Go.Proofs.YticmlelalbaalaaGreatDoor
