/- Ieee, IeeeM, IeeeG, ERb, IeeeR, ESnt -/
import Derived.Test.YtinfkoiifemjmaaGreatDoorS03
import Derived.Laws.BitsAllLaws
import Derived.Laws.BitsLemmas
import Derived.Deep.RegionHeld3
import Derived.Deep.Cut
import Derived.Handy
import Derived.Test.YtinfkoiifemjmaaGreatDoorS06
namespace Go.Proofs.YtinfkoiifemjmaaGreatDoor
open Go.RowKit

theorem nat_andNot {n x : Nat} (hn : n < 64) (hx : x < 2 ^ (n + 1)) : x &&& (18446744073709551615 - 2 ^ n) = x % 2 ^ n := by
  apply Nat.eq_of_testBit_eq
  intro i
  have hp : 2 ^ n < 2 ^ 64 := Nat.pow_lt_pow_right (by decide) hn
  have e : 18446744073709551615 - 2 ^ n = 2 ^ 64 - (2 ^ n + 1) := by omega
  rw [e, Nat.testBit_and, Nat.testBit_two_pow_sub_succ hp, Nat.testBit_two_pow, Nat.testBit_mod_two_pow]
  by_cases h1 : i < n
  · have : i < 64 := by omega
    simp [h1, this]; omega
  · by_cases h2 : i = n
    · subst h2; simp
    · have h3 : x.testBit i = false := Nat.testBit_lt_two_pow (Nat.lt_of_lt_of_le hx (Nat.pow_le_pow_right (by decide) (by omega)))
      simp [h3]
theorem nat_or {n x : Nat} (hx : x < 2 ^ n) : x ||| 2 ^ n = x + 2 ^ n := by
  rw [Nat.or_comm, Nat.add_comm]
  have := Nat.two_pow_add_eq_or_of_lt hx 1
  simpa using this.symm
theorem andNot_d (x : Int) (h0 : 0 ≤ x) (h1 : x < 18446744073709551616) : bits .andNot .u64 x 9223372036854775808 = x % 9223372036854775808 := by
  rw [u64_andNot x 9223372036854775808 h0 (by omega) (by decide) (by decide)]
  have := nat_andNot (n := 63) (x := x.toNat) (by decide) (by omega)
  rw [show (9223372036854775808 : Int).toNat = 2 ^ 63 from rfl, this]
  omega
theorem bel_new (w : World) (o : Obj) : Below w.heap.size w (w.alloc o) := (Below.refl _ _).alloc (Nat.le_refl _) _
/-- three cells behind one another in a block -/
structure Cell3 (w : World) (b : Nat) (i : Nat) (x y z : Value) : Prop where
  c0 : w.cell? ⟨b, i, none⟩ = some x
  c1 : w.cell? ⟨b, i + 1, none⟩ = some y
  c2 : w.cell? ⟨b, i + 2, none⟩ = some z
  lt : b < w.heap.size
theorem Cell3.below {w w' : World} {b i : Nat} {x y z : Value} (h : Cell3 w b i x y z) (hb : Below w.heap.size w w') : Cell3 w' b i x y z :=
  ⟨(hb.cell (p := ⟨b, i, none⟩) h.lt).trans h.c0, (hb.cell (p := ⟨b, i + 1, none⟩) h.lt).trans h.c1, (hb.cell (p := ⟨b, i + 2, none⟩) h.lt).trans h.c2, Nat.lt_of_lt_of_le h.lt hb.size⟩
theorem cell3_new (w : World) (x y z : Value) (t : TypeId) : Cell3 (w.alloc (.cells #[x, y, z] t)) w.heap.size 0 x y z := by
  refine ⟨?_, ?_, ?_, by simp⟩
  · rw [World.cell?_alloc_at _ _ _ _ rfl]; rfl
  · rw [World.cell?_alloc_at _ _ _ _ rfl]; rfl
  · rw [World.cell?_alloc_at _ _ _ _ rfl]; rfl
/-- -1, 0 or 1 -/
def tri (x y : Int) : Int := if x < y then -1 else if y < x then 1 else 0
/-- the class of a size -/
def cls (S F s : Int) : Int := if S - F < s then 5 else if s = S - F then 4 else if s = 0 then 1 else if s < F then 2 else 3
/-- the place of a pattern in the total order -/
def rk (S x : Int) : Int := if x < S then x + S else 2 * S - 1 - x
def nxt (S F x : Int) : Int := if S - F < x % S ∨ x = S - F then x else if x % S = 0 then 1 else if S ≤ x then x - 1 else x + 1
def cmpOk (S F x y : Int) : Bool := decide (x % S ≤ S - F ∧ y % S ≤ S - F)
def cmpC (S F x y : Int) : Int := if x % S ≤ S - F ∧ y % S ≤ S - F then (if x % S = 0 ∧ y % S = 0 then 0 else tri (rk S x) (rk S y)) else 0
theorem cls_nan (S F s : Int) : cls S F s = 5 ↔ S - F < s := by
  unfold cls
  constructor
  · intro h
    by_cases a : S - F < s
    · exact a
    · rw [if_neg a] at h
      repeat' split at h
      all_goals omega
  · intro h; rw [if_pos h]
theorem cls_zero {S F s : Int} (h : 0 < S - F) : cls S F s = 1 ↔ s = 0 := by
  unfold cls
  constructor
  · intro g
    by_cases a : s = 0
    · exact a
    · repeat' split at g
      all_goals omega
  · intro g; rw [if_neg (by omega), if_neg (by omega), if_pos g]
/-- the table of the layouts, as its text lays it -/
structure Lays (w : World) : Prop where
  h : Cell3 w 11 0 (.int .i64 16) (.int .i64 10) (.int .i64 (-24))
  s : Cell3 w 11 3 (.int .i64 32) (.int .i64 23) (.int .i64 (-149))
  d : Cell3 w 11 6 (.int .i64 64) (.int .i64 52) (.int .i64 (-1074))
theorem Lays.below {w w' : World} (h : Lays w) (hb : Below w.heap.size w w') : Lays w' := ⟨h.h.below hb, h.s.below hb, h.d.below hb⟩

end Go.Proofs.YtinfkoiifemjmaaGreatDoor

namespace Go.Proofs.YtinfkoiifemjmaaGreatDoor
open Go.RowKit

theorem sign_d (w : World) : Calls Tryz.prog 67 #[.agg #[.int .i64 64, .int .i64 52, .int .i64 (-1074)]] w fun e w' => e = .returned (.int .u64 9223372036854775808) ∧ Below w.heap.size w w' := by
  go_enter Tryz.func67, Tryz.ntmps67
  go_wp2
  go_ret
  exact ⟨rfl, bel_new _ _⟩

theorem leastNormal_d (w : World) : Calls Tryz.prog 44 #[.agg #[.int .i64 64, .int .i64 52, .int .i64 (-1074)]] w fun e w' => e = .returned (.int .u64 4503599627370496) ∧ Below w.heap.size w w' := by
  go_enter Tryz.func44, Tryz.ntmps44
  go_wp2
  go_ret
  exact ⟨rfl, bel_new _ _⟩

set_option maxHeartbeats 1000000 in
theorem infinite_d (w : World) : Calls Tryz.prog 43 #[.agg #[.int .i64 64, .int .i64 52, .int .i64 (-1074)]] w fun e w' => e = .returned (.int .u64 9218868437227405312) ∧ Below w.heap.size w w' := by
  go_enter Tryz.func43, Tryz.ntmps43
  go_upto_region 1 with fail
  have C1 := cell3_new w (.int .i64 64) (.int .i64 52) (.int .i64 (-1074)) 80
  have K1 := bel_new w (.cells #[.int .i64 64, .int .i64 52, .int .i64 (-1074)] 80)
  generalize w.alloc (.cells #[.int .i64 64, .int .i64 52, .int .i64 (-1074)] 80) = w1 at *
  have K : Below w1.heap.size w1 w1.drew := (Below.refl _ _).drew
  go_region_held3 (fun w' => w'.cell? ⟨w.heap.size, 0, none⟩ = some (.int .i64 64) ∧ w'.cell? ⟨w.heap.size, 1, none⟩ = some (.int .i64 52) ∧ w'.cell? ⟨w.heap.size, 2, none⟩ = some (.int .i64 (-1074)))
    (first
      | with_reducible exact ⟨(C1.below K).c0, (C1.below K).c1, (C1.below K).c2⟩
      | go_keep)
    (first
      | (go_at_call 67; (with_reducible refine (sign_d _).mono ?_); rintro e w2 ⟨rfl, hb⟩; replace K := below_trans K hb; clear hb)
      | (go_at_call 44; (with_reducible refine (leastNormal_d _).mono ?_); rintro e w2 ⟨rfl, hb⟩; replace K := below_trans K hb; clear hb))
  all_goals go_wp2
  all_goals go_ret
  all_goals exact ⟨rfl, below_trans K1 K⟩

set_option maxHeartbeats 1000000 in
theorem size_d (w : World) (x s : Int) (h0 : 0 ≤ x) (h1 : x < 18446744073709551616) (hs : x % 9223372036854775808 = s) : Calls Tryz.prog 42 #[.agg #[.int .i64 64, .int .i64 52, .int .i64 (-1074)], .int .u64 x] w fun e w' => e = .returned (.int .u64 s) ∧ Below w.heap.size w w' := by
  have hb := andNot_d x h0 h1
  rw [hs] at hb
  clear hs
  go_enter Tryz.func42, Tryz.ntmps42
  go_wp2_with fail
  with_reducible refine (sign_d _).mono ?_
  rintro e w2 ⟨rfl, hb2⟩
  go_wp2
  go_ret
  exact ⟨rfl, below_trans (bel_new _ _) hb2⟩

end Go.Proofs.YtinfkoiifemjmaaGreatDoor

namespace Go.Proofs.YtinfkoiifemjmaaGreatDoor
open Go.RowKit

set_option maxHeartbeats 1000000 in
theorem layoutOf_64 {w : World} (L : Lays w) : Calls Tryz.prog 41 #[] w fun e w' => e = .returned (.agg #[.int .i64 64, .int .i64 52, .int .i64 (-1074)]) ∧ Below w.heap.size w w' := by
  have C := (L.below (bel_new w (.cells #[.int .i64 0, .int .i64 0, .int .i64 0] 80))).d
  have c0 := C.c0
  have c1 := C.c1
  have c2 := C.c2
  have lt := L.d.lt
  clear C L
  go_enter Tryz.func41, Tryz.ntmps41
  go_wp2
  go_returns
  exact ⟨rfl, bel_new _ _⟩

set_option maxHeartbeats 2000000 in
theorem class_64 {w : World} (L : Lays w) (x s : Int) (h0 : 0 ≤ x) (h1 : x < 18446744073709551616) (hs : x % 9223372036854775808 = s) : Calls Tryz.prog 22 #[.int .u64 x] w fun e w' => e = .returned (.int .i8 (cls 9223372036854775808 4503599627370496 s)) ∧ Below w.heap.size w w' := by
  have s0 : 0 ≤ s := by omega
  have s1 : s < 9223372036854775808 := by omega
  go_enter Tryz.func22, Tryz.ntmps22
  go_wp2_with fail
  with_reducible refine (layoutOf_64 L).mono ?_
  rintro e w1 ⟨rfl, K1⟩
  go_upto_region 2 with fail
  have C := cell3_new w1 (.int .i64 64) (.int .i64 52) (.int .i64 (-1074)) 80
  have K2 := below_trans K1 (bel_new w1 (.cells #[.int .i64 64, .int .i64 52, .int .i64 (-1074)] 80))
  generalize w1.alloc (.cells #[.int .i64 64, .int .i64 52, .int .i64 (-1074)] 80) = w2 at *
  have c0 := C.c0; have c1 := C.c1; have c2 := C.c2
  go_wp2_with fail
  with_reducible refine (size_d _ x s h0 h1 hs).mono ?_
  rintro e w3 ⟨rfl, b3⟩
  clear c0 c1 c2
  replace C := C.below b3
  replace K2 := below_trans K2 b3
  clear b3
  have c0 := C.c0; have c1 := C.c1; have c2 := C.c2
  go_wp2_with fail
  with_reducible refine (infinite_d _).mono ?_
  rintro e w4 ⟨rfl, b4⟩
  clear c0 c1 c2
  replace C := C.below b4
  replace K2 := below_trans K2 b4
  clear b4
  clear h0 h1 hs
  by_cases a1 : 9218868437227405312 < s
  · have hc : cls 9223372036854775808 4503599627370496 s = 5 := by unfold cls; rw [if_pos (by omega)]
    have Hc := hide hc
    clear hc
    go_wp2
    go_ret
    exact ⟨by rw [Hc.out]; rfl, K2⟩
  have c0 := C.c0; have c1 := C.c1; have c2 := C.c2
  go_wp2_with fail
  with_reducible refine (infinite_d _).mono ?_
  rintro e w5 ⟨rfl, b5⟩
  clear c0 c1 c2
  replace C := C.below b5
  replace K2 := below_trans K2 b5
  clear b5
  by_cases a2 : s = 9218868437227405312
  · have hc : cls 9223372036854775808 4503599627370496 s = 4 := by unfold cls; rw [if_neg (by omega), if_pos (by omega)]
    have a2' : (s == 9218868437227405312) = true := by simp [a2]
    have Hc := hide hc
    clear hc a2 a1
    go_wp2
    go_ret
    exact ⟨by rw [Hc.out]; rfl, K2⟩
  have a2' : (s == 9218868437227405312) = false := by simp [a2]
  by_cases a3 : s = 0
  · have hc : cls 9223372036854775808 4503599627370496 s = 1 := by unfold cls; rw [if_neg (by omega), if_neg (by omega), if_pos (by omega)]
    have a3' : (s == 0) = true := by simp [a3]
    have Hc := hide hc
    clear hc a2 a1 a3
    go_wp2
    go_ret
    exact ⟨by rw [Hc.out]; rfl, K2⟩
  have a3' : (s == 0) = false := by simp [a3]
  have c0 := C.c0; have c1 := C.c1; have c2 := C.c2
  go_wp2_with fail
  with_reducible refine (leastNormal_d _).mono ?_
  rintro e w5 ⟨rfl, b5⟩
  clear c0 c1 c2
  replace C := C.below b5
  replace K2 := below_trans K2 b5
  clear b5
  by_cases a4 : s < 4503599627370496
  · have hc : cls 9223372036854775808 4503599627370496 s = 2 := by unfold cls; rw [if_neg (by omega), if_neg (by omega), if_neg (by omega), if_pos (by omega)]
    have Hc := hide hc
    clear hc
    go_wp2
    go_ret
    exact ⟨by rw [Hc.out]; rfl, K2⟩
  · have hc : cls 9223372036854775808 4503599627370496 s = 3 := by unfold cls; rw [if_neg (by omega), if_neg (by omega), if_neg (by omega), if_neg (by omega)]
    have Hc := hide hc
    clear hc
    go_wp2
    go_ret
    exact ⟨by rw [Hc.out]; rfl, K2⟩

end Go.Proofs.YtinfkoiifemjmaaGreatDoor

namespace Go.Proofs.YtinfkoiifemjmaaGreatDoor
open Go.RowKit
set_option linter.unusedVariables false

end Go.Proofs.YtinfkoiifemjmaaGreatDoor

namespace Go.Proofs.YtinfkoiifemjmaaGreatDoor
open Go.RowKit

end Go.Proofs.YtinfkoiifemjmaaGreatDoor

namespace Go.Proofs.YtinfkoiifemjmaaGreatDoor
open Go.RowKit
set_option linter.unusedVariables false

theorem ubcell0 {W w1 : World} (hb : Below W.heap.size W w1) : (∀ b o, b < W.heap.size → w1.cell? ⟨b, o, none⟩ = W.cell? ⟨b, o, none⟩) ∧ (∀ b o, b < W.heap.size → w1.frozen? ⟨b, o, none⟩ = W.frozen? ⟨b, o, none⟩) :=
  ⟨fun b o h => by simp only [World.cell?]; rw [hb.block b h], fun b o h => by simp only [World.frozen?]; rw [hb.block b h]⟩
/-- the sentinels' places, in Code's order -/
def sG (i : Nat) : Nat := [1, 2, 0, 3, 4, 5, 6, 7, 8, 9, 10].getD i 0
/-- the sentinels lie in the world: eleven unlike addresses -/
structure Snt (w : World) (a : Nat → Addr) : Prop where
  cell : ∀ i, i < 11 → w.cell? ⟨sG i, 0, none⟩ = some (.iface 235 (.pointer (some (a i))))
  obj : ∀ i, i < 11 → ∃ c t, w.heap[(a i).block]? = some (.cells c t (0, 0))
  ne : ∀ i j, i < 11 → j < 11 → i ≠ j → a i ≠ a j
theorem Snt.lt {w : World} {a : Nat → Addr} (h : Snt w a) {i : Nat} (hi : i < 11) : sG i < w.heap.size := by
  have hc := h.cell i hi
  rcases Nat.lt_or_ge (sG i) w.heap.size with g | g
  · exact g
  · simp [World.cell?, Array.getElem?_eq_none g] at hc
theorem Snt.below {w w' : World} {a : Nat → Addr} (h : Snt w a) (hb : Below w.heap.size w w') : Snt w' a := by
  refine ⟨fun i hi => (hb.cell (p := ⟨sG i, 0, none⟩) (h.lt hi)).trans (h.cell i hi), fun i hi => ?_, h.ne⟩
  obtain ⟨c, t, ho⟩ := h.obj i hi
  exact ⟨c, t, by rw [hb.block _ (Array.getElem?_eq_some_iff.1 ho).1]; exact ho⟩
/-- a fault of ErrInput at a place -/
def FltIs (w : World) (a : Nat → Addr) (v : Value) (k : Nat) : Prop :=
  ∃ g, v = .iface 69 (.pointer (some ⟨g, 0, none⟩)) ∧ w.heap[g]? = some (.cells #[.iface 235 (.pointer (some (a 2))), .int .i64 k, .string ⟨#[]⟩] 71 (0, 0))
theorem FltIs.below {w w' : World} {a : Nat → Addr} {v : Value} {k : Nat} (h : FltIs w a v k) (hb : Below w.heap.size w w') : FltIs w' a v k := by
  obtain ⟨g, rfl, hg⟩ := h
  exact ⟨g, rfl, by rw [hb.block _ (Array.getElem?_eq_some_iff.1 hg).1]; exact hg⟩

end Go.Proofs.YtinfkoiifemjmaaGreatDoor
