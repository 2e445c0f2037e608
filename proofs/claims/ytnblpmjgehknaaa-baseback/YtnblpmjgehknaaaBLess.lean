/- the law's less -/
import Derived.Test.YtnblpmjgehknaaaBJoinsW
namespace Go.Proofs.Ytnblpmjgehknaaa
open Go.RowKit
set_option linter.unusedVariables false

theorem str_list (xs : List Int) : (strOfNums xs).toList = xs.map fun n => UInt8.ofNat n.toNat := by rw [ByteArray.toList_eq]; rfl
theorem u8_lt {x y : Int} (hx : 0 ≤ x ∧ x < 256) (hy : 0 ≤ y ∧ y < 256) : (UInt8.ofNat x.toNat < UInt8.ofNat y.toNat) ↔ x < y := by
  rw [UInt8.lt_iff_toNat_lt, UInt8.toNat_ofNat', UInt8.toNat_ofNat']
  omega
theorem u8_eq {x y : Int} (hx : 0 ≤ x ∧ x < 256) (hy : 0 ≤ y ∧ y < 256) : (UInt8.ofNat x.toNat = UInt8.ofNat y.toNat) ↔ x = y := by
  constructor
  · intro h
    have h := congrArg UInt8.toNat h
    rw [UInt8.toNat_ofNat', UInt8.toNat_ofNat'] at h
    omega
  · intro h; rw [h]
theorem less_dec {xs ys : List Int} (hx : uByt xs) (hy : uByt ys) : Op.bytesLess (xs.map fun n => UInt8.ofNat n.toNat) (ys.map fun n => UInt8.ofNat n.toNat) = decide (xs < ys) := by
  induction xs generalizing ys with
  | nil =>
    cases ys with
    | nil => simp [Op.bytesLess]
    | cons b y => simp [Op.bytesLess]
  | cons a x ih =>
    cases ys with
    | nil => simp [Op.bytesLess]
    | cons b y =>
      have i := ih hx.of_cons.2 (ys := y) hy.of_cons.2
      have h1 := u8_lt hx.of_cons.1 hy.of_cons.1
      have h2 := u8_eq hx.of_cons.1 hy.of_cons.1
      simp only [List.map_cons, Op.bytesLess, i]
      rw [decide_eq_decide.2 (show a :: x < b :: y ↔ a < b ∨ a = b ∧ x < y from List.cons_lt_cons_iff), Bool.decide_or, Bool.decide_and, decide_eq_decide.2 h1]
      congr 2
      rw [Bool.eq_iff_iff]
      simp [h2]
theorem eq_dec {xs ys : List Int} (hx : uByt xs) (hy : uByt ys) : ((strOfNums xs).toList == (strOfNums ys).toList) = decide (xs = ys) := by
  by_cases h : xs = ys
  · rw [h]; simp
  · rw [decide_eq_false h]
    apply beq_eq_false_iff_ne.2
    intro e
    apply h
    apply utxt_inj hx hy
    apply Go.WideShapes.bytes_inj
    rw [ByteArray.toList_eq, ByteArray.toList_eq] at e
    exact e
def bLs (a b : List Int) : Int := if a < b then -1 else if a = b then 0 else 1
theorem bLs_hex {a b : List Int} (ha : uByt a) (hb : uByt b) : bLs (bHex a) (bHex b) = bLs a b := by
  unfold bLs
  have h1 : (bHex a = bHex b) = (a = b) := propext ⟨bHex_inj ha hb, fun h => by rw [h]⟩
  have h2 : (bHex a < bHex b) = (a < b) := propext (bHex_lt ha hb)
  simp only [h1, h2]

set_option maxRecDepth 100000 in
theorem less_any {w : World} {xs ys : List Int} (hx : uByt xs) (hy : uByt ys) : Calls Try.prog 17 #[.string (strOfNums xs), .string (strOfNums ys)] w fun e w' => e = .returned (.int .i64 (bLs xs ys)) ∧ w' = w := by
  have h1 := less_dec hx hy
  rw [← str_list, ← str_list] at h1
  have h2 := eq_dec hx hy
  have hg : binOp .gtr 9 (.string (strOfNums xs)) (.string (strOfNums ys)) = pure (.bool !(Op.bytesLess (strOfNums xs).toList (strOfNums ys).toList || (strOfNums xs).toList == (strOfNums ys).toList)) := by simp [binOp, Op.stringOp]
  rw [h1, h2] at hg
  clear h2
  by_cases l : xs < ys
  · rw [decide_eq_true l] at h1 hg
    have e : bLs xs ys = -1 := by unfold bLs; rw [if_pos l]
    rw [e]
    clear l
    go_enter Try.func17, Try.ntmps17
    go_wp2
    go_ret
    exact ⟨rfl, rfl⟩
  · rw [decide_eq_false l] at h1 hg
    by_cases q : xs = ys
    · rw [decide_eq_true q] at hg
      have e : bLs xs ys = 0 := by unfold bLs; rw [if_neg l, if_pos q]
      rw [e]
      clear l q
      go_enter Try.func17, Try.ntmps17
      go_wp2
      go_ret
      exact ⟨rfl, rfl⟩
    · rw [decide_eq_false q] at hg
      have e : bLs xs ys = 1 := by unfold bLs; rw [if_neg l, if_neg q]
      rw [e]
      clear l q
      go_enter Try.func17, Try.ntmps17
      go_wp2
      go_ret
      exact ⟨rfl, rfl⟩

end Go.Proofs.Ytnblpmjgehknaaa
