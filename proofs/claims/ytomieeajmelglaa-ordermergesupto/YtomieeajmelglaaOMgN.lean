/- Merge and Unique without an order; what hangs on the signs of an order alone -/
import Derived.Test.YtomieeajmelglaaOStM
import Derived.Test.YtomieeajmelglaaOTwNil
import Derived.Test.YtomieeajmelglaaOApA
namespace Go.Proofs.Ytomieeajmelglaa
open Go.RowKit Go.Shelf
set_option linter.unusedVariables false
set_option linter.unusedSimpArgs false

theorem mrg_congr {α : Type} {f g : α → α → Int} (h : ∀ a b, f a b < 0 ↔ g a b < 0) (xs ys : List α) : mrg f xs ys = mrg g xs ys := by
  induction hn : xs.length + ys.length generalizing xs ys with
  | zero =>
    obtain rfl : xs = [] := List.eq_nil_of_length_eq_zero (by omega)
    obtain rfl : ys = [] := List.eq_nil_of_length_eq_zero (by omega)
    simp [mrg]
  | succ n ih =>
    cases xs with
    | nil => simp [mrg]
    | cons x xs =>
      cases ys with
      | nil => simp [mrg]
      | cons y ys =>
        simp only [mrg]
        by_cases e : f y x < 0
        · rw [if_pos e, if_pos ((h y x).1 e), ih _ _ (by simp at hn ⊢; omega)]
        · rw [if_neg e, if_neg (fun k => e ((h y x).2 k)), ih _ _ (by simp at hn ⊢; omega)]
theorem fsr_congr {α : Type} {f g : α → α → Int} (h : ∀ a b, f a b = 0 ↔ g a b = 0) : ∀ (l : List α) (p : α), fsr f p l = fsr g p l
  | [], p => rfl
  | b :: t, p => by
    simp only [fsr]
    rw [fsr_congr h t b]
    by_cases e : f p b = 0
    · rw [if_pos e, if_pos ((h p b).1 e)]
    · rw [if_neg e, if_neg (fun k => e ((h p b).2 k))]
theorem fs1_congr {α : Type} {f g : α → α → Int} (h : ∀ a b, f a b = 0 ↔ g a b = 0) (l : List α) : fs1 f l = fs1 g l := by
  cases l with
  | nil => rfl
  | cons a t => simp only [fs1]; rw [fsr_congr h]
theorem mrg_by (o : Int) (xs ys : List It) : mrg (ocmp o) xs ys = mrg (byF o) xs ys := (mrg_congr (fun a b => byF_neg o a b) xs ys).symm
theorem fs1_by (o : Int) (l : List It) : fs1 (ocmp o) l = fs1 (byF o) l := (fs1_congr (fun a b => byF_zero o a b) l).symm
set_option maxRecDepth 100000 in
set_option maxHeartbeats 2000000 in
theorem merge_nil {w : World} {ao bo : Option Addr} {n c n2 c2 : Nat} : Calls Try.prog 16 #[.slice ao n c, .slice bo n2 c2, .nilFunc] w fun e w' => e = .returned (.slice none 0 0) ∧ Below w.heap.size w w' := by
  have hfn : ∀ w : World, (binOp .eql 28 .nilFunc .nilFunc).run Try.prog w = .ok (.bool true) w := onil_nil itdesc
  go_enter Try.func16, Try.ntmps16
  go_wp2
  go_ret
  exact ⟨rfl, Below.refl _ _⟩
set_option maxRecDepth 100000 in
set_option maxHeartbeats 2000000 in
theorem unique_nil {w : World} {ao : Option Addr} {n c : Nat} : Calls Try.prog 17 #[.slice ao n c, .nilFunc] w fun e w' => e = .returned (.slice none 0 0) ∧ Below w.heap.size w w' := by
  have hfn : ∀ w : World, (binOp .eql 28 .nilFunc .nilFunc).run Try.prog w = .ok (.bool true) w := onil_nil itdesc
  go_enter Try.func17, Try.ntmps17
  go_wp2
  go_ret
  exact ⟨rfl, (Below.refl _ w).alloc (Nat.le_refl _) _⟩

end Go.Proofs.Ytomieeajmelglaa
