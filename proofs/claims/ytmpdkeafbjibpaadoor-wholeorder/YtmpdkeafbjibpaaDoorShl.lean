/- nat.Shl -/
import Derived.Test.YtmpdkeafbjibpaaDoorRaise
import Derived.Laws.CopyOwn
namespace Go.Proofs.YtmpdkeafbjibpaaDoor
open Go.RowKit

/-- the length is told by the number -/
theorem len_is {w : World} {va : Value} {n : Int} {ka k : Nat} (ha : Arg w va n ka) (hka : ka ≤ 1099511627776) (h : IsLen n k) :
    Calls Tryd.prog 36 #[va] w fun e w' => e = .returned (.int .i64 k) ∧ w' = w := by
  refine (len_any ha hka).mono ?_
  rintro e w' ⟨m, rfl, hm, _, rfl⟩
  rw [isLen_unique hm h]
  exact ⟨rfl, rfl⟩
theorem arg_cells {w : World} {ao : Option Addr} {xs : List Int} (hm : xs.length ≤ maxLen) (hc : Cells .u32 w ao xs) (ho : Nt.Ok xs) : Arg w (.slice ao xs.length xs.length) (Nt.val xs) xs.length :=
  ⟨xs, ⟨ao, _, rfl, Nat.le_refl _, hm, hc⟩, ho, rfl, Nat.le_refl _⟩

theorem canon_pos {xs : List Int} (h : 0 < Nt.val xs) : 0 < xs.length := by
  rcases Nat.eq_zero_or_pos xs.length with h0 | h0
  · rw [List.eq_nil_of_length_eq_zero h0, Nt.val_nil] at h; omega
  · exact h0

theorem lb_pad (W : Nat) (ys : List Int) (i : Nat) : Nt.lb (List.replicate W 0 ++ ys) (W + i) = Nt.lb ys i := by
  simp only [Nt.lb, List.getD_eq_getElem?_getD]
  rw [List.getElem?_append_right (by simp)]
  simp
theorem lb_pad_low (W : Nat) (ys : List Int) {i : Nat} (h : i < W) : Nt.lb (List.replicate W 0 ++ ys) i = 0 := by
  simp only [Nt.lb, List.getD_eq_getElem?_getD]
  rw [List.getElem?_append_left (by simpa using h)]
  simp [h]
theorem vt_pad_low (W : Nat) (ys : List Int) : Nt.vt (List.replicate W 0 ++ ys) W = 0 := by
  rw [Nt.vt_cut (k := 0) (by omega) (fun i _ h => lb_pad_low W ys h)]; rfl
theorem vt_pad (W : Nat) (ys : List Int) (m : Nat) : Nt.vt (List.replicate W 0 ++ ys) (W + m) = Nt.vt ys m * Nt.pw W := by
  induction m with
  | zero => rw [Nat.add_zero, vt_pad_low]; simp [Nt.vt]
  | succ m ih => rw [← Nat.add_assoc, Nt.vt_succ, ih, lb_pad, Nt.vt_succ, Nt.pw_add, Int.add_mul, Int.mul_comm (Nt.pw W), Int.mul_assoc]
theorem lb_end {xs : List Int} {z : Int} {i : Nat} (h : i < xs.length) : Nt.lb (xs ++ [z]) i = Nt.lb xs i := lb_append_left h
theorem lb_last (xs : List Int) (z : Int) : Nt.lb (xs ++ [z]) xs.length = z := by simp [Nt.lb]
theorem vt_end (xs : List Int) : Nt.vt (xs ++ [0]) (xs.length + 1) = Nt.val xs := by
  rw [Nt.vt_succ, lb_last, Nt.vt_congr (ys := xs) (fun i hi => lb_end hi)]; simp [Nt.val]
theorem ok_end {xs : List Int} (h : Nt.Ok xs) : Nt.Ok (xs ++ [0]) := by
  intro i
  by_cases h1 : i < xs.length
  · rw [lb_end h1]; exact h i
  · by_cases h2 : i = xs.length
    · subst h2; rw [lb_last]; omega
    · rw [Nt.lb_out (by simp; omega)]; omega
theorem ok_pad {ys : List Int} (W : Nat) (h : Nt.Ok ys) : Nt.Ok (List.replicate W 0 ++ ys) := by
  intro i
  by_cases h1 : i < W
  · rw [lb_pad_low W ys h1]; omega
  · obtain ⟨j, rfl⟩ : ∃ j, i = W + j := ⟨i - W, by omega⟩
    rw [lb_pad]; exact h j
theorem splice_pad (W : Nat) (xs : List Int) : splice ((List.replicate (W + xs.length + 1) (0 : Int)).map (Value.int .u32)) W (xs.map (Value.int .u32)) = (List.replicate W 0 ++ (xs ++ [0])).map (Value.int .u32) := by
  unfold splice
  simp only [← List.map_take, ← List.map_drop, ← List.map_append, List.length_map]
  congr 1
  rw [List.take_replicate, List.drop_replicate, show min W (W + xs.length + 1) = W by omega, show W + xs.length + 1 - (W + xs.length) = 1 by omega]
  rfl

end Go.Proofs.YtmpdkeafbjibpaaDoor
