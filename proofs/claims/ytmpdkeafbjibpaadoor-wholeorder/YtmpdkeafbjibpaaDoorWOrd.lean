/- SameInt of any two numbers; the order's mathematics -/
import Derived.Test.YtmpdkeafbjibpaaDoorWLives
import Derived.Test.YtmpdkeafbjibpaaDoorWInw
import Derived.Test.YtmpdkeafbjibpaaDoorWHl
namespace Go.Proofs.YtmpdkeafbjibpaaDoor
open Go.RowKit

set_option maxHeartbeats 1000000 in
theorem wsame_ne {w : World} {va vb : Value} {n m : Int} {B B' k k' : Nat} (ha : WNum B w va n k) (hb : WNum B' w vb m k') (he : n ≠ m) :
    Calls Tryd.prog 11 #[va, vb] w fun e w' => e = .returned (.bool false) ∧ Below w.heap.size w w' := by
  obtain ⟨ng, m1, a, rfl, h1, h2, h3⟩ := ha
  obtain ⟨ng', m2, b, rfl, k1, k2, k3⟩ := hb
  obtain ⟨xs, hm1, hc1, hv1, hl1⟩ := h1
  obtain ⟨ys, hm2, hc2, hv2, hl2⟩ := k1
  have R1 := hm1.reads
  have R2 := hm2.reads
  obtain ⟨ao, rfl, _, _⟩ := hm1
  obtain ⟨bo, rfl, _, _⟩ := hm2
  have hB : Below w.heap.size w ((w.alloc (.cells #[.bool ng, .slice ao xs.length xs.length] 25)).alloc (.cells #[.bool ng', .slice bo ys.length ys.length] 25)) := below_trans (bel_alloc _ _) (bel_alloc _ _)
  by_cases hg : ng = ng'
  · subst hg
    have hxy : ¬ xs = ys := fun e => he (by rw [h2, k2, ← hv1, ← hv2, e])
    have hc := same_any (R1.below hB) (R2.below hB)
    rw [decide_eq_false hxy] at hc
    have q : (ng == ng) = true := by simp
    have Hc := hide hc
    clear hc R1 R2 hxy h2 k2 h3 k3 hv1 hv2 hl1 hl2 hc1 hc2 he
    go_enter Tryd.func11, Tryd.ntmps11
    go_wp2_with fail
    with_reducible refine Hc.out.mono ?_
    rintro e w3 ⟨rfl, hb3⟩
    go_wp2
    go_ret
    exact ⟨rfl, hB.trans (hb3.mono hB.size)⟩
  · have q : (ng == ng') = false := beq_eq_false_iff_ne.2 hg
    clear R1 R2 h2 k2 h3 k3 hv1 hv2 hl1 hl2 hc1 hc2 he
    go_enter Tryd.func11, Tryd.ntmps11
    go_wp2_with fail
    go_ret
    exact ⟨rfl, hB⟩
theorem wsame_dec {w : World} {va vb : Value} {n m : Int} {B B' k k' : Nat} {d : Bool} (hd : decide (n = m) = d) (ha : WNum B w va n k) (hb : WNum B' w vb m k') :
    Calls Tryd.prog 11 #[va, vb] w fun e w' => e = .returned (.bool d) ∧ Below w.heap.size w w' := by
  subst hd
  by_cases h : n = m
  · rw [decide_eq_true h]
    exact wsame_any ha hb h
  · rw [decide_eq_false h]
    exact wsame_ne ha hb h

/-- signs -/
theorem sgn_neg (x y : Int) : sgn y x = -sgn x y := by unfold sgn; split <;> split <;> (try split) <;> omega
theorem sgn_rng (x y : Int) : -1 ≤ sgn x y ∧ sgn x y ≤ 1 := by unfold sgn; split <;> (try split) <;> omega
theorem sgn_zero (x y : Int) : (sgn x y == 0) = decide (x = y) := by
  unfold sgn
  split
  · rw [decide_eq_false (by omega)]; rfl
  · split
    · rw [decide_eq_false (by omega)]; rfl
    · rw [decide_eq_true (by omega)]; rfl
theorem sgn_le (x y : Int) : decide (sgn x y ≤ 0) = decide (x ≤ y) := by
  apply decide_eq_decide.2
  unfold sgn
  split <;> (try split) <;> omega
theorem sgn_add (x y z : Int) : sgn (x + z) (y + z) = sgn x y := by unfold sgn; split <;> split <;> (try split) <;> (try split) <;> omega
theorem sgn_sub (x y : Int) : sgn (x - y) 0 = sgn x y := by unfold sgn; split <;> split <;> (try split) <;> (try split) <;> omega
theorem sgn_mul (x y z : Int) : sgn (x * z) (y * z) = sgn x y * sgn z 0 := by
  rcases Int.lt_trichotomy z 0 with hz | hz | hz
  · rcases Int.lt_trichotomy x y with h | h | h
    · rw [sgn_lt hz, sgn_lt h, sgn_gt (Int.mul_lt_mul_of_neg_right h hz)]; rfl
    · subst h
      rw [sgn_eq rfl, sgn_eq rfl]; simp
    · rw [sgn_lt hz, sgn_gt h, sgn_lt (Int.mul_lt_mul_of_neg_right h hz)]; rfl
  · subst hz
    simp [sgn]
  · rcases Int.lt_trichotomy x y with h | h | h
    · rw [sgn_gt hz, sgn_lt h, sgn_lt (Int.mul_lt_mul_of_pos_right h hz)]; rfl
    · subst h
      rw [sgn_eq rfl, sgn_eq rfl]; simp
    · rw [sgn_gt hz, sgn_gt h, sgn_gt (Int.mul_lt_mul_of_pos_right h hz)]; rfl

end Go.Proofs.YtmpdkeafbjibpaaDoor
