import Derived.Test.YticmlelalbaalaaGreatDoorB06
import Derived.Test.YticmlelalbaalaaGreatDoorB03
import Derived.Deep.RegionHeld3
import Derived.Handy
namespace Go.Proofs.YticmlelalbaalaaGreatDoor
open Go.RowKit
def wn (neg : Bool) (a : Int) : Int := if neg then -a else a
def WArg (w : World) (v : Value) (n : Int) (k : Nat) : Prop := ∃ neg m a, v = .agg #[.bool neg, m] ∧ Arg w m a k ∧ n = wn neg a
def WNum (B : Nat) (w : World) (v : Value) (n : Int) (k : Nat) : Prop := ∃ neg m a, v = .agg #[.bool neg, m] ∧ Num B w m a k ∧ n = wn neg a ∧ (neg = true → 0 < a)
theorem WArg.below {w w' : World} {v : Value} {n : Int} {k : Nat} (h : WArg w v n k) (hb : Below w.heap.size w w') : WArg w' v n k := by
  obtain ⟨neg, m, a, rfl, h1, h2⟩ := h
  exact ⟨neg, m, a, rfl, h1.below hb, h2⟩
theorem WNum.mono {B : Nat} {w : World} {v : Value} {n : Int} {k k' : Nat} (h : WNum B w v n k) (hk : k ≤ k') : WNum B w v n k' := by
  obtain ⟨neg, m, a, rfl, h1, h2⟩ := h
  exact ⟨neg, m, a, rfl, h1.mono hk, h2⟩
theorem num_low {B B' : Nat} {w : World} {v : Value} {n : Int} {k : Nat} (h : Num B w v n k) (hb : B' ≤ B) : Num B' w v n k := by
  obtain ⟨zs, ⟨ao, h1, h2, h3⟩, h4⟩ := h
  refine ⟨zs, ⟨ao, h1, h2, fun hp => ?_⟩, h4⟩
  obtain ⟨g, rest, h5, h6, h7⟩ := h3 hp
  exact ⟨g, rest, h5, by omega, h7⟩
theorem WNum.low {B B' : Nat} {w : World} {v : Value} {n : Int} {k : Nat} (h : WNum B w v n k) (hb : B' ≤ B) : WNum B' w v n k := by
  obtain ⟨neg, m, a, rfl, h1, h2⟩ := h
  exact ⟨neg, m, a, rfl, num_low h1 hb, h2⟩
theorem bel_alloc (w : World) (o : Obj) : Below w.heap.size w (w.alloc o) := (Below.refl _ _).alloc (Nat.le_refl _) _
def Sg (n s a : Int) : Prop := (n < 0 ∧ s = -1 ∧ a = -n) ∨ (n = 0 ∧ s = 0 ∧ a = 0) ∨ (0 < n ∧ s = 1 ∧ a = n)
theorem isLen_nought {n : Int} {k : Nat} (h : IsLen n k) (hn : 0 ≤ n) : (((k : Int) == 0) : Bool) = decide (n = 0) := by
  rcases Nat.eq_zero_or_pos k with h0 | h0
  · subst h0
    have h3 := h.1
    simp only [p2] at h3
    have : n = 0 := by omega
    simp [this]
  · have h3 := h.2 h0
    have h4 := p2_pos (k - 1)
    rw [decide_eq_false (by omega)]
    simp; omega
theorem sg_self {n a : Int} {neg : Bool} (hn : n = wn neg a) (h : 0 ≤ a) : Sg n (sgn n 0) a := by
  unfold Sg sgn
  subst hn
  unfold wn
  cases neg
  · rw [if_neg (by decide)]
    by_cases h0 : a = 0
    · subst h0; simp
    · rw [if_neg (by omega), if_pos (by omega)]; omega
  · rw [if_pos rfl]
    by_cases h0 : a = 0
    · subst h0; simp
    · rw [if_pos (by omega)]; omega
theorem Sg.bound {n s a : Int} (h : Sg n s a) : -1 ≤ s ∧ s ≤ 1 := by unfold Sg at h; omega
set_option maxHeartbeats 1000000 in
theorem sign_any {w : World} {m : Value} {neg : Bool} {n a : Int} {k : Nat} (h : Arg w m a k) (hnn : n = wn neg a) (hk : k ≤ 1099511627776) :
    Calls Tryz.prog 94 #[.agg #[.bool neg, m]] w fun e w' => e = .returned (.int .i8 (sgn n 0)) ∧ Below w.heap.size w w' := by
  have hn := h.nonneg
  have h' := h
  have hs := sg_self hnn hn
  unfold Sg at hs
  unfold wn at hnn
  generalize sgn n 0 = s at *
  obtain ⟨zs, ⟨ao, cap, rfl, _, _, _⟩, _⟩ := h
  go_enter Tryz.func94, Tryz.ntmps94
  go_wp2_with fail
  with_reducible refine (len_any (h'.below (bel_alloc _ _)) hk).mono ?_
  rintro e w1 ⟨L, rfl, hL, _, rfl⟩
  have hq := isLen_nought hL hn
  clear h' hL
  by_cases h0 : a = 0
  · rw [decide_eq_true h0] at hq
    have hs0 : s = 0 := by cases neg <;> simp at hnn <;> omega
    subst hs0
    clear hs hnn h0
    go_wp2
    go_ret
    exact ⟨rfl, bel_alloc _ _⟩
  · rw [decide_eq_false h0] at hq
    cases neg
    · have hs0 : s = 1 := by simp at hnn; omega
      subst hs0
      clear hs hnn h0
      go_wp2
      go_ret
      exact ⟨rfl, bel_alloc _ _⟩
    · have hs0 : s = -1 := by simp at hnn; omega
      subst hs0
      clear hs hnn h0
      go_wp2
      go_ret
      exact ⟨rfl, bel_alloc _ _⟩
set_option maxHeartbeats 1000000 in
theorem number_any {w : World} {m : Value} {s a : Int} {B k : Nat} (h : Num B w m a k) (hs : -1 ≤ s ∧ s ≤ 1) :
    Calls Tryz.prog 187 #[.int .i8 s, m] w fun e w' => ∃ v, e = .returned v ∧ WNum B w' v (if s = -1 then -a else a) k ∧ Below w.heap.size w w' := by
  have hn := h.arg.nonneg
  have H := hide h
  obtain ⟨zs, ⟨ao, rfl, hm, _⟩, hc, hv, _⟩ := h
  have hp : (0 : Int) < (zs.length : Int) ↔ 0 < a := by
    constructor
    · intro h0
      have h1 := Nt.val_nonneg hc.1
      rcases Int.lt_or_eq_of_le h1 with h2 | h2
      · omega
      · have h3 := Nt.canon_unique hc Nt.canon_nil (by rw [← h2]; rfl)
        rw [h3] at h0; simp at h0
    · intro h0
      rcases Nat.eq_zero_or_pos zs.length with h1 | h1
      · rw [List.eq_nil_of_length_eq_zero h1] at hv
        have : Nt.val [] = 0 := rfl
        omega
      · omega
  unfold maxLen at hm
  have h63 : (zs.length : Int) ≤ 9223372036854775807 := by omega
  have Hp := hide hp
  clear hp hc hv
  by_cases hs1 : s = -1
  · have q1 : (s == -1) = true := by simp [hs1]
    subst hs1
    go_enter Tryz.func187, Tryz.ntmps187
    go_wp2
    go_returns
    refine ⟨_, rfl, ⟨_, _, a, rfl, H.out.below (bel_alloc _ _), ?_, fun h0 => Hp.out.1 (by have := of_decide_eq_true h0; omega)⟩, bel_alloc _ _⟩
    have h2 := Hp.out
    unfold wn
    by_cases h3 : 0 < zs.length
    · simp [h3]
    · simp [h3]; omega
  · have q1 : (s == -1) = false := by simp [hs1]
    go_enter Tryz.func187, Tryz.ntmps187
    go_wp2
    go_returns
    exact ⟨_, rfl, ⟨_, _, a, rfl, H.out.below (bel_alloc _ _), rfl, fun h0 => by cases h0⟩, bel_alloc _ _⟩
end Go.Proofs.YticmlelalbaalaaGreatDoor
