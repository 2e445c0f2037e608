/- Whole, Same, WNorm, IInt -/
import Derived.Test.YtlhjbmdkfdabmaaGreatDoorNorm
import Derived.Test.YtlhjbmdkfdabmaaGreatDoorSub
import Derived.Test.YtlhjbmdkfdabmaaGreatDoorShl
import Derived.Deep.RegionHeld3
import Derived.Handy
import Derived.Test.YtlhjbmdkfdabmaaGreatDoorKit
import Derived.Deep.Cut
import Derived.Test.YtlhjbmdkfdabmaaGreatDoorIeeeP
import Derived.Test.YtlhjbmdkfdabmaaGreatDoorIScaled0
namespace Go.Proofs.YtlhjbmdkfdabmaaGreatDoor
open Go.RowKit

/-- the whole number of a sign and a size -/
def wn (neg : Bool) (a : Int) : Int := if neg then -a else a
/-- a struct that is the whole number n -/
def WArg (w : World) (v : Value) (n : Int) (k : Nat) : Prop := ∃ neg m a, v = .agg #[.bool neg, m] ∧ Arg w m a k ∧ n = wn neg a
/-- an answer: the normal form of n, in memory of its own -/
def WNum (B : Nat) (w : World) (v : Value) (n : Int) (k : Nat) : Prop := ∃ neg m a, v = .agg #[.bool neg, m] ∧ Num B w m a k ∧ n = wn neg a ∧ (neg = true → 0 < a)
theorem WArg.arg {w : World} {v : Value} {n : Int} {k : Nat} (h : WArg w v n k) : WArg w v n k := h
theorem WNum.arg {B : Nat} {w : World} {v : Value} {n : Int} {k : Nat} (h : WNum B w v n k) : WArg w v n k := by
  obtain ⟨neg, m, a, rfl, h1, h2, _⟩ := h
  exact ⟨neg, m, a, rfl, h1.arg, h2⟩
theorem WArg.below {w w' : World} {v : Value} {n : Int} {k : Nat} (h : WArg w v n k) (hb : Below w.heap.size w w') : WArg w' v n k := by
  obtain ⟨neg, m, a, rfl, h1, h2⟩ := h
  exact ⟨neg, m, a, rfl, h1.below hb, h2⟩
theorem WNum.below {B : Nat} {w w' : World} {v : Value} {n : Int} {k : Nat} (h : WNum B w v n k) (hb : Below w.heap.size w w') : WNum B w' v n k := by
  obtain ⟨neg, m, a, rfl, h1, h2⟩ := h
  exact ⟨neg, m, a, rfl, h1.below hb, h2⟩
theorem WNum.mono {B : Nat} {w : World} {v : Value} {n : Int} {k k' : Nat} (h : WNum B w v n k) (hk : k ≤ k') : WNum B w v n k' := by
  obtain ⟨neg, m, a, rfl, h1, h2⟩ := h
  exact ⟨neg, m, a, rfl, h1.mono hk, h2⟩
theorem num_low {B B' : Nat} {w : World} {v : Value} {n : Int} {k : Nat} (h : Num B w v n k) (hb : B' ≤ B) : Num B' w v n k := by
  obtain ⟨zs, ⟨ao, h1, h2, h3⟩, h4⟩ := h
  refine ⟨zs, ⟨ao, h1, h2, fun hp => ?_⟩, h4⟩
  obtain ⟨g, rest, h5, h6, h7⟩ := h3 hp
  exact ⟨g, rest, h5, by omega, h7⟩
theorem WNum.low {B B' : Nat} {w : World} {v : Value} {n : Int} {k : Nat} (h : WNum B w v n k) (hb : B' ≤ B) : WNum B' w v n k := by
  obtain ⟨neg, m, a, rfl, h1, h2⟩ := h
  exact ⟨neg, m, a, rfl, num_low h1 hb, h2⟩

theorem bel_alloc (w : World) (o : Obj) : Below w.heap.size w (w.alloc o) := (Below.refl _ _).alloc (Nat.le_refl _) _

/-- n has the sign s and the size a -/
def Sg (n s a : Int) : Prop := (n < 0 ∧ s = -1 ∧ a = -n) ∨ (n = 0 ∧ s = 0 ∧ a = 0) ∨ (0 < n ∧ s = 1 ∧ a = n)
theorem Sg.neg {n s a : Int} (h : Sg n s a) : Sg (-n) (-s) a := by unfold Sg at *; omega
theorem sg_wn {neg : Bool} {a : Int} (h : 0 ≤ a) : Sg (wn neg a) (if a = 0 then 0 else if neg then -1 else 1) a := by
  unfold Sg wn
  cases neg <;> by_cases h0 : a = 0 <;> simp [h0] <;> omega

theorem isLen_nought {n : Int} {k : Nat} (h : IsLen n k) (hn : 0 ≤ n) : (((k : Int) == 0) : Bool) = decide (n = 0) := by
  rcases Nat.eq_zero_or_pos k with h0 | h0
  · subst h0
    have h3 := h.1
    simp only [p2] at h3
    have : n = 0 := by omega
    simp [this]
  · have h3 := h.2 h0
    have h4 := p2_pos (k - 1)
    rw [decide_eq_false (by omega)]
    simp; omega

theorem sg_self {n a : Int} {neg : Bool} (hn : n = wn neg a) (h : 0 ≤ a) : Sg n (sgn n 0) a := by
  unfold Sg sgn
  subst hn
  unfold wn
  cases neg
  · rw [if_neg (by decide)]
    by_cases h0 : a = 0
    · subst h0; simp
    · rw [if_neg (by omega), if_pos (by omega)]; omega
  · rw [if_pos rfl]
    by_cases h0 : a = 0
    · subst h0; simp
    · rw [if_pos (by omega)]; omega
theorem Sg.bound {n s a : Int} (h : Sg n s a) : -1 ≤ s ∧ s ≤ 1 := by unfold Sg at h; omega
theorem Sg.le {n s a : Int} (h : Sg n s a) : 0 ≤ a := by unfold Sg at h; omega

end Go.Proofs.YtlhjbmdkfdabmaaGreatDoor

namespace Go.Proofs.YtlhjbmdkfdabmaaGreatDoor
open Go.RowKit

theorem reads_len {k : IntKind} {w : World} {v : Value} {xs : List Int} (h : Reads k w v xs) : ∃ ao cap, v = .slice ao xs.length cap ∧ xs.length ≤ cap ∧ cap ≤ maxLen ∧ Cells k w ao xs := h

/-- the list of a number is told by the number -/
theorem Num.made {B : Nat} {w : World} {v : Value} {n : Int} {k : Nat} (h : Num B w v n k) {ys : List Int} (hy : Nt.Canon ys) (he : Nt.val ys = n) : Made .u32 22 B w v ys := by
  obtain ⟨xs, h1, h2, h3, _⟩ := h
  rw [← Nt.canon_unique h2 hy (h3.trans he.symm)]
  exact h1
theorem Num.zero {B : Nat} {w : World} {v : Value} {n : Int} {k : Nat} (h : Num B w v n k) (he : n = 0) : ∃ ao, v = .slice ao 0 0 := by
  obtain ⟨ao, h1, _⟩ := h.made Nt.canon_nil (by rw [he]; rfl)
  exact ⟨ao, h1⟩

end Go.Proofs.YtlhjbmdkfdabmaaGreatDoor

namespace Go.Proofs.YtlhjbmdkfdabmaaGreatDoor
open Go.RowKit

theorem Num.put {B : Nat} {w : World} {v : Value} {n : Int} {k b : Nat} (h : Num B w v n k) (hb : b < B) (i : Nat) (x : Value) : Num B (w.setCell ⟨b, i, none⟩ x) v n k := by
  obtain ⟨zs, ⟨ao, h1, h2, h3⟩, h4⟩ := h
  refine ⟨zs, ⟨ao, h1, h2, fun hp => ?_⟩, h4⟩
  obtain ⟨g, rest, h5, h6, h7⟩ := h3 hp
  refine ⟨g, rest, h5, h6, ?_⟩
  unfold Row
  rw [Below.heap_setCell _ _ _ _ (by show g ≠ b; omega)]
  exact h7
theorem WNum.put {B : Nat} {w : World} {v : Value} {n : Int} {k b : Nat} (h : WNum B w v n k) (hb : b < B) (i : Nat) (x : Value) : WNum B (w.setCell ⟨b, i, none⟩ x) v n k := by
  obtain ⟨neg, m, a, rfl, h1, h2⟩ := h
  exact ⟨neg, m, a, rfl, h1.put hb i x, h2⟩
theorem WNum.told {B : Nat} {w : World} {v : Value} {n : Int} {k : Nat} (h : WNum B w v n k) : ∃ neg ao l, v = .agg #[.bool neg, .slice ao l l] := by
  obtain ⟨neg, m, a, rfl, ⟨zs, ⟨ao, rfl, _⟩, _⟩, _⟩ := h
  exact ⟨neg, ao, _, rfl⟩
/-- two cells behind one another in a block, which may be written -/
structure Cell2 (w : World) (b : Nat) (x y : Value) : Prop where
  c0 : w.cell? ⟨b, 0, none⟩ = some x
  c1 : w.cell? ⟨b, 1, none⟩ = some y
  f0 : w.frozen? ⟨b, 0, none⟩ = false
  f1 : w.frozen? ⟨b, 1, none⟩ = false
  lt : b < w.heap.size
theorem Cell2.below {w w' : World} {b : Nat} {x y : Value} (h : Cell2 w b x y) (hb : Below w.heap.size w w') : Cell2 w' b x y :=
  ⟨(hb.cell (p := ⟨b, 0, none⟩) h.lt).trans h.c0, (hb.cell (p := ⟨b, 1, none⟩) h.lt).trans h.c1, (hb.frozen (p := ⟨b, 0, none⟩) h.lt).trans h.f0, (hb.frozen (p := ⟨b, 1, none⟩) h.lt).trans h.f1, Nat.lt_of_lt_of_le h.lt hb.size⟩
theorem cell2_new (w : World) (x y : Value) (t : TypeId) : Cell2 (w.alloc (.cells #[x, y] t)) w.heap.size x y := by
  refine ⟨?_, ?_, ?_, ?_, by simp⟩
  · rw [World.cell?_alloc_at _ _ _ _ rfl]; rfl
  · rw [World.cell?_alloc_at _ _ _ _ rfl]; rfl
  · rw [World.frozen?_alloc_at _ _ _ _ rfl]
  · rw [World.frozen?_alloc_at _ _ _ _ rfl]
theorem sg_mul {n m s t a b : Int} (h : Sg n s a) (k : Sg m t b) : (if s * t = -1 then -(a * b) else a * b) = n * m := by
  unfold Sg at h k
  rcases h with ⟨_, rfl, rfl⟩ | ⟨rfl, rfl, rfl⟩ | ⟨_, rfl, rfl⟩ <;> rcases k with ⟨_, rfl, rfl⟩ | ⟨rfl, rfl, rfl⟩ | ⟨_, rfl, rfl⟩ <;> simp [Int.neg_mul, Int.mul_neg]
theorem sg_mul_bound {n m s t a b : Int} (h : Sg n s a) (k : Sg m t b) : -1 ≤ s * t ∧ s * t ≤ 1 := by
  unfold Sg at h k
  rcases h with ⟨_, rfl, rfl⟩ | ⟨rfl, rfl, rfl⟩ | ⟨_, rfl, rfl⟩ <;> rcases k with ⟨_, rfl, rfl⟩ | ⟨rfl, rfl, rfl⟩ | ⟨_, rfl, rfl⟩ <;> simp
theorem Cell2.alloc {w : World} {b : Nat} {x y : Value} (h : Cell2 w b x y) (o : Obj) : Cell2 (w.alloc o) b x y := h.below (bel_alloc w o)
theorem Cell2.put {w : World} {b : Nat} {x y : Value} (h : Cell2 w b x y) (x' y' : Value) : Cell2 ((w.setCell ⟨b, 0, none⟩ x').setCell ⟨b, 1, none⟩ y') b x' y' := by
  have n01 : (⟨b, 0, none⟩ : Addr) ≠ ⟨b, 1, none⟩ := by intro e; injection e with _ e _; cases e
  refine ⟨?_, ?_, ?_, ?_, by simpa [World.setCell] using h.lt⟩
  · rw [World.cell?_setCell_other _ _ _ _ (by first | exact n01 | exact n01.symm)]
    exact World.cell?_setCell_same _ _ _ h.c0
  · refine World.cell?_setCell_same (u := y) _ _ _ ?_
    rw [World.cell?_setCell_other _ _ _ _ (by first | exact n01.symm | exact n01)]
    exact h.c1
  · have := h.f0; simpa [go_sem] using this
  · have := h.f1; simpa [go_sem] using this
theorem Cell2.away {w : World} {b c : Nat} {x y : Value} (h : Cell2 w b x y) (hn : b ≠ c) (x' y' : Value) : Cell2 ((w.setCell ⟨c, 0, none⟩ x').setCell ⟨c, 1, none⟩ y') b x y := by
  have hh : ((w.setCell ⟨c, 0, none⟩ x').setCell ⟨c, 1, none⟩ y').heap[b]? = w.heap[b]? := (Below.heap_setCell _ _ _ _ (by show b ≠ c; exact hn)).trans (Below.heap_setCell _ _ _ _ (by show b ≠ c; exact hn))
  have hc : ∀ i, ((w.setCell ⟨c, 0, none⟩ x').setCell ⟨c, 1, none⟩ y').cell? ⟨b, i, none⟩ = w.cell? ⟨b, i, none⟩ := fun i => World.cell?_of_block hh
  refine ⟨(hc 0).trans h.c0, (hc 1).trans h.c1, ?_, ?_, by simpa [World.setCell] using h.lt⟩
  · have := h.f0; simpa [go_sem] using this
  · have := h.f1; simpa [go_sem] using this
theorem below_put2 {B : Nat} {w w' : World} {b : Nat} (h : Below B w w') (hb : B ≤ b) (x y : Value) : Below B w ((w'.setCell ⟨b, 0, none⟩ x).setCell ⟨b, 1, none⟩ y) :=
  (h.setCell (p := ⟨b, 0, none⟩) hb _).setCell (p := ⟨b, 1, none⟩) hb _

theorem wnum_zero (B : Nat) (w : World) (k : Nat) : WNum B w (.agg #[.bool false, .slice none 0 0]) 0 k :=
  ⟨false, _, 0, rfl, ⟨[], ⟨none, rfl, by unfold maxLen; simp, fun h => absurd h (by simp)⟩, Nt.canon_nil, rfl, Nat.zero_le _⟩, rfl, fun h => by cases h⟩

theorem wnum_eq {ng ng' : Bool} {a b n m : Int} (ha : n = wn ng a) (hb : m = wn ng' b) (pa : ng = true → 0 < a) (pb : ng' = true → 0 < b) (na : 0 ≤ a) (nb : 0 ≤ b) (he : n = m) : ng = ng' ∧ a = b := by
  subst ha
  subst hb
  unfold wn at he
  cases ng <;> cases ng' <;> simp at * <;> omega


end Go.Proofs.YtlhjbmdkfdabmaaGreatDoor

namespace Go.Proofs.YtlhjbmdkfdabmaaGreatDoor
open Go.RowKit
set_option linter.unusedVariables false

/-- what Int tells of a pattern -/
def IntIs (F L I s : Int) (ng : Bool) (n : Int) (ok : Bool) : Prop :=
  ∃ a m E k, PartIs F L I s ng a m E k ∧ ((k = true ∧ 0 ≤ E ∧ ok = true ∧ n = wn a (m * p2 E.toNat)) ∨ (¬ (k = true ∧ 0 ≤ E) ∧ ok = false ∧ n = 0))
theorem IntIs.unique {F L I s : Int} {ng ok ok' : Bool} {n n' : Int} (s0 : 0 ≤ s) (h : IntIs F L I s ng n ok) (h' : IntIs F L I s ng n' ok') : n = n' ∧ ok = ok' := by
  obtain ⟨a, m, E, k, hP, h1⟩ := h
  obtain ⟨a', m', E', k', hP', h2⟩ := h'
  obtain ⟨rfl, rfl, rfl, rfl⟩ := hP.unique s0 hP'
  rcases h1 with ⟨c1, c2, rfl, rfl⟩ | ⟨c1, rfl, rfl⟩ <;> rcases h2 with ⟨d1, d2, rfl, rfl⟩ | ⟨d1, rfl, rfl⟩
  · exact ⟨rfl, rfl⟩
  · exact (d1 ⟨c1, c2⟩).elim
  · exact (c1 ⟨d1, d2⟩).elim
  · exact ⟨rfl, rfl⟩
theorem part_bounds {F L I S s : Int} {ng a ok : Bool} {m E : Int} (hF : 0 < F) (hS : 2 * F ≤ S) (hL : -1100 ≤ L) (s0 : 0 ≤ s) (s1 : s < S) (hq : est F L s ≤ 2100) (hS2 : S ≤ 9223372036854775808) (h : PartIs F L I s ng a m E ok) : 0 ≤ m ∧ m < 9223372036854775808 ∧ -1100 ≤ E ∧ E ≤ 2200 := by
  obtain ⟨h1, h2⟩ := h
  rcases Int.lt_or_le s I with c | c
  · obtain ⟨_, _, p, q⟩ := h2 c
    rcases Int.lt_or_eq_of_le s0 with g | g
    · obtain ⟨o, n, n64, hm, hE⟩ := q g
      obtain ⟨m0, m1⟩ := mst_range (F := F) (s := s) (S := S) hF g hS s1
      have hp := p2_pos n
      have e0 := est_ge (F := F) (L := L) (s := s) hF
      have mp : 0 < m := by
        rcases Int.lt_or_le 0 m with k | k
        · exact k
        · have : m * p2 n ≤ 0 := Int.mul_nonpos_of_nonpos_of_nonneg k (by omega)
          omega
      have : m * 1 ≤ m * p2 n := Int.mul_le_mul_of_nonneg_left (by omega) (by omega)
      exact ⟨by omega, by omega, by omega, by omega⟩
    · obtain ⟨rfl, rfl⟩ := p g.symm
      exact ⟨by decide, by decide, by decide, by decide⟩
  · obtain ⟨_, rfl, rfl, _⟩ := h1 c
    exact ⟨by decide, by decide, by decide, by decide⟩

end Go.Proofs.YtlhjbmdkfdabmaaGreatDoor
