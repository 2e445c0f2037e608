/- EnS, EnT, EnU, EnB -/
import Derived.Test.YtinfkoiifemjmaaGreatDoorS16
import Derived.Test.YtinfkoiifemjmaaGreatDoorS32
import Derived.Test.YtinfkoiifemjmaaGreatDoorS06
import Derived.Deep.Cut
namespace Go.Proofs.YtinfkoiifemjmaaGreatDoor
open Go.RowKit
set_option linter.unusedVariables false

/-- behind the digits that begin at a place -/
def runE (es : List Int) (k : Nat) : Nat := k + ((es.drop k).takeWhile isD).length
end Go.Proofs.YtinfkoiifemjmaaGreatDoor

namespace Go.Proofs.YtinfkoiifemjmaaGreatDoor
open Go.RowKit
set_option linter.unusedVariables false

/-- what Split answers of a number -/
structure Sp8 (es : List Int) (k : Nat) (ng : Bool) (ds : List Int) (wl : Nat) (less : Bool) (ps : List Int) : Prop where
  le : k ≤ es.length
  dd : Dgt ds
  pd : Dgt ps
  dl : ds.length ≤ es.length
  pl : ps.length ≤ es.length
  wl' : wl ≤ es.length
  short : k < es.length → scG es 0 0 = (k, false)
  full : k = es.length → (scG es 0 0).2 = true ∧ headB es 45 = ng ∧ voDs es = ds ∧ (voW (voB es)).length = wl ∧ ∀ lim, voP lim es = if less then -(pwF lim ps 0) else pwF lim ps 0

/-- behind the sign -/
def PA (es : List Int) (ng : Bool) (a : Nat) : Prop := a ≤ es.length ∧ es = (if ng then [45] else []) ++ es.drop a ∧ ∃ q, q ≤ 1 ∧ scG es 0 0 = scG (es.drop a) a q ∧ (q = 1 ∨ (a < es.length → Nt.lb es a ≠ 45))
/-- behind the whole part -/
structure PB (es : List Int) (a b q : Nat) : Prop where
  le : a ≤ b
  le2 : b ≤ es.length
  no : b = a → scG es 0 0 = (a, false)
  yes : a < b → scG es 0 0 = scG (es.drop b) b q ∧ Dgt ((es.take b).drop a) ∧ (q = 2 ∨ (q = 3 ∧ (b < es.length → isD (Nt.lb es b) = false)))
/-- behind the point's digits -/
structure PC (es F : List Int) (b c q : Nat) : Prop where
  le : b ≤ c
  le2 : c ≤ es.length
  sc : scG es 0 0 = scG (es.drop c) c q
  fd : Dgt F
  fl : F.length ≤ es.length
  st : ∃ X, es.drop b = X ++ es.drop c ∧ ((X = [] ∧ F = []) ∨ (X = 46 :: F))
  nx : c < es.length → (q = 2 ∧ Nt.lb es c ≠ 46) ∨ (q = 3 ∧ isD (Nt.lb es c) = false ∧ Nt.lb es c ≠ 46) ∨ (q = 4 ∧ isD (Nt.lb es c) = false)
  fin : fin8 q = true
/-- behind the mark and its sign -/
structure PD (es T0 : List Int) (c d q : Nat) (less : Bool) : Prop where
  le : c < d
  le2 : d ≤ es.length
  sc : scG es 0 0 = scG (es.drop d) d q
  st : ∃ m, (m = 101 ∨ m = 69) ∧ es.drop c = m :: (T0 ++ es.drop d)
  tt : (T0 = [] ∧ less = false ∧ q = 6 ∧ (d < es.length → Nt.lb es d ≠ 43 ∧ Nt.lb es d ≠ 45)) ∨ (T0 = [43] ∧ less = false ∧ q = 7) ∨ (T0 = [45] ∧ less = true ∧ q = 7)
end Go.Proofs.YtinfkoiifemjmaaGreatDoor

namespace Go.Proofs.YtinfkoiifemjmaaGreatDoor
open Go.RowKit
set_option linter.unusedVariables false
set_option linter.unusedSimpArgs false

/-- five cells that may be written -/
structure Cl5 (w : World) (b : Nat) (v0 v1 v2 v3 v4 : Value) : Prop where
  c0 : w.cell? ⟨b, 0, none⟩ = some v0
  f0 : w.frozen? ⟨b, 0, none⟩ = false
  c1 : w.cell? ⟨b, 1, none⟩ = some v1
  f1 : w.frozen? ⟨b, 1, none⟩ = false
  c2 : w.cell? ⟨b, 2, none⟩ = some v2
  f2 : w.frozen? ⟨b, 2, none⟩ = false
  c3 : w.cell? ⟨b, 3, none⟩ = some v3
  f3 : w.frozen? ⟨b, 3, none⟩ = false
  c4 : w.cell? ⟨b, 4, none⟩ = some v4
  f4 : w.frozen? ⟨b, 4, none⟩ = false
  lt : b < w.heap.size
theorem Cl5.below {w w' : World} {b : Nat} {v0 v1 v2 v3 v4 : Value} (h : Cl5 w b v0 v1 v2 v3 v4) (hb : Below w.heap.size w w') : Cl5 w' b v0 v1 v2 v3 v4 :=
  ⟨(hb.cell (p := ⟨b, 0, none⟩) h.lt).trans h.c0, (hb.frozen (p := ⟨b, 0, none⟩) h.lt).trans h.f0, (hb.cell (p := ⟨b, 1, none⟩) h.lt).trans h.c1, (hb.frozen (p := ⟨b, 1, none⟩) h.lt).trans h.f1, (hb.cell (p := ⟨b, 2, none⟩) h.lt).trans h.c2, (hb.frozen (p := ⟨b, 2, none⟩) h.lt).trans h.f2, (hb.cell (p := ⟨b, 3, none⟩) h.lt).trans h.c3, (hb.frozen (p := ⟨b, 3, none⟩) h.lt).trans h.f3, (hb.cell (p := ⟨b, 4, none⟩) h.lt).trans h.c4, (hb.frozen (p := ⟨b, 4, none⟩) h.lt).trans h.f4, Nat.lt_of_lt_of_le h.lt hb.size⟩
theorem Cl5.set0 {w : World} {b : Nat} {v0 v1 v2 v3 v4 : Value} (h : Cl5 w b v0 v1 v2 v3 v4) (x : Value) : Cl5 (w.setCell ⟨b, 0, none⟩ x) b x v1 v2 v3 v4 := by
  refine ⟨?_, ?_, ?_, ?_, ?_, ?_, ?_, ?_, ?_, ?_, by simpa [World.setCell] using h.lt⟩
  · exact World.cell?_setCell_same _ _ _ h.c0
  · have := h.f0; simpa [go_sem] using this
  · rw [World.cell?_setCell_other _ _ _ _ (by intro e; injection e with _ e _; cases e)]; exact h.c1
  · have := h.f1; simpa [go_sem] using this
  · rw [World.cell?_setCell_other _ _ _ _ (by intro e; injection e with _ e _; cases e)]; exact h.c2
  · have := h.f2; simpa [go_sem] using this
  · rw [World.cell?_setCell_other _ _ _ _ (by intro e; injection e with _ e _; cases e)]; exact h.c3
  · have := h.f3; simpa [go_sem] using this
  · rw [World.cell?_setCell_other _ _ _ _ (by intro e; injection e with _ e _; cases e)]; exact h.c4
  · have := h.f4; simpa [go_sem] using this
theorem Cl5.set1 {w : World} {b : Nat} {v0 v1 v2 v3 v4 : Value} (h : Cl5 w b v0 v1 v2 v3 v4) (x : Value) : Cl5 (w.setCell ⟨b, 1, none⟩ x) b v0 x v2 v3 v4 := by
  refine ⟨?_, ?_, ?_, ?_, ?_, ?_, ?_, ?_, ?_, ?_, by simpa [World.setCell] using h.lt⟩
  · rw [World.cell?_setCell_other _ _ _ _ (by intro e; injection e with _ e _; cases e)]; exact h.c0
  · have := h.f0; simpa [go_sem] using this
  · exact World.cell?_setCell_same _ _ _ h.c1
  · have := h.f1; simpa [go_sem] using this
  · rw [World.cell?_setCell_other _ _ _ _ (by intro e; injection e with _ e _; cases e)]; exact h.c2
  · have := h.f2; simpa [go_sem] using this
  · rw [World.cell?_setCell_other _ _ _ _ (by intro e; injection e with _ e _; cases e)]; exact h.c3
  · have := h.f3; simpa [go_sem] using this
  · rw [World.cell?_setCell_other _ _ _ _ (by intro e; injection e with _ e _; cases e)]; exact h.c4
  · have := h.f4; simpa [go_sem] using this
theorem Cl5.set2 {w : World} {b : Nat} {v0 v1 v2 v3 v4 : Value} (h : Cl5 w b v0 v1 v2 v3 v4) (x : Value) : Cl5 (w.setCell ⟨b, 2, none⟩ x) b v0 v1 x v3 v4 := by
  refine ⟨?_, ?_, ?_, ?_, ?_, ?_, ?_, ?_, ?_, ?_, by simpa [World.setCell] using h.lt⟩
  · rw [World.cell?_setCell_other _ _ _ _ (by intro e; injection e with _ e _; cases e)]; exact h.c0
  · have := h.f0; simpa [go_sem] using this
  · rw [World.cell?_setCell_other _ _ _ _ (by intro e; injection e with _ e _; cases e)]; exact h.c1
  · have := h.f1; simpa [go_sem] using this
  · exact World.cell?_setCell_same _ _ _ h.c2
  · have := h.f2; simpa [go_sem] using this
  · rw [World.cell?_setCell_other _ _ _ _ (by intro e; injection e with _ e _; cases e)]; exact h.c3
  · have := h.f3; simpa [go_sem] using this
  · rw [World.cell?_setCell_other _ _ _ _ (by intro e; injection e with _ e _; cases e)]; exact h.c4
  · have := h.f4; simpa [go_sem] using this
theorem Cl5.set3 {w : World} {b : Nat} {v0 v1 v2 v3 v4 : Value} (h : Cl5 w b v0 v1 v2 v3 v4) (x : Value) : Cl5 (w.setCell ⟨b, 3, none⟩ x) b v0 v1 v2 x v4 := by
  refine ⟨?_, ?_, ?_, ?_, ?_, ?_, ?_, ?_, ?_, ?_, by simpa [World.setCell] using h.lt⟩
  · rw [World.cell?_setCell_other _ _ _ _ (by intro e; injection e with _ e _; cases e)]; exact h.c0
  · have := h.f0; simpa [go_sem] using this
  · rw [World.cell?_setCell_other _ _ _ _ (by intro e; injection e with _ e _; cases e)]; exact h.c1
  · have := h.f1; simpa [go_sem] using this
  · rw [World.cell?_setCell_other _ _ _ _ (by intro e; injection e with _ e _; cases e)]; exact h.c2
  · have := h.f2; simpa [go_sem] using this
  · exact World.cell?_setCell_same _ _ _ h.c3
  · have := h.f3; simpa [go_sem] using this
  · rw [World.cell?_setCell_other _ _ _ _ (by intro e; injection e with _ e _; cases e)]; exact h.c4
  · have := h.f4; simpa [go_sem] using this
theorem Cl5.set4 {w : World} {b : Nat} {v0 v1 v2 v3 v4 : Value} (h : Cl5 w b v0 v1 v2 v3 v4) (x : Value) : Cl5 (w.setCell ⟨b, 4, none⟩ x) b v0 v1 v2 v3 x := by
  refine ⟨?_, ?_, ?_, ?_, ?_, ?_, ?_, ?_, ?_, ?_, by simpa [World.setCell] using h.lt⟩
  · rw [World.cell?_setCell_other _ _ _ _ (by intro e; injection e with _ e _; cases e)]; exact h.c0
  · have := h.f0; simpa [go_sem] using this
  · rw [World.cell?_setCell_other _ _ _ _ (by intro e; injection e with _ e _; cases e)]; exact h.c1
  · have := h.f1; simpa [go_sem] using this
  · rw [World.cell?_setCell_other _ _ _ _ (by intro e; injection e with _ e _; cases e)]; exact h.c2
  · have := h.f2; simpa [go_sem] using this
  · rw [World.cell?_setCell_other _ _ _ _ (by intro e; injection e with _ e _; cases e)]; exact h.c3
  · have := h.f3; simpa [go_sem] using this
  · exact World.cell?_setCell_same _ _ _ h.c4
  · have := h.f4; simpa [go_sem] using this
theorem Cl5.away {w : World} {b c o : Nat} {v0 v1 v2 v3 v4 x : Value} (h : Cl5 w b v0 v1 v2 v3 v4) (hn : b ≠ c) : Cl5 (w.setCell ⟨c, o, none⟩ x) b v0 v1 v2 v3 v4 := by
  have hh : (w.setCell ⟨c, o, none⟩ x).heap[b]? = w.heap[b]? := Below.heap_setCell _ _ _ _ (by show b ≠ c; exact hn)
  have hc : ∀ i, (w.setCell ⟨c, o, none⟩ x).cell? ⟨b, i, none⟩ = w.cell? ⟨b, i, none⟩ := fun i => World.cell?_of_block hh
  refine ⟨(hc 0).trans h.c0, ?_, (hc 1).trans h.c1, ?_, (hc 2).trans h.c2, ?_, (hc 3).trans h.c3, ?_, (hc 4).trans h.c4, ?_, by simpa [World.setCell] using h.lt⟩
  · have := h.f0; simpa [go_sem] using this
  · have := h.f1; simpa [go_sem] using this
  · have := h.f2; simpa [go_sem] using this
  · have := h.f3; simpa [go_sem] using this
  · have := h.f4; simpa [go_sem] using this
/-- what Split answers -/
def Sq8 (es : List Int) (w : World) (e : Ending) (w' : World) : Prop :=
  ((∃ k : Nat, e = .returned (.tuple #[.agg #[.bool false, .string ⟨#[]⟩, .int .i64 0, .bool false, .string ⟨#[]⟩], .int .i64 k, .bool false]) ∧ k ≤ es.length ∧ scG es 0 0 = (k, false)) ∨
  (∃ (k : Nat) (ng : Bool) (ds : List Int) (wl : Nat) (less : Bool) (ps : List Int), e = .returned (.tuple #[.agg #[.bool ng, .string (strOfNums ds), .int .i64 wl, .bool less, .string (strOfNums ps)], .int .i64 k, .bool true]) ∧ Sp8 es k ng ds wl less ps)) ∧ Below w.heap.size w w'
end Go.Proofs.YtinfkoiifemjmaaGreatDoor

namespace Go.Proofs.YtinfkoiifemjmaaGreatDoor
open Go.RowKit
set_option linter.unusedVariables false
set_option linter.unusedSimpArgs false

/-- what Bits answers -/
def B8 (N q : Int) (ng : Bool) (w : World) (e : Ending) (w' : World) : Prop := ∃ r, e = .returned (.int .u64 (r + b2i ng * 9223372036854775808)) ∧ DV 4503599627370496 (-1074) 9218868437227405312 N q r ∧ Below w.heap.size w w'

end Go.Proofs.YtinfkoiifemjmaaGreatDoor
