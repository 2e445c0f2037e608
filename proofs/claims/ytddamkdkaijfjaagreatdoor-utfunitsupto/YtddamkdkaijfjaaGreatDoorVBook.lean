/- the book: lists in memory of their own, and how they are kept -/
import Derived.Test.YtddamkdkaijfjaaGreatDoorAppZero
import Derived.Test.YtddamkdkaijfjaaGreatDoorVTwin
import Derived.Deep.RegionHeld3
import Derived.Deep.AppendLies
namespace Go.Proofs.YtddamkdkaijfjaaGreatDoor
open Go.RowKit

/-- a row: whatever lies in it -/
def RowV (w : World) (g : Nat) (vs : List Value) : Prop := w.heap[g]? = some (.cells vs.toArray 52 (0, 0))
theorem RowV.lt {w : World} {g : Nat} {vs : List Value} (h : RowV w g vs) : g < w.heap.size := (Array.getElem?_eq_some_iff.1 h).1
theorem RowV.cellI {w : World} {g i : Nat} {xs : List Int} {rest : List Value} (h : RowV w g (xs.map (Value.int .u16) ++ rest)) (hi : i < xs.length) : w.cell? ⟨g, i, none⟩ = some (.int .u16 (Nt.lb xs i)) := by
  rw [cell_of_row w g i _ _ _ h]
  simp [List.getElem?_append_left, hi, Nt.lb]
theorem RowV.frozen {w : World} {g : Nat} {vs : List Value} (h : RowV w g vs) (i : Nat) : w.frozen? ⟨g, i, none⟩ = false := frozen_of_row w g i _ _ h
theorem RowV.set {w : World} {g : Nat} {vs : List Value} (h : RowV w g vs) (k : Nat) (x : Value) : RowV (w.setCell ⟨g, k, none⟩ x) g (vs.set k x) := by
  unfold RowV
  rw [heap_setCell_same w g k _ _ _ h]
  simp
/-- a slice of limbs over a block of its own, from its beginning, with room for c -/
def Lies (w : World) (v : Value) (xs : List Int) (c : Nat) : Prop :=
  ∃ ao, v = .slice ao xs.length c ∧ xs.length ≤ c ∧ c ≤ maxLen ∧ (0 < c → ∃ g rest, ao = some ⟨g, 0, none⟩ ∧ RowV w g (xs.map (Value.int .u16) ++ rest) ∧ c ≤ xs.length + rest.length)
/-- the block under it, where there is room -/
def blk : Value → Option Nat
  | .slice (some a) _ (_ + 1) => some a.block
  | _ => none

theorem blk_none (n c : Nat) : blk (.slice none n c) = none := by cases c <;> rfl
theorem Lies.own {w : World} {v : Value} {xs : List Int} {c : Nat} (h : Lies w v xs c) {k : Nat} (hk : blk v = some k) : v = .slice (some ⟨k, 0, none⟩) xs.length c ∧ ∃ rest, RowV w k (xs.map (Value.int .u16) ++ rest) ∧ c ≤ xs.length + rest.length := by
  obtain ⟨ao, rfl, h1, h2, h3⟩ := h
  cases c with
  | zero => cases ao <;> cases hk
  | succ c =>
    obtain ⟨g, rest, rfl, h4, h5⟩ := h3 (by omega)
    cases hk
    exact ⟨rfl, rest, h4, h5⟩
theorem Lies.lt {w : World} {v : Value} {xs : List Int} {c : Nat} (h : Lies w v xs c) {k : Nat} (hk : blk v = some k) : k < w.heap.size := by
  obtain ⟨_, rest, h1, _⟩ := h.own hk
  exact h1.lt
theorem Lies.keep {w w' : World} {v : Value} {xs : List Int} {c : Nat} (h : Lies w v xs c) (hk : ∀ k, blk v = some k → w'.heap[k]? = w.heap[k]?) : Lies w' v xs c := by
  obtain ⟨ao, rfl, h1, h2, h3⟩ := h
  refine ⟨ao, rfl, h1, h2, fun hp => ?_⟩
  obtain ⟨g, rest, rfl, h4, h5⟩ := h3 hp
  refine ⟨g, rest, rfl, ?_, h5⟩
  unfold RowV
  rw [hk g (by cases c with | zero => omega | succ c => rfl)]
  exact h4
theorem Lies.below {w w' : World} {v : Value} {xs : List Int} {c : Nat} (h : Lies w v xs c) (hb : Below w.heap.size w w') : Lies w' v xs c :=
  h.keep fun k hk => hb.block k (h.lt hk)
theorem Lies.reads {w : World} {v : Value} {xs : List Int} {c : Nat} (h : Lies w v xs c) : Reads .u16 w v xs := by
  obtain ⟨ao, rfl, h1, h2, h3⟩ := h
  refine ⟨ao, c, rfl, h1, h2, fun hp => ?_⟩
  obtain ⟨g, rest, h4, h5, _⟩ := h3 (by omega)
  exact ⟨g, 0, h4, h5.lt, fun i hi => by rw [Nat.zero_add, h5.cellI hi]⟩
theorem Twin.lies {B : Nat} {w : World} {v : Value} {xs : List Int} (h : Twin B w v xs) : Lies w v xs (xs.length + 1) ∧ ∀ k, blk v = some k → B ≤ k := by
  obtain ⟨g, rfl, h1, h2, h3⟩ := h
  refine ⟨⟨_, rfl, by omega, h2, fun _ => ⟨g, [.int .u16 56893], rfl, by unfold RowV; unfold Row at h3; simpa using h3, by simp⟩⟩, fun k hk => ?_⟩
  cases hk
  exact h1

/-- the entries: list, what it has grown to, number -/
def ents : List (Value × Value) → Nat → List Value
  | [], _ => []
  | p :: ps, n => p.1 :: p.2 :: .int .i64 ((n + 1 : Nat) : Int) :: ents ps (n + 1)
theorem ents_length (ps : List (Value × Value)) (n : Nat) : (ents ps n).length = ps.length * 3 := by
  induction ps generalizing n with
  | nil => rfl
  | cons p ps ih => simp only [ents, List.length_cons, ih]; omega
theorem ents_append (ps qs : List (Value × Value)) (n : Nat) : ents (ps ++ qs) n = ents ps n ++ ents qs (n + ps.length) := by
  induction ps generalizing n with
  | nil => simp [ents]
  | cons p ps ih => simp only [List.cons_append, ents, ih, List.length_cons]; rw [show n + 1 + ps.length = n + (ps.length + 1) by omega]
theorem ents_get (ps : List (Value × Value)) (n i : Nat) (h : i < ps.length) : (ents ps n)[i * 3]? = some ps[i].1 ∧ (ents ps n)[i * 3 + 1]? = some ps[i].2 ∧ (ents ps n)[i * 3 + 2]? = some (.int .i64 ((n + i + 1 : Nat) : Int)) := by
  induction ps generalizing n i with
  | nil => simp at h
  | cons p ps ih =>
    cases i with
    | zero => exact ⟨rfl, rfl, rfl⟩
    | succ i =>
      have := ih (n + 1) i (by simpa using h)
      rw [show n + 1 + i + 1 = n + (i + 1) + 1 by omega] at this
      simp only [ents, List.getElem_cons_succ, show (i + 1) * 3 = i * 3 + 3 by omega]
      exact this
theorem ents_set (ps : List (Value × Value)) (n i : Nat) (h : i < ps.length) (x : Value) : (ents ps n).set (i * 3 + 1) x = ents (ps.set i (ps[i].1, x)) n := by
  induction ps generalizing n i with
  | nil => simp at h
  | cons p ps ih =>
    cases i with
    | zero => rfl
    | succ i =>
      simp only [ents, List.set_cons_succ, List.getElem_cons_succ, show (i + 1) * 3 + 1 = (i * 3 + 1) + 1 + 1 + 1 by omega]
      rw [ih (n + 1) i (by simpa using h)]

/-- the book lies at g, its lists at lv -/
def bookCells (n : Nat) (lv : Value) : Array Value := #[.int .i64 n, .slice none 0 0, .slice none 0 0, .slice none 0 0, .slice none 0 0, .slice none 0 0, .slice none 0 0, lv, .slice none 0 0, .slice none 0 0, .slice none 0 0, .slice none 0 0, .slice none 0 0, .slice none 0 0, .slice none 0 0]
def BookAt (w : World) (g n : Nat) (lv : Value) : Prop := w.heap[g]? = some (.cells (bookCells n lv) 44 (0, 0))
/-- the book at g holds ps; its own memory lies above base -/
structure Kept (base : Nat) (w : World) (g : Nat) (lv : Value) (ps : List (Value × Value)) : Prop where
  hg : base ≤ g
  book : BookAt w g ps.length lv
  own : w.ownsRow base 131 3 lv ps.length (ents ps 0)

theorem BookAt.lt {w : World} {g n : Nat} {lv : Value} (h : BookAt w g n lv) : g < w.heap.size := (Array.getElem?_eq_some_iff.1 h).1
theorem BookAt.cell {w : World} {g n : Nat} {lv : Value} (h : BookAt w g n lv) (i : Nat) : w.cell? ⟨g, i, none⟩ = (bookCells n lv)[i]? := by
  exact cell_of_row w g i _ _ _ h
theorem BookAt.nil {w : World} {g n : Nat} {lv : Value} (h : BookAt w g n lv) {i : Nat} (hi : 1 ≤ i ∧ i < 15 ∧ i ≠ 7) : w.cell? ⟨g, i, none⟩ = some (.slice none 0 0) := by
  rw [h.cell]
  obtain ⟨h1, h2, h3⟩ := hi
  rcases (by omega : i = 1 ∨ i = 2 ∨ i = 3 ∨ i = 4 ∨ i = 5 ∨ i = 6 ∨ i = 8 ∨ i = 9 ∨ i = 10 ∨ i = 11 ∨ i = 12 ∨ i = 13 ∨ i = 14) with rfl | rfl | rfl | rfl | rfl | rfl | rfl | rfl | rfl | rfl | rfl | rfl | rfl
  all_goals rfl
theorem Kept.ne {base : Nat} {w : World} {g : Nat} {lv : Value} {ps : List (Value × Value)} (h : Kept base w g lv ps) {k : Nat} {zs : List Value} (hr : RowV w k zs) : k ≠ g ∧ lv.ownBlock ≠ some k := by
  refine ⟨?_, ?_⟩
  · rintro rfl
    have h1 := h.book
    unfold BookAt at h1
    unfold RowV at hr
    rw [hr] at h1
    simp at h1
  · intro hk
    rcases h.own.2 with ⟨rfl, _⟩ | ⟨g', cap, cur, rfl, _, h1, _⟩
    · cases hk
    · cases hk
      unfold RowV at hr
      rw [hr] at h1
      simp at h1

end Go.Proofs.YtddamkdkaijfjaaGreatDoor
