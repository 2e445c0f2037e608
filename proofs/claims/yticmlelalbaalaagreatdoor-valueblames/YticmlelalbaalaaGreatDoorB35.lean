import Derived.Test.YticmlelalbaalaaGreatDoorB02
import Derived.Test.YticmlelalbaalaaGreatDoorB30
import Derived.Lib.Builder
import Derived.Laws.Rows
import Derived.Defers
import Derived.Recover
namespace Go.Proofs.YticmlelalbaalaaGreatDoor
open Go.RowKit
set_option linter.unusedVariables false
theorem fubcell0 {W w1 : World} (hb : Below W.heap.size W w1) : (∀ b o, b < W.heap.size → w1.cell? ⟨b, o, none⟩ = W.cell? ⟨b, o, none⟩) ∧ (∀ b o, b < W.heap.size → w1.frozen? ⟨b, o, none⟩ = W.frozen? ⟨b, o, none⟩) :=
  ⟨fun b o h => by simp only [World.cell?]; rw [hb.block b h], fun b o h => by simp only [World.frozen?]; rw [hb.block b h]⟩
def sG (i : Nat) : Nat := [0, 2, 3, 4, 1, 5, 6, 7, 8, 9, 10, 13].getD i 0
structure Snt (w : World) (a : Nat → Addr) : Prop where
  cell : ∀ i, i < 12 → w.cell? ⟨sG i, 0, none⟩ = some (.iface 267 (.pointer (some (a i))))
  obj : ∀ i, i < 12 → ∃ c t, w.heap[(a i).block]? = some (.cells c t (0, 0))
  ne : ∀ i j, i < 12 → j < 12 → i ≠ j → a i ≠ a j
theorem Snt.below {w w' : World} {a : Nat → Addr} (h : Snt w a) (hb : Below w.heap.size w w') : Snt w' a := by
  refine ⟨fun i hi => ?_, fun i hi => ?_, h.ne⟩
  · have hc := h.cell i hi
    have hl : sG i < w.heap.size := by
      rcases Nat.lt_or_ge (sG i) w.heap.size with g | g
      · exact g
      · simp [World.cell?, Array.getElem?_eq_none g] at hc
    rw [(fubcell0 hb).1 _ _ hl]; exact hc
  · obtain ⟨c, t, ho⟩ := h.obj i hi
    exact ⟨c, t, by rw [hb.block _ (Array.getElem?_eq_some_iff.1 ho).1]; exact ho⟩
def Hnd (w : World) : Prop := w.cell? ⟨12, 0, none⟩ = some (.iface 163 (.agg #[.pointer (some ⟨21, 36, none⟩)]))
theorem Hnd.below {w w' : World} (h : Hnd w) (hb : Below w.heap.size w w') : Hnd w' := by
  have hl : 12 < w.heap.size := by
    unfold Hnd at h
    rcases Nat.lt_or_ge 12 w.heap.size with g | g
    · exact g
    · simp [World.cell?, Array.getElem?_eq_none g] at h
  unfold Hnd
  rw [(fubcell0 hb).1 _ _ hl]; exact h
def FltAt (w : World) (g : Nat) (e : Value) (k : Int) (s : ByteArray) : Prop :=
  w.heap[g]? = some (.cells #[e, .int .i64 k, .string s] 65 (0, 0))
theorem FltAt.below {w w' : World} {g : Nat} {e : Value} {k : Int} {s : ByteArray} (h : FltAt w g e k s) (hb : Below w.heap.size w w') : FltAt w' g e k s := by
  unfold FltAt
  rw [hb.block _ (Array.getElem?_eq_some_iff.1 h).1]; exact h
def ErrIs (w : World) (a : Nat → Addr) (u : TypeId) (x : Value) (b : Nat → Bool) : Prop :=
  ∀ w', Below w.heap.size w w' → ∀ i, i < 11 → Calls Tryz.prog 44 #[.iface u x, .iface 267 (.pointer (some (a i)))] w' fun e w'' => e = .returned (.bool (b i)) ∧ Below w'.heap.size w' w''
def AsIs (w : World) (u : TypeId) (x : Value) (r : Option (Option Addr)) : Prop :=
  ∀ w', Below w.heap.size w w' → Calls Tryz.prog 61 #[.iface u x, .iface 90 (.pointer (some ⟨w'.heap.size, 0, none⟩))] (w'.alloc (.cells #[.pointer none] 62)) fun e w'' => e = .returned (.bool r.isSome) ∧ Below w'.heap.size w' w'' ∧ w''.cell? ⟨w'.heap.size, 0, none⟩ = some (.pointer (r.getD none))
theorem AsIs.below {w w1 : World} {u : TypeId} {x : Value} {r : Option (Option Addr)} (h : AsIs w u x r) (hb : Below w.heap.size w w1) : AsIs w1 u x r :=
  fun w' hb' => h w' (hb.trans (hb'.mono hb.size))
def Told (w : World) (r : Option (Option Addr)) (o : Option (Int × ByteArray)) : Prop :=
  (o = none ∧ (r = none ∨ r = some none)) ∨ (∃ g e k s, o = some (k, s) ∧ r = some (some ⟨g, 0, none⟩) ∧ FltAt w g e k s ∧ (e = .nilIface ∨ ∃ u x, e = .iface u x))
theorem Told.below {w w' : World} {r : Option (Option Addr)} {o : Option (Int × ByteArray)} (h : Told w r o) (hb : Below w.heap.size w w') : Told w' r o := by
  rcases h with h | ⟨g, e, k, s, h1, h2, h3, h4⟩
  · exact Or.inl h
  · exact Or.inr ⟨g, e, k, s, h1, h2, h3.below hb, h4⟩
def leastB (b : Nat → Bool) : Nat → Int
  | 0 => -1
  | k + 1 => if leastB b k = -1 then (if b k then (k : Int) + 1 else -1) else leastB b k
end Go.Proofs.YticmlelalbaalaaGreatDoor
