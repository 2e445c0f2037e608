/- one block is written, all others stay -/
import Derived.Test.YtmpdkeafbjibpaaDoorTrim
import Derived.Test.YtmpdkeafbjibpaaDoorMulMath
namespace Go.Proofs.YtmpdkeafbjibpaaDoor
open Go.RowKit

structure Only (g : Nat) (w w' : World) : Prop where
  os : w'.os = w.os
  tape : w'.tape = w.tape
  output : w'.output = w.output
  size : w.heap.size ≤ w'.heap.size
  block : ∀ k, k < w.heap.size → k ≠ g → w'.heap[k]? = w.heap[k]?

theorem Only.refl (g : Nat) (w : World) : Only g w w := ⟨rfl, rfl, rfl, Nat.le_refl _, fun _ _ _ => rfl⟩
theorem Only.trans {g : Nat} {a b c : World} (h : Only g a b) (k : Only g b c) : Only g a c :=
  ⟨k.os.trans h.os, k.tape.trans h.tape, k.output.trans h.output, Nat.le_trans h.size k.size, fun i hi hn => (k.block i (Nat.lt_of_lt_of_le hi h.size) hn).trans (h.block i hi hn)⟩
theorem Only.drew {g : Nat} {a w : World} (h : Only g a w) : Only g a w.drew := ⟨h.os, h.tape, h.output, h.size, h.block⟩
theorem Only.set {g : Nat} {a w : World} (h : Only g a w) (i : Nat) (v : Value) : Only g a (w.setCell ⟨g, i, none⟩ v) :=
  h.trans ⟨rfl, rfl, rfl, by simp [World.setCell], fun k _ hn => Below.heap_setCell _ _ _ _ hn⟩
theorem Only.below {g B : Nat} {w w' : World} (h : Only g w w') (hB : B ≤ g) (hs : B ≤ w.heap.size) : Below B w w' :=
  ⟨h.os, h.tape, h.output, h.size, fun k hk => h.block k (by omega) (by omega)⟩
theorem Only.cell {g : Nat} {w w' : World} (h : Only g w w') {p : Addr} (hp : p.block < w.heap.size) (hn : p.block ≠ g) : w'.cell? p = w.cell? p := World.cell?_of_block (w := w) (h.block p.block hp hn)
theorem Only.row {g : Nat} {w w' : World} (h : Only g w w') {k : Nat} {zs : List Int} (hn : k ≠ g) (hr : Row .u32 59 w k zs) : Row .u32 59 w' k zs := by
  unfold Row
  rw [h.block k hr.lt hn]
  exact hr
theorem Row.setOther {w : World} {g : Nat} {zs : List Int} (h : Row .u32 59 w g zs) {k : Nat} (i : Nat) (v : Value) (hn : g ≠ k) : Row .u32 59 (w.setCell ⟨k, i, none⟩ v) g zs := by
  unfold Row
  rw [Below.heap_setCell _ _ _ _ hn]
  exact h
/-- a store into a block that is newer than the first world -/
theorem Only.setNew {g : Nat} {a w : World} (h : Only g a w) {k : Nat} (i : Nat) (v : Value) (hk : a.heap.size ≤ k) : Only g a (w.setCell ⟨k, i, none⟩ v) :=
  ⟨h.os, h.tape, h.output, Nat.le_trans h.size (by simp [World.setCell]), fun j hj hn => (Below.heap_setCell _ _ _ _ (by show j ≠ k; omega)).trans (h.block j hj hn)⟩
/-- the address lies in another block -/
def Away (g : Nat) (ao : Option Addr) : Prop := ∀ b off, ao = some ⟨b, off, none⟩ → b ≠ g
theorem Only.cells {g : Nat} {k : IntKind} {w w' : World} {ao : Option Addr} {xs : List Int} (h : Only g w w') (hc : Cells k w ao xs) (ha : 0 < xs.length → Away g ao) : Cells k w' ao xs := by
  intro hp
  obtain ⟨b, off, h1, h2, h3⟩ := hc hp
  exact ⟨b, off, h1, Nat.lt_of_lt_of_le h2 h.size, fun i hi => (h.cell (p := ⟨b, off + i, none⟩) h2 (ha hp b off h1)).trans (h3 i hi)⟩
/-- what lies below lies away -/
theorem away_below {k : IntKind} {w : World} {ao : Option Addr} {xs : List Int} {g : Nat} (hc : Cells k w ao xs) (hg : w.heap.size ≤ g) : 0 < xs.length → Away g ao := by
  intro hp b off h
  obtain ⟨b', off', h1, h2, _⟩ := hc hp
  rw [h] at h1
  injection h1 with h1
  injection h1 with h1
  omega
theorem away_some {g b off : Nat} (h : b ≠ g) : Away g (some ⟨b, off, none⟩) := by
  intro b' off' e
  injection e with e
  injection e with e
  omega
theorem cells_drop {k : IntKind} {w : World} {b off : Nat} {xs : List Int} (hc : Cells k w (some ⟨b, off, none⟩) xs) (n : Nat) : Cells k w (some ⟨b, off + n, none⟩) (xs.drop n) := by
  intro hp
  rw [List.length_drop] at hp
  obtain ⟨b', off', h1, h2, h3⟩ := hc (by omega)
  injection h1 with h1
  injection h1 with h1 h1'
  subst h1 h1'
  refine ⟨b, off + n, rfl, h2, fun i hi => ?_⟩
  rw [List.length_drop] at hi
  rw [Nt.lb_drop, Nat.add_assoc]
  exact h3 (n + i) (by omega)
theorem row_cells {w : World} {g off n : Nat} {zs : List Int} (h : Row .u32 59 w g zs) (hf : off + n ≤ zs.length) : Cells .u32 w (some ⟨g, off, none⟩) ((zs.drop off).take n) := by
  have hl : ((zs.drop off).take n).length = n := by rw [List.length_take, List.length_drop]; omega
  intro _
  refine ⟨g, off, rfl, h.lt, fun i hi => ?_⟩
  rw [hl] at hi
  rw [h.cell (by omega), Nt.lb_take hi, Nt.lb_drop]

end Go.Proofs.YtmpdkeafbjibpaaDoor
