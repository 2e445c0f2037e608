/- what is left of the world behind a call on a State; own lists -/
import Derived.Test.YtegokdhmpopggaaDoorXOk
import Derived.Test.YtegokdhmpopggaaDoorUFirst
import Derived.Test.YtegokdhmpopggaaDoorUApp
import Derived.Lib.Builder
import Derived.Laws.Rows
import Derived.BigRegion
import Derived.Deep.RegionLaw
import Derived.Laws.EntriesVeiled
namespace Go.Proofs.YtegokdhmpopggaaDoor
open Go.RowKit
set_option linter.unusedVariables false

structure Fr (p : Nat) (ov ov' : Value) (w w' : World) : Prop where
  os : w'.os = w.os
  tape : w'.tape = w.tape
  output : w'.output = w.output
  size : w.heap.size ≤ w'.heap.size
  block : ∀ k, k < w.heap.size → k ≠ p → ov.ownBlock ≠ some k → w'.heap[k]? = w.heap[k]?
  own : ov'.ownBlock = ov.ownBlock ∨ ∀ k, ov'.ownBlock = some k → w.heap.size ≤ k
theorem Fr.refl (p : Nat) (ov : Value) (w : World) : Fr p ov ov w w := ⟨rfl, rfl, rfl, Nat.le_refl _, fun _ _ _ _ => rfl, Or.inl rfl⟩
theorem Fr.trans {p : Nat} {o1 o2 o3 : Value} {a b c : World} (h : Fr p o1 o2 a b) (k : Fr p o2 o3 b c) : Fr p o1 o3 a c := by
  refine ⟨k.os.trans h.os, k.tape.trans h.tape, k.output.trans h.output, Nat.le_trans h.size k.size, fun i hi hp ho => ?_, ?_⟩
  · rw [k.block i (Nat.lt_of_lt_of_le hi h.size) hp ?_, h.block i hi hp ho]
    rcases h.own with e | e
    · rw [e]; exact ho
    · intro g; have := e i g; omega
  · rcases k.own with e | e
    · rw [e]; exact h.own
    · exact Or.inr fun i g => Nat.le_trans h.size (e i g)
theorem Fr.below {p B : Nat} {ov ov' : Value} {w w' : World} (h : Fr p ov ov' w w') (hp : B ≤ p) (hw : B ≤ w.heap.size) (ho : ∀ k, ov.ownBlock = some k → B ≤ k) : Below B w w' :=
  ⟨h.os, h.tape, h.output, h.size, fun k hk => h.block k (by omega) (by omega) (fun e => by have := ho k e; omega)⟩
theorem Fr.of_below {p : Nat} {ov : Value} {w w' : World} (h : Below w.heap.size w w') : Fr p ov ov w w' :=
  ⟨h.os, h.tape, h.output, h.size, fun k hk _ _ => h.block k hk, Or.inl rfl⟩
theorem Fr.setP {p i : Nat} {o1 o2 : Value} {w w' : World} (h : Fr p o1 o2 w w') (u : Value) : Fr p o1 o2 w (w'.setCell ⟨p, i, none⟩ u) :=
  h.trans ⟨rfl, rfl, rfl, by simp [World.setCell], fun k hk hp _ => Below.heap_setCell _ _ _ _ hp, Or.inl rfl⟩
theorem Fr.drew {p : Nat} {o1 o2 : Value} {w w' : World} (h : Fr p o1 o2 w w') : Fr p o1 o2 w w'.drew := h.trans (Fr.of_below (Below.refl _ _).drew)
theorem ScS.grow {w : World} {p i : Nat} (u : Value) : w.grownBy (w.setCell ⟨p, i, none⟩ u) (some p) :=
  ⟨rfl, rfl, rfl, by simp [World.setCell], fun k hk hp => Below.heap_setCell _ _ _ _ (fun e => hp (by rw [e]))⟩
theorem jcells_one (w : World) (E : TypeId) (k : IntKind) (x : Int) : Cells k (w.alloc (.cells #[.int k x] E)) (some ⟨w.heap.size, 0, none⟩) [x] := by
  intro _
  refine ⟨_, 0, rfl, by simp, fun i hi => ?_⟩
  have h0 : i = 0 := by simp at hi; omega
  subst h0
  rw [Lib.cell_of_heap (heap_alloc_new w _)]; rfl
theorem Tryd.infoY8 : (Tryd.prog.info? 5).map (fun i => (i.zero, i.size, i.bytes)) = some (some (.int .u8 0), 1, 1) := by kernel_rfl
theorem own_form {w : World} {B : Nat} {E : TypeId} {v : Value} {n : Nat} {xs : List Value} (h : w.ownsRow B E 1 v n xs) : ∃ s k c, v = .slice s k c := by
  rcases h.2 with ⟨rfl, _⟩ | ⟨g, cap, cur, rfl, _⟩ <;> exact ⟨_, _, _, rfl⟩
theorem Fr.across {w u w5 : World} {p : Nat} {ov ov' : Value} (hu : Below w.heap.size w u) (hg : u.grownBy w5 ov.ownBlock) (ho : ov'.ownBlock = ov.ownBlock ∨ ∀ k, ov'.ownBlock = some k → w.heap.size ≤ k) : Fr p ov ov' w w5 :=
  ⟨hg.os.trans hu.os, hg.tape.trans hu.tape, hg.output.trans hu.output, Nat.le_trans hu.size hg.size, fun k hk _ ho => (hg.block k (Nat.lt_of_lt_of_le hk hu.size) (fun e => ho e.symm)).trans (hu.block k hk), ho⟩
theorem dgs_none {l : Nat} {n h b : Int} (hx : xDig b < 0 ∨ xBar (l - 1) (16 * n + xDig b) h) : xStep (.digs l n h) b = none := by
  show xDgs l n h b = none
  unfold xDgs
  split
  · rfl
  · rename_i q
    rw [if_pos (by rcases hx with e | e; exact absurd e q; exact e)]
theorem dgs_go {l : Nat} {n h b : Int} (hx : ¬ xDig b < 0) (hb : ¬ xBar (l - 1) (16 * n + xDig b) h) (hl : 2 ≤ l) : xStep (.digs l n h) b = some (.digs (l - 1) (16 * n + xDig b) h, []) := by
  show xDgs l n h b = _
  unfold xDgs
  rw [if_neg hx, if_neg hb, if_pos (by omega)]
theorem dgs_end {n h b : Int} (hx : ¬ xDig b < 0) : xStep (.digs 1 n h) b = some (xEnd (16 * n + xDig b) h) := by
  show xDgs 1 n h b = _
  unfold xDgs
  rw [if_neg hx, if_neg (by unfold xBar; omega), if_neg (by omega)]

end Go.Proofs.YtegokdhmpopggaaDoor
