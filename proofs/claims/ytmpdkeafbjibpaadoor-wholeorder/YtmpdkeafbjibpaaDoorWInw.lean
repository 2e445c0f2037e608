/- numbers that a region lays in cells of its own, whatever its order (own theory's users) -/
import Derived.Test.YtmpdkeafbjibpaaDoorWInv
import Derived.Test.YtmpdkeafbjibpaaDoorWKit
namespace Go.Proofs.YtmpdkeafbjibpaaDoor
open Go.RowKit

/-- has it come up, the slot holds that -/
def LdS (b : Bool) (s v : Value) : Prop := b = true → s = v
/-- has it come up, the slot holds a number -/
def ReS (b : Bool) (w : World) (s : Value) (n : Int) (k : Nat) : Prop := b = true → (∃ ng ro rl, s = .agg #[.bool ng, .slice ro rl rl]) ∧ WNum 0 w s n k
/-- has it come up, the slot points to cells above B -/
def AlS (b : Bool) (B : Nat) (w : World) (s : Value) : Prop := b = true → ∃ c z u, s = .pointer (some ⟨c, 0, none⟩) ∧ B ≤ c ∧ Cell2 w c (.bool z) u
def UnS (b c : Bool) (s t : Value) : Prop := b = true → c = true → s ≠ t
/-- has it come up, the cells hold that -/
def StS (b ua uc : Bool) (w : World) (s r : Value) : Prop := b = true → ua = true ∧ uc = true ∧ ∃ c x y, s = .pointer (some ⟨c, 0, none⟩) ∧ r = .agg #[x, y] ∧ Cell2 w c x y

theorem ReS.below {b : Bool} {w w' : World} {s : Value} {n : Int} {k : Nat} (h : ReS b w s n k) (hb : Below w.heap.size w w') : ReS b w' s n k := fun e => ⟨(h e).1, (h e).2.below hb⟩
theorem AlS.below {b : Bool} {B : Nat} {w w' : World} {s : Value} (h : AlS b B w s) (hb : Below w.heap.size w w') : AlS b B w' s := fun e => by
  obtain ⟨c, z, u, h1, h2, h3⟩ := h e
  exact ⟨c, z, u, h1, h2, h3.below hb⟩
theorem StS.below {b ua uc : Bool} {w w' : World} {s r : Value} (h : StS b ua uc w s r) (hb : Below w.heap.size w w') : StS b ua uc w' s r := fun e => by
  obtain ⟨a1, a2, c, x, y, h1, h2, h3⟩ := h e
  exact ⟨a1, a2, c, x, y, h1, h2, h3.below hb⟩
theorem ReS.putc {b : Bool} {w : World} {s : Value} {n : Int} {k c : Nat} {z : Bool} {u : Value} (h : ReS b w s n k) (Z : Cell2 w c (.bool z) u) (x y : Value) : ReS b ((w.setCell ⟨c, 0, none⟩ x).setCell ⟨c, 1, none⟩ y) s n k := fun e => ⟨(h e).1, (h e).2.putc Z x y⟩
theorem AlS.putc {b : Bool} {B : Nat} {w : World} {s : Value} {c : Nat} {z : Bool} {u : Value} (h : AlS b B w s) (Z : Cell2 w c (.bool z) u) (x : Bool) (y : Value) : AlS b B ((w.setCell ⟨c, 0, none⟩ (.bool x)).setCell ⟨c, 1, none⟩ y) s := fun e => by
  obtain ⟨c', z', u', h1, h2, h3⟩ := h e
  by_cases hc : c' = c
  · subst hc
    exact ⟨c', x, y, h1, h2, h3.put _ _⟩
  · exact ⟨c', z', u', h1, h2, h3.away hc _ _⟩
theorem StS.away {b ua uc : Bool} {w : World} {s r : Value} {c : Nat} (h : StS b ua uc w s r) (hn : b = true → s ≠ .pointer (some ⟨c, 0, none⟩)) (x y : Value) : StS b ua uc ((w.setCell ⟨c, 0, none⟩ x).setCell ⟨c, 1, none⟩ y) s r := fun e => by
  obtain ⟨a1, a2, c', x', y', h1, h2, h3⟩ := h e
  have hc : c' ≠ c := fun q => hn e (by rw [h1, q])
  exact ⟨a1, a2, c', x', y', h1, h2, h3.away hc _ _⟩
theorem StS.none {b ua uc : Bool} {w w' : World} {s r s' r' : Value} (h : StS b ua uc w s r) (hn : ua = false ∨ uc = false) : StS b true true w' s' r' ∧ b = false := by
  have : b = false := by
    cases b with
    | false => rfl
    | true =>
      obtain ⟨a1, a2, -⟩ := h rfl
      rcases hn with e | e
      · rw [e] at a1; cases a1
      · rw [e] at a2; cases a2
  exact ⟨fun e => (by rw [this] at e; cases e), this⟩
theorem StS.off {b ua uc ua' uc' : Bool} {w w' : World} {s r s' r' : Value} (h : StS b ua uc w s r) (hn : ua = false ∨ uc = false) : StS b ua' uc' w' s' r' := fun e => by
  rw [(StS.none (w' := w) (s' := s) (r' := r) h hn).2] at e
  cases e
theorem AlS.new {w : World} {B : Nat} (hB : B ≤ w.heap.size) (t : TypeId) : AlS true B (w.alloc (.cells #[.bool false, .slice none 0 0] t)) (.pointer (some ⟨w.heap.size, 0, none⟩)) := fun _ => ⟨_, _, _, rfl, hB, cell2_new w _ _ t⟩
theorem AlS.unlike {b c : Bool} {B : Nat} {w : World} {s : Value} (h : AlS b B w s) : UnS b c s (.pointer (some ⟨w.heap.size, 0, none⟩)) := fun e _ q => by
  obtain ⟨c', z, u, h1, h2, h3⟩ := h e
  rw [h1] at q
  have : c' = w.heap.size := by
    injection q with q
    injection q with q
    injection q
  have := h3.lt
  omega
theorem UnS.symm {b c : Bool} {s t : Value} (h : UnS b c s t) : UnS c b t s := fun x y e => h y x e.symm
theorem AlS.unlike' {b c : Bool} {B : Nat} {w : World} {s : Value} (h : AlS b B w s) : UnS c b (.pointer (some ⟨w.heap.size, 0, none⟩)) s := h.unlike.symm

end Go.Proofs.YtmpdkeafbjibpaaDoor
