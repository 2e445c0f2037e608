/- what Shift and In made stands while a Fault elsewhere is written over -/
import Derived.Test.YtbkgphglojjllaaDoorFFdG
import Derived.Test.YtbkgphglojjllaaDoorFRefS
import Derived.Test.YtbkgphglojjllaaDoorFNdP
namespace Go.Proofs.YtbkgphglojjllaaDoor
open Go.RowKit
set_option linter.unusedVariables false

/-- an error that Shift or In made: what it tells, as long as the blocks from B on stand -/
def Kp (W : World) (a : Nat → Addr) (B : Nat) (v : Value) (b : Nat → Bool) (o : Option (Int × ByteArray)) : Prop :=
  ∀ u, Snt u a → Hnd u → (∀ k, B ≤ k → k < W.heap.size → u.heap[k]? = W.heap[k]?) → Er u a v b o
theorem kp_flt {W : World} {a : Nat → Addr} {B g m : Nat} {k : Int} {s : ByteArray} (hm : m < 12) (hB : B ≤ g) (hg : FltAt W g (.iface 95 (.pointer (some (a m)))) k s) :
    Kp W a B (.iface 41 (.pointer (some ⟨g, 0, none⟩))) (fun i => decide (i = m)) (some (k, s)) := fun u hS hH hk =>
  er_flt hS hH hm ((hk g hB (Array.getElem?_eq_some_iff.1 hg).1).trans hg)
theorem kp_snt {W : World} {a : Nat → Addr} {B m : Nat} (hm : m < 12) : Kp W a B (.iface 95 (.pointer (some (a m)))) (fun i => decide (i = m)) none := fun u hS hH _ => er_snt hS hH hm
theorem Kp.later {W W' : World} {a : Nat → Addr} {B : Nat} {v : Value} {b : Nat → Bool} {o : Option (Int × ByteArray)} (h : Kp W a B v b o) (hb : Below W.heap.size W W') : Kp W' a B v b o :=
  fun u hS hH hk => h u hS hH (fun k h1 h2 => (hk k h1 (Nat.lt_of_lt_of_le h2 hb.size)).trans (hb.block k h2))
theorem Kp.mono {W : World} {a : Nat → Addr} {B B' : Nat} {v : Value} {b : Nat → Bool} {o : Option (Int × ByteArray)} (h : Kp W a B v b o) (hb : B' ≤ B) : Kp W a B' v b o :=
  fun u hS hH hk => h u hS hH (fun k h1 h2 => hk k (by omega) h2)
theorem shift_kp {w : World} {a : Nat → Addr} {v : Value} {b : Nat → Bool} {o : Option (Int × ByteArray)} {n : Int} (hS : Snt w a) (hE : Er w a v b o) :
    Calls Tryd.prog 18 #[v, .int .i64 n] w fun e w' => (∃ u p, e = .returned (.iface u p) ∧ Kp w' a w.heap.size (.iface u p) (fun i => decide (i = bareN b)) (o.map fun q => (IntKind.i64.wrap (q.1 + n), q.2))) ∧ Below w.heap.size w w' := by
  cases o with
  | none =>
    refine (fshift_bare hS hE).mono ?_
    rintro e w' ⟨rfl, hb⟩
    exact ⟨⟨_, _, rfl, kp_snt (bareN_lt b)⟩, hb⟩
  | some q =>
    obtain ⟨k, s⟩ := q
    refine (fshift_some hS hE).mono ?_
    rintro e w' ⟨g, hg, rfl, hF, hb⟩
    exact ⟨⟨_, _, rfl, kp_flt (bareN_lt b) hg hF⟩, hb⟩
theorem in_kp {w : World} {a : Nat → Addr} {v : Value} {b : Nat → Bool} {o : Option (Int × ByteArray)} {z t : ByteArray} (hS : Snt w a) (hE : Er w a v b o) (hW : WrIs w z t) (hL : t.size + (oS o).size ≤ 9223372036854775807) :
    Calls Tryd.prog 19 #[v, .string z] w fun e w' => (∃ u p, e = .returned (.iface u p) ∧ Kp w' a w.heap.size (.iface u p) (fun i => decide (i = bareN b)) (some (oA o, t ++ oS o))) ∧ Below w.heap.size w w' := by
  refine (fin_any hS hE hW hL).mono ?_
  rintro e w' ⟨g, hg, rfl, hF, hb⟩
  exact ⟨⟨_, _, rfl, kp_flt (bareN_lt b) hg hF⟩, hb⟩
/-- what stands between the two turns -/
structure Mv (w w4 w8 : World) (B : Nat) (r : Option (Option Addr)) (t : Nat) (u : World) : Prop where
  bel : Below w.heap.size w u
  st : ∀ k, B ≤ k → k < w8.heap.size → u.heap[k]? = w8.heap[k]?
  size : w8.heap.size ≤ u.heap.size
  unf : Unf w4 u
  fl : ∀ p, r = some (some p) → ∃ g e k s, p = ⟨g, 0, none⟩ ∧ w.heap.size ≤ g ∧ g < B ∧ (∃ cs q, w4.heap[g]? = some (Obj.cells cs 45 q)) ∧ FltAt u g e k s ∧ s.size ≤ 140737488351232 + 7 * t
theorem Mv.later {w w4 w8 u u' : World} {B t : Nat} {r : Option (Option Addr)} (h : Mv w w4 w8 B r t u) (hb : Below u.heap.size u u') : Mv w w4 w8 B r t u' :=
  ⟨h.bel.trans (hb.mono h.bel.size), fun k h1 h2 => (hb.block k (Nat.lt_of_lt_of_le h2 h.size)).trans (h.st k h1 h2), Nat.le_trans h.size hb.size, h.unf.below hb, fun p hp => by
    obtain ⟨g, e, k, s, h1, h2, h3, h4, h5, h6⟩ := h.fl p hp
    exact ⟨g, e, k, s, h1, h2, h3, h4, h5.below hb, h6⟩⟩
theorem Mv.up {w w4 w8 u : World} {B t t' : Nat} {r : Option (Option Addr)} (h : Mv w w4 w8 B r t u) (ht : t ≤ t') : Mv w w4 w8 B r t' u :=
  ⟨h.bel, h.st, h.size, h.unf, fun p hp => by
    obtain ⟨g, e, k, s, h1, h2, h3, h4, h5, h6⟩ := h.fl p hp
    exact ⟨g, e, k, s, h1, h2, h3, h4, h5, by omega⟩⟩
theorem Mv.write {w w4 w8 u : World} {B t t' g j : Nat} {r : Option (Option Addr)} {v e : Value} {k : Int} {s : ByteArray} (h : Mv w w4 w8 B r t u) (hr : r = some (some ⟨g, 0, none⟩)) (hF : FltAt (u.setCell ⟨g, j, none⟩ v) g e k s) (hs : s.size ≤ 140737488351232 + 7 * t') : Mv w w4 w8 B r t' (u.setCell ⟨g, j, none⟩ v) := by
  obtain ⟨g', e', k', s', h1, h2, h3, ⟨cs, q, h4⟩, h5, h6⟩ := h.fl _ hr
  cases h1
  have ho : ∀ k, k ≠ g → (u.setCell ⟨g, j, none⟩ v).heap[k]? = u.heap[k]? := fun k hk => heap_setCell_other _ _ k _ hk
  have hz : (u.setCell ⟨g, j, none⟩ v).heap.size = u.heap.size := by simp
  refine ⟨h.bel.setCell (p := ⟨g, j, none⟩) h2 _, fun k a b => (ho k (by omega)).trans (h.st k a b), by rw [hz]; exact h.size, h.unf.over h4 (by rw [hz]; exact Nat.le_refl _) (fun k hk _ => ho k hk), fun p hp => ?_⟩
  rw [hr] at hp
  cases hp
  exact ⟨g, e, k, s, rfl, h2, h3, ⟨cs, q, h4⟩, hF, hs⟩
theorem flt_at {u : World} {g : Nat} {e : Value} {k : Int} {s : ByteArray} (h : FltAt u g e k s) (k' : Int) : FltAt (u.setCell ⟨g, 1, none⟩ (.int .i64 k')) g e k' s := heap_setCell_same u g 1 _ _ _ h
theorem flt_path {u : World} {g : Nat} {e : Value} {k : Int} {s : ByteArray} (h : FltAt u g e k s) (s' : ByteArray) : FltAt (u.setCell ⟨g, 2, none⟩ (.string s')) g e k s' := heap_setCell_same u g 2 _ _ _ h
theorem flt_err {u : World} {g : Nat} {e : Value} {k : Int} {s : ByteArray} (h : FltAt u g e k s) (e' : Value) : FltAt (u.setCell ⟨g, 0, none⟩ e') g e' k s := heap_setCell_same u g 0 _ _ _ h
theorem flt_cells {u : World} {g : Nat} {e : Value} {k : Int} {s : ByteArray} (h : FltAt u g e k s) : u.cell? ⟨g, 0, none⟩ = some e ∧ u.cell? ⟨g, 1, none⟩ = some (.int .i64 k) ∧ u.cell? ⟨g, 2, none⟩ = some (.string s) ∧ ∀ j, u.frozen? ⟨g, j, none⟩ = false :=
  ⟨by simp [World.cell?, show u.heap[g]? = _ from h], by simp [World.cell?, show u.heap[g]? = _ from h], by simp [World.cell?, show u.heap[g]? = _ from h], fun j => Lib.frozen_of_heap h j⟩
theorem snt_cell {w : World} {a : Nat → Addr} (h : Snt w a) : w.cell? ⟨0, 0, none⟩ = some (.iface 95 (.pointer (some (a 9)))) := h.cell 9 (by decide)
theorem snt_cell_lt {w : World} {a : Nat → Addr} (h : Snt w a) : 0 < w.heap.size := ncell_lt (snt_cell h)
theorem oth_cell {u : World} {g j b o : Nat} {v x : Value} (hne : b ≠ g) (h : u.cell? ⟨b, o, none⟩ = some x) : ((u.setCell ⟨g, j, none⟩ v).drew).cell? ⟨b, o, none⟩ = some x := by
  have e : ((u.setCell ⟨g, j, none⟩ v).drew).heap[b]? = u.heap[b]? := heap_setCell_other _ _ b _ hne
  simp only [World.cell?] at h ⊢
  rw [e]; exact h
/-- the path that a tree tells is of the reading's size -/
theorem ndO_size {x : Nd} (h : NdSm x) : (oS (ndO x)).size ≤ 140737488351232 := by
  unfold ndO
  cases hf : ndF x with
  | none => exact (Nat.zero_le _ : (0 : Nat) ≤ 140737488351232)
  | some y =>
    have := (sm_first _ x (Nat.le_refl _) h y hf).path
    simp only [qO]
    split
    · exact (Nat.zero_le _ : (0 : Nat) ≤ 140737488351232)
    · exact this
theorem fdT_size {w : World} {x : Nd} {r : Option (Option Addr)} (hs : NdSm x) (h : FdT w x r) : ∀ p, r = some (some p) → ∃ g e k s, p = ⟨g, 0, none⟩ ∧ FltAt w g e k s ∧ s.size ≤ 140737488351232 := fun p hp => by
  rcases h with ⟨_, h2⟩ | ⟨y, _, _, h2⟩ | ⟨y, g, e, h1, _, h2, h3, _⟩
  · rw [h2] at hp; cases hp
  · rw [h2] at hp; cases hp
  · rw [h2] at hp
    cases hp
    exact ⟨g, e, _, _, rfl, h3, (sm_first _ x (Nat.le_refl _) hs y h1).path⟩

end Go.Proofs.YtbkgphglojjllaaDoor
