/- the argument of FaultSteps: a list of texts -/
import Derived.Test.YtbkgphglojjllaaDoorFBulk
import Derived.Test.YtbkgphglojjllaaDoorFSame
import Derived.Deep.Strs
namespace Go.Proofs.YtbkgphglojjllaaDoor
open Go.ChangeShapes Go.WideShapes Go.ChangeAt Go.RowKit Go.Deep
set_option linter.unusedVariables false

theorem tcell_lt {W : World} {p : Addr} {v : Value} (h : W.cell? p = some v) : p.block < W.heap.size := by
  rcases Nat.lt_or_ge p.block W.heap.size with g | g
  · exact g
  · simp [World.cell?, Array.getElem?_eq_none g] at h
theorem tot_bulk {H : Type} (l : List (List UInt8)) : tot l ≤ Rows.uptoBulkAll (l.map fun x => (.lit (.string x) : DataW H)) := by
  induction l with
  | nil => simp [tot]
  | cons x l ih =>
    simp only [List.map_cons, Rows.uptoBulkAll, Rows.uptoBulk, tot]
    omega
theorem bulk_texts {H : Type} {e s : List (DataW H)} {d : DataW H} {n : Nat} (hd : d = .slice e s) (h : Rows.uptoBulk d ≤ n) : Rows.uptoBulkAll e ≤ n := by
  rw [hd] at h
  have h2 : Rows.uptoBulk (.slice e s) = Rows.uptoBulkAll e + Rows.uptoBulkAll s + 1 := by simp only [Rows.uptoBulk]
  rw [h2] at h
  omega
set_option maxRecDepth 100000 in
theorem open_texts {H : Type} {enc : TypeId × Value → H} {W : World} {base b0 : Nat} {held : Bool} {v : Value} {d : DataW H} {p : List MemPlace} {n : Nat} (hv : Value.okWide Tryd.prog W .any base 56 v)
    (h : ∃ n, DataW.trod enc Tryd.prog W b0 (fun _ => true) held n 56 v.cells.toList = some (d, p)) (hb : Rows.uptoBulk d ≤ n) : ∃ xs : List (List UInt8), TxRd W v xs ∧ tot xs ≤ n := by
  obtain ⟨a0, len0, cap0, rfl⟩ := okWide_slice Tryd.underlying56 hv
  obtain ⟨fuel, hf⟩ := h
  rcases open_strs Tryd.underlying56 Tryd.underlying9 (by kernel_rfl) hf with ⟨hcs, _⟩ | ⟨x, l, c, m, Sx, hcs, _, hl, hm, hmm, hx, hcell⟩
  · simp [Value.cells] at hcs
    obtain ⟨rfl, rfl, rfl⟩ := hcs
    exact ⟨[], ⟨none, 0, rfl, Nat.le_refl _, by unfold maxLen; omega, fun h => absurd h (by simp)⟩, by simp [tot]⟩
  · simp [Value.cells] at hcs
    obtain ⟨rfl, rfl, rfl⟩ := hcs
    have hmc : m = cap0 := by simpa using hmm
    have hd := (Prod.mk.inj hx).1
    have hbk := bulk_texts hd hb
    have e : ((List.range len0).map fun i => (.lit (.string (Sx i).data.toList) : DataW H)) = ((List.range len0).map fun i => (Sx i).data.toList).map fun x => .lit (.string x) := by simp
    rw [e] at hbk
    have hlen : ((List.range len0).map fun i => (Sx i).data.toList).length = len0 := by simp
    refine ⟨(List.range len0).map fun i => (Sx i).data.toList, ⟨some x, cap0, by rw [hlen], by rw [hlen]; exact hl, hm, fun hp => ?_⟩, Nat.le_trans (tot_bulk _) hbk⟩
    rw [hlen] at hp
    have h0 := (hcell 0 (by omega)).1
    obtain ⟨b, off, spot⟩ := x
    have hspot : spot = none := by simpa [Addr.add] using World.cell?_spot h0
    subst hspot
    refine ⟨b, off, rfl, by simpa [Addr.add] using tcell_lt h0, fun i hi => ?_⟩
    rw [hlen] at hi
    have h1 := (hcell i (by omega)).1
    rw [Addr.add_lit] at h1
    rw [h1]
    simp [tV]

end Go.Proofs.YtbkgphglojjllaaDoor
