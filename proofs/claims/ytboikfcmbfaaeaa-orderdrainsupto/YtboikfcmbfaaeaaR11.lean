/- OBulk, OBulkF, ODrO -/
import Derived.Test.YtboikfcmbfaaeaaR10
import Derived.Test.YtboikfcmbfaaeaaR03
import Derived.Deep.SlicePairs
import Derived.Lib.SmallJoins
namespace Go.Proofs.Ytboikfcmbfaaeaa
open Go.ChangeShapes Go.WideShapes Go.ChangeAt Go.RowKit Go.Deep
set_option linter.unusedVariables false

def zOf : Value → Int
  | .int _ z => z
  | _ => 0
set_option maxRecDepth 100000 in
theorem open_itemsN {H : Type} {enc : TypeId × Value → H} {W : World} {base b0 : Nat} {held : Bool} {v : Value} {d : DataW H} {p : List MemPlace} {n : Nat} (hv : Value.okWide Try.prog W .any base 22 v)
    (h : ∃ n, DataW.trod enc Try.prog W b0 (fun _ => true) held n 22 v.cells.toList = some (d, p)) (hb : ∀ e s, d = .slice e s → e.length ≤ n) : ∃ zs : List It, ItRd (fun _ => True) W v zs ∧ zs.length ≤ n := by
  obtain ⟨a0, len0, cap0, rfl⟩ := okWide_slice Try.underlying22 hv
  obtain ⟨fuel, hf⟩ := h
  rcases open_slice_pairs Try.underlying22 Try.underlying29 (by kernel_rfl) rfl rfl (by kernel_rfl) (by kernel_rfl) hf with ⟨hcs, _⟩ | ⟨x, l, c, m, k, V0, V1, D0, D1, P0, P1, hcs, _, hl, hm, hmm, hx, hcell⟩
  · simp [Value.cells] at hcs
    obtain ⟨rfl, rfl, rfl⟩ := hcs
    exact ⟨[], ⟨none, 0, rfl, Nat.le_refl _, by unfold maxLen; omega, fun h => absurd h (by simp)⟩, by simp⟩
  · simp [Value.cells] at hcs
    obtain ⟨rfl, rfl, rfl⟩ := hcs
    have hmc : m = cap0 := by simpa using hmm
    subst hmc
    have hd := (Prod.mk.inj hx).1
    have hbk := hb _ _ hd
    rw [List.length_map, List.length_range] at hbk
    have hlen : ((List.range len0).map fun i => ((zOf (V0 i), zOf (V1 i)) : It)).length = len0 := by simp
    refine ⟨(List.range len0).map fun i => (zOf (V0 i), zOf (V1 i)), ⟨some x, m, by rw [hlen], by rw [hlen]; exact hl, hm, fun hp => ?_⟩, by rw [hlen]; exact hbk⟩
    rw [hlen] at hp
    have h0 := (hcell 0 (by omega)).1
    obtain ⟨b, off, spot⟩ := x
    have hspot : spot = none := by simpa [Addr.add] using World.cell?_spot h0
    subst hspot
    refine ⟨b, off, rfl, trivial, by simpa [Addr.add] using ucell_lt h0, fun i hi => ?_⟩
    rw [hlen] at hi
    obtain ⟨q0, q1, t0, t1⟩ := hcell i (by omega)
    obtain ⟨z0, e0, _, _⟩ := DataW.trod_int Try.underlying2 t0
    obtain ⟨z1, e1, _, _⟩ := DataW.trod_int Try.underlying3 t1
    simp only [List.cons.injEq, and_true] at e0 e1
    rw [Addr.add_lit] at q0 q1
    simp only [List.getElem_map, List.getElem_range]
    rw [q0, show off + i * 2 + 1 = off + (i * 2 + 1) by omega, q1, e0, e1]
    exact ⟨rfl, rfl⟩
theorem open_items {H : Type} {enc : TypeId × Value → H} {W : World} {base b0 : Nat} {held : Bool} {v : Value} {d : DataW H} {p : List MemPlace} {n : Nat} (hv : Value.okWide Try.prog W .any base 22 v)
    (h : ∃ n, DataW.trod enc Try.prog W b0 (fun _ => true) held n 22 v.cells.toList = some (d, p)) (hb : Rows.uptoBulk d ≤ n) : ∃ zs : List It, ItRd (fun _ => True) W v zs ∧ zs.length ≤ n := open_itemsN hv h (fun _ _ hd => bulk_slice hd hb)
theorem bytesItem : Try.prog.bytesOf 29 = 16 := by kernel_rfl
theorem sized_items {H : Type} {ts : List TypeId} {ds : List (DataW H)} (h : (DataW.weightsEach Try.prog ts ds).all (· ≤ reachBytes) = true) {j : Nat} {elems spare : List (DataW H)} (ht : ts[j]? = some 22) (hd : ds[j]? = some (.slice elems spare)) : elems.length ≤ 8796093022208 := by
  have := List.all_eq_true.1 h _ (DataW.weights_mem_each ht hd ((elems.length + spare.length) * Try.prog.bytesOf 29) (by simp [DataW.weights, Try.underlying22]))
  have hr : reachBytes = 140737488351232 := rfl
  rw [bytesItem, hr] at this
  have := of_decide_eq_true this
  omega
set_option maxRecDepth 100000 in
theorem open_item {H : Type} {enc : TypeId × Value → H} {W : World} {base b0 : Nat} {held : Bool} {v : Value} {d : DataW H} {p : List MemPlace} (hv : Value.okWide Try.prog W .any base 29 v)
    (h : ∃ n, DataW.trod enc Try.prog W b0 (fun _ => true) held n 29 v.cells.toList = some (d, p)) : ∃ z : It, v = itV z := by
  obtain ⟨v0, v1, y0, y1, k, rfl, _, _, t0, t1⟩ := Go.Joins.open_agg2 Try.underlying29 (by kernel_rfl) (by kernel_rfl) hv h
  obtain ⟨z0, e0, _, _⟩ := DataW.trod_int Try.underlying2 t0
  obtain ⟨z1, e1, _, _⟩ := DataW.trod_int Try.underlying3 t1
  simp only [List.cons.injEq, and_true] at e0 e1
  exact ⟨(z0, z1), by rw [e0, e1]⟩

end Go.Proofs.Ytboikfcmbfaaeaa

namespace Go.Proofs.Ytboikfcmbfaaeaa
open Go.ChangeShapes Go.WideShapes Go.ChangeAt Go.RowKit Go.Deep
set_option linter.unusedVariables false

theorem items_nil {H : Type} {enc : TypeId × Value → H} {W : World} {b0 : Nat} {held : Bool} {v : Value} {d : DataW H} {p : List MemPlace}
    (h : ∃ n, DataW.trod enc Try.prog W b0 (fun _ => true) held n 22 v.cells.toList = some (d, p)) : ∀ c, v = .slice none 0 c → c = 0 := by
  rintro c rfl
  obtain ⟨fuel, hf⟩ := h
  rcases open_slice_pairs Try.underlying22 Try.underlying29 (by kernel_rfl) rfl rfl (by kernel_rfl) (by kernel_rfl) hf with ⟨hcs, _⟩ | ⟨x, l, c', m, k, V0, V1, D0, D1, P0, P1, hcs, _⟩
  · simp [Value.cells] at hcs
    exact hcs
  · simp [Value.cells] at hcs
theorem sized_itemsF {H : Type} {ts : List TypeId} {ds : List (DataW H)} (h : (DataW.weightsEach Try.prog ts ds).all (· ≤ reachBytes) = true) {j : Nat} {elems spare : List (DataW H)} (ht : ts[j]? = some 22) (hd : ds[j]? = some (.slice elems spare)) : elems.length ≤ 8796093021952 := by
  have := List.all_eq_true.1 h _ (DataW.weights_mem_each ht hd ((elems.length + spare.length) * Try.prog.bytesOf 29) (by simp [DataW.weights, Try.underlying22]))
  have hr : reachBytes = 140737488351232 := rfl
  rw [bytesItem, hr] at this
  have := of_decide_eq_true this
  omega

end Go.Proofs.Ytboikfcmbfaaeaa

namespace Go.Proofs.Ytboikfcmbfaaeaa
open Go.ChangeShapes Go.WideShapes Go.ChangeAt Go.RowKit Go.Deep
set_option linter.unusedVariables false

theorem cells_dr : Try.prog.cellsOf 24 = 4 := by kernel_rfl
theorem cells_dl : Try.prog.cellsOf 22 = 1 := by kernel_rfl
theorem cells_d8 : Try.prog.cellsOf 5 = 1 := by kernel_rfl
theorem cells_di : Try.prog.cellsOf 3 = 1 := by kernel_rfl
theorem open_itemsC {H : Type} {enc : TypeId × Value → H} {W : World} {b0 : Nat} {held : Bool} {v : Value} {d : DataW H} {p : List MemPlace} {n fuel : Nat}
    (hf : DataW.trod enc Try.prog W b0 (fun _ => true) held fuel 22 [v] = some (d, p)) (hb : ∀ e s, d = .slice e s → e.length ≤ n) : ∃ zs : List It, ItRd (fun _ => True) W v zs ∧ zs.length ≤ n := by
  rcases open_slice_pairs Try.underlying22 Try.underlying29 (by kernel_rfl) rfl rfl (by kernel_rfl) (by kernel_rfl) hf with ⟨hcs, _⟩ | ⟨x, l, c, m, k, V0, V1, D0, D1, P0, P1, hcs, _, hl, hm, hmm, hx, hcell⟩
  · simp at hcs
    subst hcs
    exact ⟨[], ⟨none, 0, rfl, Nat.le_refl _, by unfold maxLen; omega, fun h => absurd h (by simp)⟩, by simp⟩
  · simp at hcs
    subst hcs
    have hmc : m = c := by simpa using hmm
    subst hmc
    have hd := (Prod.mk.inj hx).1
    have hbk := hb _ _ hd
    rw [List.length_map, List.length_range] at hbk
    have hlen : ((List.range l).map fun i => ((zOf (V0 i), zOf (V1 i)) : It)).length = l := by simp
    refine ⟨(List.range l).map fun i => (zOf (V0 i), zOf (V1 i)), ⟨some x, m, by rw [hlen], by rw [hlen]; exact hl, hm, fun hp => ?_⟩, by rw [hlen]; exact hbk⟩
    rw [hlen] at hp
    have h0 := (hcell 0 (by omega)).1
    obtain ⟨b, off, spot⟩ := x
    have hspot : spot = none := by simpa [Addr.add] using World.cell?_spot h0
    subst hspot
    refine ⟨b, off, rfl, trivial, by simpa [Addr.add] using ucell_lt h0, fun i hi => ?_⟩
    rw [hlen] at hi
    obtain ⟨q0, q1, t0, t1⟩ := hcell i (by omega)
    obtain ⟨z0, e0, _, _⟩ := DataW.trod_int Try.underlying2 t0
    obtain ⟨z1, e1, _, _⟩ := DataW.trod_int Try.underlying3 t1
    simp only [List.cons.injEq, and_true] at e0 e1
    rw [Addr.add_lit] at q0 q1
    simp only [List.getElem_map, List.getElem_range]
    rw [q0, show off + i * 2 + 1 = off + (i * 2 + 1) by omega, q1, e0, e1]
    exact ⟨rfl, rfl⟩
set_option maxRecDepth 100000 in
theorem open_drain {H : Type} {enc : TypeId × Value → H} {W : World} {base b0 n : Nat} {held : Bool} {v : Value} {d : DataW H} {p : List MemPlace} (hv : Value.okWide Try.prog W .any base 24 v)
    (h : ∃ n, DataW.trod enc Try.prog W b0 (fun _ => true) held n 24 v.cells.toList = some (d, p)) (hb : Rows.uptoBulk d ≤ n) :
    ∃ vx vy xs ys k o, v = .agg #[vx, vy, .int .u8 k, .int .i64 o] ∧ ItRd (fun _ => True) W vx xs ∧ ItRd (fun _ => True) W vy ys ∧ xs.length ≤ n ∧ ys.length ≤ n ∧ 0 ≤ k ∧ k ≤ 255 := by
  obtain ⟨cs, rfl, hcz⟩ := okWide_struct Try.underlying24 hv
  rw [cells_dr] at hcz
  obtain ⟨c0, c1, c2, c3, rfl⟩ : ∃ c0 c1 c2 c3, cs = #[c0, c1, c2, c3] := by
    obtain ⟨l⟩ := cs
    match l, hcz with
    | [c0, c1, c2, c3], _ => exact ⟨c0, c1, c2, c3, rfl⟩
  obtain ⟨fuel, hf⟩ := h
  obtain ⟨xs, m, _, hx, hl, hlen, hfs⟩ := DataW.trod_struct Try.underlying24 hf
  match xs, hlen, hx, hfs with
  | [y0, y1, y2, y3], _, hx, hfs =>
    have f0 := hfs 0 _ rfl
    have f1 := hfs 1 _ rfl
    have f2 := hfs 2 _ rfl
    have f3 := hfs 3 _ rfl
    have g0 : DataW.trod enc Try.prog W b0 (fun _ => true) held m 22 [c0] = some (y0.1, y0.2) := by simpa [Value.cells, cells_dl] using f0
    have g1 : DataW.trod enc Try.prog W b0 (fun _ => true) held m 22 [c1] = some (y1.1, y1.2) := by simpa [Value.cells, cells_dl] using f1
    have g2 : DataW.trod enc Try.prog W b0 (fun _ => true) held m 5 [c2] = some y2 := by simpa [Value.cells, cells_dl, cells_d8] using f2
    have g3 : DataW.trod enc Try.prog W b0 (fun _ => true) held m 3 [c3] = some y3 := by simpa [Value.cells, cells_dl, cells_d8, cells_di] using f3
    have hd : d = .agg [y0.1, y1.1, y2.1, y3.1] := (Prod.mk.inj hx).1
    rw [hd] at hb
    simp only [Rows.uptoBulk, Rows.uptoBulkAll] at hb
    obtain ⟨zx, rx, lx⟩ := open_itemsC (n := n) g0 (fun e s he => bulk_slice he (by omega))
    obtain ⟨zy, ry, ly⟩ := open_itemsC (n := n) g1 (fun e s he => bulk_slice he (by omega))
    obtain ⟨m2, hc2, _, hw2⟩ := DataW.trod_int Try.underlying5 g2
    obtain ⟨m3, hc3, _, hw3⟩ := DataW.trod_int Try.underlying3 g3
    simp at hc2 hc3
    subst hc2 hc3
    simp [Lit.wf, IntKind.min, IntKind.max, IntKind.signed, IntKind.bits] at hw2
    exact ⟨c0, c1, zx, zy, m2, m3, rfl, rx, ry, lx, ly, by omega, by omega⟩

end Go.Proofs.Ytboikfcmbfaaeaa
