/- a list of trees of nodes as an argument -/
import Derived.Test.YtbkgphglojjllaaDoorFNdOpen
namespace Go.Proofs.YtbkgphglojjllaaDoor
open Go.ChangeShapes Go.WideShapes Go.ChangeAt Go.RowKit Go.Deep
set_option linter.unusedVariables false

set_option maxRecDepth 100000 in
theorem open_nodes {H : Type} {enc : TypeId × Value → H} {W : World} {base b0 : Nat} {held : Bool} {v : Value} {d : DataW H} {p : List MemPlace} (hv : Value.okWide Tryd.prog W .any base 22 v)
    (h : ∃ n, DataW.trod enc Tryd.prog W b0 (fun _ => true) held n 22 v.cells.toList = some (d, p)) (hw : ∀ n ∈ d.weights Tryd.prog 22, n ≤ reachBytes) : ∃ xs : List Nd, NdSl W v xs := by
  obtain ⟨a0, len0, cap0, rfl⟩ := okWide_slice Tryd.underlying22 hv
  obtain ⟨fuel, hf⟩ := h
  rcases open_slice Tryd.underlying22 hf with ⟨hcs, _⟩ | ⟨x, l, c, m, n2, D, Pl, hcs, _, hlc, hm, hmm, hx5, hcell⟩
  · simp [Value.cells] at hcs
    obtain ⟨rfl, rfl, rfl⟩ := hcs
    exact ⟨[], .mk none 0 [] (fun _ => .nilIface) (Nat.le_refl _) (by unfold maxLen; omega) (by simp) (fun _ => rfl) (fun h => absurd h (by simp)) (fun i h => absurd h (by simp))⟩
  · simp [Value.cells] at hcs
    obtain ⟨rfl, rfl, rfl⟩ := hcs
    have hx4 := (Prod.mk.inj hx5).1
    have hmc : m = cap0 := by simpa using hmm
    rw [cellsNode] at hcell
    rw [hx4] at hw
    simp only [DataW.weights, Tryd.underlying22] at hw
    have hlen0 : len0 ≤ 2199023255552 := by
      have h1 := hw _ (List.mem_cons_self ..)
      rw [List.length_map, List.length_range, bytesNode, reachIs] at h1
      omega
    have each : ∀ i, i < len0 → ∃ q : Nd × Value, (∀ j, j < 5 → W.cell? ((x.add (i * 5)).add j) = [Value.int .i64 q.1.kind, .int .i64 q.1.code, .int .i64 q.1.place, .string q.1.path, q.2][j]?) ∧ NdSl W q.2 q.1.kids := fun i hi => by
      obtain ⟨cs', e1, e2⟩ := hcell i (by omega)
      obtain ⟨y, v, rfl, hv⟩ := nd_read _ (D i) (Nat.le_refl _) (fun n hn => hw n (List.mem_cons_of_mem _ (List.mem_append_left _ (weights_all (List.mem_map.2 ⟨i, List.mem_range.2 hi, rfl⟩) n hn)))) n2 cs' (Pl i) e2
      obtain ⟨_, _, hce⟩ := World.cells?_some e1
      exact ⟨(y, v), fun j hj => hce j hj, hv⟩
    obtain ⟨Q, hQ⟩ := choose_lt each
    have hlen2 : ((List.range len0).map fun i => (Q i).1).length = len0 := by simp
    refine ⟨(List.range len0).map fun i => (Q i).1, ?_⟩
    have key := NdSl.mk (w := W) (some x) cap0 ((List.range len0).map fun i => (Q i).1) (fun i => (Q i).2) (by rw [hlen2]; exact hlc) hm (by rw [hlen2]; exact hlen0) (fun h => by cases h) (fun hp => by
      rw [hlen2] at hp
      have h0 := (hQ 0 hp).1 0 (by omega)
      obtain ⟨b, off, spot⟩ := x
      have hspot : spot = none := by simpa [Addr.add] using World.cell?_spot h0
      subst hspot
      refine ⟨b, off, rfl, by simpa [Addr.add] using ncell_lt h0, fun i hi => ?_⟩
      rw [hlen2] at hi
      have hq := (hQ i hi).1
      simp only [List.getElem_map, List.getElem_range]
      refine ⟨?_, ?_, ?_, ?_, ?_⟩
      · have := hq 0 (by omega); rw [Addr.add_lit, Addr.add_lit] at this; exact this
      · have := hq 1 (by omega); rw [Addr.add_lit, Addr.add_lit] at this; exact this
      · have := hq 2 (by omega); rw [Addr.add_lit, Addr.add_lit] at this; exact this
      · have := hq 3 (by omega); rw [Addr.add_lit, Addr.add_lit] at this; exact this
      · have := hq 4 (by omega); rw [Addr.add_lit, Addr.add_lit] at this; exact this) (fun i hi => by
      rw [hlen2] at hi
      simp only [List.getElem_map, List.getElem_range]
      exact (hQ i hi).2)
    rw [hlen2] at key
    exact key


end Go.Proofs.YtbkgphglojjllaaDoor
