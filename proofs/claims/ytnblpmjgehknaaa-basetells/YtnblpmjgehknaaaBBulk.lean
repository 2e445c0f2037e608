/- rows whose arguments are lists of bytes -/
import Derived.Test.YtnblpmjgehknaaaUBulk
namespace Go.Proofs.Ytnblpmjgehknaaa
open Go.ChangeShapes Go.WideShapes Go.ChangeAt Go.RowKit Go.Deep
set_option linter.unusedVariables false

theorem bytesU8 : Try.prog.bytesOf 5 = 1 := by kernel_rfl
theorem sized_bytes {H : Type} {ts : List TypeId} {ds : List (DataW H)} (h : (DataW.weightsEach Try.prog ts ds).all (· ≤ reachBytes) = true) {j : Nat} {elems spare : List (DataW H)} (ht : ts[j]? = some 22) (hd : ds[j]? = some (.slice elems spare)) : elems.length + spare.length ≤ 140737488351232 := by
  have := List.all_eq_true.1 h _ (DataW.weights_mem_each ht hd ((elems.length + spare.length) * Try.prog.bytesOf 5) (by simp [DataW.weights, Try.underlying22]))
  have hr : reachBytes = 140737488351232 := rfl
  rw [bytesU8, hr] at this
  simpa using this

set_option maxRecDepth 100000 in
theorem open_bytesf {H : Type} {enc : TypeId × Value → H} {W : World} {base b0 : Nat} {held : Bool} {v : Value} {d : DataW H} {p : List MemPlace} (hv : Value.okWide Try.prog W .any base 22 v)
    (h : ∃ n, DataW.trod enc Try.prog W b0 (fun _ => true) held n 22 v.cells.toList = some (d, p)) (hb : ∀ e s, d = .slice e s → e.length + s.length ≤ 140737488351232) : ∃ zs : List Int, Reads .u8 W v zs ∧ uByt zs ∧ zs.length ≤ 140737488351232 := by
  obtain ⟨a0, len0, cap0, rfl⟩ := okWide_slice Try.underlying22 hv
  obtain ⟨fuel, hf⟩ := h
  rcases open_ints Try.underlying22 Try.underlying5 (by kernel_rfl) hf with ⟨hcs, _⟩ | ⟨x, l, c, zs, hcs, _, hl, hm, hz, hx, hcell, hwz⟩
  · simp [Value.cells] at hcs
    obtain ⟨rfl, rfl, rfl⟩ := hcs
    exact ⟨[], ⟨none, 0, rfl, Nat.le_refl _, by unfold maxLen; omega, fun h => absurd h (by simp)⟩, fun x hx => absurd hx (by simp), by simp⟩
  · simp [Value.cells] at hcs
    obtain ⟨rfl, rfl, rfl⟩ := hcs
    have hz2 : zs.length = cap0 := by simpa using hz
    have hd := (Prod.mk.inj hx).1
    have hbk := hb _ _ hd
    rw [lits_length, List.length_take] at hbk
    refine ⟨zs.take len0, ureads_of hl hm hz2 hcell, fun y hy => ?_, by rw [List.length_take]; omega⟩
    have w := hwz y (List.mem_of_mem_take hy)
    simp [Lit.wf, IntKind.min, IntKind.max, IntKind.signed, IntKind.bits] at w
    omega

end Go.Proofs.Ytnblpmjgehknaaa
