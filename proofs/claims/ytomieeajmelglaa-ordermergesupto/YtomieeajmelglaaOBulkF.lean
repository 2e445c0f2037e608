/- lists of items as arguments: a nil list has no room -/
import Derived.Test.YtomieeajmelglaaOBulk
namespace Go.Proofs.Ytomieeajmelglaa
open Go.ChangeShapes Go.WideShapes Go.ChangeAt Go.RowKit Go.Deep
set_option linter.unusedVariables false

theorem items_nil {H : Type} {enc : TypeId × Value → H} {W : World} {b0 : Nat} {held : Bool} {v : Value} {d : DataW H} {p : List MemPlace}
    (h : ∃ n, DataW.trod enc Try.prog W b0 (fun _ => true) held n 22 v.cells.toList = some (d, p)) : ∀ c, v = .slice none 0 c → c = 0 := by
  rintro c rfl
  obtain ⟨fuel, hf⟩ := h
  rcases open_slice_pairs Try.underlying22 Try.underlying27 (by kernel_rfl) rfl rfl (by kernel_rfl) (by kernel_rfl) hf with ⟨hcs, _⟩ | ⟨x, l, c', m, k, V0, V1, D0, D1, P0, P1, hcs, _⟩
  · simp [Value.cells] at hcs
    exact hcs
  · simp [Value.cells] at hcs
theorem sized_itemsF {H : Type} {ts : List TypeId} {ds : List (DataW H)} (h : (DataW.weightsEach Try.prog ts ds).all (· ≤ reachBytes) = true) {j : Nat} {elems spare : List (DataW H)} (ht : ts[j]? = some 22) (hd : ds[j]? = some (.slice elems spare)) : elems.length ≤ 8796093021952 := by
  have := List.all_eq_true.1 h _ (DataW.weights_mem_each ht hd ((elems.length + spare.length) * Try.prog.bytesOf 27) (by simp [DataW.weights, Try.underlying22]))
  have hr : reachBytes = 140737488351232 := rfl
  rw [bytesItem, hr] at this
  have := of_decide_eq_true this
  omega

end Go.Proofs.Ytomieeajmelglaa
