/- a tree of nodes as an argument -/
import Derived.Test.YtbkgphglojjllaaDoorFBulk
import Derived.Test.YtbkgphglojjllaaDoorFNode
namespace Go.Proofs.YtbkgphglojjllaaDoor
open Go.ChangeShapes Go.WideShapes Go.ChangeAt Go.RowKit Go.Deep
set_option linter.unusedVariables false

set_option maxRecDepth 100000 in
theorem open_node {H : Type} {enc : TypeId × Value → H} {W : World} {base b0 : Nat} {held : Bool} {v : Value} {d : DataW H} {p : List MemPlace} (hv : Value.okWide Tryd.prog W .any base 24 v)
    (h : ∃ n, DataW.trod enc Tryd.prog W b0 (fun _ => true) held n 24 v.cells.toList = some (d, p)) (hw : ∀ n ∈ d.weights Tryd.prog 24, n ≤ reachBytes) : ∃ (x : Nd) (vk : Value), v = ndV x vk ∧ NdSl W vk x.kids := by
  obtain ⟨cs, rfl, hcz⟩ := okWide_struct Tryd.underlying24 hv
  obtain ⟨fuel, hf⟩ := h
  obtain ⟨x, vk, hcs, hn⟩ := nd_read _ d (Nat.le_refl _) hw fuel _ p hf
  refine ⟨x, vk, ?_, hn⟩
  have e : cs.toList = [.int .i64 x.kind, .int .i64 x.code, .int .i64 x.place, .string x.path, vk] := by simpa [Value.cells] using hcs
  have e2 : cs = #[.int .i64 x.kind, .int .i64 x.code, .int .i64 x.place, .string x.path, vk] := by
    cases cs; simp at e; rw [e]
  rw [e2]; rfl
theorem sized_node {H : Type} {ts : List TypeId} {ds : List (DataW H)} (h : (DataW.weightsEach Tryd.prog ts ds).all (· ≤ reachBytes) = true) {j : Nat} {d : DataW H} {t : TypeId} (ht : ts[j]? = some t) (hd : ds[j]? = some d) : ∀ n ∈ d.weights Tryd.prog t, n ≤ reachBytes := fun n hn => by
  have := List.all_eq_true.1 h _ (DataW.weights_mem_each ht hd n hn)
  simpa using this

end Go.Proofs.YtbkgphglojjllaaDoor
