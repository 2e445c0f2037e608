import Derived.Test.YticmlelalbaalaaGreatDoorB15
import Derived.Test.YticmlelalbaalaaGreatDoorB16
import Derived.Stop.LaidErr
namespace Go.Proofs.YticmlelalbaalaaGreatDoor
open Go.ChangeShapes Go.WideShapes Go.ChangeAt Go.RowKit Go.Deep
set_option linter.unusedVariables false
theorem sStar : "*" ++ "errors.errorString" = "*errors.errorString" := by decide
theorem sRow (u : TypeId) (h : Tryz.prog.typeName? 3 u = some "*errors.errorString") : u = 267 :=
  typeName_ptr_named (nm := "errors.errorString") (by rw [sStar]; kernel_rfl) (by kernel_rfl) (by decide) u (by rw [sStar]; exact h)
theorem cErr : Tryz.prog.cellsOf 286 = 1 := by kernel_rfl
theorem cStr : Tryz.prog.cellsOf 9 = 1 := by kernel_rfl
theorem gErrArg : Tryz.prog.globalNamed "crucible/api.ErrArg" = some 0 := by kernel_rfl
theorem tErrArg : (Tryz.prog.globals[0]?).map (·.type) = some 36 := by kernel_rfl
set_option maxRecDepth 100000 in
theorem open_value {H : Type} {enc : TypeId × Value → H} {W : World} {base b0 : Nat} {held : Bool} {v : Value} {d : DataW H} {p : List MemPlace} (hv : Value.okWide Tryz.prog W .any base 31 v)
    (h : ∃ n, DataW.trod enc Tryz.prog W b0 (fun _ => true) held n 31 v.cells.toList = some (d, p)) (hw : ∀ n ∈ d.weights Tryz.prog 31, n ≤ reachBytes) : ∃ x : Va, VaRd W v x := by
  obtain ⟨cs, rfl, hcz⟩ := okWide_struct Tryz.underlying31 hv
  obtain ⟨fuel, hf⟩ := h
  obtain ⟨x, vm, vk, hcs, hm, hk, hx⟩ := va_read _ d (Nat.le_refl _) hw fuel _ p hf
  refine ⟨x, ⟨vm, vk, ?_, hm, hk⟩, hx⟩
  have e : cs.toList = vaL x vm vk := by simpa [Value.cells] using hcs
  cases cs
  simp at e
  rw [e]
  rfl
theorem sized_value {H : Type} {ts : List TypeId} {ds : List (DataW H)} (h : (DataW.weightsEach Tryz.prog ts ds).all (· ≤ reachBytes) = true) {j : Nat} {d : DataW H} {t : TypeId} (ht : ts[j]? = some t) (hd : ds[j]? = some d) : ∀ n ∈ d.weights Tryz.prog t, n ≤ reachBytes := fun n hn => by
  have := List.all_eq_true.1 h _ (DataW.weights_mem_each ht hd n hn)
  simpa using this
end Go.Proofs.YticmlelalbaalaaGreatDoor
