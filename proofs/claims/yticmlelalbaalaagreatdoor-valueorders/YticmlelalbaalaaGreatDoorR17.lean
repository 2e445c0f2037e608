/- NErr -/
import Derived.Test.YticmlelalbaalaaGreatDoorR15
import Derived.Test.YticmlelalbaalaaGreatDoorR16
import Derived.Stop.LaidErr
namespace Go.Proofs.YticmlelalbaalaaGreatDoor
open Go.ChangeShapes Go.WideShapes Go.ChangeAt Go.RowKit Go.Deep
set_option linter.unusedVariables false

theorem sStar : "*" ++ "errors.errorString" = "*errors.errorString" := by decide
theorem sRow (u : TypeId) (h : Tryz.prog.typeName? 3 u = some "*errors.errorString") : u = 267 :=
  typeName_ptr_named (nm := "errors.errorString") (by rw [sStar]; kernel_rfl) (by kernel_rfl) (by decide) u (by rw [sStar]; exact h)
theorem cErr : Tryz.prog.cellsOf 286 = 1 := by kernel_rfl
theorem cStr : Tryz.prog.cellsOf 9 = 1 := by kernel_rfl
theorem gErrArg : Tryz.prog.globalNamed "crucible/api.ErrArg" = some 0 := by kernel_rfl
theorem tErrArg : (Tryz.prog.globals[0]?).map (·.type) = some 36 := by kernel_rfl
set_option maxRecDepth 100000 in
theorem arg_of {W : World} {l : List (String × DataW Unit)} (h : laidMetH Tryz.prog l W) (hl : (l.filter fun x => x.1 == "crucible/api.ErrArg") = [("crucible/api.ErrArg", Rows.laid_crucible_api_ErrArg)]) :
    (∃ tE pE, W.cell? ⟨0, 0, none⟩ = some (.iface tE (.pointer pE))) ∧ 0 < W.heap.size := by
  have h2 := h.filter (fun x => x.1 == "crucible/api.ErrArg")
  rw [hl] at h2
  rw [MakeChecks.laidMetH_plain _ _ _ (by kernel_rfl)] at h2
  obtain ⟨a, s, hv, _⟩ := laid_sentinel h2 gErrArg tErrArg Tryz.underlying36 sRow Tryz.underlying267 Tryz.underlying286 rfl rfl Tryz.underlying9 cErr cStr
  have hc : W.cell? ⟨0, 0, none⟩ = some (.iface 267 (.pointer (some a))) := by simpa using World.var?_cell gErrArg hv 0
  refine ⟨⟨_, _, hc⟩, ?_⟩
  rcases Nat.lt_or_ge 0 W.heap.size with g | g
  · exact g
  · simp [World.cell?, Array.getElem?_eq_none g] at hc
set_option maxRecDepth 100000 in
theorem open_value {H : Type} {enc : TypeId × Value → H} {W : World} {base b0 : Nat} {held : Bool} {v : Value} {d : DataW H} {p : List MemPlace} (hv : Value.okWide Tryz.prog W .any base 31 v)
    (h : ∃ n, DataW.trod enc Tryz.prog W b0 (fun _ => true) held n 31 v.cells.toList = some (d, p)) (hw : ∀ n ∈ d.weights Tryz.prog 31, n ≤ reachBytes) : ∃ x : Va, VaRd W v x := by
  obtain ⟨cs, rfl, hcz⟩ := okWide_struct Tryz.underlying31 hv
  obtain ⟨fuel, hf⟩ := h
  obtain ⟨x, vm, vk, hcs, hm, hk, hx⟩ := va_read _ d (Nat.le_refl _) hw fuel _ p hf
  refine ⟨x, ⟨vm, vk, ?_, hm, hk⟩, hx⟩
  have e : cs.toList = vaL x vm vk := by simpa [Value.cells] using hcs
  cases cs
  simp at e
  rw [e]
  rfl
theorem sized_value {H : Type} {ts : List TypeId} {ds : List (DataW H)} (h : (DataW.weightsEach Tryz.prog ts ds).all (· ≤ reachBytes) = true) {j : Nat} {d : DataW H} {t : TypeId} (ht : ts[j]? = some t) (hd : ds[j]? = some d) : ∀ n ∈ d.weights Tryz.prog t, n ≤ reachBytes := fun n hn => by
  have := List.all_eq_true.1 h _ (DataW.weights_mem_each ht hd n hn)
  simpa using this

end Go.Proofs.YticmlelalbaalaaGreatDoor
