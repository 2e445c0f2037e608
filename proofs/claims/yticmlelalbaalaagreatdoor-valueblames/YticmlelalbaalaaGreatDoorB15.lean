import Derived.Test.YticmlelalbaalaaGreatDoorB12
import Derived.Test.YticmlelalbaalaaGreatDoorB14
import Derived.Test.YticmlelalbaalaaGreatDoorTie
import Derived.Test.YticmlelalbaalaaGreatDoorCards
import Derived.ProofKit
import Derived.OpenShut
import Derived.ShutString
import Derived.ChangeOld
import Derived.SizedLaws
import Derived.ChangeSame
import Derived.ChangeMaps5
import Derived.LaidMore
import Derived.SevenTiedAt
import Derived.Deep.Strs
import Derived.Lib.LaidTab
import Derived.LaidSub
import Derived.Deep.DeepHandedRow
namespace Go.Proofs.YticmlelalbaalaaGreatDoor
open Go.ChangeShapes Go.WideShapes Go.ChangeAt Go.RowKit Go.Deep
set_option linter.unusedVariables false
theorem gUss : Tryz.prog.globalNamed "crucible/value.uses" = some 11 := by kernel_rfl
set_option maxRecDepth 100000 in
theorem uss_of {W : World} {l : List (String × DataW Unit)} (h : laidMetH Tryz.prog l W) (hl : (l.filter fun x => x.1 == "crucible/value.uses") = [("crucible/value.uses", Rows.laid_crucible_value_uses)]) : Uss W := by
  have h2 := h.filter (fun x => x.1 == "crucible/value.uses")
  rw [hl] at h2
  rw [MakeChecks.laidMetH_plain _ _ _ (by kernel_rfl)] at h2
  have ht : Lib.TabIs Tryz.prog W "crucible/value.uses" .u8 (usTab.map (fun (n : Nat) => (n : Int))) :=
    Lib.tabIs_of_head (g := 11) (t := 96) (e := 94) (n := 12) (by kernel_rfl) (by kernel_rfl) Tryz.underlying96 Tryz.underlying94 (by kernel_rfl) (by kernel_rfl) h2
  refine ⟨fun j hj => ?_, ?_⟩
  · rw [World.var?_cell gUss ht j]
    have hl : usTab.length = 12 := by decide
    simp only [List.getElem?_toArray, List.getElem?_map]
    rw [List.getElem?_eq_getElem (by omega), List.getD_eq_getElem?_getD, List.getElem?_eq_getElem (by omega)]
    rfl
  · have h := ht
    unfold Lib.TabIs at h
    simp only [World.var?, gUss, Option.bind_some] at h
    split at h
    · rename_i e
      exact (Array.getElem?_eq_some_iff.1 e).1
    · cases h
theorem tabs_of {W : World} {l : List (String × DataW Unit)} (h : laidMetH Tryz.prog l W) (hl : (l.filter fun x => x.1 == "math/bits.deBruijn64tab" || x.1 == "crucible/ieee.layouts") = [("math/bits.deBruijn64tab", Rows.laid_math_bits_deBruijn64tab), ("crucible/ieee.layouts", Rows.laid_crucible_ieee_layouts)])
    (hu : (l.filter fun x => x.1 == "crucible/value.uses") = [("crucible/value.uses", Rows.laid_crucible_value_uses)]) : Lays W ∧ Brn W ∧ Uss W := by
  have h2 := h.filter (fun x => x.1 == "math/bits.deBruijn64tab" || x.1 == "crucible/ieee.layouts")
  rw [hl] at h2
  obtain ⟨a, b⟩ := lays_two h2
  exact ⟨a, b, uss_of h hu⟩
end Go.Proofs.YticmlelalbaalaaGreatDoor
