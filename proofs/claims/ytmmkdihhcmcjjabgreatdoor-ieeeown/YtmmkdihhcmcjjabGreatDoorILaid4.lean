/- the tables of a list of four, off the row's condition -/
import Derived.Test.YtmmkdihhcmcjjabGreatDoorILaid
namespace Go.Proofs.YtmmkdihhcmcjjabGreatDoor
open Go.ChangeShapes Go.WideShapes Go.ChangeAt Go.RowKit Go.Deep

theorem tBrn : (Tryz.prog.globals[1]?).map (·.type) = some 167 := by kernel_rfl
set_option maxRecDepth 100000 in
/-- the list's four tables -/
theorem lays_four {W : World} (h : laidMetH Tryz.prog [("math/bits.deBruijn32tab", Rows.laid_math_bits_deBruijn32tab), ("math/bits.deBruijn64tab", Rows.laid_math_bits_deBruijn64tab), ("internal/strconv.uint64pow10", Rows.laid_internal_strconv_uint64pow10), ("crucible/ieee.layouts", Rows.laid_crucible_ieee_layouts)] W) : Lays W ∧ Brn W := by
  rw [MakeChecks.laidMetH_plain _ _ _ (by kernel_rfl)] at h
  obtain ⟨ps, ⟨g0, t0, cs0, f0, p0, q0, hg0, ht0, hv0, hd0, ⟨g1, t1, cs1, f1, p1, q1, hg1, ht1, hv1, hd1, ⟨g2, t2, cs2, f2, p2, q2, hg2, ht2, hv2, hd2, ⟨g3, t3, cs3, f3, p3, q3, hg3, ht3, hv3, hd3, _, _⟩, _⟩, _⟩, _⟩, _, _⟩ := h
  clear hg0 ht0 hv0 hd0 hg2 ht2 hv2 hd2
  obtain rfl := Option.some.inj (gLays.symm.trans hg3)
  obtain rfl := Option.some.inj (tLays.symm.trans ht3)
  obtain rfl := Option.some.inj (gBrn.symm.trans hg1)
  obtain rfl := Option.some.inj (tBrn.symm.trans ht1)
  have ht : Lib.TabIs Tryz.prog W "math/bits.deBruijn64tab" .u8 (Lib.deBruijn64tab.map (fun (n : Nat) => (n : Int))) := by
    unfold Lib.TabIs
    rw [hv1, ← Lib.cells_of_tab (e := 5) (n := 64) Tryz.underlying167 Tryz.underlying5 (by kernel_rfl) (by kernel_rfl) hd1]
  refine ⟨lays_of_var hv3 hd3, ⟨fun j hj => ?_, ?_⟩⟩
  · rw [World.var?_cell gBrn ht j]
    have hl : Lib.deBruijn64tab.length = 64 := by decide
    simp only [List.getElem?_toArray, List.getElem?_map]
    rw [List.getElem?_eq_getElem (by omega), List.getD_eq_getElem?_getD, List.getElem?_eq_getElem (by omega)]
    rfl
  · have h := ht
    unfold Lib.TabIs at h
    simp only [World.var?, gBrn, Option.bind_some] at h
    split at h
    · rename_i e
      exact (Array.getElem?_eq_some_iff.1 e).1
    · cases h
end Go.Proofs.YtmmkdihhcmcjjabGreatDoor
