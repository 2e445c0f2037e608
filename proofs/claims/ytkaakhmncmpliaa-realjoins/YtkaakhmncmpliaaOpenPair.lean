/- an argument of the law that is a pair of patterns, opened -/
import Derived.Test.YtkaakhmncmpliaaOpen
import Derived.ChangeArms
namespace Go.Proofs.Ytkaakhmncmpliaa
open Go.ChangeShapes Go.WideShapes Go.ChangeAt Go.RowKit

theorem cells_pair : Try.prog.cellsOf 58 = 2 := by kernel_rfl
theorem cells_u64 : Try.prog.cellsOf 22 = 1 := by kernel_rfl
set_option maxRecDepth 100000 in
theorem open_pair {H : Type} {enc : TypeId × Value → H} {W : World} {base b0 : Nat} {held : Bool} {v : Value} {d : DataW H} {p : List MemPlace} (hv : Value.okWide Try.prog W .any base 58 v)
    (h : ∃ n, DataW.trod enc Try.prog W b0 (fun _ => true) held n 58 v.cells.toList = some (d, p)) :
    ∃ x y, v = .agg #[.int .u64 x, .int .u64 y] ∧ (Lit.int .u64 x).wf = true ∧ (Lit.int .u64 y).wf = true := by
  obtain ⟨cs, rfl, hcz⟩ := okWide_struct Try.underlying58 hv
  rw [cells_pair] at hcz
  obtain ⟨c0, c1, rfl⟩ : ∃ c0 c1, cs = #[c0, c1] := by
    obtain ⟨l⟩ := cs
    rcases l with _ | ⟨a, _ | ⟨b, _ | ⟨c, l⟩⟩⟩
    · simp at hcz
    · simp at hcz
    · exact ⟨a, b, rfl⟩
    · simp at hcz
  obtain ⟨fuel, hf⟩ := h
  obtain ⟨y0, y1, m, hx, hl, hy0, hy1⟩ := trod_struct2 Try.underlying58 hf
  have hy0' : DataW.trod enc Try.prog W b0 (fun _ => true) held m 22 [c0] = some y0 := by simpa [Value.cells, cells_u64] using hy0
  have hy1' : DataW.trod enc Try.prog W b0 (fun _ => true) held m 22 [c1] = some y1 := by simpa [Value.cells, cells_u64] using hy1
  obtain ⟨x, hc0, _, wx⟩ := DataW.trod_int Try.underlying22 hy0'
  obtain ⟨y, hc1, _, wy⟩ := DataW.trod_int Try.underlying22 hy1'
  simp at hc0 hc1
  subst hc0 hc1
  exact ⟨x, y, rfl, wx, wy⟩

end Go.Proofs.Ytkaakhmncmpliaa
