/- layer 16: a call as an argument -/
import Derived.Test.YtefmlajndillbaaGreatDoorJsZ
namespace Go.Proofs.YtefmlajndillbaaGreatDoor
open Go.ChangeShapes Go.WideShapes Go.ChangeAt Go.RowKit Go.Deep
set_option linter.unusedVariables false

theorem cells_op : Tryz.prog.cellsOf 31 = 3 := by kernel_rfl
theorem cells_oi : Tryz.prog.cellsOf 3 = 1 := by kernel_rfl
theorem cells_os : Tryz.prog.cellsOf 9 = 1 := by kernel_rfl
set_option maxRecDepth 100000 in
theorem open_op {H : Type} {enc : TypeId × Value → H} {W : World} {base b0 : Nat} {held : Bool} {v : Value} {d : DataW H} {p : List MemPlace} (hv : Value.okWide Tryz.prog W .any base 31 v)
    (h : ∃ n, DataW.trod enc Tryz.prog W b0 (fun _ => true) held n 31 v.cells.toList = some (d, p)) :
    ∃ (kd on : Int) (ch : ByteArray), v = .agg #[.int .i64 kd, .int .i64 on, .string ch] := by
  obtain ⟨cs, rfl, hcz⟩ := okWide_struct Tryz.underlying31 hv
  rw [cells_op] at hcz
  obtain ⟨c0, c1, c2, rfl⟩ : ∃ c0 c1 c2, cs = #[c0, c1, c2] := by
    obtain ⟨l⟩ := cs
    match l, hcz with
    | [c0, c1, c2], _ => exact ⟨c0, c1, c2, rfl⟩
  obtain ⟨fuel, hf⟩ := h
  obtain ⟨xs, n, _, hx, hl, hlen, hfs⟩ := DataW.trod_struct Tryz.underlying31 hf
  match xs, hlen, hx, hfs with
  | [y0, y1, y2], _, hx, hfs =>
    have f0 := hfs 0 _ rfl
    have f1 := hfs 1 _ rfl
    have f2 := hfs 2 _ rfl
    have g0 : DataW.trod enc Tryz.prog W b0 (fun _ => true) held n 3 [c0] = some y0 := by simpa [Value.cells, cells_oi] using f0
    have g1 : DataW.trod enc Tryz.prog W b0 (fun _ => true) held n 3 [c1] = some y1 := by simpa [Value.cells, cells_oi] using f1
    have g2 : DataW.trod enc Tryz.prog W b0 (fun _ => true) held n 9 [c2] = some y2 := by simpa [Value.cells, cells_oi, cells_os] using f2
    obtain ⟨m0, hc0, hp0, hw0⟩ := DataW.trod_int Tryz.underlying3 g0
    obtain ⟨m1, hc1, hp1, hw1⟩ := DataW.trod_int Tryz.underlying3 g1
    obtain ⟨s2, hc2, hp2, hw2⟩ := DataW.trod_string Tryz.underlying9 g2
    simp at hc0 hc1 hc2
    subst hc0 hc1 hc2
    exact ⟨m0, m1, s2, rfl⟩

end Go.Proofs.YtefmlajndillbaaGreatDoor
