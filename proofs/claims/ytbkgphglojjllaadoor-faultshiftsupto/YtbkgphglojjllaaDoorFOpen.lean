/- the argument of FaultShifts -/
import Derived.Test.YtbkgphglojjllaaDoorFBulk
namespace Go.Proofs.YtbkgphglojjllaaDoor
open Go.ChangeShapes Go.WideShapes Go.ChangeAt Go.RowKit Go.Deep
set_option linter.unusedVariables false

theorem cells_mv : Tryd.prog.cellsOf 51 = 6 := by kernel_rfl
theorem cells_mi : Tryd.prog.cellsOf 3 = 1 := by kernel_rfl
theorem cells_ms : Tryd.prog.cellsOf 9 = 1 := by kernel_rfl
set_option maxRecDepth 100000 in
theorem open_moved {H : Type} {enc : TypeId × Value → H} {W : World} {base b0 : Nat} {held : Bool} {v : Value} {d : DataW H} {p : List MemPlace} (hv : Value.okWide Tryd.prog W .any base 51 v)
    (h : ∃ n, DataW.trod enc Tryd.prog W b0 (fun _ => true) held n 51 v.cells.toList = some (d, p)) (hb : Rows.uptoBulk d ≤ 1048576) :
    ∃ (c k A B : Int) (s z : ByteArray), v = .agg #[.int .i64 c, .int .i64 k, .string s, .string z, .int .i64 A, .int .i64 B] ∧ -9223372036854775808 ≤ c ∧ c ≤ 9223372036854775807 ∧ -9223372036854775808 ≤ k ∧ k ≤ 9223372036854775807 ∧ s.size ≤ 1048576 ∧ z.size ≤ 1048576 := by
  obtain ⟨cs, rfl, hcz⟩ := okWide_struct Tryd.underlying51 hv
  rw [cells_mv] at hcz
  obtain ⟨c0, c1, c2, c3, c4, c5, rfl⟩ : ∃ c0 c1 c2 c3 c4 c5, cs = #[c0, c1, c2, c3, c4, c5] := by
    obtain ⟨l⟩ := cs
    match l, hcz with
    | [c0, c1, c2, c3, c4, c5], _ => exact ⟨c0, c1, c2, c3, c4, c5, rfl⟩
  obtain ⟨fuel, hf⟩ := h
  obtain ⟨xs, n, _, hx, hl, hlen, hfs⟩ := DataW.trod_struct Tryd.underlying51 hf
  match xs, hlen, hx, hfs with
  | [y0, y1, y2, y3, y4, y5], _, hx, hfs =>
    have f0 := hfs 0 _ rfl
    have f1 := hfs 1 _ rfl
    have f2 := hfs 2 _ rfl
    have f3 := hfs 3 _ rfl
    have f4 := hfs 4 _ rfl
    have f5 := hfs 5 _ rfl
    have g0 : DataW.trod enc Tryd.prog W b0 (fun _ => true) held n 3 [c0] = some y0 := by simpa [Value.cells, cells_mi] using f0
    have g1 : DataW.trod enc Tryd.prog W b0 (fun _ => true) held n 3 [c1] = some y1 := by simpa [Value.cells, cells_mi] using f1
    have g2 : DataW.trod enc Tryd.prog W b0 (fun _ => true) held n 9 [c2] = some y2 := by simpa [Value.cells, cells_ms] using f2
    have g3 : DataW.trod enc Tryd.prog W b0 (fun _ => true) held n 9 [c3] = some y3 := by simpa [Value.cells, cells_ms] using f3
    have g4 : DataW.trod enc Tryd.prog W b0 (fun _ => true) held n 3 [c4] = some y4 := by simpa [Value.cells, cells_mi] using f4
    have g5 : DataW.trod enc Tryd.prog W b0 (fun _ => true) held n 3 [c5] = some y5 := by simpa [Value.cells, cells_mi] using f5
    obtain ⟨m0, hc0, hp0, hw0⟩ := DataW.trod_int Tryd.underlying3 g0
    obtain ⟨m1, hc1, hp1, hw1⟩ := DataW.trod_int Tryd.underlying3 g1
    obtain ⟨s2, hc2, hp2, hw2⟩ := DataW.trod_string Tryd.underlying9 g2
    obtain ⟨s3, hc3, hp3, hw3⟩ := DataW.trod_string Tryd.underlying9 g3
    obtain ⟨m4, hc4, hp4, hw4⟩ := DataW.trod_int Tryd.underlying3 g4
    obtain ⟨m5, hc5, hp5, hw5⟩ := DataW.trod_int Tryd.underlying3 g5
    simp at hc0 hc1 hc2 hc3 hc4 hc5
    subst hc0 hc1 hc2 hc3 hc4 hc5
    have hd : d = .agg [y0.1, y1.1, y2.1, y3.1, y4.1, y5.1] := (Prod.mk.inj hx).1
    have e2 : y2.1 = .lit (.string s2.data.toList) := by rw [hp2]
    have e3 : y3.1 = .lit (.string s3.data.toList) := by rw [hp3]
    rw [hd, e2, e3] at hb
    simp only [Rows.uptoBulk, Rows.uptoBulkAll, Array.length_toList] at hb
    have z2 : s2.data.size = s2.size := rfl
    have z3 : s3.data.size = s3.size := rfl
    simp [Lit.wf, IntKind.min, IntKind.max, IntKind.signed, IntKind.bits] at hw0 hw1
    exact ⟨m0, m1, m4, m5, s2, s3, rfl, by omega, by omega, by omega, by omega, by omega, by omega⟩

end Go.Proofs.YtbkgphglojjllaaDoor
