/- the arguments of WholeBytes and WholeOrder, opened -/
import Derived.Test.YtmpdkeafbjibpaaDoorOpen
namespace Go.Proofs.YtmpdkeafbjibpaaDoor
open Go.ChangeShapes Go.WideShapes Go.ChangeAt Go.RowKit
set_option linter.unusedVariables false

theorem cells_u8 : Tryd.prog.cellsOf 5 = 1 := by kernel_rfl
theorem cells_str : Tryd.prog.cellsOf 9 = 1 := by kernel_rfl

theorem cells_i64 : Tryd.prog.cellsOf 2 = 1 := by kernel_rfl

set_option maxRecDepth 100000 in
theorem open_whole2 {H : Type} {enc : TypeId × Value → H} {W : World} {b0 : Nat} {held : Bool} {c0 c1 : Value} {d : DataW H} {p : List MemPlace} {fuel : Nat}
    (hf : DataW.trod enc Tryd.prog W b0 (fun _ => true) held fuel 25 [c0, c1] = some (d, p))
    (hz : ∀ y elems sp, d = .agg [y, .slice elems sp] → (elems.length + sp.length) * 4 ≤ reachBytes) :
    ∃ ng m zs, c0 = .bool ng ∧ c1 = m ∧ Reads .u32 W m zs ∧ Nt.Ok zs ∧ zs.length ≤ 70368744177664 := by
  obtain ⟨y0, y1, m, hx, hl, hy0, hy1⟩ := trod_struct2 Tryd.underlying25 hf
  have hy0' : DataW.trod enc Tryd.prog W b0 (fun _ => true) held m 4 [c0] = some y0 := by simpa [Value.cells, cells_bool] using hy0
  have hy1' : DataW.trod enc Tryd.prog W b0 (fun _ => true) held m 23 [c1] = some y1 := by simpa [Value.cells, cells_nat] using hy1
  obtain ⟨ng, hc0, hb⟩ := DataW.trod_bool Tryd.underlying4 hy0'
  simp at hc0
  subst hc0
  rcases open_ints Tryd.underlying23 Tryd.underlying59 (by kernel_rfl) hy1' with ⟨hcs, _⟩ | ⟨x, l, c, zs, hcs, _, hl2, hm, hzl, hx2, hcell, hwz⟩
  · simp at hcs
    subst hcs
    obtain ⟨zs, h1, h2, h3⟩ := reads_nil W
    exact ⟨ng, _, zs, rfl, rfl, h1, h2, h3⟩
  · simp at hcs
    subst hcs
    have hd : d = .agg [y0.1, y1.1] := (Prod.mk.inj hx).1
    have hs := hz y0.1 _ _ (by rw [hd, hx2])
    simp only [lits, List.length_map, List.length_take, List.length_drop] at hs
    obtain ⟨ys, h1, h2, h3⟩ := reads_of hl2 hm (by simpa using hzl) hcell hwz hs
    exact ⟨ng, _, ys, rfl, rfl, h1, h2, h3⟩

theorem cells_by : Tryd.prog.cellsOf 44 = 5 := by kernel_rfl
theorem sized_bytes {H : Type} {ts : List TypeId} {ds : List (DataW H)} (h : (DataW.weightsEach Tryd.prog ts ds).all (· ≤ reachBytes) = true) {j : Nat} {y a b c : DataW H} {elems spare : List (DataW H)} (ht : ts[j]? = some 44) (hd : ds[j]? = some (.agg [.agg [y, .slice elems spare], a, b, c])) :
    (elems.length + spare.length) * 4 ≤ reachBytes := by
  have := List.all_eq_true.1 h _ (DataW.weights_mem_each ht hd ((elems.length + spare.length) * Tryd.prog.bytesOf 59) (by simp [DataW.weights, DataW.weightsEach, Tryd.underlying44, Tryd.underlying25, Tryd.underlying23]))
  rw [bytesU32] at this
  simpa using this
set_option maxRecDepth 100000 in
theorem open_bytes3 {H : Type} {enc : TypeId × Value → H} {W : World} {base b0 : Nat} {held : Bool} {v : Value} {d : DataW H} {p : List MemPlace} (hv : Value.okWide Tryd.prog W .any base 44 v)
    (h : ∃ n, DataW.trod enc Tryd.prog W b0 (fun _ => true) held n 44 v.cells.toList = some (d, p))
    (hz : ∀ y elems sp a b c, d = .agg [.agg [y, .slice elems sp], a, b, c] → (elems.length + sp.length) * 4 ≤ reachBytes) :
    ∃ ng m zs n s c, v = .agg #[.bool ng, m, .int .u8 n, .string s, .int .u8 c] ∧ Reads .u32 W m zs ∧ Nt.Ok zs ∧ zs.length ≤ 70368744177664 ∧ 0 ≤ n ∧ n < 256 ∧ s.size ≤ maxLen ∧ 0 ≤ c ∧ c < 256 := by
  obtain ⟨cs, rfl, hcz⟩ := okWide_struct Tryd.underlying44 hv
  rw [cells_by] at hcz
  obtain ⟨c0, c1, c2, c3, c4, rfl⟩ : ∃ c0 c1 c2 c3 c4, cs = #[c0, c1, c2, c3, c4] := by
    obtain ⟨l⟩ := cs
    match l, hcz with
    | [c0, c1, c2, c3, c4], _ => exact ⟨c0, c1, c2, c3, c4, rfl⟩
  obtain ⟨fuel, hf⟩ := h
  obtain ⟨xs, n, _, hx, hl, hlen, hfs⟩ := DataW.trod_struct Tryd.underlying44 hf
  match xs, hlen, hx, hfs with
  | [y0, y1, y2, y3], _, hx, hfs =>
    have f0 := hfs 0 _ rfl
    have f1 := hfs 1 _ rfl
    have f2 := hfs 2 _ rfl
    have f3 := hfs 3 _ rfl
    have g0 : DataW.trod enc Tryd.prog W b0 (fun _ => true) held n 25 [c0, c1] = some (y0.1, y0.2) := by simpa [Value.cells, cells_int] using f0
    have g1 : DataW.trod enc Tryd.prog W b0 (fun _ => true) held n 5 [c2] = some y1 := by simpa [Value.cells, cells_u8] using f1
    have g2 : DataW.trod enc Tryd.prog W b0 (fun _ => true) held n 9 [c3] = some y2 := by simpa [Value.cells, cells_str] using f2
    have g3 : DataW.trod enc Tryd.prog W b0 (fun _ => true) held n 5 [c4] = some y3 := by simpa [Value.cells, cells_u8] using f3
    have hd : d = .agg [y0.1, y1.1, y2.1, y3.1] := (Prod.mk.inj hx).1
    obtain ⟨ng, m, zs, rfl, rfl, h1, h2, h3⟩ := open_whole2 g0 (fun y e sp he => hz y e sp y1.1 y2.1 y3.1 (by rw [hd, he]))
    obtain ⟨m1, hc1, hp1, hw1⟩ := DataW.trod_int Tryd.underlying5 g1
    obtain ⟨s2, hc2, hp2, hw2⟩ := DataW.trod_string Tryd.underlying9 g2
    obtain ⟨m3, hc3, hp3, hw3⟩ := DataW.trod_int Tryd.underlying5 g3
    simp at hc1 hc2 hc3
    subst hc1 hc2 hc3
    simp [Lit.wf, IntKind.min, IntKind.max, IntKind.signed, IntKind.bits] at hw1 hw3
    exact ⟨ng, c1, zs, m1, s2, m3, rfl, h1, h2, h3, by omega, by omega, hw2, by omega, by omega⟩

theorem cells_th : Tryd.prog.cellsOf 35 = 8 := by kernel_rfl
theorem sized_three {H : Type} {ts : List TypeId} {ds : List (DataW H)} (h : (DataW.weightsEach Tryd.prog ts ds).all (· ≤ reachBytes) = true) {j : Nat} {x0 x1 x2 a b : DataW H} (ht : ts[j]? = some 35) (hd : ds[j]? = some (.agg [x0, x1, x2, a, b])) {x y : DataW H} (hx : x ∈ [x0, x1, x2]) {elems spare : List (DataW H)} (he : x = .agg [y, .slice elems spare]) :
    (elems.length + spare.length) * 4 ≤ reachBytes := by
  subst he
  have := List.all_eq_true.1 h _ (DataW.weights_mem_each ht hd ((elems.length + spare.length) * Tryd.prog.bytesOf 59) (by
    simp only [List.mem_cons, List.not_mem_nil, or_false] at hx
    rcases hx with rfl | rfl | rfl <;> simp [DataW.weights, DataW.weightsEach, Tryd.underlying35, Tryd.underlying25, Tryd.underlying23]))
  rw [bytesU32] at this
  simpa using this
set_option maxRecDepth 100000 in
theorem open_three {H : Type} {enc : TypeId × Value → H} {W : World} {base b0 : Nat} {held : Bool} {v : Value} {d : DataW H} {p : List MemPlace} (hv : Value.okWide Tryd.prog W .any base 35 v)
    (h : ∃ n, DataW.trod enc Tryd.prog W b0 (fun _ => true) held n 35 v.cells.toList = some (d, p))
    (hz : ∀ x0 x1 x2 a b, d = .agg [x0, x1, x2, a, b] → ∀ x ∈ [x0, x1, x2], ∀ y elems sp, x = .agg [y, .slice elems sp] → (elems.length + sp.length) * 4 ≤ reachBytes) :
    ∃ g0 m0 z0 g1 m1 z1 g2 m2 z2 i j, v = .agg #[.bool g0, m0, .bool g1, m1, .bool g2, m2, .int .i64 i, .int .i64 j] ∧ (Reads .u32 W m0 z0 ∧ Nt.Ok z0 ∧ z0.length ≤ 70368744177664) ∧ (Reads .u32 W m1 z1 ∧ Nt.Ok z1 ∧ z1.length ≤ 70368744177664) ∧ (Reads .u32 W m2 z2 ∧ Nt.Ok z2 ∧ z2.length ≤ 70368744177664) ∧ -9223372036854775808 ≤ i ∧ i ≤ 9223372036854775807 ∧ -9223372036854775808 ≤ j ∧ j ≤ 9223372036854775807 := by
  obtain ⟨cs, rfl, hcz⟩ := okWide_struct Tryd.underlying35 hv
  rw [cells_th] at hcz
  obtain ⟨c0, c1, c2, c3, c4, c5, c6, c7, rfl⟩ : ∃ c0 c1 c2 c3 c4 c5 c6 c7, cs = #[c0, c1, c2, c3, c4, c5, c6, c7] := by
    obtain ⟨l⟩ := cs
    match l, hcz with
    | [c0, c1, c2, c3, c4, c5, c6, c7], _ => exact ⟨c0, c1, c2, c3, c4, c5, c6, c7, rfl⟩
  obtain ⟨fuel, hf⟩ := h
  obtain ⟨xs, n, _, hx, hl, hlen, hfs⟩ := DataW.trod_struct Tryd.underlying35 hf
  match xs, hlen, hx, hfs with
  | [y0, y1, y2, y3, y4], _, hx, hfs =>
    have f0 := hfs 0 _ rfl
    have f1 := hfs 1 _ rfl
    have f2 := hfs 2 _ rfl
    have f3 := hfs 3 _ rfl
    have f4 := hfs 4 _ rfl
    have g0 : DataW.trod enc Tryd.prog W b0 (fun _ => true) held n 25 [c0, c1] = some (y0.1, y0.2) := by simpa [Value.cells, cells_int] using f0
    have g1 : DataW.trod enc Tryd.prog W b0 (fun _ => true) held n 25 [c2, c3] = some (y1.1, y1.2) := by simpa [Value.cells, cells_int] using f1
    have g2 : DataW.trod enc Tryd.prog W b0 (fun _ => true) held n 25 [c4, c5] = some (y2.1, y2.2) := by simpa [Value.cells, cells_int] using f2
    have g3 : DataW.trod enc Tryd.prog W b0 (fun _ => true) held n 2 [c6] = some y3 := by simpa [Value.cells, cells_i64] using f3
    have g4 : DataW.trod enc Tryd.prog W b0 (fun _ => true) held n 2 [c7] = some y4 := by simpa [Value.cells, cells_i64] using f4
    have hd : d = .agg [y0.1, y1.1, y2.1, y3.1, y4.1] := (Prod.mk.inj hx).1
    obtain ⟨n0, m0, z0, rfl, rfl, a1, a2, a3⟩ := open_whole2 g0 (fun y e sp he => hz _ _ _ _ _ hd _ (by simp) y e sp he)
    obtain ⟨n1, m1, z1, rfl, rfl, b1, b2, b3⟩ := open_whole2 g1 (fun y e sp he => hz _ _ _ _ _ hd _ (by simp) y e sp he)
    obtain ⟨n2, m2, z2, rfl, rfl, d1, d2, d3⟩ := open_whole2 g2 (fun y e sp he => hz _ _ _ _ _ hd _ (by simp) y e sp he)
    obtain ⟨i, hc1, hp1, hw1⟩ := DataW.trod_int Tryd.underlying2 g3
    obtain ⟨j, hc3, hp3, hw3⟩ := DataW.trod_int Tryd.underlying2 g4
    simp at hc1 hc3
    subst hc1 hc3
    simp [Lit.wf, IntKind.min, IntKind.max, IntKind.signed, IntKind.bits] at hw1 hw3
    exact ⟨n0, _, z0, n1, _, z1, n2, _, z2, i, j, rfl, ⟨a1, a2, a3⟩, ⟨b1, b2, b3⟩, ⟨d1, d2, d3⟩, by omega, by omega, by omega, by omega⟩

end Go.Proofs.YtmpdkeafbjibpaaDoor
