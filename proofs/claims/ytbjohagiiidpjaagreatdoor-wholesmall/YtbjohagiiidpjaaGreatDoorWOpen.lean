/- a struct of a sign and a list as an argument of the law, opened -/
import Derived.Test.YtbjohagiiidpjaaGreatDoorOpen
import Derived.ChangeSame
namespace Go.Proofs.YtbjohagiiidpjaaGreatDoor
open Go.ChangeShapes Go.WideShapes Go.ChangeAt Go.RowKit

theorem cells_int : Tryz.prog.cellsOf 25 = 2 := by kernel_rfl
theorem cells_bool : Tryz.prog.cellsOf 4 = 1 := by kernel_rfl
theorem cells_nat : Tryz.prog.cellsOf 23 = 1 := by kernel_rfl

theorem sized_whole {H : Type} {ts : List TypeId} {ds : List (DataW H)} (h : (DataW.weightsEach Tryz.prog ts ds).all (· ≤ reachBytes) = true) {j : Nat} {y : DataW H} {elems spare : List (DataW H)} (ht : ts[j]? = some 25) (hd : ds[j]? = some (.agg [y, .slice elems spare])) :
    (elems.length + spare.length) * 4 ≤ reachBytes := by
  have := List.all_eq_true.1 h _ (DataW.weights_mem_each ht hd ((elems.length + spare.length) * Tryz.prog.bytesOf 52) (by simp [DataW.weights, DataW.weightsEach, Tryz.underlying25, Tryz.underlying23]))
  rw [bytesU32] at this
  simpa using this

set_option maxRecDepth 100000 in
theorem open_whole {H : Type} {enc : TypeId × Value → H} {W : World} {base b0 : Nat} {held : Bool} {v : Value} {d : DataW H} {p : List MemPlace} (hv : Value.okWide Tryz.prog W .any base 25 v)
    (h : ∃ n, DataW.trod enc Tryz.prog W b0 (fun _ => true) held n 25 v.cells.toList = some (d, p))
    (hz : ∀ y elems sp, d = .agg [y, .slice elems sp] → (elems.length + sp.length) * 4 ≤ reachBytes) :
    ∃ ng m zs, v = .agg #[.bool ng, m] ∧ Reads .u32 W m zs ∧ Nt.Ok zs ∧ zs.length ≤ 70368744177664 := by
  obtain ⟨cs, rfl, hcz⟩ := okWide_struct Tryz.underlying25 hv
  rw [cells_int] at hcz
  obtain ⟨c0, c1, rfl⟩ : ∃ c0 c1, cs = #[c0, c1] := by
    obtain ⟨l⟩ := cs
    rcases l with _ | ⟨a, _ | ⟨b, _ | ⟨c, l⟩⟩⟩
    · simp at hcz
    · simp at hcz
    · exact ⟨a, b, rfl⟩
    · simp at hcz
  obtain ⟨fuel, hf⟩ := h
  obtain ⟨y0, y1, m, hx, hl, hy0, hy1⟩ := trod_struct2 Tryz.underlying25 hf
  have hy0' : DataW.trod enc Tryz.prog W b0 (fun _ => true) held m 4 [c0] = some y0 := by simpa [Value.cells, cells_bool] using hy0
  have hy1' : DataW.trod enc Tryz.prog W b0 (fun _ => true) held m 23 [c1] = some y1 := by simpa [Value.cells, cells_nat] using hy1
  obtain ⟨ng, hc0, hb⟩ := DataW.trod_bool Tryz.underlying4 hy0'
  simp at hc0
  subst hc0
  rcases open_ints Tryz.underlying23 Tryz.underlying52 (by kernel_rfl) hy1' with ⟨hcs, _⟩ | ⟨x, l, c, zs, hcs, _, hl2, hm, hzl, hx2, hcell, hwz⟩
  · simp at hcs
    subst hcs
    obtain ⟨zs, h1, h2, h3⟩ := reads_nil W
    exact ⟨ng, _, zs, rfl, h1, h2, h3⟩
  · simp at hcs
    subst hcs
    have hd : d = .agg [y0.1, y1.1] := (Prod.mk.inj hx).1
    have hs := hz y0.1 _ _ (by rw [hd, hx2])
    simp only [lits, List.length_map, List.length_take, List.length_drop] at hs
    obtain ⟨ys, h1, h2, h3⟩ := reads_of hl2 hm (by simpa using hzl) hcell hwz hs
    exact ⟨ng, _, ys, rfl, h1, h2, h3⟩

end Go.Proofs.YtbjohagiiidpjaaGreatDoor
