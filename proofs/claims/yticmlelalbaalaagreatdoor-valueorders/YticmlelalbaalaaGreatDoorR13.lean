/- Open -/
import Derived.Test.YticmlelalbaalaaGreatDoorR02
import Derived.Test.YticmlelalbaalaaGreatDoorRows
import Derived.ProofKit
import Derived.OpenShut
import Derived.ShutString
import Derived.ChangeOld
import Derived.SizedLaws
import Derived.ChangeSame
namespace Go.Proofs.YticmlelalbaalaaGreatDoor
open Go.ChangeShapes Go.WideShapes Go.ChangeAt Go.RowKit
open Go.ChangeMaps (open_string shut_string)

theorem own : ownKnob Tryz.prog.godebug = none := by kernel_rfl
theorem laidOut : laidOutB Tryz.prog = true := by kernel_rfl
theorem bytesU32 : Tryz.prog.bytesOf 70 = 4 := by kernel_rfl

theorem reads_nil (W : World) : ∃ zs, Reads .u32 W (.slice none 0 0) zs ∧ Nt.Ok zs ∧ zs.length ≤ 70368744177664 :=
  ⟨[], ⟨none, 0, rfl, Nat.le_refl _, by unfold maxLen; omega, fun h => absurd h (by simp)⟩, Nt.ok_nil, by simp⟩

theorem cell_lt {W : World} {a : Addr} {v : Value} (h : W.cell? a = some v) : a.block < W.heap.size := by
  unfold World.cell? at h
  split at h
  · rename_i hh
    exact (Array.getElem?_eq_some_iff.1 hh).1
  · cases h

theorem wf_u32 {n : Int} (h : (Lit.int .u32 n).wf = true) : 0 ≤ n ∧ n < 4294967296 := by
  have : 0 ≤ n ∧ n ≤ 4294967295 := by simpa [Lit.wf, IntKind.min, IntKind.max, IntKind.signed, IntKind.bits] using h
  omega

theorem reads_of {W : World} {x : Addr} {len cap : Nat} {zs : List Int} (hl : len ≤ cap) (hm : cap ≤ maxLen) (hz : zs.length = cap) (hcell : ∀ i, i < zs.length → W.cell? (x.add i) = some (.int .u32 (zs.getD i 0)))
    (hwz : ∀ n ∈ zs, (Lit.int .u32 n).wf = true) (hsz : (min len zs.length + (zs.length - len)) * 4 ≤ reachBytes) : ∃ ys, Reads .u32 W (.slice (some x) len cap) ys ∧ Nt.Ok ys ∧ ys.length ≤ 70368744177664 := by
  have hlt : (zs.take len).length = len := by rw [List.length_take]; omega
  refine ⟨zs.take len, ⟨some x, cap, by rw [hlt], by omega, hm, fun hp => ?_⟩, fun i => ?_, ?_⟩
  · rw [hlt] at hp
    have h0 := hcell 0 (by omega)
    obtain ⟨b, off, spot⟩ := x
    have hspot : spot = none := by simpa [Addr.add] using World.cell?_spot h0
    subst hspot
    refine ⟨b, off, rfl, by simpa [Addr.add] using cell_lt h0, fun i hi => ?_⟩
    rw [hlt] at hi
    rw [Nt.lb_take hi, ← Addr.add_lit]
    exact hcell i (by omega)
  · by_cases hi : i < len
    · rw [Nt.lb_take hi]
      have hi' : i < zs.length := by omega
      have : Nt.lb zs i = zs[i] := by simp [Nt.lb, hi']
      rw [this]
      exact wf_u32 (hwz _ (List.getElem_mem hi'))
    · rw [Nt.lb_take_out (by omega)]; omega
  · rw [hlt]
    unfold reachBytes at hsz
    omega

theorem cells_int : Tryz.prog.cellsOf 28 = 2 := by kernel_rfl
theorem cells_bool : Tryz.prog.cellsOf 4 = 1 := by kernel_rfl
theorem cells_nat : Tryz.prog.cellsOf 26 = 1 := by kernel_rfl

theorem sized_whole {H : Type} {ts : List TypeId} {ds : List (DataW H)} (h : (DataW.weightsEach Tryz.prog ts ds).all (· ≤ reachBytes) = true) {j : Nat} {y : DataW H} {elems spare : List (DataW H)} (ht : ts[j]? = some 28) (hd : ds[j]? = some (.agg [y, .slice elems spare])) :
    (elems.length + spare.length) * 4 ≤ reachBytes := by
  have := List.all_eq_true.1 h _ (DataW.weights_mem_each ht hd ((elems.length + spare.length) * Tryz.prog.bytesOf 70) (by simp [DataW.weights, DataW.weightsEach, Tryz.underlying28, Tryz.underlying26]))
  rw [bytesU32] at this
  simpa using this

set_option maxRecDepth 100000 in
theorem open_whole {H : Type} {enc : TypeId × Value → H} {W : World} {base b0 : Nat} {held : Bool} {v : Value} {d : DataW H} {p : List MemPlace} (hv : Value.okWide Tryz.prog W .any base 28 v)
    (h : ∃ n, DataW.trod enc Tryz.prog W b0 (fun _ => true) held n 28 v.cells.toList = some (d, p))
    (hz : ∀ y elems sp, d = .agg [y, .slice elems sp] → (elems.length + sp.length) * 4 ≤ reachBytes) :
    ∃ ng m zs, v = .agg #[.bool ng, m] ∧ Reads .u32 W m zs ∧ Nt.Ok zs ∧ zs.length ≤ 70368744177664 := by
  obtain ⟨cs, rfl, hcz⟩ := okWide_struct Tryz.underlying28 hv
  rw [cells_int] at hcz
  obtain ⟨c0, c1, rfl⟩ : ∃ c0 c1, cs = #[c0, c1] := by
    obtain ⟨l⟩ := cs
    rcases l with _ | ⟨a, _ | ⟨b, _ | ⟨c, l⟩⟩⟩
    · simp at hcz
    · simp at hcz
    · exact ⟨a, b, rfl⟩
    · simp at hcz
  obtain ⟨fuel, hf⟩ := h
  obtain ⟨y0, y1, m, hx, hl, hy0, hy1⟩ := trod_struct2 Tryz.underlying28 hf
  have hy0' : DataW.trod enc Tryz.prog W b0 (fun _ => true) held m 4 [c0] = some y0 := by simpa [Value.cells, cells_bool] using hy0
  have hy1' : DataW.trod enc Tryz.prog W b0 (fun _ => true) held m 26 [c1] = some y1 := by simpa [Value.cells, cells_nat] using hy1
  obtain ⟨ng, hc0, hb⟩ := DataW.trod_bool Tryz.underlying4 hy0'
  simp at hc0
  subst hc0
  rcases open_ints Tryz.underlying26 Tryz.underlying70 (by kernel_rfl) hy1' with ⟨hcs, _⟩ | ⟨x, l, c, zs, hcs, _, hl2, hm, hzl, hx2, hcell, hwz⟩
  · simp at hcs
    subst hcs
    obtain ⟨zs, h1, h2, h3⟩ := reads_nil W
    exact ⟨ng, _, zs, rfl, h1, h2, h3⟩
  · simp at hcs
    subst hcs
    have hd : d = .agg [y0.1, y1.1] := (Prod.mk.inj hx).1
    have hs := hz y0.1 _ _ (by rw [hd, hx2])
    simp only [lits, List.length_map, List.length_take, List.length_drop] at hs
    obtain ⟨ys, h1, h2, h3⟩ := reads_of hl2 hm (by simpa using hzl) hcell hwz hs
    exact ⟨ng, _, ys, rfl, h1, h2, h3⟩

end Go.Proofs.YticmlelalbaalaaGreatDoor
