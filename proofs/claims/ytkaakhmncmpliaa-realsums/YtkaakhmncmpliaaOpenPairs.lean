/- an argument of the law that is a list of pairs of patterns, opened -/
import Derived.Test.YtkaakhmncmpliaaOpen
import Derived.Test.YtkaakhmncmpliaaCList
import Derived.ChangeArms
import Derived.Deep.SlicePairs
namespace Go.Proofs.Ytkaakhmncmpliaa
open Go.ChangeShapes Go.WideShapes Go.ChangeAt Go.RowKit

def iv : Value → Int
  | .int _ n => n
  | _ => 0
theorem cells_pair2 : Try.prog.cellsOf 58 = 2 := by kernel_rfl
theorem cells_u64b : Try.prog.cellsOf 22 = 1 := by kernel_rfl
theorem cell_lt2 {W : World} {a : Addr} {v : Value} (h : W.cell? a = some v) : a.block < W.heap.size := by
  unfold World.cell? at h
  split at h
  · rename_i hh
    exact (Array.getElem?_eq_some_iff.1 hh).1
  · cases h
set_option maxRecDepth 100000 in
theorem open_pairs3 {H : Type} {enc : TypeId × Value → H} {W : World} {b0 : Nat} {held : Bool} {v : Value} {d : DataW H} {p : List MemPlace}
    (h : ∃ n, DataW.trod enc Try.prog W b0 (fun _ => true) held n 67 v.cells.toList = some (d, p)) (hv : ∃ a len cap, v = .slice a len cap) :
    ∃ ps, PReads W v ps ∧ POk ps ∧ (ps.length = 0 ∨ ∃ es sp, d = .slice es sp ∧ ps.length = es.length) := by
  obtain ⟨fuel, hf⟩ := h
  obtain ⟨a', l', c', rfl⟩ := hv
  rcases Go.Deep.open_slice_pairs Try.underlying67 Try.underlying58 cells_pair2 rfl rfl cells_u64b cells_u64b hf with ⟨hcs, _⟩ | ⟨a, len, cap, m, n, V0, V1, D0, D1, P0, P1, hcs, _, hl, hm, hmm, hx, hall⟩
  · simp [Value.cells] at hcs
    obtain ⟨rfl, rfl, rfl⟩ := hcs
    exact ⟨[], ⟨none, 0, rfl, Nat.le_refl _, by unfold maxLen; omega, fun h => absurd h (by simp)⟩, fun i => by unfold pre pim; simp, Or.inl rfl⟩
  · simp [Value.cells] at hcs
    obtain ⟨rfl, rfl, rfl⟩ := hcs
    have hmm' : m = c' := by rw [hmm]; rfl
    subst hmm'
    have val : ∀ i, i < m → V0 i = .int .u64 (iv (V0 i)) ∧ V1 i = .int .u64 (iv (V1 i)) ∧ (0 ≤ iv (V0 i) ∧ iv (V0 i) < 18446744073709551616) ∧ (0 ≤ iv (V1 i) ∧ iv (V1 i) < 18446744073709551616) := by
      intro i hi
      obtain ⟨_, _, t0, t1⟩ := hall i hi
      obtain ⟨x, hx, _, wx⟩ := DataW.trod_int Try.underlying22 t0
      obtain ⟨y, hy, _, wy⟩ := DataW.trod_int Try.underlying22 t1
      simp at hx hy
      rw [hx, hy]
      have fit : ∀ x : Int, (Lit.int .u64 x).wf = true → 0 ≤ x ∧ x < 18446744073709551616 := fun x h => by
        have : 0 ≤ x ∧ x ≤ 18446744073709551615 := by simpa [Lit.wf, IntKind.min, IntKind.max, IntKind.signed, IntKind.bits] using h
        omega
      exact ⟨rfl, rfl, fit x wx, fit y wy⟩
    have get : ∀ i, (((List.range l').map fun i => (iv (V0 i), iv (V1 i))).getD i (0, 0)) = if i < l' then (iv (V0 i), iv (V1 i)) else (0, 0) := by
      intro i
      rw [List.getD_eq_getElem?_getD, List.getElem?_map]
      by_cases c : i < l'
      · rw [if_pos c, List.getElem?_range c]; rfl
      · rw [if_neg c, List.getElem?_eq_none (by simpa using c)]; rfl
    refine ⟨(List.range l').map fun i => (iv (V0 i), iv (V1 i)), ⟨some a, m, by simp, by simpa using hl, hm, fun hp => ?_⟩, fun i => ?_, Or.inr ⟨_, _, (Prod.mk.inj hx).1, by simp⟩⟩
    · have hlen : ((List.range l').map fun i => (iv (V0 i), iv (V1 i))).length = l' := by simp
      rw [hlen] at hp ⊢
      obtain ⟨c0, _, _, _⟩ := hall 0 (by omega)
      obtain ⟨b, off, spot⟩ := a
      have hspot : spot = none := by simpa [Addr.add] using World.cell?_spot c0
      subst hspot
      refine ⟨b, off, rfl, by simpa [Addr.add] using cell_lt2 c0, fun i hi => ?_⟩
      obtain ⟨h0, h1, _, _⟩ := hall i (by omega)
      obtain ⟨e0, e1, _, _⟩ := val i (by omega)
      unfold pre pim
      rw [get, if_pos hi]
      rw [Addr.add_lit] at h0 h1
      exact ⟨by rw [h0, ← e0], by rw [Nat.add_assoc, h1, ← e1]⟩
    · unfold pre pim
      rw [get]
      by_cases c : i < l'
      · rw [if_pos c]; exact ⟨(val i (by omega)).2.2.1, (val i (by omega)).2.2.2⟩
      · rw [if_neg c]; exact ⟨by decide, by decide⟩

theorem open_pairs {H : Type} {enc : TypeId × Value → H} {W : World} {b0 : Nat} {held : Bool} {v : Value} {d : DataW H} {p : List MemPlace}
    (h : ∃ n, DataW.trod enc Try.prog W b0 (fun _ => true) held n 67 v.cells.toList = some (d, p)) (hv : ∃ a len cap, v = .slice a len cap) :
    ∃ ps, PReads W v ps ∧ POk ps := by
  obtain ⟨ps, h1, h2, _⟩ := open_pairs3 h hv
  exact ⟨ps, h1, h2⟩
theorem bytesPair : Try.prog.bytesOf 58 = 16 := by kernel_rfl
theorem sized_pairs {H : Type} {ts : List TypeId} {ds : List (DataW H)} (h : (DataW.weightsEach Try.prog ts ds).all (· ≤ reachBytes) = true) {j : Nat} {d : DataW H} {ps : List (Int × Int)} (ht : ts[j]? = some 67) (hd : ds[j]? = some d) (hp : ps.length = 0 ∨ ∃ es sp, d = .slice es sp ∧ ps.length = es.length) :
    ps.length ≤ 8796093022208 := by
  rcases hp with h0 | ⟨es, sp, rfl, hl⟩
  · omega
  · have hs := sized_slice h (j := j) ht hd Try.underlying67
    rw [bytesPair] at hs
    have := reachBytes_lt
    omega

end Go.Proofs.Ytkaakhmncmpliaa
