/- rows of layer 7: the four tables, the argument -/
import Derived.Test.YtigehipclkoecaaGreatDoorILaid
import Derived.Test.YtigehipclkoecaaGreatDoorDStr
import Derived.Deep.DeepHandedRow
namespace Go.Proofs.YtigehipclkoecaaGreatDoor
open Go.ChangeShapes Go.WideShapes Go.ChangeAt Go.RowKit Go.Deep
set_option linter.unusedVariables false

set_option maxRecDepth 100000 in
/-- the list's four tables: two are asked -/
theorem lays_dec {W : World} (h : laidMetH Tryz.prog [("math/bits.deBruijn64tab", Rows.laid_math_bits_deBruijn64tab), ("unicode/utf8.acceptRanges", Rows.laid_unicode_utf8_acceptRanges), ("crucible/ieee.layouts", Rows.laid_crucible_ieee_layouts), ("unicode/utf8.first", Rows.laid_unicode_utf8_first)] W) : Lays W ∧ Brn W := by
  rw [MakeChecks.laidMetH_plain _ _ _ (by kernel_rfl)] at h
  have ht : Lib.TabIs Tryz.prog W "math/bits.deBruijn64tab" .u8 (Lib.deBruijn64tab.map (fun (n : Nat) => (n : Int))) :=
    Lib.tabIs_of_head (g := 1) (t := 105) (e := 5) (n := 64) (by kernel_rfl) (by kernel_rfl) Tryz.underlying105 Tryz.underlying5 (by kernel_rfl) (by kernel_rfl) h
  obtain ⟨ps, ⟨g0, t0, cs0, f0, p0, q0, hg0, ht0, hv0, hd0, ⟨g2, t2, cs2, f2, p2, q2, hg2, ht2, hv2, hd2, ⟨g1, t1, cs1, f1, p1, q1, hg1, ht1, hv1, hd1, _⟩, _⟩, _⟩, _, _⟩ := h
  obtain rfl := Option.some.inj (gLays.symm.trans hg1)
  obtain rfl := Option.some.inj (tLays.symm.trans ht1)
  refine ⟨lays_of_var hv1 hd1, ⟨fun j hj => ?_, ?_⟩⟩
  · rw [World.var?_cell gBrn ht j]
    have hl : Lib.deBruijn64tab.length = 64 := by decide
    simp only [List.getElem?_toArray, List.getElem?_map]
    rw [List.getElem?_eq_getElem (by omega), List.getD_eq_getElem?_getD, List.getElem?_eq_getElem (by omega)]
    rfl
  · have h := ht
    unfold Lib.TabIs at h
    simp only [World.var?, gBrn, Option.bind_some] at h
    split at h
    · rename_i e
      exact (Array.getElem?_eq_some_iff.1 e).1
    · cases h

theorem bulk_one {H : Type} (d : DataW H) : 1 ≤ Rows.uptoBulk d := by
  cases d with
  | lit l => cases l <;> simp [Rows.uptoBulk]
  | _ => simp [Rows.uptoBulk]
theorem bulk_many {H : Type} (l : List (DataW H)) : l.length ≤ Rows.uptoBulkAll l := by
  induction l with
  | nil => simp
  | cons x r ih =>
    have h1 := bulk_one x
    have h2 : Rows.uptoBulkAll (x :: r) = Rows.uptoBulk x + Rows.uptoBulkAll r := by simp only [Rows.uptoBulkAll]
    rw [h2, List.length_cons]
    omega
theorem bulk_slice {H : Type} {e s : List (DataW H)} {d : DataW H} {n : Nat} (hd : d = .slice e s) (h : Rows.uptoBulk d ≤ n) : e.length ≤ n := by
  have h1 := bulk_many e
  rw [hd] at h
  have h2 : Rows.uptoBulk (.slice e s) = Rows.uptoBulkAll e + Rows.uptoBulkAll s + 1 := by simp only [Rows.uptoBulk]
  rw [h2] at h
  omega
theorem lits_length (k : IntKind) (zs : List Int) {H : Type} : (lits (H := H) k zs).length = zs.length := by simp [lits]

def putCells (cs : Array Value) : Obj → Obj
  | .cells _ t frozen => .cells cs t frozen
  | o => o
def litOf : DataW Unit → Value
  | .lit (.int k n) => .int k n
  | _ => .int .u8 0
/-- the cells of a table that a row lists: numbers, or structs of numbers -/
def cellsOf : DataW Unit → Array Value
  | .agg ds => (ds.flatMap fun
    | .agg es => es.map litOf
    | d => [litOf d]).toArray
  | _ => #[]
/-- the settled world, the four tables holding what their texts lay -/
noncomputable def tabledWorld (os : Os) : World :=
  { World.holding Tryz.prog os ⟨#[], #[], []⟩ with heap := ((((World.holding Tryz.prog os ⟨#[], #[], []⟩).heap.modify 3 (putCells (cellsOf Rows.laid_unicode_utf8_first))).modify 4 (putCells (cellsOf Rows.laid_unicode_utf8_acceptRanges))).modify 1 (putCells (cellsOf Rows.laid_math_bits_deBruijn64tab))).modify 0 (putCells (cellsOf Rows.laid_crucible_ieee_layouts)) }

theorem sized_digits {H : Type} {ts : List TypeId} {ds : List (DataW H)} (h : (DataW.weightsEach Tryz.prog ts ds).all (· ≤ reachBytes) = true) {j : Nat} {y z : DataW H} {bytes : List UInt8} (ht : ts[j]? = some 23) (hd : ds[j]? = some (.agg [y, .lit (.string bytes), z])) : bytes.length ≤ reachBytes := by
  have := List.all_eq_true.1 h _ (DataW.weights_mem_each ht hd bytes.length (by simp [DataW.weights, DataW.weightsEach, Tryz.underlying23]))
  simpa using this
theorem cells_dig : Tryz.prog.cellsOf 23 = 3 := by kernel_rfl
theorem cells_dbool : Tryz.prog.cellsOf 4 = 1 := by kernel_rfl
theorem cells_dstr : Tryz.prog.cellsOf 9 = 1 := by kernel_rfl
theorem cells_dint : Tryz.prog.cellsOf 3 = 1 := by kernel_rfl
set_option maxRecDepth 100000 in
theorem open_digits {H : Type} {enc : TypeId × Value → H} {W : World} {base b0 : Nat} {held : Bool} {v : Value} {d : DataW H} {p : List MemPlace} (hv : Value.okWide Tryz.prog W .any base 23 v)
    (h : ∃ n, DataW.trod enc Tryz.prog W b0 (fun _ => true) held n 23 v.cells.toList = some (d, p))
    (hz : ∀ y bytes z, d = .agg [y, .lit (.string bytes), z] → bytes.length ≤ reachBytes) :
    ∃ ng s P, ∃ es : List Int, v = .agg #[.bool ng, .string s, .int .i64 P] ∧ Byt es ∧ s = strOfNums es ∧ es.length ≤ 140737488355328 ∧ -9223372036854775808 ≤ P ∧ P ≤ 9223372036854775807 := by
  obtain ⟨cs, rfl, hcz⟩ := okWide_struct Tryz.underlying23 hv
  rw [cells_dig] at hcz
  obtain ⟨c0, c1, c2, rfl⟩ : ∃ c0 c1 c2, cs = #[c0, c1, c2] := by
    obtain ⟨l⟩ := cs
    rcases l with _ | ⟨a, _ | ⟨b, _ | ⟨c, _ | ⟨e, l⟩⟩⟩⟩
    · simp at hcz
    · simp at hcz
    · simp at hcz
    · exact ⟨a, b, c, rfl⟩
    · simp at hcz
  obtain ⟨fuel, hf⟩ := h
  obtain ⟨y0, y1, y2, m, hx, hl, hy0, hy1, hy2⟩ := trod_struct3 Tryz.underlying23 hf
  have hy0' : DataW.trod enc Tryz.prog W b0 (fun _ => true) held m 4 [c0] = some y0 := by simpa [Value.cells, cells_dbool] using hy0
  have hy1' : DataW.trod enc Tryz.prog W b0 (fun _ => true) held m 9 [c1] = some y1 := by simpa [Value.cells, cells_dstr] using hy1
  have hy2' : DataW.trod enc Tryz.prog W b0 (fun _ => true) held m 3 [c2] = some y2 := by simpa [Value.cells, cells_dint] using hy2
  obtain ⟨ng, hc0, hb⟩ := DataW.trod_bool Tryz.underlying4 hy0'
  obtain ⟨s, hc1, hs, hsm⟩ := DataW.trod_string Tryz.underlying9 hy1'
  obtain ⟨P, hc2, hp, hw⟩ := DataW.trod_int Tryz.underlying3 hy2'
  simp at hc0 hc1 hc2
  subst hc0 hc1 hc2
  have hd : d = .agg [y0.1, y1.1, y2.1] := (Prod.mk.inj hx).1
  have hlen := hz y0.1 s.data.toList y2.1 (by rw [hd, hs])
  have hr := reachBytes_lt
  obtain ⟨es, e1, e2, e3⟩ := txt_of s
  simp [Lit.wf, IntKind.min, IntKind.max, IntKind.signed, IntKind.bits] at hw
  refine ⟨ng, s, P, es, rfl, e1, e3, ?_, by omega, by omega⟩
  rw [e2]
  have : s.size = s.data.toList.length := by rw [Array.length_toList]; rfl
  omega

end Go.Proofs.YtigehipclkoecaaGreatDoor
