/- TBulk -/
import Derived.Test.YthnpndlobhgdhaaGreatDoorS26
import Derived.Test.YthnpndlobhgdhaaGreatDoorS03
import Derived.LaidSub
import Derived.Deep.DeepHandedRow
namespace Go.Proofs.YthnpndlobhgdhaaGreatDoor
open Go.ChangeShapes Go.WideShapes Go.ChangeAt Go.RowKit Go.Deep
set_option linter.unusedVariables false

set_option maxRecDepth 100000 in
/-- the list's tables: two are asked -/
theorem lays_top {W : World} {l : List (String × DataW Unit)} (h : laidMetH Tryz.prog l W) (hl : (l.filter fun x => x.1 == "math/bits.deBruijn64tab" || x.1 == "crucible/ieee.layouts") = [("math/bits.deBruijn64tab", Rows.laid_math_bits_deBruijn64tab), ("crucible/ieee.layouts", Rows.laid_crucible_ieee_layouts)]) : Lays W ∧ Brn W := by
  have h2 := h.filter (fun x => x.1 == "math/bits.deBruijn64tab" || x.1 == "crucible/ieee.layouts")
  rw [hl] at h2
  exact lays_two h2

theorem bulk_one {H : Type} (d : DataW H) : 1 ≤ Rows.uptoBulk d := by
  cases d with
  | lit l => cases l <;> simp [Rows.uptoBulk]
  | _ => simp [Rows.uptoBulk]
theorem bulk_many {H : Type} (l : List (DataW H)) : l.length ≤ Rows.uptoBulkAll l := by
  induction l with
  | nil => simp
  | cons x r ih =>
    have h1 := bulk_one x
    have h2 : Rows.uptoBulkAll (x :: r) = Rows.uptoBulk x + Rows.uptoBulkAll r := by simp only [Rows.uptoBulkAll]
    rw [h2, List.length_cons]
    omega
theorem bulk_slice {H : Type} {e s : List (DataW H)} {d : DataW H} {n : Nat} (hd : d = .slice e s) (h : Rows.uptoBulk d ≤ n) : e.length ≤ n := by
  have h1 := bulk_many e
  rw [hd] at h
  have h2 : Rows.uptoBulk (.slice e s) = Rows.uptoBulkAll e + Rows.uptoBulkAll s + 1 := by simp only [Rows.uptoBulk]
  rw [h2] at h
  omega
theorem lits_length (k : IntKind) (zs : List Int) {H : Type} : (lits (H := H) k zs).length = zs.length := by simp [lits]

theorem sized_digits {H : Type} {ts : List TypeId} {ds : List (DataW H)} (h : (DataW.weightsEach Tryz.prog ts ds).all (· ≤ reachBytes) = true) {j : Nat} {y z : DataW H} {bytes : List UInt8} (ht : ts[j]? = some 23) (hd : ds[j]? = some (.agg [y, .lit (.string bytes), z])) : bytes.length ≤ reachBytes := by
  have := List.all_eq_true.1 h _ (DataW.weights_mem_each ht hd bytes.length (by simp [DataW.weights, DataW.weightsEach, Tryz.underlying23]))
  simpa using this
theorem cells_dig : Tryz.prog.cellsOf 23 = 3 := by kernel_rfl
theorem cells_dbool : Tryz.prog.cellsOf 4 = 1 := by kernel_rfl
theorem cells_dstr : Tryz.prog.cellsOf 9 = 1 := by kernel_rfl
theorem cells_dint : Tryz.prog.cellsOf 3 = 1 := by kernel_rfl
set_option maxRecDepth 100000 in
theorem open_digits {H : Type} {enc : TypeId × Value → H} {W : World} {base b0 : Nat} {held : Bool} {v : Value} {d : DataW H} {p : List MemPlace} (hv : Value.okWide Tryz.prog W .any base 23 v)
    (h : ∃ n, DataW.trod enc Tryz.prog W b0 (fun _ => true) held n 23 v.cells.toList = some (d, p))
    (hz : ∀ y bytes z, d = .agg [y, .lit (.string bytes), z] → bytes.length ≤ reachBytes) :
    ∃ ng s P, ∃ es : List Int, v = .agg #[.bool ng, .string s, .int .i64 P] ∧ Byt es ∧ s = strOfNums es ∧ es.length ≤ 140737488355328 ∧ -9223372036854775808 ≤ P ∧ P ≤ 9223372036854775807 := by
  obtain ⟨cs, rfl, hcz⟩ := okWide_struct Tryz.underlying23 hv
  rw [cells_dig] at hcz
  obtain ⟨c0, c1, c2, rfl⟩ : ∃ c0 c1 c2, cs = #[c0, c1, c2] := by
    obtain ⟨l⟩ := cs
    rcases l with _ | ⟨a, _ | ⟨b, _ | ⟨c, _ | ⟨e, l⟩⟩⟩⟩
    · simp at hcz
    · simp at hcz
    · simp at hcz
    · exact ⟨a, b, c, rfl⟩
    · simp at hcz
  obtain ⟨fuel, hf⟩ := h
  obtain ⟨y0, y1, y2, m, hx, hl, hy0, hy1, hy2⟩ := trod_struct3 Tryz.underlying23 hf
  have hy0' : DataW.trod enc Tryz.prog W b0 (fun _ => true) held m 4 [c0] = some y0 := by simpa [Value.cells, cells_dbool] using hy0
  have hy1' : DataW.trod enc Tryz.prog W b0 (fun _ => true) held m 9 [c1] = some y1 := by simpa [Value.cells, cells_dstr] using hy1
  have hy2' : DataW.trod enc Tryz.prog W b0 (fun _ => true) held m 3 [c2] = some y2 := by simpa [Value.cells, cells_dint] using hy2
  obtain ⟨ng, hc0, hb⟩ := DataW.trod_bool Tryz.underlying4 hy0'
  obtain ⟨s, hc1, hs, hsm⟩ := DataW.trod_string Tryz.underlying9 hy1'
  obtain ⟨P, hc2, hp, hw⟩ := DataW.trod_int Tryz.underlying3 hy2'
  simp at hc0 hc1 hc2
  subst hc0 hc1 hc2
  have hd : d = .agg [y0.1, y1.1, y2.1] := (Prod.mk.inj hx).1
  have hlen := hz y0.1 s.data.toList y2.1 (by rw [hd, hs])
  have hr := reachBytes_lt
  obtain ⟨es, e1, e2, e3⟩ := txt_of s
  simp [Lit.wf, IntKind.min, IntKind.max, IntKind.signed, IntKind.bits] at hw
  refine ⟨ng, s, P, es, rfl, e1, e3, ?_, by omega, by omega⟩
  rw [e2]
  have : s.size = s.data.toList.length := by rw [Array.length_toList]; rfl
  omega

end Go.Proofs.YthnpndlobhgdhaaGreatDoor
