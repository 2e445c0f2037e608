/- DnO -/
import Derived.Test.YtefmlajndillbaaGreatDoorJsOq
namespace Go.Proofs.YtefmlajndillbaaGreatDoor
open Go.ChangeShapes Go.WideShapes Go.ChangeAt Go.RowKit Go.Deep
set_option linter.unusedVariables false

/-- a call of a script: its kind, its place, its bytes -/
abbrev Op3 := Int × Int × List Int
def OpIn (w : World) (g o : Nat) (l : List Op3) : Prop :=
  ∀ i (h : i < l.length), w.cell? ⟨g, o + i * 3, none⟩ = some (.int .i64 l[i].1) ∧ w.cell? ⟨g, o + i * 3 + 1, none⟩ = some (.int .i64 l[i].2.1) ∧ w.cell? ⟨g, o + i * 3 + 2, none⟩ = some (.string (strOfNums l[i].2.2)) ∧ uByt l[i].2.2
def OpRd (w : World) (v : Value) (l : List Op3) : Prop :=
  ∃ ao cap, v = .slice ao l.length cap ∧ l.length ≤ cap ∧ cap ≤ maxLen ∧ (0 < l.length → ∃ g o, ao = some ⟨g, o, none⟩ ∧ g < w.heap.size ∧ OpIn w g o l)
def totO : List Op3 → Nat
  | [] => 0
  | x :: l => x.2.2.length + 1 + totO l
theorem totO_len (l : List Op3) : l.length ≤ totO l := by
  induction l with
  | nil => simp [totO]
  | cons x l ih => simp only [totO, List.length_cons]; omega
theorem totO_take {l : List Op3} {i : Nat} (h : i < l.length) : totO (l.take (i + 1)) = totO (l.take i) + l[i].2.2.length + 1 := by
  induction l generalizing i with
  | nil => simp at h
  | cons x l ih =>
    cases i with
    | zero => simp [totO]
    | succ i =>
      have := ih (i := i) (by simpa using h)
      simp only [List.take_succ_cons, totO, this, List.getElem_cons_succ]
      omega
theorem totO_le (l : List Op3) (i : Nat) : totO (l.take i) ≤ totO l := by
  induction l generalizing i with
  | nil => simp [totO]
  | cons x l ih =>
    cases i with
    | zero => simp [totO]
    | succ i => have := ih i; simp only [List.take_succ_cons, totO]; omega
theorem ocell_lt {W : World} {p : Addr} {v : Value} (h : W.cell? p = some v) : p.block < W.heap.size := by
  rcases Nat.lt_or_ge p.block W.heap.size with g | g
  · exact g
  · simp [World.cell?, Array.getElem?_eq_none g] at h
theorem totO_bulk {H : Type} {n : Nat} {D : Nat → DataW H} {Q : Nat → Op3} (h : ∀ i, i < n → (Q i).2.2.length + 1 ≤ Rows.uptoBulk (D i)) : totO ((List.range n).map Q) ≤ Rows.uptoBulkAll ((List.range n).map D) := by
  have gen : ∀ l : List Nat, (∀ i ∈ l, i < n) → totO (l.map Q) ≤ Rows.uptoBulkAll (l.map D) := by
    intro l
    induction l with
    | nil => intro _; simp [totO, Rows.uptoBulkAll]
    | cons x l ih =>
      intro hl
      have h1 := h x (hl x (by simp))
      have h2 := ih (fun i hi => hl i (by simp [hi]))
      simp only [List.map_cons, totO, Rows.uptoBulkAll]
      omega
  exact gen _ (fun i hi => List.mem_range.1 hi)
set_option maxRecDepth 100000 in
theorem op_read {H : Type} {enc : TypeId × Value → H} {W : World} {b0 : Nat} {held : Bool} {fuel : Nat} {cs : List Value} {d : DataW H} {p : List MemPlace} (hf : DataW.trod enc Tryz.prog W b0 (fun _ => true) held fuel 31 cs = some (d, p)) :
    ∃ q : Op3, cs = [.int .i64 q.1, .int .i64 q.2.1, .string (strOfNums q.2.2)] ∧ uByt q.2.2 ∧ q.2.2.length + 1 ≤ Rows.uptoBulk d := by
  obtain ⟨xs, n, _, hx, hl, hlen, hfs⟩ := DataW.trod_struct Tryz.underlying31 hf
  rw [cells_op] at hl
  obtain ⟨c0, c1, c2, rfl⟩ : ∃ c0 c1 c2, cs = [c0, c1, c2] := by
    match cs, hl with
    | [c0, c1, c2], _ => exact ⟨c0, c1, c2, rfl⟩
  match xs, hlen, hx, hfs with
  | [y0, y1, y2], _, hx, hfs =>
    have f0 := hfs 0 _ rfl
    have f1 := hfs 1 _ rfl
    have f2 := hfs 2 _ rfl
    have g0 : DataW.trod enc Tryz.prog W b0 (fun _ => true) held n 3 [c0] = some y0 := by simpa [cells_oi] using f0
    have g1 : DataW.trod enc Tryz.prog W b0 (fun _ => true) held n 3 [c1] = some y1 := by simpa [cells_oi] using f1
    have g2 : DataW.trod enc Tryz.prog W b0 (fun _ => true) held n 9 [c2] = some y2 := by simpa [cells_os] using f2
    obtain ⟨m0, hc0, _, _⟩ := DataW.trod_int Tryz.underlying3 g0
    obtain ⟨m1, hc1, _, _⟩ := DataW.trod_int Tryz.underlying3 g1
    obtain ⟨s2, hc2, hp2, _⟩ := DataW.trod_string Tryz.underlying9 g2
    simp at hc0 hc1 hc2
    subst hc0 hc1 hc2
    obtain ⟨es, hub, hul, hus⟩ := utxt_of s2
    refine ⟨(m0, m1, es), by rw [hus], hub, ?_⟩
    have hdd : d = .agg [y0.1, y1.1, y2.1] := (Prod.mk.inj hx).1
    rw [hdd]
    have hy2 : y2.1 = .lit (.string s2.data.toList) := by rw [hp2]
    simp only [Rows.uptoBulk, Rows.uptoBulkAll, hy2]
    have e : s2.data.toList.length = s2.size := by rw [Array.length_toList]; rfl
    rw [e]
    show es.length + 1 ≤ _
    omega
set_option maxRecDepth 100000 in
theorem open_ops {H : Type} {enc : TypeId × Value → H} {W : World} {base b0 : Nat} {held : Bool} {v : Value} {d : DataW H} {p : List MemPlace} {n : Nat} (hv : Value.okWide Tryz.prog W .any base 22 v)
    (h : ∃ n, DataW.trod enc Tryz.prog W b0 (fun _ => true) held n 22 v.cells.toList = some (d, p)) (hb : Rows.uptoBulk d ≤ n) : ∃ l : List Op3, OpRd W v l ∧ totO l ≤ n := by
  obtain ⟨a0, len0, cap0, rfl⟩ := okWide_slice Tryz.underlying22 hv
  obtain ⟨fuel, hf⟩ := h
  rcases open_slice Tryz.underlying22 hf with ⟨hcs, _⟩ | ⟨x, l, c, m, n2, D, Pl, hcs, _, hlc, hm, hmm, hx5, hcell⟩
  · simp [Value.cells] at hcs
    obtain ⟨rfl, rfl, rfl⟩ := hcs
    exact ⟨[], ⟨none, 0, rfl, Nat.le_refl _, by unfold maxLen; omega, fun h => absurd h (by simp)⟩, by simp [totO]⟩
  · simp [Value.cells] at hcs
    obtain ⟨rfl, rfl, rfl⟩ := hcs
    have hx4 := (Prod.mk.inj hx5).1
    have hmc : m = cap0 := by simpa using hmm
    rw [cells_op] at hcell
    have hbk : Rows.uptoBulkAll ((List.range len0).map D) ≤ n := by
      rw [hx4] at hb
      simp only [Rows.uptoBulk] at hb
      omega
    have each : ∀ i, i < len0 → ∃ q : Op3, (∀ j, j < 3 → W.cell? ((x.add (i * 3)).add j) = [Value.int .i64 q.1, .int .i64 q.2.1, .string (strOfNums q.2.2)][j]?) ∧ uByt q.2.2 ∧ q.2.2.length + 1 ≤ Rows.uptoBulk (D i) := fun i hi => by
      obtain ⟨cs', e1, e2⟩ := hcell i (by omega)
      obtain ⟨q, rfl, q1, q2⟩ := op_read e2
      obtain ⟨_, _, hce⟩ := World.cells?_some e1
      exact ⟨q, fun j hj => hce j hj, q1, q2⟩
    obtain ⟨Q, hQ⟩ := choose_lt each
    have hlen2 : ((List.range len0).map Q).length = len0 := by simp
    refine ⟨(List.range len0).map Q, ⟨some x, cap0, by rw [hlen2], by rw [hlen2]; exact hlc, hm, fun hp => ?_⟩, Nat.le_trans (totO_bulk (fun i hi => (hQ i hi).2.2)) hbk⟩
    rw [hlen2] at hp
    have h0 := (hQ 0 hp).1 0 (by omega)
    obtain ⟨b, off, spot⟩ := x
    have hspot : spot = none := by simpa [Addr.add] using World.cell?_spot h0
    subst hspot
    refine ⟨b, off, rfl, by simpa [Addr.add] using ocell_lt h0, fun i hi => ?_⟩
    rw [hlen2] at hi
    have hq := (hQ i hi).1
    simp only [List.getElem_map, List.getElem_range]
    refine ⟨?_, ?_, ?_, (hQ i hi).2.1⟩
    · have := hq 0 (by omega); rw [Addr.add_lit, Addr.add_lit] at this; exact this
    · have := hq 1 (by omega); rw [Addr.add_lit, Addr.add_lit] at this; exact this
    · have := hq 2 (by omega); rw [Addr.add_lit, Addr.add_lit] at this; exact this

end Go.Proofs.YtefmlajndillbaaGreatDoor
