/- escape: wrongAt, Scan, Unquote -/
import Derived.Test.YtegokdhmpopggaaDoorXLit
namespace Go.Proofs.YtegokdhmpopggaaDoor
open Go.RowKit
set_option linter.unusedVariables false

/-- the sentinels' places, in Code's order -/
def sG (i : Nat) : Nat := [0, 1, 2, 3, 4, 5, 6, 7, 8, 9, 10].getD i 0
/-- the sentinels lie in the world: eleven unlike addresses -/
structure Snt (w : World) (a : Nat → Addr) : Prop where
  cell : ∀ i, i < 11 → w.cell? ⟨sG i, 0, none⟩ = some (.iface 137 (.pointer (some (a i))))
  obj : ∀ i, i < 11 → ∃ c t, w.heap[(a i).block]? = some (.cells c t (0, 0))
  ne : ∀ i j, i < 11 → j < 11 → i ≠ j → a i ≠ a j
theorem Snt.below {w w' : World} {a : Nat → Addr} (h : Snt w a) (hb : Below w.heap.size w w') : Snt w' a := by
  refine ⟨fun i hi => ?_, fun i hi => ?_, h.ne⟩
  · have hc := h.cell i hi
    have hl : sG i < w.heap.size := by
      rcases Nat.lt_or_ge (sG i) w.heap.size with g | g
      · exact g
      · simp [World.cell?, Array.getElem?_eq_none g] at hc
    rw [(ubcell0 hb).1 _ _ hl]; exact hc
  · obtain ⟨c, t, ho⟩ := h.obj i hi
    exact ⟨c, t, by rw [hb.block _ (Array.getElem?_eq_some_iff.1 ho).1]; exact ho⟩
/-- a fault of ErrInput at a place -/
def FltIs (w : World) (a : Nat → Addr) (v : Value) (k : Nat) : Prop :=
  ∃ g, v = .iface 65 (.pointer (some ⟨g, 0, none⟩)) ∧ w.heap[g]? = some (.cells #[.iface 137 (.pointer (some (a 2))), .int .i64 k, .string ⟨#[]⟩] 69 (0, 0))
theorem FltIs.below {w w' : World} {a : Nat → Addr} {v : Value} {k : Nat} (h : FltIs w a v k) (hb : Below w.heap.size w w') : FltIs w' a v k := by
  obtain ⟨g, rfl, hg⟩ := h
  exact ⟨g, rfl, by rw [hb.block _ (Array.getElem?_eq_some_iff.1 hg).1]; exact hg⟩
theorem wrongAt_any {w : World} {a : Nat → Addr} {k : Nat} (hS : Snt w a) :
    Calls Tryd.prog 26 #[.int .i64 k] w fun e w' => ∃ v, e = .returned v ∧ FltIs w' a v k ∧ Below w.heap.size w w' := by
  have c2 := hS.cell 2 (by omega)
  simp only [sG, List.getD_cons_succ, List.getD_cons_zero] at c2
  clear hS
  go_enter Tryd.func26, Tryd.ntmps26
  go_wp2
  go_ret
  exact ⟨_, rfl, ⟨w.heap.size, rfl, heap_alloc_new w _⟩, (Below.refl _ _).alloc (Nat.le_refl _) _⟩

/-- what Scan answers -/
def ScanIs (ls : List Int) (at_ : Int) (a : Nat → Addr) (e : Ending) (w : World) : Prop :=
  (¬ (0 ≤ at_ ∧ at_ ≤ ls.length) ∧ e = .returned (.tuple #[.string ⟨#[]⟩, .int .i64 0, .iface 137 (.pointer (some (a 0)))]))
  ∨ (∃ k : Nat, at_ = k ∧ k ≤ ls.length ∧ ((∃ t n, xRun .start (ls.drop k) [] k = .ok t n ∧ n ≤ ls.length ∧ e = .returned (.tuple #[.string (strOfNums t), .int .i64 n, .nilIface])) ∨ (∃ n v, xRun .start (ls.drop k) [] k = .bad n ∧ n ≤ ls.length ∧ e = .returned (.tuple #[.string ⟨#[]⟩, .int .i64 0, v]) ∧ FltIs w a v n)))

set_option maxHeartbeats 4000000 in
set_option maxRecDepth 100000 in
theorem Rdr.string {B b k : Nat} {s : ByteArray} {es : List Int} {w : World} (h : Rdr B b s k es w) (hBw : B ≤ w.heap.size) :
    Calls Tryd.prog 23 #[.pointer (some ⟨b, 2, none⟩)] w fun e w' => e = .returned (.string (strOfNums es)) ∧ Below B w w' ∧ w'.cell? ⟨b, 1, none⟩ = some (.int .i64 k) := by
  rw [byE_str]
  obtain ⟨p, hB, v, hbk, hown, hne⟩ := h.any
  have hlt := h.lt
  clear h
  obtain ⟨l, hl⟩ : ∃ l, byE es = l := ⟨_, rfl⟩
  rw [hl] at hown ⊢
  clear hl
  have hc1 : ∀ {W : World}, W.heap[b]? = w.heap[b]? → W.cell? ⟨b, 1, none⟩ = some (.int .i64 k) := fun e => by
    rw [Lib.cell_of_heap (e.trans hbk)]; rfl
  have h3 : w.drew.cell? ⟨b, 3, none⟩ = some v := by
    have : w.drew.heap[b]? = some (.cells #[.string s, .int .i64 k, p, v] 55 (0, 0)) := hbk
    rw [Lib.cell_of_heap this]; rfl
  rw [Lib.byteCells_length] at hown
  rcases hown.2 with ⟨rfl, h0⟩ | ⟨g, cap, cur, rfl, hbg, hg, hnc, hcm, hcs, htake⟩
  · have : l = [] := List.length_eq_zero_iff.1 h0
    subst this
    have hUS := fun (W : World) (q : Option Addr) => Lib.run_unsafeString_none (P := Tryd.prog) W 81 3 9 q
    have hSD : (Builtin.unsafeSliceData_ #[48] 81 #[.slice none 0 0]).run Tryd.prog w.drew = .ok (.pointer none) w.drew := rfl
    go_enter Tryd.func23, Tryd.ntmps23
    go_wp2
    go_region
    all_goals (go_wp2; go_ret; exact ⟨rfl, Below.drew (Below.refl B w), hc1 rfl⟩)
  · by_cases hl0 : l = []
    · subst hl0
      have hUS := fun (W : World) (q : Option Addr) => Lib.run_unsafeString_none (P := Tryd.prog) W 81 3 9 q
      by_cases hc0 : cap = 0
      · subst hc0
        have hSD : (Builtin.unsafeSliceData_ #[48] 81 #[.slice (some ⟨g, 0, none⟩) 0 0]).run Tryd.prog w.drew = .ok (.pointer (some ⟨w.drew.heap.size, 0, none⟩)) (w.drew.alloc (.view ⟨g, 0, none⟩ 5)) :=
          Lib.run_unsafeSliceData_zero w.drew _ _ 5 Tryd.underlying81 ⟨g, 0, none⟩ 0 (5, cur.size) (by have hg' : w.drew.heap[g]? = some (.cells cur 5 (0, 0)) := hg; simp [World.shape?, hg'])
        have hv1 : (w.drew.alloc (.view ⟨g, 0, none⟩ 5)).heap[b]? = w.heap[b]? := Below.heap_alloc w.drew _ b hlt
        have c2 : (w.drew.alloc (.view ⟨g, 0, none⟩ 5)).cell? ⟨b, 3, none⟩ = some (.slice (some ⟨g, 0, none⟩) 0 0) := by
          rw [Lib.cell_of_heap (hv1.trans hbk)]; rfl
        have c3 : (w.alloc (.view ⟨g, 0, none⟩ 5)).drew.cell? ⟨b, 3, none⟩ = some (.slice (some ⟨g, 0, none⟩) 0 0) := c2
        have c0 : w.cell? ⟨b, 3, none⟩ = some (.slice (some ⟨g, 0, none⟩) 0 0) := h3
        simp only [List.length_nil] at h3 c0
        go_enter Tryd.func23, Tryd.ntmps23
        go_wp2
        go_region
        all_goals (go_wp2; go_ret; exact ⟨rfl, (Below.drew (Below.refl B w)).alloc hBw _, hc1 hv1⟩)
      · have hSD : (Builtin.unsafeSliceData_ #[48] 81 #[.slice (some ⟨g, 0, none⟩) 0 cap]).run Tryd.prog w.drew = .ok (.pointer (some ⟨g, 0, none⟩)) w.drew :=
          Lib.run_unsafeSliceData_row _ _ _ _ _ _ hc0
        simp only [List.length_nil] at h3
        clear hc0 hnc hcm hcs htake
        go_enter Tryd.func23, Tryd.ntmps23
        go_wp2
        go_region
        all_goals (go_wp2; go_ret; exact ⟨rfl, Below.drew (Below.refl B w), hc1 rfl⟩)
    · have hll : l.length ≠ 0 := by simpa using hl0
      have hSD : (Builtin.unsafeSliceData_ #[48] 81 #[.slice (some ⟨g, 0, none⟩) l.length cap]).run Tryd.prog w.drew = .ok (.pointer (some ⟨g, 0, none⟩)) w.drew :=
        Lib.run_unsafeSliceData_row _ _ _ _ _ _ (by omega)
      have hUS : (Builtin.unsafeString_ #[81, 3] 9 #[.pointer (some ⟨g, 0, none⟩), .int .i64 l.length]).run Tryd.prog w.drew = .ok (.string ⟨l.toArray⟩) (w.drew.freeze ⟨g, 0, none⟩ l.length) := by
        refine Lib.run_unsafeString_row w.drew 81 3 9 5 Tryd.underlying81 (by kernel_rfl) g cur.size (by have hg' : w.drew.heap[g]? = some (.cells cur 5 (0, 0)) := hg; simp [World.shape?, hg']) l hl0 (by omega) (by unfold maxLen at hcm; omega) ?_
        intro j x hx
        have := hown.cells (g := g) rfl j (.int .u8 x.toNat) (by simp [Lib.byteCells, hx])
        exact this
      have hgb : g ≠ b := fun e => hne (by simp [Value.ownBlock, e])
      have hfz : (w.drew.freeze ⟨g, 0, none⟩ l.length).heap[b]? = w.heap[b]? := by
        unfold World.freeze
        rw [if_neg hll]
        show (Array.modify _ _ _)[b]? = _
        rw [Array.getElem?_modify, if_neg hgb]
        rfl
      clear hnc hcm hcs htake
      go_enter Tryd.func23, Tryd.ntmps23
      go_wp2
      go_region
      all_goals (go_wp2; go_ret; exact ⟨rfl, Lib.below_freeze (Below.drew (Below.refl B w)) (p := ⟨g, 0, none⟩) hbg _, hc1 hfz⟩)

end Go.Proofs.YtegokdhmpopggaaDoor
