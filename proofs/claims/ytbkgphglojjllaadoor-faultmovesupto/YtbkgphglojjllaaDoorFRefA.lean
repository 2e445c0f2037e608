/- ref13: Is, least, code, Code -/
import Derived.Test.YtbkgphglojjllaaDoorFNdM
namespace Go.Proofs.YtbkgphglojjllaaDoor
open Go.RowKit
set_option linter.unusedVariables false

/-- a node in a box of its own -/
theorem box_node {w : World} {k c a : Int} {p : ByteArray} {v : Value} (u : World) (hu : Below (w.alloc (.cells #[.int .i64 k, .int .i64 c, .int .i64 a, .string p, v] 24)).heap.size (w.alloc (.cells #[.int .i64 k, .int .i64 c, .int .i64 a, .string p, v] 24)) u) :
    u.cell? ⟨w.heap.size, 0, none⟩ = some (.int .i64 k) ∧ u.cell? ⟨w.heap.size, 1, none⟩ = some (.int .i64 c) ∧ u.cell? ⟨w.heap.size, 2, none⟩ = some (.int .i64 a) ∧ u.cell? ⟨w.heap.size, 3, none⟩ = some (.string p) ∧ u.cell? ⟨w.heap.size, 4, none⟩ = some v := by
  have hg := heap_alloc_new w (.cells #[.int .i64 k, .int .i64 c, .int .i64 a, .string p, v] 24)
  rw [← hu.block _ (Array.getElem?_eq_some_iff.1 hg).1] at hg
  exact ⟨(Lib.cell_of_heap hg 0).trans rfl, (Lib.cell_of_heap hg 1).trans rfl, (Lib.cell_of_heap hg 2).trans rfl, (Lib.cell_of_heap hg 3).trans rfl, (Lib.cell_of_heap hg 4).trans rfl⟩
set_option maxHeartbeats 4000000 in
set_option maxRecDepth 100000 in
theorem ris_any {w : World} {k c a : Int} {p : ByteArray} {ao : Option Addr} {ks : List Nd} {cap : Nat} :
    Calls Tryd.prog 23 #[.agg #[.int .i64 k, .int .i64 c, .int .i64 a, .string p, .slice ao ks.length cap]] w fun e w' => e = .returned (.bool (ndNil (.mk k c a p ks))) ∧ Below w.heap.size w w' := by
  have K0 := hide ((Below.refl w.heap.size w).alloc (Nat.le_refl _) (.cells #[.int .i64 k, .int .i64 c, .int .i64 a, .string p, .slice ao ks.length cap] 24))
  have hr : ndNil (.mk k c a p ks) = decide (k < 1 ∨ 7 < k ∨ (k = 1 ∧ (c < 1 ∨ 11 < c))) := rfl
  rw [hr]
  clear hr
  by_cases h1 : k < 1
  · rw [decide_eq_true (Or.inl h1)]
    go_enter Tryd.func23, Tryd.ntmps23
    go_wp2
    go_ret
    exact ⟨rfl, K0.out⟩
  · by_cases h2 : 7 < k
    · rw [decide_eq_true (Or.inr (Or.inl h2))]
      go_enter Tryd.func23, Tryd.ntmps23
      go_wp2
      go_ret
      exact ⟨rfl, K0.out⟩
    · by_cases h3 : k = 1
      · subst h3
        by_cases h4 : c < 1
        · rw [decide_eq_true (Or.inr (Or.inr ⟨rfl, Or.inl h4⟩))]
          go_enter Tryd.func23, Tryd.ntmps23
          go_wp2
          go_ret
          exact ⟨rfl, K0.out⟩
        · by_cases h5 : 11 < c
          · rw [decide_eq_true (Or.inr (Or.inr ⟨rfl, Or.inr h5⟩))]
            go_enter Tryd.func23, Tryd.ntmps23
            go_wp2
            go_ret
            exact ⟨rfl, K0.out⟩
          · rw [decide_eq_false (by omega)]
            go_enter Tryd.func23, Tryd.ntmps23
            go_wp2
            go_ret
            exact ⟨rfl, K0.out⟩
      · rw [decide_eq_false (by omega)]
        have h3' : (k == 1) = false := beq_eq_false_iff_ne.2 h3
        go_enter Tryd.func23, Tryd.ntmps23
        go_wp2
        go_ret
        exact ⟨rfl, K0.out⟩
theorem least_any {w : World} {x y : Int} : Calls Tryd.prog 48 #[.int .i64 x, .int .i64 y] w fun e w' => e = .returned (.int .i64 (lst x y)) ∧ w' = w := by
  unfold lst
  by_cases h1 : x < 0
  · rw [if_pos (Or.inl h1)]
    go_enter Tryd.func48, Tryd.ntmps48
    go_wp2
    go_ret
    exact ⟨rfl, rfl⟩
  · by_cases h2 : 0 ≤ y
    · by_cases h3 : y < x
      · rw [if_pos (Or.inr ⟨h2, h3⟩)]
        go_enter Tryd.func48, Tryd.ntmps48
        go_wp2
        go_ret
        exact ⟨rfl, rfl⟩
      · rw [if_neg (by omega)]
        go_enter Tryd.func48, Tryd.ntmps48
        go_wp2
        go_ret
        exact ⟨rfl, rfl⟩
    · rw [if_neg (by omega)]
      go_enter Tryd.func48, Tryd.ntmps48
      go_wp2
      go_ret
      exact ⟨rfl, rfl⟩
/-- what a node of a list gives -/
theorem NdSl.at {w : World} {ao : Option Addr} {cap : Nat} {xs : List Nd} {v : Value} (h : NdSl w v xs) (hv : v = .slice ao xs.length cap) {i : Nat} (hi : i < xs.length) :
    ∃ b off vi, ao = some ⟨b, off, none⟩ ∧ b < w.heap.size ∧ NdC w b (off + i * 5) xs[i] vi ∧ NdSl w vi xs[i].kids := by
  obtain ⟨ao', cap', _, vs, hc, hm, hl, hn, hx, hk⟩ := h
  cases hv
  obtain ⟨b, off, h1, h2, h3⟩ := hx (by omega)
  exact ⟨b, off, vs i, h1, h2, h3 i hi, hk i hi⟩
theorem NdSl.small {w : World} {v : Value} {xs : List Nd} (h : NdSl w v xs) : xs.length ≤ 2199023255552 := by
  obtain ⟨ao', cap', _, vs, hc, hm, hl, hn, hx, hk⟩ := h
  exact hl
theorem NdSl.len {w : World} {v : Value} {xs : List Nd} (h : NdSl w v xs) : ∃ ao cap, v = .slice ao xs.length cap ∧ xs.length ≤ cap ∧ cap ≤ 9223372036854775807 := by
  obtain ⟨ao', cap', _, vs, hc, hm, hl, hn, hx, hk⟩ := h
  exact ⟨ao', cap', rfl, hc, hm⟩

end Go.Proofs.YtbkgphglojjllaaDoor
