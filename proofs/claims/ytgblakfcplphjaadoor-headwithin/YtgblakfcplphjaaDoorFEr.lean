/- an error: what it is, its place; New, Shift, In; tells, has -/
import Derived.Test.YtgblakfcplphjaaDoorFTell
import Derived.Deep.RegionHeld3
import Derived.Lib.Bytealg
namespace Go.Proofs.YtgblakfcplphjaaDoor
open Go.RowKit
set_option linter.unusedVariables false

/-- an error that is not nil: which of the eleven it is, and the place that it tells -/
def Er (w : World) (a : Nat → Addr) (v : Value) (b : Nat → Bool) (o : Option (Int × ByteArray)) : Prop :=
  ∃ u x r, v = .iface u x ∧ ErrIs w a u x b ∧ AsIs w u x r ∧ Told w r o
theorem Er.below {w w' : World} {a : Nat → Addr} {v : Value} {b : Nat → Bool} {o : Option (Int × ByteArray)} (h : Er w a v b o) (hb : Below w.heap.size w w') : Er w' a v b o := by
  obtain ⟨u, x, r, rfl, h1, h2, h3⟩ := h
  exact ⟨u, x, r, rfl, h1.below hb, h2.below hb, h3.below hb⟩
theorem er_flt {w : World} {a : Nat → Addr} (hS : Snt w a) (hH : Hnd w) {g m : Nat} {k : Int} {s : ByteArray} (hm : m < 11) (hg : FltAt w g (.iface 102 (.pointer (some (a m)))) k s) :
    Er w a (.iface 63 (.pointer (some ⟨g, 0, none⟩))) (fun i => decide (i = m)) (some (k, s)) :=
  ⟨_, _, _, rfl, errIs_flt hS hm hg, asIs_flt hH, Or.inr ⟨g, _, k, s, rfl, rfl, hg, Or.inr ⟨_, _, rfl⟩⟩⟩

theorem new_at {w : World} {o : Obj} {n : Nat} (h : n = w.heap.size) : (w.alloc o).heap[n]? = some o := h ▸ heap_alloc_new w o

theorem fnew_none {w : World} {a : Nat → Addr} {c k : Int} {s : ByteArray} (hS : Snt w a) (hc : c < 1 ∨ 11 < c) :
    Calls Tryd.prog 33 #[.int .i64 c, .int .i64 k, .string s] w fun e w' => e = .returned .nilIface ∧ Below w.heap.size w w' := by
  have HN := hide (numbered_any hS)
  clear hS
  go_enter Tryd.func33, Tryd.ntmps33
  go_wp2_with fail
  refine HN.out.mono ?_
  rintro e w1 ⟨rfl, hb1⟩
  have K1 := hide (hb1.alloc hb1.size (.cells #[sE a 0, sE a 1, sE a 2, sE a 3, sE a 4, sE a 5, sE a 6, sE a 7, sE a 8, sE a 9, sE a 10] 61))
  simp only [sE] at K1
  clear hb1 HN
  simp only [sAgg, sE]
  rcases hc with h | h
  · go_wp2
    go_ret
    exact ⟨rfl, K1.out⟩
  · have h2 : ¬ c < 1 := by omega
    go_wp2
    go_ret
    exact ⟨rfl, K1.out⟩
set_option maxRecDepth 100000 in
theorem fnew_some {w : World} {a : Nat → Addr} {m : Nat} {k : Int} {s : ByteArray} (hS : Snt w a) (hm : m < 11) :
    Calls Tryd.prog 33 #[.int .i64 ((m : Int) + 1), .int .i64 k, .string s] w fun e w' => ∃ g, w.heap.size ≤ g ∧ e = .returned (.iface 63 (.pointer (some ⟨g, 0, none⟩))) ∧ FltAt w' g (.iface 102 (.pointer (some (a m)))) k s ∧ Below w.heap.size w w' := by
  have HN := hide (numbered_any hS)
  clear hS
  have p1 : ¬ ((m : Int) + 1 < 1) := by omega
  have p2 : ¬ (11 < (m : Int) + 1) := by omega
  have p3 : (m : Int) + 1 - 1 = m := by omega
  have p4 : (0 : Int) ≤ (m : Int) := by omega
  have p5 : (m : Int) < 11 := by omega
  go_enter Tryd.func33, Tryd.ntmps33
  go_wp2_with fail
  refine HN.out.mono ?_
  rintro e w1 ⟨rfl, hb1⟩
  have K1 := hide (hb1.alloc hb1.size (.cells #[sE a 0, sE a 1, sE a 2, sE a 3, sE a 4, sE a 5, sE a 6, sE a 7, sE a 8, sE a 9, sE a 10] 61))
  have HC := hide (show (w1.alloc (.cells #[sE a 0, sE a 1, sE a 2, sE a 3, sE a 4, sE a 5, sE a 6, sE a 7, sE a 8, sE a 9, sE a 10] 61)).cell? ⟨w1.heap.size, m, none⟩ = some (.iface 102 (.pointer (some (a m)))) from by
    rw [Lib.cell_of_heap (heap_alloc_new w1 _)]
    rcases (by omega : m = 0 ∨ m = 1 ∨ m = 2 ∨ m = 3 ∨ m = 4 ∨ m = 5 ∨ m = 6 ∨ m = 7 ∨ m = 8 ∨ m = 9 ∨ m = 10) with rfl | rfl | rfl | rfl | rfl | rfl | rfl | rfl | rfl | rfl | rfl <;> rfl)
  have hsz := hb1.size
  simp only [sE] at K1 HC
  clear hb1 HN
  simp only [sAgg, sE]
  have hc := HC.out
  clear HC
  go_wp2
  go_ret
  exact ⟨w1.heap.size + 1, by omega, rfl, new_at (by simp), K1.out.alloc (by simp; omega) _⟩

/-- what is ahead of a path where there is none -/
def oA (o : Option (Int × ByteArray)) : Int := match o with | none => 0 | some q => q.1
def oS (o : Option (Int × ByteArray)) : ByteArray := match o with | none => ⟨#[]⟩ | some q => q.2

end Go.Proofs.YtgblakfcplphjaaDoor
