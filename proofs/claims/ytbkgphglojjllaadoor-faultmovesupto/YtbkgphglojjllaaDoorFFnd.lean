/- fault.is, fault.found: a deferred recover that finds nothing -/
import Derived.Test.YtbkgphglojjllaaDoorFSnt
import Derived.Test.YtbkgphglojjllaaDoorFErr
namespace Go.Proofs.YtbkgphglojjllaaDoor
open Go.RowKit
set_option linter.unusedVariables false

theorem is1_idle (w : World) : CallsD Tryd.prog 55 #[] .returning w fun e u' w' => e = .returned (.tuple #[]) ∧ u' = .returning ∧ w' = w := by
  refine callsD_of_wpS Tryd.func55 rfl fun c₀ cs hu => ?_
  apply wpS_region
  cases c₀
  simp_all [wpOpsS, go_sem, recoverD, Tryd.ntmps55, bodyPostS, results, Tryd.results55]
theorem found1_idle (w : World) : CallsD Tryd.prog 51 #[] .returning w fun e u' w' => e = .returned (.tuple #[]) ∧ u' = .returning ∧ w' = w := by
  refine callsD_of_wpS Tryd.func51 rfl fun c₀ cs hu => ?_
  apply wpS_region
  cases c₀
  simp_all [wpOpsS, go_sem, recoverD, Tryd.ntmps51, bodyPostS, results, Tryd.results51]

theorem fis_any {w : World} {a : Nat → Addr} {u : TypeId} {x : Value} {b : Nat → Bool} {i : Nat} (hE : ErrIs w a u x b) (hi : i < 11) :
    Calls Tryd.prog 47 #[.iface u x, .iface 95 (.pointer (some (a i)))] w fun e w' => e = .returned (.bool (b i)) ∧ Below w.heap.size w w' := by
  have HE := hide (hE w (Below.refl _ _) i hi)
  clear hE
  go_enter_defers Tryd.func47, Tryd.ntmps47
  go_wp2_with fail
  refine HE.out.mono ?_
  rintro e w1 ⟨rfl, hb⟩
  replace hb := hide hb
  go_wp2
  refine leaves_cons (f := 55) (args := #[]) (by simp) (by simp [go_sem]) ?_
  refine (is1_idle _).mono ?_
  rintro e u' w'' ⟨rfl, rfl, rfl⟩
  simp [Leaves, settle, results, Tryd.results47, go_sem]
  exact hb.out

/-- what found tells -/
def fndV (o : Option (Int × ByteArray)) (e : Value) : Value := match o with
  | none => .tuple #[.agg #[.nilIface, .int .i64 0, .string ⟨#[]⟩], .bool false]
  | some q => .tuple #[.agg #[e, .int .i64 q.1, .string q.2], .bool true]
theorem found_any {w : World} {u : TypeId} {x : Value} {r : Option (Option Addr)} {o : Option (Int × ByteArray)} (hA : AsIs w u x r) (hT : Told w r o) :
    Calls Tryd.prog 40 #[.iface u x] w fun e w' => (∃ v, e = .returned (fndV o v) ∧ (v = .nilIface ∨ ∃ u x, v = .iface u x)) ∧ Below w.heap.size w w' := by
  have hB0 : Below w.heap.size w (w.alloc (.cells #[.nilIface, .int .i64 0, .string ⟨#[]⟩] 45)) := (Below.refl _ _).alloc (Nat.le_refl _) _
  have HA := hide (hA _ hB0)
  have HB0 := hide hB0
  clear hA hB0
  have hz : (w.alloc (.cells #[.nilIface, .int .i64 0, .string ⟨#[]⟩] 45)).heap.size = w.heap.size + 1 := by simp
  rw [hz] at HA
  have HN := hide (heap_alloc_new w (.cells #[.nilIface, .int .i64 0, .string ⟨#[]⟩] 45))
  have HT := hide hT
  clear hT hz
  go_enter_defers Tryd.func40, Tryd.ntmps40
  go_wp2_with fail
  refine HA.out.mono ?_
  rintro e w1 ⟨rfl, hb, hc⟩
  have h0 : w1.heap[w.heap.size]? = some (.cells #[.nilIface, .int .i64 0, .string ⟨#[]⟩] 45 (0, 0)) := by rw [hb.block _ (by omega)]; exact HN.out
  have K1 := hide (HB0.out.trans (hb.mono (Nat.le_succ _)))
  have c0 : w1.cell? ⟨w.heap.size, 0, none⟩ = some .nilIface := by rw [Lib.cell_of_heap h0]; rfl
  have c1 : w1.cell? ⟨w.heap.size, 1, none⟩ = some (.int .i64 0) := by rw [Lib.cell_of_heap h0]; rfl
  have c2 : w1.cell? ⟨w.heap.size, 2, none⟩ = some (.string ⟨#[]⟩) := by rw [Lib.cell_of_heap h0]; rfl
  have f0 : w1.frozen? ⟨w.heap.size, 0, none⟩ = false := Lib.frozen_of_heap h0 0
  have f1 : w1.frozen? ⟨w.heap.size, 1, none⟩ = false := Lib.frozen_of_heap h0 1
  have f2 : w1.frozen? ⟨w.heap.size, 2, none⟩ = false := Lib.frozen_of_heap h0 2
  have T1 := HT.out.below K1.out
  clear HA HB0 HN HT hb
  replace h0 := hide h0
  rcases T1 with ⟨rfl, rfl | rfl⟩ | ⟨g, ev, k, s, rfl, rfl, hg, hev⟩
  · simp only [Option.isSome_none, Option.getD_none] at hc ⊢
    have h3 := three_set .nilIface (.int .i64 0) (.string ⟨#[]⟩) h0.out
    have K3 := hide (three_below K1.out (Nat.le_refl _) .nilIface (.int .i64 0) (.string ⟨#[]⟩))
    go_wp2
    generalize ((w1.setCell ⟨w.heap.size, 0, none⟩ .nilIface).setCell ⟨w.heap.size, 1, none⟩ (.int .i64 0)).setCell ⟨w.heap.size, 2, none⟩ (.string ⟨#[]⟩) = W3 at h3 K3 ⊢
    refine leaves_cons (f := 51) (args := #[]) (by simp) (by simp [go_sem]) ?_
    refine (found1_idle _).mono ?_
    rintro e u' w'' ⟨rfl, rfl, rfl⟩
    have d0 := Lib.cell_of_heap h3 0
    have d1 := Lib.cell_of_heap h3 1
    have d2 := Lib.cell_of_heap h3 2
    simp at d0 d1 d2
    clear h3
    simp [Leaves, settle, results, Tryd.results40, go_sem, d0, d1, d2, fndV]
    exact K3.out
  · simp only [Option.isSome_some, Option.getD_some] at hc ⊢
    have h3 := three_set .nilIface (.int .i64 0) (.string ⟨#[]⟩) h0.out
    have K3 := hide (three_below K1.out (Nat.le_refl _) .nilIface (.int .i64 0) (.string ⟨#[]⟩))
    go_wp2
    generalize ((w1.setCell ⟨w.heap.size, 0, none⟩ .nilIface).setCell ⟨w.heap.size, 1, none⟩ (.int .i64 0)).setCell ⟨w.heap.size, 2, none⟩ (.string ⟨#[]⟩) = W3 at h3 K3 ⊢
    refine leaves_cons (f := 51) (args := #[]) (by simp) (by simp [go_sem]) ?_
    refine (found1_idle _).mono ?_
    rintro e u' w'' ⟨rfl, rfl, rfl⟩
    have d0 := Lib.cell_of_heap h3 0
    have d1 := Lib.cell_of_heap h3 1
    have d2 := Lib.cell_of_heap h3 2
    simp at d0 d1 d2
    clear h3
    simp [Leaves, settle, results, Tryd.results40, go_sem, d0, d1, d2, fndV]
    exact K3.out
  · simp only [Option.isSome_some, Option.getD_some] at hc ⊢
    have g0 : w1.cell? ⟨g, 0, none⟩ = some ev := by rw [Lib.cell_of_heap hg]; rfl
    have g1 : w1.cell? ⟨g, 1, none⟩ = some (.int .i64 k) := by rw [Lib.cell_of_heap hg]; rfl
    have g2 : w1.cell? ⟨g, 2, none⟩ = some (.string s) := by rw [Lib.cell_of_heap hg]; rfl
    clear hg
    rcases hev with rfl | ⟨eu, ex, rfl⟩
    · skip
      have h3 := three_set .nilIface (.int .i64 k) (.string s) h0.out
      have K3 := hide (three_below K1.out (Nat.le_refl _) .nilIface (.int .i64 k) (.string s))
      go_wp2
      generalize ((w1.setCell ⟨w.heap.size, 0, none⟩ .nilIface).setCell ⟨w.heap.size, 1, none⟩ (.int .i64 k)).setCell ⟨w.heap.size, 2, none⟩ (.string s) = W3 at h3 K3 ⊢
      refine leaves_cons (f := 51) (args := #[]) (by simp) (by simp [go_sem]) ?_
      refine (found1_idle _).mono ?_
      rintro e u' w'' ⟨rfl, rfl, rfl⟩
      have d0 := Lib.cell_of_heap h3 0
      have d1 := Lib.cell_of_heap h3 1
      have d2 := Lib.cell_of_heap h3 2
      simp at d0 d1 d2
      clear h3
      simp only [Leaves, settle, results, Tryd.results40, fndV]
      simp [go_sem, d0, d1, d2]
      exact K3.out
    · skip
      have h3 := three_set (.iface eu ex) (.int .i64 k) (.string s) h0.out
      have K3 := hide (three_below K1.out (Nat.le_refl _) (.iface eu ex) (.int .i64 k) (.string s))
      go_wp2
      generalize ((w1.setCell ⟨w.heap.size, 0, none⟩ (.iface eu ex)).setCell ⟨w.heap.size, 1, none⟩ (.int .i64 k)).setCell ⟨w.heap.size, 2, none⟩ (.string s) = W3 at h3 K3 ⊢
      refine leaves_cons (f := 51) (args := #[]) (by simp) (by simp [go_sem]) ?_
      refine (found1_idle _).mono ?_
      rintro e u' w'' ⟨rfl, rfl, rfl⟩
      have d0 := Lib.cell_of_heap h3 0
      have d1 := Lib.cell_of_heap h3 1
      have d2 := Lib.cell_of_heap h3 2
      simp at d0 d1 d2
      clear h3
      simp only [Leaves, settle, results, Tryd.results40, fndV]
      simp [go_sem, d0, d1, d2]
      exact K3.out

end Go.Proofs.YtbkgphglojjllaaDoor
