/- the laws' Code, At, Path, Is, IsAt -/
import Derived.Test.YtegokdhmpopggaaDoorXErr
namespace Go.Proofs.YtegokdhmpopggaaDoor
open Go.RowKit
set_option linter.unusedVariables false

/-- the handle of the type error lies in the world -/
def Hnd (w : World) : Prop := w.cell? ⟨11, 0, none⟩ = some (.iface 112 (.agg #[.pointer (some ⟨14, 26, none⟩)]))
theorem Hnd.below {w w' : World} (h : Hnd w) (hb : Below w.heap.size w w') : Hnd w' := by
  have hl : 11 < w.heap.size := by
    unfold Hnd at h
    rcases Nat.lt_or_ge 11 w.heap.size with g | g
    · exact g
    · simp [World.cell?, Array.getElem?_eq_none g] at h
  unfold Hnd
  rw [(ubcell0 hb).1 _ _ hl]; exact h

theorem code_nil {w : World} : Calls Tryd.prog 20 #[.nilIface] w fun e w' => e = .returned (.int .i64 0) ∧ w' = w := by
  go_enter Tryd.func20, Tryd.ntmps20
  go_wp2
  go_ret
  exact ⟨rfl, rfl⟩

set_option maxHeartbeats 4000000 in
set_option maxRecDepth 100000 in
theorem code_any {w : World} {a : Nat → Addr} {u : TypeId} {x : Value} {m : Nat} (hS : Snt w a) (hE : ErrIs w a u x m) (hm : m < 11) :
    Calls Tryd.prog 20 #[.iface u x] w fun e w' => e = .returned (.int .i64 ((m : Int) + 1)) ∧ Below w.heap.size w w' := by
  have c0 := hS.cell 0 (by omega); have c1 := hS.cell 1 (by omega); have c2 := hS.cell 2 (by omega); have c3 := hS.cell 3 (by omega)
  have c4 := hS.cell 4 (by omega); have c5 := hS.cell 5 (by omega); have c6 := hS.cell 6 (by omega); have c7 := hS.cell 7 (by omega)
  have c8 := hS.cell 8 (by omega); have c9 := hS.cell 9 (by omega); have c10 := hS.cell 10 (by omega)
  simp only [sG, List.getD_cons_zero, List.getD_cons_succ] at c0 c1 c2 c3 c4 c5 c6 c7 c8 c9 c10
  have HE := hide hE
  clear hS hE
  have K0 : Below w.heap.size w (w.alloc (.cells #[.iface 137 (.pointer (some (a 0))), .iface 137 (.pointer (some (a 1))), .iface 137 (.pointer (some (a 2))), .iface 137 (.pointer (some (a 3))), .iface 137 (.pointer (some (a 4))), .iface 137 (.pointer (some (a 5))), .iface 137 (.pointer (some (a 6))), .iface 137 (.pointer (some (a 7))), .iface 137 (.pointer (some (a 8))), .iface 137 (.pointer (some (a 9))), .iface 137 (.pointer (some (a 10)))] 70)) := (Below.refl _ _).alloc (Nat.le_refl _) _
  have HK := hide K0
  have HC := hide (show ∀ i, i < 11 → (w.alloc (.cells #[.iface 137 (.pointer (some (a 0))), .iface 137 (.pointer (some (a 1))), .iface 137 (.pointer (some (a 2))), .iface 137 (.pointer (some (a 3))), .iface 137 (.pointer (some (a 4))), .iface 137 (.pointer (some (a 5))), .iface 137 (.pointer (some (a 6))), .iface 137 (.pointer (some (a 7))), .iface 137 (.pointer (some (a 8))), .iface 137 (.pointer (some (a 9))), .iface 137 (.pointer (some (a 10)))] 70)).cell? ⟨w.heap.size, i, none⟩ = some (.iface 137 (.pointer (some (a i)))) from fun i hi => by
    rw [Lib.cell_of_heap (heap_alloc_new w _)]
    rcases (by omega : i = 0 ∨ i = 1 ∨ i = 2 ∨ i = 3 ∨ i = 4 ∨ i = 5 ∨ i = 6 ∨ i = 7 ∨ i = 8 ∨ i = 9 ∨ i = 10) with rfl | rfl | rfl | rfl | rfl | rfl | rfl | rfl | rfl | rfl | rfl <;> rfl)
  clear K0
  go_enter Tryd.func20, Tryd.ntmps20
  go_wp2
  generalize w.alloc (.cells #[.iface 137 (.pointer (some (a 0))), .iface 137 (.pointer (some (a 1))), .iface 137 (.pointer (some (a 2))), .iface 137 (.pointer (some (a 3))), .iface 137 (.pointer (some (a 4))), .iface 137 (.pointer (some (a 5))), .iface 137 (.pointer (some (a 6))), .iface 137 (.pointer (some (a 7))), .iface 137 (.pointer (some (a 8))), .iface 137 (.pointer (some (a 9))), .iface 137 (.pointer (some (a 10)))] 70) = W at *
  clear c0 c1 c2 c3 c4 c5 c6 c7 c8 c9 c10
  go_loopg [4, 5] 11 (fun c n i wr => ∃ k : Nat, k ≤ 11 ∧ i = .int .i64 k ∧ c = 11 - k ∧ n = .int .i64 (if m < k then (m : Int) + 1 else -1) ∧ W = wr)
  case atStart => exact ⟨0, by omega, rfl, by omega, by simp, rfl⟩
  case round =>
    obtain ⟨k, hk, rfl, hc, rfl, rfl⟩ := hrel
    by_cases hlt : k < 11
    · have p1 : (k : Int) < 11 := by omega
      have p0 : (0 : Int) ≤ (k : Int) := by omega
      have cc := HC.out k hlt
      have HI := hide (HE.out W HK.out k hlt)
      by_cases hkm : k = m
      · subst hkm
        rw [decide_eq_true rfl] at HI
        rw [if_neg (Nat.lt_irrefl k)]
        go_wp2_with (go_at_call 32; refine HI.out.mono ?_; rintro e w' ⟨rfl, rfl⟩)
        go_roundg (11 - (k + 1))
        case measure => omega
        case rel => exact ⟨k + 1, by omega, by simp, rfl, by rw [if_pos (by omega)], rfl⟩
      · rw [decide_eq_false hkm] at HI
        obtain ⟨z, hz⟩ : ∃ z : Int, (if m < k then (m : Int) + 1 else -1) = z := ⟨_, rfl⟩
        have HZ := hide (show (if m < k + 1 then (m : Int) + 1 else -1) = z by
          rw [← hz]
          by_cases g : m < k
          · rw [if_pos g, if_pos (by omega)]
          · rw [if_neg g, if_neg (by omega)])
        rw [hz]
        clear hz hkm
        go_wp2_with (go_at_call 32; refine HI.out.mono ?_; rintro e w' ⟨rfl, rfl⟩)
        go_roundg (11 - (k + 1))
        case measure => omega
        case rel => exact ⟨k + 1, by omega, by simp, rfl, by rw [HZ.out], rfl⟩
    · have p1 : ¬ (k : Int) < 11 := by omega
      rw [if_pos (by omega)]
      go_wp2
      go_ret
      exact ⟨rfl, HK.out⟩

/-- .. and At and Path tell of a fault -/
theorem at_flt {w : World} {a : Nat → Addr} {v : Value} {k : Nat} (hH : Hnd w) (hF : FltIs w a v k) :
    Calls Tryd.prog 19 #[v] w fun e w' => e = .returned (.tuple #[.int .i64 k, .bool true]) ∧ Below w.heap.size w w' := by
  obtain ⟨g, rfl, hg⟩ := hF
  have hgl := (Array.getElem?_eq_some_iff.1 hg).1
  have HA := hide (as_flt (w := w) (e := ⟨g, 0, none⟩) hH)
  have HC := hide (fun (W : World) (hb : Below w.heap.size w W) => show W.cell? ⟨g, 1, none⟩ = some (.int .i64 k) by
    rw [(ubcell0 hb).1 _ _ hgl, Lib.cell_of_heap hg]; rfl)
  clear hH hg
  go_enter Tryd.func19, Tryd.ntmps19
  go_wp2_with fail
  refine HA.out.mono ?_
  rintro e w1 ⟨rfl, hb, hc⟩
  have c1 := HC.out w1 hb
  replace hb := hide hb
  go_wp2
  go_ret2
  exact ⟨rfl, hb.out⟩
theorem path_flt {w : World} {a : Nat → Addr} {v : Value} {k : Nat} (hH : Hnd w) (hF : FltIs w a v k) :
    Calls Tryd.prog 28 #[v] w fun e w' => e = .returned (.tuple #[.string ⟨#[]⟩, .bool true]) ∧ Below w.heap.size w w' := by
  obtain ⟨g, rfl, hg⟩ := hF
  have hgl := (Array.getElem?_eq_some_iff.1 hg).1
  have HA := hide (as_flt (w := w) (e := ⟨g, 0, none⟩) hH)
  have HC := hide (fun (W : World) (hb : Below w.heap.size w W) => show W.cell? ⟨g, 2, none⟩ = some (.string ⟨#[]⟩) by
    rw [(ubcell0 hb).1 _ _ hgl, Lib.cell_of_heap hg]; rfl)
  clear hH hg
  go_enter Tryd.func28, Tryd.ntmps28
  go_wp2_with fail
  refine HA.out.mono ?_
  rintro e w1 ⟨rfl, hb, hc⟩
  have c1 := HC.out w1 hb
  replace hb := hide hb
  go_wp2
  go_ret2
  exact ⟨rfl, hb.out⟩
theorem code_flt {w : World} {a : Nat → Addr} {v : Value} {k : Nat} (hS : Snt w a) (hF : FltIs w a v k) :
    Calls Tryd.prog 20 #[v] w fun e w' => e = .returned (.int .i64 3) ∧ Below w.heap.size w w' := by
  obtain ⟨g, rfl, hg⟩ := hF
  exact code_any hS (errIs_flt hS hg) (by omega)

set_option maxHeartbeats 4000000 in
set_option maxRecDepth 100000 in
theorem isAt_flt {w : World} {a : Nat → Addr} {v : Value} {k : Nat} {j : Int} (hS : Snt w a) (hH : Hnd w) (hF : FltIs w a v k) :
    Calls Tryd.prog 14 #[v, .int .i64 3, .int .i64 j] w fun e w' => e = .returned (.bool (decide ((k : Int) = j))) ∧ Below w.heap.size w w' := by
  have HS := hide hS
  have HH := hide hH
  have HF := hide hF
  clear hS hH hF
  by_cases hkj : (k : Int) = j
  · subst hkj
    rw [decide_eq_true rfl]
    go_enter Tryd.func14, Tryd.ntmps14
    go_wp2_with fail
    refine (code_flt HS.out HF.out).mono ?_
    rintro e w1 ⟨rfl, hb1⟩
    have K1 := hide hb1
    clear hb1
    go_wp2_with fail
    refine (at_flt (HH.out.below K1.out) (HF.out.below K1.out)).mono ?_
    rintro e w2 ⟨rfl, hb2⟩
    have K2 := hide (K1.out.trans (hb2.mono K1.out.size))
    clear hb2
    go_wp2_with fail
    refine (path_flt (HH.out.below K2.out) (HF.out.below K2.out)).mono ?_
    rintro e w3 ⟨rfl, hb3⟩
    have K3 := hide (K2.out.trans (hb3.mono K2.out.size))
    clear hb3
    go_wp2
    go_ret
    exact ⟨rfl, K3.out⟩
  · rw [decide_eq_false hkj]
    have q1 : ((k : Int) == j) = false := beq_eq_false_iff_ne.2 hkj
    clear hkj
    go_enter Tryd.func14, Tryd.ntmps14
    go_wp2_with fail
    refine (code_flt HS.out HF.out).mono ?_
    rintro e w1 ⟨rfl, hb1⟩
    have K1 := hide hb1
    clear hb1
    go_wp2_with fail
    refine (at_flt (HH.out.below K1.out) (HF.out.below K1.out)).mono ?_
    rintro e w2 ⟨rfl, hb2⟩
    have K2 := hide (K1.out.trans (hb2.mono K1.out.size))
    clear hb2
    go_wp2_with fail
    refine (path_flt (HH.out.below K2.out) (HF.out.below K2.out)).mono ?_
    rintro e w3 ⟨rfl, hb3⟩
    have K3 := hide (K2.out.trans (hb3.mono K2.out.size))
    clear hb3
    go_wp2
    go_ret
    exact ⟨rfl, K3.out⟩
theorem isAt_nil {w : World} {j : Int} : Calls Tryd.prog 14 #[.nilIface, .int .i64 0, .int .i64 j] w fun e w' => e = .returned (.bool true) ∧ w' = w := by
  go_enter Tryd.func14, Tryd.ntmps14
  go_wp2
  go_ret
  exact ⟨rfl, rfl⟩

theorem is_arg {w : World} {a : Nat → Addr} (hS : Snt w a) : Calls Tryd.prog 13 #[.iface 137 (.pointer (some (a 0))), .int .i64 1] w fun e w' => e = .returned (.bool true) ∧ Below w.heap.size w w' := by
  have HC := hide (code_any hS (errIs_snt hS (m := 0) (by omega)) (by omega))
  clear hS
  go_enter Tryd.func13, Tryd.ntmps13
  go_wp2_with fail
  refine HC.out.mono ?_
  rintro e w1 ⟨rfl, hb⟩
  replace hb := hide hb
  go_wp2
  go_ret
  exact ⟨rfl, hb.out⟩

end Go.Proofs.YtegokdhmpopggaaDoor
