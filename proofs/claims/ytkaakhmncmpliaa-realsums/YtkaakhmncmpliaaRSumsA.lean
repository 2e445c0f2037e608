/- copies of lists of complex numbers; sums of a list against the document's -/
import Derived.Test.YtkaakhmncmpliaaRFoldM
import Derived.Test.YtkaakhmncmpliaaCList
import Derived.Test.YtkaakhmncmpliaaRJoins
namespace Go.Proofs.Ytkaakhmncmpliaa
open Go.RowKit
set_option linter.unusedVariables false

theorem drew_N (w : World) (n : Nat) : Drew w (w.drewN n) := ⟨rfl, fun _ => ⟨rfl, rfl, rfl, Nat.le_refl _, fun _ _ => rfl⟩⟩
set_option maxHeartbeats 2000000 in
theorem sameF_ok (w : World) (b : Nat) (hb : b < 18446744073709551616) : Calls Try.prog 75 #[.float .f64 b, .float .f64 b] w fun e w' => e = .returned (.bool true) ∧ w' = w := by
  have o1 := order_self' b
  have o2 := order_self b
  by_cases n : nanD b
  · rw [decide_eq_true n] at o1 o2
    go_enter Try.func75, Try.ntmps75
    go_wp2
    go_ret
    exact ⟨rfl, rfl⟩
  · rw [decide_eq_false n] at o1 o2
    by_cases z : szD b = 0
    · have hbz : b = 0 ∨ b = 9223372036854775808 := by unfold szD at z; omega
      rcases hbz with rfl | rfl
      · have q1 : ∀ w, (binOp .quo 24 (.float .f64 4607182418800017408) (.float .f64 0)).run Try.prog w = .ok (.float .f64 9218868437227405312) w := fun w => run_float_arith w .quo _ .f64 _ _ _ (by decide +kernel)
        have o3 : (FloatKind.f64.format.order 0 0 != some .eq) = false := by decide
        have o4 : (FloatKind.f64.format.order 9218868437227405312 9218868437227405312 == some .eq) = true := by decide
        go_enter Try.func75, Try.ntmps75
        go_wp2
        go_ret
        exact ⟨rfl, rfl⟩
      · have q1 : ∀ w, (binOp .quo 24 (.float .f64 4607182418800017408) (.float .f64 9223372036854775808)).run Try.prog w = .ok (.float .f64 18442240474082181120) w := fun w => run_float_arith w .quo _ .f64 _ _ _ (by decide +kernel)
        have o3 : (FloatKind.f64.format.order 9223372036854775808 0 != some .eq) = false := by decide
        have o4 : (FloatKind.f64.format.order 18442240474082181120 18442240474082181120 == some .eq) = true := by decide
        go_enter Try.func75, Try.ntmps75
        go_wp2
        go_ret
        exact ⟨rfl, rfl⟩
    · have o3 : (FloatKind.f64.format.order b 0 != some .eq) = true := by
        rw [bne, order_eq, show rkD 0 = 0 by decide, decide_eq_false n, decide_eq_false (show ¬ nanD 0 by decide), decide_eq_false (show ¬ rkD b = 0 by unfold rkD; cases ngD b <;> simp <;> omega)]
        rfl
      go_enter Try.func75, Try.ntmps75
      go_wp2
      go_ret
      exact ⟨rfl, rfl⟩

theorem sameC_ok (w : World) (a b : Nat) (ha : a < 18446744073709551616) (hb : b < 18446744073709551616) : Calls Try.prog 72 #[.complex .f64 a b, .complex .f64 a b] w fun e w' => e = .returned (.bool true) ∧ w' = w := by
  go_enter Try.func72, Try.ntmps72
  go_wp2_with (first | (with_reducible refine (sameF_ok _ a ha).mono ?_; rintro e w1 ⟨rfl, rfl⟩) | (with_reducible refine (sameF_ok _ b hb).mono ?_; rintro e w1 ⟨rfl, rfl⟩))
  go_ret
  exact ⟨rfl, rfl⟩

/-- the mark behind a copy -/
def mkRe : Nat := floatOfInt .f64 (-777777)
theorem mark_ok (w : World) : Calls Try.prog 62 #[.int .i64 777777] w fun e w' => e = .returned (.complex .f64 mkRe 4607182418800017408) ∧ w' = w := by
  have c2 : ∀ w, (convert 3 24 (.int .i64 (-777777))).run Try.prog w = .ok (.float .f64 mkRe) w := fun w => run_convert_int_float w _ _ _ .f64 _ (by kernel_rfl) (by kernel_rfl)
  go_enter Try.func62, Try.ntmps62
  go_wp2
  go_ret
  exact ⟨rfl, rfl⟩
theorem isMark_ok (w : World) : Calls Try.prog 64 #[.complex .f64 mkRe 4607182418800017408, .int .i64 777777] w fun e w' => e = .returned (.bool true) ∧ w' = w := by
  have c2 : ∀ w, (convert 3 24 (.int .i64 (-777777))).run Try.prog w = .ok (.float .f64 mkRe) w := fun w => run_convert_int_float w _ _ _ .f64 _ (by kernel_rfl) (by kernel_rfl)
  have c3 : ∀ w, (binOp .eql 59 (.complex .f64 mkRe 4607182418800017408) (.complex .f64 mkRe 4607182418800017408)).run Try.prog w = .ok (.bool true) w := fun w => by
    rw [run_eql_complex, order_self, order_self]
    have h1 : ¬ nanD mkRe := by decide +kernel
    have h2 : ¬ nanD 4607182418800017408 := by decide
    rw [decide_eq_false h1, decide_eq_false h2]
    rfl
  go_enter Try.func64, Try.ntmps64
  go_wp2
  go_ret
  exact ⟨rfl, rfl⟩

set_option maxHeartbeats 2000000 in
theorem sameCs_ok {w : World} {ao bo : Option Addr} {zs : List (Nat × Nat)} {n ca cb : Nat} (hn : zs.length = n) (hm : n ≤ 1048576) (ha : CCells w ao zs) (hb : CCells w bo zs) (hz : COk zs) :
    Calls Try.prog 63 #[.slice ao n ca, .slice bo n cb] w fun e w' => e = .returned (.bool true) ∧ Drew w w' := by
  have HZ := hide hz
  clear hz
  go_enter Try.func63, Try.ntmps63
  go_wp2
  go_loopw [5] (fun si wr => ∃ i : Nat, i ≤ n ∧ si = .int .i64 i ∧ Hid (Drew w wr)) (fun si _ => n - (intOf si).toNat)
  case atStart => exact ⟨0, by omega, rfl, hide (Drew.refl _)⟩
  case round =>
    obtain ⟨i, hi, rfl, HD⟩ := hrel
    by_cases lt : i < n
    · obtain ⟨b1, o1, rfl, hb1, hc1⟩ := (ha.below (HD.out.below _)) (by omega)
      obtain ⟨b2, o2, rfl, hb2, hc2⟩ := (hb.below (HD.out.below _)) (by omega)
      have g1 := hc1 i (by omega)
      have g2 := hc2 i (by omega)
      have hmem : zs[i]? = some (cre zs i, cim zs i) := by
        have h0 : i < zs.length := by omega
        unfold cre cim
        rw [List.getD_eq_getElem?_getD, List.getElem?_eq_getElem h0]
        rfl
      obtain ⟨za, zc⟩ := HZ.out _ (List.mem_of_getElem? hmem)
      dsimp only at za zc
      have li : (i : Int) < (n : Int) := by omega
      generalize cre zs i = a at *
      generalize cim zs i = c at *
      clear hc1 hc2 hmem
      go_upto_region 6 with fail
      go_quiet ((go_at_call 72; exact Calls.quiet_of_same (sameC_ok _ a c za zc)))
      go_wp2
      go_roundw
      case rel => exact ⟨i + 1, by omega, rfl, hide (HD.out.trans (drew_N _ _))⟩
      case measure => simp [intOf]; omega
    · go_wp2
      go_ret
      exact ⟨rfl, HD.out⟩

/-- a block of complex numbers, all of it known -/
def CRow (w : World) (g : Nat) (zs : List (Nat × Nat)) : Prop := w.heap[g]? = some (.cells (cvals zs).toArray 59 (0, 0))
theorem CRow.lt {w : World} {g : Nat} {zs : List (Nat × Nat)} (h : CRow w g zs) : g < w.heap.size := (Array.getElem?_eq_some_iff.1 h).1
theorem CRow.cell {w : World} {g : Nat} {zs : List (Nat × Nat)} (h : CRow w g zs) {i : Nat} (hi : i < zs.length) : w.cell? ⟨g, i, none⟩ = some (.complex .f64 (cre zs i) (cim zs i)) := by
  rw [cell_of_row w g i _ _ _ h, List.getElem?_toArray, cvals_at hi]
theorem CRow.frozen {w : World} {g : Nat} {zs : List (Nat × Nat)} (h : CRow w g zs) (i : Nat) : w.frozen? ⟨g, i, none⟩ = false := frozen_of_row w g i _ _ h
theorem CRow.set {w : World} {g : Nat} {zs : List (Nat × Nat)} (h : CRow w g zs) (i x y : Nat) : CRow (w.setCell ⟨g, i, none⟩ (.complex .f64 x y)) g (zs.set i (x, y)) := by
  unfold CRow
  rw [heap_setCell_same w g i _ _ _ h]
  simp [cvals, List.map_set]
theorem CRow.below {w w' : World} {g B : Nat} {zs : List (Nat × Nat)} (h : CRow w g zs) (hb : Below B w w') (hg : g < B) : CRow w' g zs := by
  unfold CRow
  rw [hb.block g hg]
  exact h
theorem CRow.cells {w : World} {g : Nat} {zs ys : List (Nat × Nat)} (h : CRow w g (zs ++ ys)) : CCells w (some ⟨g, 0, none⟩) zs := by
  refine fun _ => ⟨g, 0, rfl, h.lt, fun i hi => ?_⟩
  rw [Nat.zero_add, h.cell (by rw [List.length_append]; omega)]
  unfold cre cim
  rw [List.getD_eq_getElem?_getD, List.getD_eq_getElem?_getD, List.getElem?_append_left hi]

end Go.Proofs.Ytkaakhmncmpliaa
