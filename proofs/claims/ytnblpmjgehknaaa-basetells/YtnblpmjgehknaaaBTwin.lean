/- SameBytes, TwinBytes, LeftBytes -/
import Derived.Test.YtnblpmjgehknaaaBSum
namespace Go.Proofs.Ytnblpmjgehknaaa
open Go.RowKit
set_option linter.unusedVariables false

theorem lb_append_left8 {xs ys : List Int} {i : Nat} (h : i < xs.length) : Nt.lb (xs ++ ys) i = Nt.lb xs i := by simp [Nt.lb, List.getElem?_append_left h]

set_option maxHeartbeats 1000000 in
theorem bsame_any {w : World} {va vb : Value} {xs ys : List Int} (ha : Reads .u8 w va xs) (hb : Reads .u8 w vb ys) :
    Calls Try.prog 21 #[va, vb] w fun e w' => e = .returned (.bool (decide (xs = ys))) ∧ Below w.heap.size w w' := by
  obtain ⟨ao, ca, rfl, hxl, hxm, hxc⟩ := ha
  obtain ⟨bo, cb, rfl, hyl, hym, hyc⟩ := hb
  unfold maxLen at hxm hym
  by_cases hl : xs.length = ys.length
  · have hl1 : ((xs.length : Int) != (ys.length : Int)) = false := by simp [hl]
    have Hl : Hid (xs.length = ys.length) := hl
    clear hl
    go_enter Try.func21, Try.ntmps21
    go_wp2
    go_loopw [5] (fun i wr => ∃ k : Nat, k ≤ xs.length ∧ i = .int .i64 k ∧ (∀ j, j < k → Nt.lb xs j = Nt.lb ys j) ∧ Below w.heap.size w wr) (fun i _ => xs.length - (intOf i).toNat)
    case atStart => exact ⟨0, Nat.zero_le _, rfl, fun j hj => by omega, Below.refl _ _⟩
    case round =>
      obtain ⟨k, hk, rfl, hsame, hbr⟩ := hrel
      by_cases hlt : k < xs.length
      · have hlt2 : k < ys.length := by have := Hl.out; omega
        obtain ⟨b1, o1, rfl, _, hc1⟩ := (hxc.below hbr) (by omega)
        obtain ⟨b2, o2, rfl, _, hc2⟩ := (hyc.below hbr) (by omega)
        have g1 := hc1 k hlt
        have g2 := hc2 k hlt2
        clear hc1 hc2 hxc hyc
        have HS : Hid (∀ j, j < k → Nt.lb xs j = Nt.lb ys j) := hsame
        clear hsame
        by_cases hq : Nt.lb xs k = Nt.lb ys k
        · have hq' : (Nt.lb xs k != Nt.lb ys k) = false := by simp [hq]
          have Hq : Hid (Nt.lb xs k = Nt.lb ys k) := hq
          clear hq
          go_wp2
          go_region
          all_goals go_wp2
          all_goals go_roundw
          all_goals first
            | exact ⟨k + 1, by omega, by go_num, fun j hj => by
                by_cases e : j = k
                · subst e; exact Hq.out
                · exact HS.out j (by omega), by repeat (first | exact hbr | apply Below.drew)⟩
            | (simp [intOf]; omega)
        · have hq' : (Nt.lb xs k != Nt.lb ys k) = true := by simp [hq]
          have Hq : Hid (¬ Nt.lb xs k = Nt.lb ys k) := hq
          clear hq
          go_wp2
          go_region
          all_goals go_wp2
          all_goals go_ret
          all_goals
            refine ⟨?_, by repeat (first | exact hbr | apply Below.drew)⟩
            rw [decide_eq_false (fun e => Hq.out (by rw [e]))]
            rfl
      · have hke : k = xs.length := by omega
        subst hke
        go_wp2
        go_ret
        refine ⟨?_, hbr⟩
        rw [decide_eq_true (Nt.ext_lb Hl.out hsame)]
        rfl
  · have hl1 : ((xs.length : Int) != (ys.length : Int)) = true := by simp; omega
    have Hl : Hid (¬ xs.length = ys.length) := hl
    clear hl
    go_enter Try.func21, Try.ntmps21
    go_wp2
    go_ret
    refine ⟨?_, Below.refl _ _⟩
    rw [decide_eq_false (fun e => Hl.out (by rw [e]))]
    rfl

/-- a copy with a mark behind it -/
def BTwin (B : Nat) (w : World) (v : Value) (xs : List Int) : Prop := ∃ g, v = .slice (some ⟨g, 0, none⟩) xs.length (xs.length + 1) ∧ B ≤ g ∧ xs.length + 1 ≤ maxLen ∧ Row .u8 5 w g (xs ++ [28])
theorem BTwin.below {B : Nat} {w w' : World} {v : Value} {xs : List Int} (h : BTwin B w v xs) (hb : Below w.heap.size w w') : BTwin B w' v xs := by
  obtain ⟨g, h1, h2, h3, h4⟩ := h
  exact ⟨g, h1, h2, h3, h4.keeps hb⟩
theorem BTwin.reads {B : Nat} {w : World} {v : Value} {xs : List Int} (h : BTwin B w v xs) : Reads .u8 w v xs := by
  obtain ⟨g, h1, _, h3, h4⟩ := h
  refine ⟨_, _, h1, by omega, h3, fun _ => ⟨g, 0, rfl, h4.lt, fun i hi => ?_⟩⟩
  rw [Nat.zero_add, h4.cell (by rw [List.length_append]; omega), lb_append_left8 hi]

theorem btake_set_succ {xs zs : List Int} {k : Nat} (hk : k < xs.length) (hz : k < zs.length) (h : zs.take k = xs.take k) : (zs.set k (Nt.lb xs k)).take (k + 1) = xs.take (k + 1) := by
  rw [List.take_succ_eq_append_getElem (by simpa using hz), List.take_succ_eq_append_getElem hk, List.take_set_of_le (Nat.le_refl _), h]
  simp [Nt.lb, hk]

set_option maxHeartbeats 1000000 in
theorem btwin_any {w : World} {va : Value} {xs : List Int} (ha : Reads .u8 w va xs) (hl : xs.length ≤ 140737488355328) :
    Calls Try.prog 8 #[va] w fun e w' => ∃ v, e = .returned v ∧ BTwin w.heap.size w' v xs ∧ Below w.heap.size w w' := by
  obtain ⟨ao, cap, rfl, hxl, hxm, hxc⟩ := ha
  go_enter Try.func8, Try.ntmps8
  go_wp2_with (at_make; refine wpList_make_row _ rfl _ _ 22 rfl 5 .u8 1 Try.underlying22 Try.infoY8 _ _ _ _ (xs.length + 1) (xs.length + 1) rfl rfl (by omega) (by omega) (Nat.le_refl _) (by omega) (by unfold maxLen; omega) ?_)
  intro w1 hr hbel hsz
  go_wp2
  go_loopw [4] (fun si wr => ∃ (k : Nat) (zs : List Int), k ≤ xs.length ∧ si = .int .i64 k ∧ zs.length = xs.length + 1 ∧ zs.take k = xs.take k ∧ Row .u8 5 wr w.heap.size zs ∧ Below w.heap.size w wr) (fun si _ => xs.length - (intOf si).toNat)
  case atStart => exact ⟨0, List.replicate (xs.length + 1) 0, by omega, rfl, by simp, by simp, hr, hbel⟩
  case round =>
    obtain ⟨k, zs, hk, rfl, hzl, hzt, hrow, hbr⟩ := hrel
    have Hzl := hide hzl
    have Hzt := hide hzt
    clear hzl hzt hr hbel
    by_cases hkl : k < xs.length
    · obtain ⟨b, off, rfl, hb, hc⟩ := (hxc.below hbr) (by omega)
      have g1 := hc k hkl
      have g2 := hrow.cell (i := k) (by have := Hzl.out; omega)
      have hfz := hrow.frozen k
      clear hc hxc
      go_wp2
      go_roundw
      case rel => exact ⟨k + 1, zs.set k (Nt.lb xs k), by omega, by go_num, by rw [List.length_set, Hzl.out], btake_set_succ hkl (by have := Hzl.out; omega) Hzt.out, hrow.set _ _, hbr.setCell (p := ⟨w.heap.size, k, none⟩) (Nat.le_refl _) _⟩
      case measure => simp [intOf]; omega
    · have hke : k = xs.length := by omega
      have g2 := hrow.cell (i := xs.length) (by have := Hzl.out; omega)
      have hfz := hrow.frozen xs.length
      subst hke
      go_wp2
      go_ret
      refine ⟨_, rfl, ⟨w.heap.size, by simp, Nat.le_refl _, by unfold maxLen; omega, ?_⟩, hbr.setCell (p := ⟨w.heap.size, xs.length, none⟩) (Nat.le_refl _) _⟩
      have := hrow.set xs.length 28
      have e : zs.set xs.length 28 = xs ++ [28] := by
        have h1 := Hzt.out
        have h2 := Hzl.out
        rw [List.take_length] at h1
        have h3 : (zs.set xs.length 28).take (xs.length + 1) = xs ++ [28] := by
          rw [List.take_succ_eq_append_getElem (by rw [List.length_set]; omega), List.take_set_of_le (Nat.le_refl _), h1]
          simp
        rw [← h3, List.take_of_length_le (by rw [List.length_set]; omega)]
      rw [e] at this
      exact this

set_option maxHeartbeats 1000000 in
theorem bleft_any {w : World} {va vb : Value} {xs : List Int} {B : Nat} (ha : BTwin B w va xs) (hb : Reads .u8 w vb xs) :
    Calls Try.prog 10 #[va, vb] w fun e w' => e = .returned (.bool true) ∧ Below w.heap.size w w' := by
  have hs := bsame_any ha.reads hb
  rw [decide_eq_true rfl] at hs
  obtain ⟨g, rfl, _, hm, hrow⟩ := ha
  obtain ⟨bo, cb, rfl, hyl, hym, hyc⟩ := hb
  unfold maxLen at hm
  have Hs := hide hs
  clear hs
  go_enter Try.func10, Try.ntmps10
  go_wp2_with fail
  refine Calls.mono Hs.out ?_
  rintro e w1 ⟨rfl, hb1⟩
  have hc := (hrow.keeps hb1).cell (i := xs.length) (by simp)
  have e : Nt.lb (xs ++ [28]) xs.length = 28 := by simp [Nt.lb]
  rw [e] at hc
  clear Hs e
  go_wp2
  go_ret
  exact ⟨rfl, hb1⟩

end Go.Proofs.Ytnblpmjgehknaaa
