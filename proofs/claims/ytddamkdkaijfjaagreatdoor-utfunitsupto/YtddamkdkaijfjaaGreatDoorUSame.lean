/- SameUnits, SameRunes -/
import Derived.Test.YtddamkdkaijfjaaGreatDoorKit
namespace Go.Proofs.YtddamkdkaijfjaaGreatDoor
open Go.RowKit

set_option maxHeartbeats 1000000 in
theorem same_units {w : World} {va vb : Value} {xs ys : List Int} (ha : Reads .u16 w va xs) (hb : Reads .u16 w vb ys) :
    Calls Tryz.prog 17 #[va, vb] w fun e w' => e = .returned (.bool (decide (xs = ys))) ∧ Below w.heap.size w w' := by
  obtain ⟨ao, ca, rfl, hxl, hxm, hxc⟩ := ha
  obtain ⟨bo, cb, rfl, hyl, hym, hyc⟩ := hb
  unfold maxLen at hxm hym
  by_cases hl : xs.length = ys.length
  · have hl1 : ((xs.length : Int) != (ys.length : Int)) = false := by simp [hl]
    have Hl : Hid (xs.length = ys.length) := hl
    clear hl
    go_enter Tryz.func17, Tryz.ntmps17
    go_wp2
    go_loopw [5] (fun i wr => ∃ k : Nat, k ≤ xs.length ∧ i = .int .i64 k ∧ (∀ j, j < k → Nt.lb xs j = Nt.lb ys j) ∧ Below w.heap.size w wr) (fun i _ => xs.length - (intOf i).toNat)
    case atStart => exact ⟨0, Nat.zero_le _, rfl, fun j hj => by omega, Below.refl _ _⟩
    case round =>
      obtain ⟨k, hk, rfl, hsame, hbr⟩ := hrel
      by_cases hlt : k < xs.length
      · have hlt2 : k < ys.length := by have := Hl.out; omega
        obtain ⟨b1, o1, rfl, _, hc1⟩ := (hxc.below hbr) (by omega)
        obtain ⟨b2, o2, rfl, _, hc2⟩ := (hyc.below hbr) (by omega)
        have g1 := hc1 k hlt
        have g2 := hc2 k hlt2
        clear hc1 hc2 hxc hyc
        have HS : Hid (∀ j, j < k → Nt.lb xs j = Nt.lb ys j) := hsame
        clear hsame
        by_cases hq : Nt.lb xs k = Nt.lb ys k
        · have hq' : (Nt.lb xs k != Nt.lb ys k) = false := by simp [hq]
          have Hq : Hid (Nt.lb xs k = Nt.lb ys k) := hq
          clear hq
          go_wp2
          go_region
          all_goals go_wp2
          all_goals go_roundw
          all_goals first
            | exact ⟨k + 1, by omega, by go_num, fun j hj => by
                by_cases e : j = k
                · subst e; exact Hq.out
                · exact HS.out j (by omega), by repeat (first | exact hbr | apply Below.drew)⟩
            | (simp [intOf]; omega)
        · have hq' : (Nt.lb xs k != Nt.lb ys k) = true := by simp [hq]
          have Hq : Hid (¬ Nt.lb xs k = Nt.lb ys k) := hq
          clear hq
          go_wp2
          go_region
          all_goals go_wp2
          all_goals go_ret
          all_goals
            refine ⟨?_, by repeat (first | exact hbr | apply Below.drew)⟩
            rw [decide_eq_false (fun e => Hq.out (by rw [e]))]
            rfl
      · have hke : k = xs.length := by omega
        subst hke
        go_wp2
        go_ret
        refine ⟨?_, hbr⟩
        rw [decide_eq_true (Nt.ext_lb Hl.out hsame)]
        rfl
  · have hl1 : ((xs.length : Int) != (ys.length : Int)) = true := by simp; omega
    have Hl : Hid (¬ xs.length = ys.length) := hl
    clear hl
    go_enter Tryz.func17, Tryz.ntmps17
    go_wp2
    go_ret
    refine ⟨?_, Below.refl _ _⟩
    rw [decide_eq_false (fun e => Hl.out (by rw [e]))]
    rfl

set_option maxHeartbeats 1000000 in
theorem same_runes {w : World} {va vb : Value} {xs ys : List Int} (ha : Reads .i32 w va xs) (hb : Reads .i32 w vb ys) :
    Calls Tryz.prog 7 #[va, vb] w fun e w' => e = .returned (.bool (decide (xs = ys))) ∧ Below w.heap.size w w' := by
  obtain ⟨ao, ca, rfl, hxl, hxm, hxc⟩ := ha
  obtain ⟨bo, cb, rfl, hyl, hym, hyc⟩ := hb
  unfold maxLen at hxm hym
  by_cases hl : xs.length = ys.length
  · have hl1 : ((xs.length : Int) != (ys.length : Int)) = false := by simp [hl]
    have Hl : Hid (xs.length = ys.length) := hl
    clear hl
    go_enter Tryz.func7, Tryz.ntmps7
    go_wp2
    go_loopw [5] (fun i wr => ∃ k : Nat, k ≤ xs.length ∧ i = .int .i64 k ∧ (∀ j, j < k → Nt.lb xs j = Nt.lb ys j) ∧ Below w.heap.size w wr) (fun i _ => xs.length - (intOf i).toNat)
    case atStart => exact ⟨0, Nat.zero_le _, rfl, fun j hj => by omega, Below.refl _ _⟩
    case round =>
      obtain ⟨k, hk, rfl, hsame, hbr⟩ := hrel
      by_cases hlt : k < xs.length
      · have hlt2 : k < ys.length := by have := Hl.out; omega
        obtain ⟨b1, o1, rfl, _, hc1⟩ := (hxc.below hbr) (by omega)
        obtain ⟨b2, o2, rfl, _, hc2⟩ := (hyc.below hbr) (by omega)
        have g1 := hc1 k hlt
        have g2 := hc2 k hlt2
        clear hc1 hc2 hxc hyc
        have HS : Hid (∀ j, j < k → Nt.lb xs j = Nt.lb ys j) := hsame
        clear hsame
        by_cases hq : Nt.lb xs k = Nt.lb ys k
        · have hq' : (Nt.lb xs k != Nt.lb ys k) = false := by simp [hq]
          have Hq : Hid (Nt.lb xs k = Nt.lb ys k) := hq
          clear hq
          go_wp2
          go_region
          all_goals go_wp2
          all_goals go_roundw
          all_goals first
            | exact ⟨k + 1, by omega, by go_num, fun j hj => by
                by_cases e : j = k
                · subst e; exact Hq.out
                · exact HS.out j (by omega), by repeat (first | exact hbr | apply Below.drew)⟩
            | (simp [intOf]; omega)
        · have hq' : (Nt.lb xs k != Nt.lb ys k) = true := by simp [hq]
          have Hq : Hid (¬ Nt.lb xs k = Nt.lb ys k) := hq
          clear hq
          go_wp2
          go_region
          all_goals go_wp2
          all_goals go_ret
          all_goals
            refine ⟨?_, by repeat (first | exact hbr | apply Below.drew)⟩
            rw [decide_eq_false (fun e => Hq.out (by rw [e]))]
            rfl
      · have hke : k = xs.length := by omega
        subst hke
        go_wp2
        go_ret
        refine ⟨?_, hbr⟩
        rw [decide_eq_true (Nt.ext_lb Hl.out hsame)]
        rfl
  · have hl1 : ((xs.length : Int) != (ys.length : Int)) = true := by simp; omega
    have Hl : Hid (¬ xs.length = ys.length) := hl
    clear hl
    go_enter Tryz.func7, Tryz.ntmps7
    go_wp2
    go_ret
    refine ⟨?_, Below.refl _ _⟩
    rw [decide_eq_false (fun e => Hl.out (by rw [e]))]
    rfl

end Go.Proofs.YtddamkdkaijfjaaGreatDoor
