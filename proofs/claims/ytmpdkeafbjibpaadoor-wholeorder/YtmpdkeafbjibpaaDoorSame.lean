/- SameNat, cmp.Compare -/
import Derived.Test.YtmpdkeafbjibpaaDoorKit
namespace Go.Proofs.YtmpdkeafbjibpaaDoor
open Go.RowKit

theorem reads_len {k : IntKind} {w : World} {v : Value} {xs : List Int} (h : Reads k w v xs) : ∃ ao cap, v = .slice ao xs.length cap ∧ xs.length ≤ cap ∧ cap ≤ maxLen ∧ Cells k w ao xs := h

set_option maxHeartbeats 1000000 in
theorem same_any {w : World} {va vb : Value} {xs ys : List Int} (ha : Reads .u32 w va xs) (hb : Reads .u32 w vb ys) :
    Calls Tryd.prog 27 #[va, vb] w fun e w' => e = .returned (.bool (decide (xs = ys))) ∧ Below w.heap.size w w' := by
  obtain ⟨ao, ca, rfl, hxl, hxm, hxc⟩ := ha
  obtain ⟨bo, cb, rfl, hyl, hym, hyc⟩ := hb
  unfold maxLen at hxm hym
  by_cases hl : xs.length = ys.length
  · have hl1 : ((xs.length : Int) != (ys.length : Int)) = false := by simp [hl]
    have Hl : Hid (xs.length = ys.length) := hl
    clear hl
    go_enter Tryd.func27, Tryd.ntmps27
    go_wp2
    go_loopw [5] (fun i wr => ∃ k : Nat, k ≤ xs.length ∧ i = .int .i64 k ∧ (∀ j, j < k → Nt.lb xs j = Nt.lb ys j) ∧ Below w.heap.size w wr) (fun i _ => xs.length - (intOf i).toNat)
    case atStart => exact ⟨0, Nat.zero_le _, rfl, fun j hj => by omega, Below.refl _ _⟩
    case round =>
      obtain ⟨k, hk, rfl, hsame, hbr⟩ := hrel
      by_cases hlt : k < xs.length
      · have hlt2 : k < ys.length := by have := Hl.out; omega
        obtain ⟨b1, o1, rfl, _, hc1⟩ := (hxc.below hbr) (by omega)
        obtain ⟨b2, o2, rfl, _, hc2⟩ := (hyc.below hbr) (by omega)
        have g1 := hc1 k hlt
        have g2 := hc2 k hlt2
        clear hc1 hc2 hxc hyc
        have HS : Hid (∀ j, j < k → Nt.lb xs j = Nt.lb ys j) := hsame
        clear hsame
        by_cases hq : Nt.lb xs k = Nt.lb ys k
        · have hq' : (Nt.lb xs k != Nt.lb ys k) = false := by simp [hq]
          have Hq : Hid (Nt.lb xs k = Nt.lb ys k) := hq
          clear hq
          go_wp2
          go_region
          all_goals go_wp2
          all_goals go_roundw
          all_goals first
            | exact ⟨k + 1, by omega, by go_num, fun j hj => by
                by_cases e : j = k
                · subst e; exact Hq.out
                · exact HS.out j (by omega), by repeat (first | exact hbr | apply Below.drew)⟩
            | (simp [intOf]; omega)
        · have hq' : (Nt.lb xs k != Nt.lb ys k) = true := by simp [hq]
          have Hq : Hid (¬ Nt.lb xs k = Nt.lb ys k) := hq
          clear hq
          go_wp2
          go_region
          all_goals go_wp2
          all_goals go_ret
          all_goals
            refine ⟨?_, by repeat (first | exact hbr | apply Below.drew)⟩
            rw [decide_eq_false (fun e => Hq.out (by rw [e]))]
            rfl
      · have hke : k = xs.length := by omega
        subst hke
        go_wp2
        go_ret
        refine ⟨?_, hbr⟩
        rw [decide_eq_true (Nt.ext_lb Hl.out hsame)]
        rfl
  · have hl1 : ((xs.length : Int) != (ys.length : Int)) = true := by simp; omega
    have Hl : Hid (¬ xs.length = ys.length) := hl
    clear hl
    go_enter Tryd.func27, Tryd.ntmps27
    go_wp2
    go_ret
    refine ⟨?_, Below.refl _ _⟩
    rw [decide_eq_false (fun e => Hl.out (by rw [e]))]
    rfl

theorem same_num {w : World} {va vb : Value} {n m : Int} {B B' k k' : Nat} (ha : Num B w va n k) (hb : Num B' w vb m k') (he : n = m) :
    Calls Tryd.prog 27 #[va, vb] w fun e w' => e = .returned (.bool true) ∧ Below w.heap.size w w' := by
  obtain ⟨xs, hx, hxc, hxv, _⟩ := ha
  obtain ⟨ys, hy, hyc, hyv, _⟩ := hb
  have e := Nt.canon_unique hxc hyc (hxv.trans (he.trans hyv.symm))
  have := same_any hx.reads hy.reads
  rw [decide_eq_true e] at this
  exact this

/-- the list of a number is told by the number -/
theorem Num.made {B : Nat} {w : World} {v : Value} {n : Int} {k : Nat} (h : Num B w v n k) {ys : List Int} (hy : Nt.Canon ys) (he : Nt.val ys = n) : Made .u32 59 B w v ys := by
  obtain ⟨xs, h1, h2, h3, _⟩ := h
  rw [← Nt.canon_unique h2 hy (h3.trans he.symm)]
  exact h1
theorem Num.zero {B : Nat} {w : World} {v : Value} {n : Int} {k : Nat} (h : Num B w v n k) (he : n = 0) : ∃ ao, v = .slice ao 0 0 := by
  obtain ⟨ao, h1, _⟩ := h.made Nt.canon_nil (by rw [he]; rfl)
  exact ⟨ao, h1⟩

end Go.Proofs.YtmpdkeafbjibpaaDoor
