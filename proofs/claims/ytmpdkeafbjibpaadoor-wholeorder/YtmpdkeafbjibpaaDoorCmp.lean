/- cmp.Compare, nat.Cmp -/
import Derived.Test.YtmpdkeafbjibpaaDoorTrim
import Derived.Deep.RegionWith
namespace Go.Proofs.YtmpdkeafbjibpaaDoor
open Go.RowKit

/-- -1, 0, 1 -/
def sgn (x y : Int) : Int := if x < y then -1 else if y < x then 1 else 0
theorem sgn_lt {x y : Int} (h : x < y) : sgn x y = -1 := by simp [sgn, h]
theorem sgn_gt {x y : Int} (h : y < x) : sgn x y = 1 := by unfold sgn; rw [if_neg (by omega), if_pos h]
theorem sgn_eq {x y : Int} (h : x = y) : sgn x y = 0 := by subst h; simp [sgn]

set_option maxHeartbeats 1000000 in
theorem compare_int (x y : Int) (w : World) :
    Calls Tryd.prog 50 #[.int .i64 x, .int .i64 y] w fun e w' => e = .returned (.int .i64 (sgn x y)) ∧ w' = w := by
  have hx : (x != x) = false := by simp
  have hy : (y != y) = false := by simp
  rcases Int.lt_trichotomy x y with h | h | h
  · rw [sgn_lt h]
    go_enter Tryd.func50, Tryd.ntmps50
    go_wp2
    go_ret
    exact ⟨rfl, rfl⟩
  · subst h
    rw [sgn_eq rfl]
    go_enter Tryd.func50, Tryd.ntmps50
    go_wp2
    go_ret
    exact ⟨rfl, rfl⟩
  · rw [sgn_gt h]
    have h' : ¬ x < y := by omega
    go_enter Tryd.func50, Tryd.ntmps50
    go_wp2
    go_ret
    exact ⟨rfl, rfl⟩

set_option maxHeartbeats 1000000 in
theorem compare_u32 (x y : Int) (w : World) :
    Calls Tryd.prog 51 #[.int .u32 x, .int .u32 y] w fun e w' => e = .returned (.int .i64 (sgn x y)) ∧ w' = w := by
  have hx : (x != x) = false := by simp
  have hy : (y != y) = false := by simp
  rcases Int.lt_trichotomy x y with h | h | h
  · rw [sgn_lt h]
    go_enter Tryd.func51, Tryd.ntmps51
    go_wp2
    go_ret
    exact ⟨rfl, rfl⟩
  · subst h
    rw [sgn_eq rfl]
    go_enter Tryd.func51, Tryd.ntmps51
    go_wp2
    go_ret
    exact ⟨rfl, rfl⟩
  · rw [sgn_gt h]
    have h' : ¬ x < y := by omega
    go_enter Tryd.func51, Tryd.ntmps51
    go_wp2
    go_ret
    exact ⟨rfl, rfl⟩

set_option maxHeartbeats 1000000 in
theorem cmp_any {w : World} {va vb : Value} {n m : Int} {ka kb : Nat} (ha : Arg w va n ka) (hb : Arg w vb m kb) (hka : ka ≤ 1099511627776) (_hkb : kb ≤ 1099511627776) :
    Calls Tryd.prog 33 #[va, vb] w fun e w' => e = .returned (.int .i64 (sgn n m)) ∧ Below w.heap.size w w' := by
  go_enter Tryd.func33, Tryd.ntmps33
  go_wp2_with fail
  refine (trim_arg ha).mono ?_
  rintro e w' ⟨rfl, ao, xs, rfl, hxk, hxm, hxc, hx, rfl⟩
  go_wp2_with fail
  refine (trim_arg hb).mono ?_
  rintro e w' ⟨rfl, bo, ys, rfl, hyk, hym, hyc, hy, rfl⟩
  clear ha hb
  by_cases hl : xs.length = ys.length
  · have hl1 : ((xs.length : Int) != (ys.length : Int)) = false := by simp [hl]
    have Hl : Hid (xs.length = ys.length) := hl
    clear hl
    go_wp2
    go_loopw [23] (fun i wr => ∃ k : Nat, k ≤ xs.length ∧ i = .int .i64 k ∧ (∀ j, xs.length ≤ j + k → j < xs.length → Nt.lb xs j = Nt.lb ys j) ∧ Below w'.heap.size w' wr) (fun i _ => xs.length - (intOf i).toNat)
    case atStart => exact ⟨0, Nat.zero_le _, rfl, fun j hj h2 => by omega, Below.refl _ _⟩
    case round =>
      obtain ⟨k, hk, rfl, hsame, hbr⟩ := hrel
      have HS : Hid (∀ j, xs.length ≤ j + k → j < xs.length → Nt.lb xs j = Nt.lb ys j) := hsame
      clear hsame
      by_cases hlt : k < xs.length
      · have hlt2 : xs.length - 1 - k < ys.length := by have := Hl.out; omega
        obtain ⟨b1, o1, rfl, _, hc1⟩ := (hxc.below hbr) (by omega)
        obtain ⟨b2, o2, rfl, _, hc2⟩ := (hyc.below hbr) (by omega)
        have g1 := hc1 (xs.length - 1 - k) (by omega)
        have g2 := hc2 (xs.length - 1 - k) hlt2
        clear hc1 hc2 hxc hyc
        by_cases hq : Nt.lb xs (xs.length - 1 - k) = Nt.lb ys (xs.length - 1 - k)
        · have hq' : (Nt.lb xs (xs.length - 1 - k) != Nt.lb ys (xs.length - 1 - k)) = false := by simp [hq]
          have Hq : Hid (Nt.lb xs (xs.length - 1 - k) = Nt.lb ys (xs.length - 1 - k)) := hq
          clear hq
          go_wp2
          go_region
          all_goals go_wp2
          all_goals go_roundw
          all_goals first
            | exact ⟨k + 1, by omega, by go_num, fun j hj h2 => by
                by_cases e : j = xs.length - 1 - k
                · subst e; exact Hq.out
                · exact HS.out j (by omega) h2, by repeat (first | exact hbr | apply Below.drew)⟩
            | (simp [intOf]; omega)
        · have hq' : (Nt.lb xs (xs.length - 1 - k) != Nt.lb ys (xs.length - 1 - k)) = true := by simp [hq]
          have Hq : Hid (¬ Nt.lb xs (xs.length - 1 - k) = Nt.lb ys (xs.length - 1 - k)) := hq
          clear hq
          have hs : sgn (Nt.val xs) (Nt.val ys) = sgn (Nt.lb xs (xs.length - 1 - k)) (Nt.lb ys (xs.length - 1 - k)) := by
            have hll : xs.length = ys.length := Hl.out
            rcases Int.lt_trichotomy (Nt.lb xs (xs.length - 1 - k)) (Nt.lb ys (xs.length - 1 - k)) with h | h | h
            · rw [sgn_lt h, sgn_lt]
              unfold Nt.val
              rw [← hll]
              exact Nt.vt_lt_at hx.1 hy.1 (p := xs.length - 1 - k) (by omega) (fun i a b => HS.out i (by omega) b) h
            · exact absurd h Hq.out
            · rw [sgn_gt h, sgn_gt]
              unfold Nt.val
              rw [← hll]
              exact Nt.vt_lt_at hy.1 hx.1 (p := xs.length - 1 - k) (by omega) (fun i a b => (HS.out i (by omega) b).symm) h
          have HSg : Hid _ := hs
          clear hs
          go_wp2
          go_region
          all_goals go_wp2
          all_goals go_region_with (go_at_call 51; refine (compare_u32 _ _ _).mono ?_; rintro e w2 ⟨rfl, rfl⟩)
          all_goals go_wp2
          all_goals go_ret
          all_goals
            refine ⟨?_, by repeat (first | exact hbr | apply Below.drew)⟩
            rw [HSg.out]
            rfl
      · have hke : k = xs.length := by omega
        subst hke
        go_wp2
        go_ret
        refine ⟨?_, hbr⟩
        rw [sgn_eq]
        · rfl
        · have hll : xs.length = ys.length := Hl.out
          unfold Nt.val
          rw [← hll]
          exact Nt.vt_congr fun i hi => HS.out i (by omega) hi
  · have hl1 : ((xs.length : Int) != (ys.length : Int)) = true := by simp; omega
    have Hl : Hid (¬ xs.length = ys.length) := hl
    clear hl
    have hs : sgn (Nt.val xs) (Nt.val ys) = sgn xs.length ys.length := by
      rcases Nat.lt_trichotomy xs.length ys.length with h | h | h
      · rw [sgn_lt (Nt.canon_lt hx.1 hy h), sgn_lt (by omega)]
      · exact absurd h Hl.out
      · rw [sgn_gt (Nt.canon_lt hy.1 hx h), sgn_gt (by omega)]
    have HSg : Hid _ := hs
    clear hs
    go_wp2_with (go_at_call 50; refine (compare_int _ _ _).mono ?_; rintro e w2 ⟨rfl, rfl⟩)
    go_ret
    refine ⟨?_, Below.refl _ _⟩
    rw [HSg.out]
    rfl

end Go.Proofs.YtmpdkeafbjibpaaDoor
