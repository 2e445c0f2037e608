/- ref09.Cmp; UtfOrders: the walk -/
import Derived.Test.YteejbcknikjkjaaURefC
namespace Go.Proofs.Yteejbcknikjkjaa
open Go.RowKit
set_option linter.unusedVariables false

theorem uCmp_drop {xs ys : List Int} {j : Nat} (hx : j < xs.length) (hy : j < ys.length) : uCmp (xs.drop j) (ys.drop j) = if Nt.lb xs j < Nt.lb ys j then -1 else if Nt.lb ys j < Nt.lb xs j then 1 else uCmp (xs.drop (j + 1)) (ys.drop (j + 1)) := by
  rw [udrop_lb hx, udrop_lb hy, uCmp]

set_option maxRecDepth 100000 in
set_option maxHeartbeats 4000000 in
theorem rcmp_any {s1 s2 : ByteArray} {ea eb qa qb : List Int} {w : World} (ha : uByt ea) (hs1 : s1 = strOfNums ea) (hl1 : ea.length ≤ 1099511627776) (hb : uByt eb) (hs2 : s2 = strOfNums eb) (hl2 : eb.length ≤ 1099511627776) (hqa : USteps ea qa) (hqb : USteps eb qb) :
    Calls Try.prog 13 #[.string s1, .string s2] w fun e w' => e = .returned (.int .i64 (uCmp (uCodes qa) (uCodes qb))) ∧ Below w.heap.size w w' := by
  have c1 := hide (fun w => rcodes_any (w := w) ha hs1 hl1 hqa)
  have c2 := hide (fun w => rcodes_any (w := w) hb hs2 hl2 hqb)
  obtain ⟨xs, hxs⟩ : ∃ xs, uCodes qa = xs := ⟨_, rfl⟩
  obtain ⟨ys, hys⟩ : ∃ ys, uCodes qb = ys := ⟨_, rfl⟩
  rw [hxs] at c1 ⊢
  rw [hys] at c2 ⊢
  obtain ⟨R, hR⟩ : ∃ R, uCmp xs ys = R := ⟨_, rfl⟩
  rw [hR]
  have HR := hide hR
  clear ha hs1 hl1 hb hs2 hl2 hqa hqb hxs hys hR
  go_enter Try.func13, Try.ntmps13
  go_wp2_with fail
  refine (c1.out _).mono ?_
  rintro e w1 ⟨va, rfl, hrow1, hB1⟩
  go_wp2_with fail
  refine (c2.out _).mono ?_
  rintro e w2 ⟨vb, rfl, hrow2, hB2⟩
  have r1 := (owns_reads rfl hrow1).below hB2
  have r2 := owns_reads rfl hrow2
  have HB := hide (hB1.trans (hB2.mono hB1.size))
  clear hrow1 hrow2 hB1 hB2 c1 c2
  obtain ⟨ao, ca, rfl, hxl, hxm, hxc⟩ := r1
  obtain ⟨bo, cb, rfl, hyl, hym, hyc⟩ := r2
  unfold maxLen at hxm hym
  go_wp2_with fail
  go_loopw [7] (fun i wr => ∃ j : Nat, j ≤ xs.length ∧ j ≤ ys.length ∧ i = .int .i64 j ∧ Hid (uCmp (xs.drop j) (ys.drop j) = R) ∧ Below w2.heap.size w2 wr) (fun i _ => xs.length - (intOf i).toNat)
  case atStart => exact ⟨0, by omega, by omega, rfl, hide HR.out, Below.refl _ _⟩
  case round =>
    obtain ⟨j, hj1, hj2, rfl, hc, hbr⟩ := hrel
    by_cases h1 : j < xs.length
    · have p1 : (j : Int) < (xs.length : Int) := by omega
      by_cases h2 : j < ys.length
      · have p2 : (j : Int) < (ys.length : Int) := by omega
        obtain ⟨b1, o1, rfl, _, hc1⟩ := (hxc.below hbr) (by omega)
        obtain ⟨b2, o2, rfl, _, hc2⟩ := (hyc.below hbr) (by omega)
        have g1 := hc1 j h1
        have g2 := hc2 j h2
        have HD := hide (uCmp_drop h1 h2)
        obtain ⟨x, hx⟩ : ∃ x, Nt.lb xs j = x := ⟨_, rfl⟩
        obtain ⟨y, hy⟩ : ∃ y, Nt.lb ys j = y := ⟨_, rfl⟩
        rw [hx] at g1 HD
        rw [hy] at g2 HD
        rw [hc.out] at HD
        clear hc1 hc2 hxc hyc hx hy hc
        by_cases l1 : x < y
        · have e : R = -1 := by rw [HD.out, if_pos l1]
          subst e
          clear HD HR
          go_wp2
          go_quiet (fail)
          go_wp2
          go_ret
          exact ⟨rfl, HB.out.trans ((ubelow_drewN hbr).mono HB.out.size)⟩
        · by_cases l2 : y < x
          · have e : R = 1 := by rw [HD.out, if_neg l1, if_pos l2]
            subst e
            clear HD HR
            go_wp2
            go_quiet (fail)
            obtain ⟨w3, hw3⟩ : ∃ w3, w3 = wr.drewN nq := ⟨_, rfl⟩
            have hB3 : Below w2.heap.size w2 w3 := by rw [hw3]; exact ubelow_drewN hbr
            have k1 : w3.cell? ⟨b1, o1 + j, none⟩ = some (.int .i64 x) := by rw [hw3, World.cell?_drewN]; exact g1
            have k2 : w3.cell? ⟨b2, o2 + j, none⟩ = some (.int .i64 y) := by rw [hw3, World.cell?_drewN]; exact g2
            rw [← hw3]
            clear hw3 g1 g2 hbr
            go_wp2
            go_quiet (fail)
            go_wp2
            go_ret
            exact ⟨rfl, HB.out.trans ((ubelow_drewN hB3).mono HB.out.size)⟩
          · have HC := hide (show uCmp (xs.drop (j + 1)) (ys.drop (j + 1)) = R by rw [HD.out, if_neg l1, if_neg l2])
            clear HD HR
            go_wp2
            go_quiet (fail)
            obtain ⟨w3, hw3⟩ : ∃ w3, w3 = wr.drewN nq := ⟨_, rfl⟩
            have hB3 : Below w2.heap.size w2 w3 := by rw [hw3]; exact ubelow_drewN hbr
            have k1 : w3.cell? ⟨b1, o1 + j, none⟩ = some (.int .i64 x) := by rw [hw3, World.cell?_drewN]; exact g1
            have k2 : w3.cell? ⟨b2, o2 + j, none⟩ = some (.int .i64 y) := by rw [hw3, World.cell?_drewN]; exact g2
            rw [← hw3]
            clear hw3 g1 g2 hbr
            go_wp2
            go_quiet (fail)
            go_wp2
            go_roundw
            case rel => exact ⟨j + 1, by omega, by omega, by simp, HC, ubelow_drewN hB3⟩
            case measure => simp [intOf]; omega
      · have p2 : decide ((j : Int) < (ys.length : Int)) = false := decide_eq_false (by omega)
        have hje : j = ys.length := by omega
        have e : R = 1 := by
          rw [← hc.out, hje, List.drop_length, List.drop_eq_getElem_cons (by omega)]; rfl
        subst e
        have p3 : ¬ (xs.length : Int) < (ys.length : Int) := by omega
        have p4 : (ys.length : Int) < (xs.length : Int) := by omega
        clear hc HR hje
        go_wp2
        go_ret
        exact ⟨rfl, HB.out.trans (hbr.mono HB.out.size)⟩
    · have p1 : ¬ (j : Int) < (xs.length : Int) := by omega
      have hje : j = xs.length := by omega
      by_cases h2 : j < ys.length
      · have e : R = -1 := by
          rw [← hc.out, hje, List.drop_length, List.drop_eq_getElem_cons (by omega)]; rfl
        subst e
        have p4 : (xs.length : Int) < (ys.length : Int) := by omega
        clear hc HR hje
        go_wp2
        go_ret
        exact ⟨rfl, HB.out.trans (hbr.mono HB.out.size)⟩
      · have e : R = 0 := by
          rw [← hc.out, List.drop_of_length_le (by omega), List.drop_of_length_le (by omega)]; rfl
        subst e
        have p3 : ¬ (xs.length : Int) < (ys.length : Int) := by omega
        have p4 : ¬ (ys.length : Int) < (xs.length : Int) := by omega
        clear hc HR hje
        go_wp2
        go_ret
        exact ⟨rfl, HB.out.trans (hbr.mono HB.out.size)⟩

set_option maxRecDepth 100000 in
set_option maxHeartbeats 4000000 in
theorem uorders_walk {w : World} {s1 s2 : ByteArray} (h1 : s1.size ≤ 1048576) (h2 : s2.size ≤ 1048576) :
    Calls Try.prog 4 #[.string s1, .string s2] w fun e w' => e = .returned (.bool true) ∧ Below w.heap.size w w' := by
  obtain ⟨ea, ha, hle1, hs1⟩ := utxt_of s1
  obtain ⟨eb, hb, hle2, hs2⟩ := utxt_of s2
  rw [← hle1] at h1
  rw [← hle2] at h2
  obtain ⟨qa, hqa⟩ := USteps.exists ea.length (Nat.le_refl _) ha
  obtain ⟨qb, hqb⟩ := USteps.exists eb.length (Nat.le_refl _) hb
  have c1 := hide (fun w => ucmp_any (w := w) ha hs1 (by omega) hb hs2 (by omega) hqa hqb)
  have c2 := hide (fun w => rcmp_any (w := w) ha hs1 (by omega) hb hs2 (by omega) hqa hqb)
  have c3 := hide (fun w => ucmp_any (w := w) hb hs2 (by omega) ha hs1 (by omega) hqb hqa)
  have c4 := hide (fun w => rcmp_any (w := w) hb hs2 (by omega) ha hs1 (by omega) hqb hqa)
  have c5 := hide (fun w => ucmp_any (w := w) ha hs1 (by omega) ha hs1 (by omega) hqa hqa)
  rw [uCmp_self] at c5
  obtain ⟨x, hx⟩ : ∃ x, uCmp (uCodes qa) (uCodes qb) = x := ⟨_, rfl⟩
  obtain ⟨y, hy⟩ : ∃ y, uCmp (uCodes qb) (uCodes qa) = y := ⟨_, rfl⟩
  rw [hx] at c1 c2
  rw [hy] at c3 c4
  have q1 : (x == x) = true := by simp
  have q2 : (y == y) = true := by simp
  clear ha hb hle1 hle2 hs1 hs2 h1 h2 hqa hqb hx hy
  go_enter Try.func4, Try.ntmps4
  go_wp2_with fail
  refine (c1.out _).mono ?_
  rintro e w' ⟨rfl, rfl⟩
  go_wp2_with fail
  refine (c2.out _).mono ?_
  rintro e w2 ⟨rfl, hB2⟩
  go_wp2_with fail
  refine (c3.out _).mono ?_
  rintro e w3 ⟨rfl, rfl⟩
  go_wp2_with fail
  refine (c4.out _).mono ?_
  rintro e w4 ⟨rfl, hB4⟩
  go_wp2_with fail
  refine (c5.out _).mono ?_
  rintro e w5 ⟨rfl, rfl⟩
  go_wp2_with fail
  refine ulives_any.mono ?_
  rintro e w6 ⟨rfl, hB6⟩
  go_wp2
  go_ret
  have z2 := hB2.size
  have z4 := hB4.size
  exact ⟨rfl, (hB2.trans (hB4.mono z2)).trans (hB6.mono (by omega))⟩

end Go.Proofs.Yteejbcknikjkjaa
