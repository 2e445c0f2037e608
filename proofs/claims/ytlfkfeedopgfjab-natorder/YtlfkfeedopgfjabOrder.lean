/- NatOrder -/
import Derived.Test.YtlfkfeedopgfjabLives
import Derived.Test.YtlfkfeedopgfjabSub
import Derived.Test.YtlfkfeedopgfjabNorm
import Derived.Test.YtlfkfeedopgfjabBeyond
namespace Go.Proofs.Ytlfkfeedopgfjab
open Go.RowKit

theorem beyond3' {w : World} {g : Nat} {ao bo co : Option Addr} {la lb lc ca cb cc : Nat} (ha : la ≤ 70368744177664) (hb : lb ≤ 70368744177664) (hc : lc ≤ 70368744177664)
    (h0 : w.cell? ⟨g, 0, none⟩ = some (.slice ao la ca)) (h1 : w.cell? ⟨g, 1, none⟩ = some (.slice bo lb cb)) (h2 : w.cell? ⟨g, 2, none⟩ = some (.slice co lc cc)) :
    Calls Try.prog 6 #[.slice (some ⟨g, 0, none⟩) 3 3] w fun e w' => e = .returned (.bool (decide (1048576 < tot [la, lb, lc]))) ∧ w' = w := by
  refine beyond_any (ls := [la, lb, lc]) (by simp) (fun i => ?_) (fun i hi => ?_)
  · match i with
    | 0 => simpa using ha
    | 1 => simpa using hb
    | 2 => simpa using hc
    | i + 3 => simp
  · match i, hi with
    | 0, _ => exact ⟨_, _, h0⟩
    | 1, _ => exact ⟨_, _, h1⟩
    | 2, _ => exact ⟨_, _, h2⟩
theorem cmp_val {w : World} {va vb : Value} {n m s : Int} {ka kb : Nat} (ha : Arg w va n ka) (hb : Arg w vb m kb) (hka : ka ≤ 1099511627776) (hkb : kb ≤ 1099511627776) (hs : sgn n m = s) :
    Calls Try.prog 8 #[va, vb] w fun e w' => e = .returned (.int .i64 s) ∧ Below w.heap.size w w' := by
  subst hs
  exact cmp_any ha hb hka hkb
theorem same_diff {w : World} {va vb : Value} {n m : Int} {B B' k k' : Nat} (ha : Num B w va n k) (hb : Num B' w vb m k') (he : ¬ n = m) :
    Calls Try.prog 9 #[va, vb] w fun e w' => e = .returned (.bool false) ∧ Below w.heap.size w w' := by
  obtain ⟨xs, hx, hxc, hxv, _⟩ := ha
  obtain ⟨ys, hy, hyc, hyv, _⟩ := hb
  have e : ¬ xs = ys := fun e => he (by rw [← hxv, ← hyv, e])
  have := same_any hx.reads hy.reads
  rw [decide_eq_false e] at this
  exact this
theorem sgn_add (a b c : Int) : sgn (a + c) (b + c) = sgn a b := by
  rcases Int.lt_trichotomy a b with h | h | h
  · rw [sgn_lt h, sgn_lt (by omega)]
  · rw [sgn_eq h, sgn_eq (by omega)]
  · rw [sgn_gt h, sgn_gt (by omega)]
theorem sgn_mul (a b c : Int) (hc : 0 < c) : sgn (a * c) (b * c) = sgn a b := by
  rcases Int.lt_trichotomy a b with h | h | h
  · rw [sgn_lt h, sgn_lt (Int.mul_lt_mul_of_pos_right h hc)]
  · subst h; rw [sgn_eq rfl, sgn_eq rfl]
  · rw [sgn_gt h, sgn_gt (Int.mul_lt_mul_of_pos_right h hc)]
theorem sgn_le {a b : Int} (h : a ≤ b) : sgn a b ≤ 0 := by unfold sgn; split <;> (try split) <;> omega
theorem sgn_le_iff {a b : Int} (h : sgn a b ≤ 0) : a ≤ b := by unfold sgn at h; split at h <;> (try split at h) <;> omega

set_option maxHeartbeats 4000000 in
theorem order_l00 {w : World} {va vb vc : Value} {xs ys zs : List Int} (ha : Reads .u32 w va xs) (hb : Reads .u32 w vb ys) (hc : Reads .u32 w vc zs) (oa : Nt.Ok xs) (ob : Nt.Ok ys) (oc : Nt.Ok zs)
    (la : xs.length ≤ 70368744177664) (lb : ys.length ≤ 70368744177664) (lc : zs.length ≤ 70368744177664) (hsml : ¬ 1048576 < tot [xs.length, ys.length, zs.length]) (hAB : Nt.val xs < Nt.val ys) (hBC : Nt.val ys ≤ Nt.val zs) (hC : Nt.val zs = 0) :
    Calls Try.prog 3 #[va, vb, vc] w fun e w' => e = .returned (.bool true) ∧ Below w.heap.size w w' := by
  obtain ⟨ao, ca, rfl, ha1, ha2, ha3⟩ := ha
  obtain ⟨bo, cb, rfl, hb1, hb2, hb3⟩ := hb
  obtain ⟨co, cc, rfl, hc1, hc2, hc3⟩ := hc
  have hbey := fun (W : World) => beyond3' (w := W) (g := w.heap.size) (ao := ao) (bo := bo) (co := co) (ca := ca) (cb := cb) (cc := cc) la lb lc
  rw [decide_eq_false hsml] at hbey
  simp only [tot] at hsml
  have Hbey := hide hbey
  have h_a : Arg w (.slice ao xs.length ca) (Nt.val xs) 1048576 := ⟨xs, ⟨ao, ca, rfl, ha1, ha2, ha3⟩, oa, rfl, by omega⟩
  have h_b : Arg w (.slice bo ys.length cb) (Nt.val ys) 1048576 := ⟨ys, ⟨bo, cb, rfl, hb1, hb2, hb3⟩, ob, rfl, by omega⟩
  have h_c : Arg w (.slice co zs.length cc) (Nt.val zs) 1048576 := ⟨zs, ⟨co, cc, rfl, hc1, hc2, hc3⟩, oc, rfl, by omega⟩
  have nC := h_c.nonneg
  clear hbey hsml ha1 ha2 ha3 hb1 hb2 hb3 hc1 hc2 hc3 oa ob oc
  generalize Nt.val xs = A at *
  generalize Nt.val ys = B at *
  generalize Nt.val zs = C at *
  have sx := hide (sgn_lt hAB)
  have sx' := hide (sgn_gt hAB)
  obtain ⟨Y, hY⟩ : ∃ Y, sgn B C = Y := ⟨_, rfl⟩
  have hY0 : Y ≤ 0 := by rw [← hY]; exact sgn_le hBC
  have HY := hide hY
  obtain ⟨S, hS⟩ : ∃ S, sgn A C = S := ⟨_, rfl⟩
  have hS0 : ¬ 0 < S := by rw [← hS]; have := sgn_le (show A ≤ C by omega); omega
  have HS := hide hS
  clear hS
  have HAB := hide hAB
  have HC := hide hC
  clear hY hAB hC
  go_enter Try.func3, Try.ntmps3
  go_wp2_with fail
  refine Calls.mono (Hbey.out _ (by simp) (by simp) (by simp)) ?_
  rintro e w1 ⟨rfl, rfl⟩
  clear Hbey
  have hW : Below w.heap.size w (w.alloc (.cells #[.slice ao xs.length ca, .slice bo ys.length cb, .slice co zs.length cc] 23)) := below_alloc _ _
  replace h_a := h_a.below hW
  replace h_b := h_b.below hW
  replace h_c := h_c.below hW
  go_wp2_with fail
  refine (lives_any).mono ?_
  rintro e w2 ⟨rfl, hB⟩
  replace hW := below_trans hW hB
  replace h_a := h_a.below hB
  replace h_b := h_b.below hB
  replace h_c := h_c.below hB
  clear hB
  go_wp2_with fail
  refine (cmp_val h_a.arg h_b.arg (by omega) (by omega) (sx.out)).mono ?_
  rintro e w3 ⟨rfl, hB⟩
  replace hW := below_trans hW hB
  replace h_a := h_a.below hB
  replace h_b := h_b.below hB
  replace h_c := h_c.below hB
  clear hB
  go_wp2_with fail
  refine (cmp_val h_b.arg h_c.arg (by omega) (by omega) (HY.out)).mono ?_
  rintro e w4 ⟨rfl, hB⟩
  replace hW := below_trans hW hB
  replace h_a := h_a.below hB
  replace h_b := h_b.below hB
  replace h_c := h_c.below hB
  clear hB
  go_wp2_with fail
  refine (cmp_val h_b.arg h_a.arg (by omega) (by omega) (sx'.out)).mono ?_
  rintro e w5 ⟨rfl, hB⟩
  replace hW := below_trans hW hB
  replace h_a := h_a.below hB
  replace h_b := h_b.below hB
  replace h_c := h_c.below hB
  clear hB
  go_wp2_with fail
  refine (cmp_val h_a.arg h_c.arg (by omega) (by omega) (HS.out)).mono ?_
  rintro e w6 ⟨rfl, hB⟩
  replace hW := below_trans hW hB
  replace h_a := h_a.below hB
  replace h_b := h_b.below hB
  replace h_c := h_c.below hB
  clear hB
  go_wp2_with fail
  refine (norm_any h_a.arg (by omega)).mono ?_
  rintro e w7 ⟨v_t1, rfl, h_t1, hB⟩
  replace hW := below_trans hW hB
  replace h_a := h_a.below hB
  replace h_b := h_b.below hB
  replace h_c := h_c.below hB
  clear hB
  go_wp2_with fail
  refine (norm_any h_b.arg (by omega)).mono ?_
  rintro e w8 ⟨v_t2, rfl, h_t2, hB⟩
  replace hW := below_trans hW hB
  replace h_a := h_a.below hB
  replace h_b := h_b.below hB
  replace h_c := h_c.below hB
  replace h_t1 := h_t1.below hB
  clear hB
  go_wp2_with fail
  refine (same_diff h_t1 h_t2 (by have := HAB.out; omega)).mono ?_
  rintro e w9 ⟨rfl, hB⟩
  replace hW := below_trans hW hB
  replace h_a := h_a.below hB
  replace h_b := h_b.below hB
  replace h_c := h_c.below hB
  clear hB h_t1 h_t2
  go_wp2_with fail
  refine (sub_no h_a.arg h_b.arg (by omega) (by omega) HAB.out).mono ?_
  rintro e w10 ⟨rfl, hB⟩
  replace hW := below_trans hW hB
  replace h_a := h_a.below hB
  replace h_b := h_b.below hB
  replace h_c := h_c.below hB
  clear hB
  go_wp2_with fail
  refine (add_any h_a.arg h_c.arg (by omega) (by omega)).mono ?_
  rintro e w11 ⟨v_u1, rfl, h_u1, hB⟩
  replace hW := below_trans hW hB
  replace h_a := h_a.below hB
  replace h_b := h_b.below hB
  replace h_c := h_c.below hB
  clear hB
  go_wp2_with fail
  refine (add_any h_b.arg h_c.arg (by omega) (by omega)).mono ?_
  rintro e w12 ⟨v_u2, rfl, h_u2, hB⟩
  replace hW := below_trans hW hB
  replace h_a := h_a.below hB
  replace h_b := h_b.below hB
  replace h_c := h_c.below hB
  replace h_u1 := h_u1.below hB
  clear hB
  go_wp2_with fail
  refine (cmp_val h_u1.arg h_u2.arg (by omega) (by omega) ((sgn_add _ _ _).trans sx.out)).mono ?_
  rintro e w13 ⟨rfl, hB⟩
  replace hW := below_trans hW hB
  replace h_a := h_a.below hB
  replace h_b := h_b.below hB
  replace h_c := h_c.below hB
  clear hB h_u1 h_u2
  go_wp2_with fail
  refine (mul_any h_a.arg h_c.arg (by omega) (by omega)).mono ?_
  rintro e w14 ⟨v_u3, rfl, h_u3, hB⟩
  replace hW := below_trans hW hB
  replace h_b := h_b.below hB
  replace h_c := h_c.below hB
  clear hB h_a
  go_wp2_with fail
  refine (mul_any h_b.arg h_c.arg (by omega) (by omega)).mono ?_
  rintro e w15 ⟨v_u4, rfl, h_u4, hB⟩
  replace hW := below_trans hW hB
  replace h_c := h_c.below hB
  replace h_u3 := h_u3.below hB
  clear hB h_b
  go_wp2_with fail
  refine (cmp_val h_u3.arg h_u4.arg (by omega) (by omega) (sgn_eq (by rw [HC.out, Int.mul_zero, Int.mul_zero]))).mono ?_
  rintro e w16 ⟨rfl, hB⟩
  replace hW := below_trans hW hB
  replace h_c := h_c.below hB
  clear hB h_u3 h_u4
  go_wp2_with fail
  refine (norm_any h_c.arg (by omega)).mono ?_
  rintro e w17 ⟨v_z, rfl, h_z, hB⟩
  replace hW := below_trans hW hB
  clear hB h_c
  obtain ⟨zo, rfl⟩ := h_z.zero HC.out
  go_wp2
  go_ret
  exact ⟨rfl, hW⟩

set_option maxHeartbeats 4000000 in
theorem order_l01 {w : World} {va vb vc : Value} {xs ys zs : List Int} (ha : Reads .u32 w va xs) (hb : Reads .u32 w vb ys) (hc : Reads .u32 w vc zs) (oa : Nt.Ok xs) (ob : Nt.Ok ys) (oc : Nt.Ok zs)
    (la : xs.length ≤ 70368744177664) (lb : ys.length ≤ 70368744177664) (lc : zs.length ≤ 70368744177664) (hsml : ¬ 1048576 < tot [xs.length, ys.length, zs.length]) (hAB : Nt.val xs < Nt.val ys) (hBC : Nt.val ys ≤ Nt.val zs) (hC : 0 < Nt.val zs) :
    Calls Try.prog 3 #[va, vb, vc] w fun e w' => e = .returned (.bool true) ∧ Below w.heap.size w w' := by
  obtain ⟨ao, ca, rfl, ha1, ha2, ha3⟩ := ha
  obtain ⟨bo, cb, rfl, hb1, hb2, hb3⟩ := hb
  obtain ⟨co, cc, rfl, hc1, hc2, hc3⟩ := hc
  have hbey := fun (W : World) => beyond3' (w := W) (g := w.heap.size) (ao := ao) (bo := bo) (co := co) (ca := ca) (cb := cb) (cc := cc) la lb lc
  rw [decide_eq_false hsml] at hbey
  simp only [tot] at hsml
  have Hbey := hide hbey
  have h_a : Arg w (.slice ao xs.length ca) (Nt.val xs) 1048576 := ⟨xs, ⟨ao, ca, rfl, ha1, ha2, ha3⟩, oa, rfl, by omega⟩
  have h_b : Arg w (.slice bo ys.length cb) (Nt.val ys) 1048576 := ⟨ys, ⟨bo, cb, rfl, hb1, hb2, hb3⟩, ob, rfl, by omega⟩
  have h_c : Arg w (.slice co zs.length cc) (Nt.val zs) 1048576 := ⟨zs, ⟨co, cc, rfl, hc1, hc2, hc3⟩, oc, rfl, by omega⟩
  have nC := h_c.nonneg
  clear hbey hsml ha1 ha2 ha3 hb1 hb2 hb3 hc1 hc2 hc3 oa ob oc
  generalize Nt.val xs = A at *
  generalize Nt.val ys = B at *
  generalize Nt.val zs = C at *
  have sx := hide (sgn_lt hAB)
  have sx' := hide (sgn_gt hAB)
  obtain ⟨Y, hY⟩ : ∃ Y, sgn B C = Y := ⟨_, rfl⟩
  have hY0 : Y ≤ 0 := by rw [← hY]; exact sgn_le hBC
  have HY := hide hY
  obtain ⟨S, hS⟩ : ∃ S, sgn A C = S := ⟨_, rfl⟩
  have hS0 : ¬ 0 < S := by rw [← hS]; have := sgn_le (show A ≤ C by omega); omega
  have HS := hide hS
  clear hS
  have HAB := hide hAB
  have HC := hide hC
  clear hY hAB hC
  go_enter Try.func3, Try.ntmps3
  go_wp2_with fail
  refine Calls.mono (Hbey.out _ (by simp) (by simp) (by simp)) ?_
  rintro e w1 ⟨rfl, rfl⟩
  clear Hbey
  have hW : Below w.heap.size w (w.alloc (.cells #[.slice ao xs.length ca, .slice bo ys.length cb, .slice co zs.length cc] 23)) := below_alloc _ _
  replace h_a := h_a.below hW
  replace h_b := h_b.below hW
  replace h_c := h_c.below hW
  go_wp2_with fail
  refine (lives_any).mono ?_
  rintro e w2 ⟨rfl, hB⟩
  replace hW := below_trans hW hB
  replace h_a := h_a.below hB
  replace h_b := h_b.below hB
  replace h_c := h_c.below hB
  clear hB
  go_wp2_with fail
  refine (cmp_val h_a.arg h_b.arg (by omega) (by omega) (sx.out)).mono ?_
  rintro e w3 ⟨rfl, hB⟩
  replace hW := below_trans hW hB
  replace h_a := h_a.below hB
  replace h_b := h_b.below hB
  replace h_c := h_c.below hB
  clear hB
  go_wp2_with fail
  refine (cmp_val h_b.arg h_c.arg (by omega) (by omega) (HY.out)).mono ?_
  rintro e w4 ⟨rfl, hB⟩
  replace hW := below_trans hW hB
  replace h_a := h_a.below hB
  replace h_b := h_b.below hB
  replace h_c := h_c.below hB
  clear hB
  go_wp2_with fail
  refine (cmp_val h_b.arg h_a.arg (by omega) (by omega) (sx'.out)).mono ?_
  rintro e w5 ⟨rfl, hB⟩
  replace hW := below_trans hW hB
  replace h_a := h_a.below hB
  replace h_b := h_b.below hB
  replace h_c := h_c.below hB
  clear hB
  go_wp2_with fail
  refine (cmp_val h_a.arg h_c.arg (by omega) (by omega) (HS.out)).mono ?_
  rintro e w6 ⟨rfl, hB⟩
  replace hW := below_trans hW hB
  replace h_a := h_a.below hB
  replace h_b := h_b.below hB
  replace h_c := h_c.below hB
  clear hB
  go_wp2_with fail
  refine (norm_any h_a.arg (by omega)).mono ?_
  rintro e w7 ⟨v_t1, rfl, h_t1, hB⟩
  replace hW := below_trans hW hB
  replace h_a := h_a.below hB
  replace h_b := h_b.below hB
  replace h_c := h_c.below hB
  clear hB
  go_wp2_with fail
  refine (norm_any h_b.arg (by omega)).mono ?_
  rintro e w8 ⟨v_t2, rfl, h_t2, hB⟩
  replace hW := below_trans hW hB
  replace h_a := h_a.below hB
  replace h_b := h_b.below hB
  replace h_c := h_c.below hB
  replace h_t1 := h_t1.below hB
  clear hB
  go_wp2_with fail
  refine (same_diff h_t1 h_t2 (by have := HAB.out; omega)).mono ?_
  rintro e w9 ⟨rfl, hB⟩
  replace hW := below_trans hW hB
  replace h_a := h_a.below hB
  replace h_b := h_b.below hB
  replace h_c := h_c.below hB
  clear hB h_t1 h_t2
  go_wp2_with fail
  refine (sub_no h_a.arg h_b.arg (by omega) (by omega) HAB.out).mono ?_
  rintro e w10 ⟨rfl, hB⟩
  replace hW := below_trans hW hB
  replace h_a := h_a.below hB
  replace h_b := h_b.below hB
  replace h_c := h_c.below hB
  clear hB
  go_wp2_with fail
  refine (add_any h_a.arg h_c.arg (by omega) (by omega)).mono ?_
  rintro e w11 ⟨v_u1, rfl, h_u1, hB⟩
  replace hW := below_trans hW hB
  replace h_a := h_a.below hB
  replace h_b := h_b.below hB
  replace h_c := h_c.below hB
  clear hB
  go_wp2_with fail
  refine (add_any h_b.arg h_c.arg (by omega) (by omega)).mono ?_
  rintro e w12 ⟨v_u2, rfl, h_u2, hB⟩
  replace hW := below_trans hW hB
  replace h_a := h_a.below hB
  replace h_b := h_b.below hB
  replace h_c := h_c.below hB
  replace h_u1 := h_u1.below hB
  clear hB
  go_wp2_with fail
  refine (cmp_val h_u1.arg h_u2.arg (by omega) (by omega) ((sgn_add _ _ _).trans sx.out)).mono ?_
  rintro e w13 ⟨rfl, hB⟩
  replace hW := below_trans hW hB
  replace h_a := h_a.below hB
  replace h_b := h_b.below hB
  replace h_c := h_c.below hB
  clear hB h_u1 h_u2
  go_wp2_with fail
  refine (mul_any h_a.arg h_c.arg (by omega) (by omega)).mono ?_
  rintro e w14 ⟨v_u3, rfl, h_u3, hB⟩
  replace hW := below_trans hW hB
  replace h_b := h_b.below hB
  replace h_c := h_c.below hB
  clear hB h_a
  go_wp2_with fail
  refine (mul_any h_b.arg h_c.arg (by omega) (by omega)).mono ?_
  rintro e w15 ⟨v_u4, rfl, h_u4, hB⟩
  replace hW := below_trans hW hB
  replace h_u3 := h_u3.below hB
  clear hB h_b h_c
  go_wp2_with fail
  refine (cmp_val h_u3.arg h_u4.arg (by omega) (by omega) ((sgn_mul _ _ _ HC.out).trans sx.out)).mono ?_
  rintro e w16 ⟨rfl, hB⟩
  replace hW := below_trans hW hB
  clear hB h_u3 h_u4
  go_wp2
  go_ret
  exact ⟨rfl, hW⟩

set_option maxHeartbeats 4000000 in
theorem order_l10 {w : World} {va vb vc : Value} {xs ys zs : List Int} (ha : Reads .u32 w va xs) (hb : Reads .u32 w vb ys) (hc : Reads .u32 w vc zs) (oa : Nt.Ok xs) (ob : Nt.Ok ys) (oc : Nt.Ok zs)
    (la : xs.length ≤ 70368744177664) (lb : ys.length ≤ 70368744177664) (lc : zs.length ≤ 70368744177664) (hsml : ¬ 1048576 < tot [xs.length, ys.length, zs.length]) (hAB : Nt.val xs < Nt.val ys) (hBC : Nt.val zs < Nt.val ys) (hC : Nt.val zs = 0) :
    Calls Try.prog 3 #[va, vb, vc] w fun e w' => e = .returned (.bool true) ∧ Below w.heap.size w w' := by
  obtain ⟨ao, ca, rfl, ha1, ha2, ha3⟩ := ha
  obtain ⟨bo, cb, rfl, hb1, hb2, hb3⟩ := hb
  obtain ⟨co, cc, rfl, hc1, hc2, hc3⟩ := hc
  have hbey := fun (W : World) => beyond3' (w := W) (g := w.heap.size) (ao := ao) (bo := bo) (co := co) (ca := ca) (cb := cb) (cc := cc) la lb lc
  rw [decide_eq_false hsml] at hbey
  simp only [tot] at hsml
  have Hbey := hide hbey
  have h_a : Arg w (.slice ao xs.length ca) (Nt.val xs) 1048576 := ⟨xs, ⟨ao, ca, rfl, ha1, ha2, ha3⟩, oa, rfl, by omega⟩
  have h_b : Arg w (.slice bo ys.length cb) (Nt.val ys) 1048576 := ⟨ys, ⟨bo, cb, rfl, hb1, hb2, hb3⟩, ob, rfl, by omega⟩
  have h_c : Arg w (.slice co zs.length cc) (Nt.val zs) 1048576 := ⟨zs, ⟨co, cc, rfl, hc1, hc2, hc3⟩, oc, rfl, by omega⟩
  have nC := h_c.nonneg
  clear hbey hsml ha1 ha2 ha3 hb1 hb2 hb3 hc1 hc2 hc3 oa ob oc
  generalize Nt.val xs = A at *
  generalize Nt.val ys = B at *
  generalize Nt.val zs = C at *
  have sx := hide (sgn_lt hAB)
  have sx' := hide (sgn_gt hAB)
  obtain ⟨Y, hY⟩ : ∃ Y, sgn B C = Y := ⟨_, rfl⟩
  have hY0 : ¬ Y ≤ 0 := by rw [← hY, sgn_gt hBC]; omega
  have HY := hide hY
  have HAB := hide hAB
  have HC := hide hC
  clear hY hAB hC
  go_enter Try.func3, Try.ntmps3
  go_wp2_with fail
  refine Calls.mono (Hbey.out _ (by simp) (by simp) (by simp)) ?_
  rintro e w1 ⟨rfl, rfl⟩
  clear Hbey
  have hW : Below w.heap.size w (w.alloc (.cells #[.slice ao xs.length ca, .slice bo ys.length cb, .slice co zs.length cc] 23)) := below_alloc _ _
  replace h_a := h_a.below hW
  replace h_b := h_b.below hW
  replace h_c := h_c.below hW
  go_wp2_with fail
  refine (lives_any).mono ?_
  rintro e w2 ⟨rfl, hB⟩
  replace hW := below_trans hW hB
  replace h_a := h_a.below hB
  replace h_b := h_b.below hB
  replace h_c := h_c.below hB
  clear hB
  go_wp2_with fail
  refine (cmp_val h_a.arg h_b.arg (by omega) (by omega) (sx.out)).mono ?_
  rintro e w3 ⟨rfl, hB⟩
  replace hW := below_trans hW hB
  replace h_a := h_a.below hB
  replace h_b := h_b.below hB
  replace h_c := h_c.below hB
  clear hB
  go_wp2_with fail
  refine (cmp_val h_b.arg h_c.arg (by omega) (by omega) (HY.out)).mono ?_
  rintro e w4 ⟨rfl, hB⟩
  replace hW := below_trans hW hB
  replace h_a := h_a.below hB
  replace h_b := h_b.below hB
  replace h_c := h_c.below hB
  clear hB
  go_wp2_with fail
  refine (cmp_val h_b.arg h_a.arg (by omega) (by omega) (sx'.out)).mono ?_
  rintro e w5 ⟨rfl, hB⟩
  replace hW := below_trans hW hB
  replace h_a := h_a.below hB
  replace h_b := h_b.below hB
  replace h_c := h_c.below hB
  clear hB
  go_wp2_with fail
  refine (norm_any h_a.arg (by omega)).mono ?_
  rintro e w6 ⟨v_t1, rfl, h_t1, hB⟩
  replace hW := below_trans hW hB
  replace h_a := h_a.below hB
  replace h_b := h_b.below hB
  replace h_c := h_c.below hB
  clear hB
  go_wp2_with fail
  refine (norm_any h_b.arg (by omega)).mono ?_
  rintro e w7 ⟨v_t2, rfl, h_t2, hB⟩
  replace hW := below_trans hW hB
  replace h_a := h_a.below hB
  replace h_b := h_b.below hB
  replace h_c := h_c.below hB
  replace h_t1 := h_t1.below hB
  clear hB
  go_wp2_with fail
  refine (same_diff h_t1 h_t2 (by have := HAB.out; omega)).mono ?_
  rintro e w8 ⟨rfl, hB⟩
  replace hW := below_trans hW hB
  replace h_a := h_a.below hB
  replace h_b := h_b.below hB
  replace h_c := h_c.below hB
  clear hB h_t1 h_t2
  go_wp2_with fail
  refine (sub_no h_a.arg h_b.arg (by omega) (by omega) HAB.out).mono ?_
  rintro e w9 ⟨rfl, hB⟩
  replace hW := below_trans hW hB
  replace h_a := h_a.below hB
  replace h_b := h_b.below hB
  replace h_c := h_c.below hB
  clear hB
  go_wp2_with fail
  refine (add_any h_a.arg h_c.arg (by omega) (by omega)).mono ?_
  rintro e w10 ⟨v_u1, rfl, h_u1, hB⟩
  replace hW := below_trans hW hB
  replace h_a := h_a.below hB
  replace h_b := h_b.below hB
  replace h_c := h_c.below hB
  clear hB
  go_wp2_with fail
  refine (add_any h_b.arg h_c.arg (by omega) (by omega)).mono ?_
  rintro e w11 ⟨v_u2, rfl, h_u2, hB⟩
  replace hW := below_trans hW hB
  replace h_a := h_a.below hB
  replace h_b := h_b.below hB
  replace h_c := h_c.below hB
  replace h_u1 := h_u1.below hB
  clear hB
  go_wp2_with fail
  refine (cmp_val h_u1.arg h_u2.arg (by omega) (by omega) ((sgn_add _ _ _).trans sx.out)).mono ?_
  rintro e w12 ⟨rfl, hB⟩
  replace hW := below_trans hW hB
  replace h_a := h_a.below hB
  replace h_b := h_b.below hB
  replace h_c := h_c.below hB
  clear hB h_u1 h_u2
  go_wp2_with fail
  refine (mul_any h_a.arg h_c.arg (by omega) (by omega)).mono ?_
  rintro e w13 ⟨v_u3, rfl, h_u3, hB⟩
  replace hW := below_trans hW hB
  replace h_b := h_b.below hB
  replace h_c := h_c.below hB
  clear hB h_a
  go_wp2_with fail
  refine (mul_any h_b.arg h_c.arg (by omega) (by omega)).mono ?_
  rintro e w14 ⟨v_u4, rfl, h_u4, hB⟩
  replace hW := below_trans hW hB
  replace h_c := h_c.below hB
  replace h_u3 := h_u3.below hB
  clear hB h_b
  go_wp2_with fail
  refine (cmp_val h_u3.arg h_u4.arg (by omega) (by omega) (sgn_eq (by rw [HC.out, Int.mul_zero, Int.mul_zero]))).mono ?_
  rintro e w15 ⟨rfl, hB⟩
  replace hW := below_trans hW hB
  replace h_c := h_c.below hB
  clear hB h_u3 h_u4
  go_wp2_with fail
  refine (norm_any h_c.arg (by omega)).mono ?_
  rintro e w16 ⟨v_z, rfl, h_z, hB⟩
  replace hW := below_trans hW hB
  clear hB h_c
  obtain ⟨zo, rfl⟩ := h_z.zero HC.out
  go_wp2
  go_ret
  exact ⟨rfl, hW⟩

set_option maxHeartbeats 4000000 in
theorem order_l11 {w : World} {va vb vc : Value} {xs ys zs : List Int} (ha : Reads .u32 w va xs) (hb : Reads .u32 w vb ys) (hc : Reads .u32 w vc zs) (oa : Nt.Ok xs) (ob : Nt.Ok ys) (oc : Nt.Ok zs)
    (la : xs.length ≤ 70368744177664) (lb : ys.length ≤ 70368744177664) (lc : zs.length ≤ 70368744177664) (hsml : ¬ 1048576 < tot [xs.length, ys.length, zs.length]) (hAB : Nt.val xs < Nt.val ys) (hBC : Nt.val zs < Nt.val ys) (hC : 0 < Nt.val zs) :
    Calls Try.prog 3 #[va, vb, vc] w fun e w' => e = .returned (.bool true) ∧ Below w.heap.size w w' := by
  obtain ⟨ao, ca, rfl, ha1, ha2, ha3⟩ := ha
  obtain ⟨bo, cb, rfl, hb1, hb2, hb3⟩ := hb
  obtain ⟨co, cc, rfl, hc1, hc2, hc3⟩ := hc
  have hbey := fun (W : World) => beyond3' (w := W) (g := w.heap.size) (ao := ao) (bo := bo) (co := co) (ca := ca) (cb := cb) (cc := cc) la lb lc
  rw [decide_eq_false hsml] at hbey
  simp only [tot] at hsml
  have Hbey := hide hbey
  have h_a : Arg w (.slice ao xs.length ca) (Nt.val xs) 1048576 := ⟨xs, ⟨ao, ca, rfl, ha1, ha2, ha3⟩, oa, rfl, by omega⟩
  have h_b : Arg w (.slice bo ys.length cb) (Nt.val ys) 1048576 := ⟨ys, ⟨bo, cb, rfl, hb1, hb2, hb3⟩, ob, rfl, by omega⟩
  have h_c : Arg w (.slice co zs.length cc) (Nt.val zs) 1048576 := ⟨zs, ⟨co, cc, rfl, hc1, hc2, hc3⟩, oc, rfl, by omega⟩
  have nC := h_c.nonneg
  clear hbey hsml ha1 ha2 ha3 hb1 hb2 hb3 hc1 hc2 hc3 oa ob oc
  generalize Nt.val xs = A at *
  generalize Nt.val ys = B at *
  generalize Nt.val zs = C at *
  have sx := hide (sgn_lt hAB)
  have sx' := hide (sgn_gt hAB)
  obtain ⟨Y, hY⟩ : ∃ Y, sgn B C = Y := ⟨_, rfl⟩
  have hY0 : ¬ Y ≤ 0 := by rw [← hY, sgn_gt hBC]; omega
  have HY := hide hY
  have HAB := hide hAB
  have HC := hide hC
  clear hY hAB hC
  go_enter Try.func3, Try.ntmps3
  go_wp2_with fail
  refine Calls.mono (Hbey.out _ (by simp) (by simp) (by simp)) ?_
  rintro e w1 ⟨rfl, rfl⟩
  clear Hbey
  have hW : Below w.heap.size w (w.alloc (.cells #[.slice ao xs.length ca, .slice bo ys.length cb, .slice co zs.length cc] 23)) := below_alloc _ _
  replace h_a := h_a.below hW
  replace h_b := h_b.below hW
  replace h_c := h_c.below hW
  go_wp2_with fail
  refine (lives_any).mono ?_
  rintro e w2 ⟨rfl, hB⟩
  replace hW := below_trans hW hB
  replace h_a := h_a.below hB
  replace h_b := h_b.below hB
  replace h_c := h_c.below hB
  clear hB
  go_wp2_with fail
  refine (cmp_val h_a.arg h_b.arg (by omega) (by omega) (sx.out)).mono ?_
  rintro e w3 ⟨rfl, hB⟩
  replace hW := below_trans hW hB
  replace h_a := h_a.below hB
  replace h_b := h_b.below hB
  replace h_c := h_c.below hB
  clear hB
  go_wp2_with fail
  refine (cmp_val h_b.arg h_c.arg (by omega) (by omega) (HY.out)).mono ?_
  rintro e w4 ⟨rfl, hB⟩
  replace hW := below_trans hW hB
  replace h_a := h_a.below hB
  replace h_b := h_b.below hB
  replace h_c := h_c.below hB
  clear hB
  go_wp2_with fail
  refine (cmp_val h_b.arg h_a.arg (by omega) (by omega) (sx'.out)).mono ?_
  rintro e w5 ⟨rfl, hB⟩
  replace hW := below_trans hW hB
  replace h_a := h_a.below hB
  replace h_b := h_b.below hB
  replace h_c := h_c.below hB
  clear hB
  go_wp2_with fail
  refine (norm_any h_a.arg (by omega)).mono ?_
  rintro e w6 ⟨v_t1, rfl, h_t1, hB⟩
  replace hW := below_trans hW hB
  replace h_a := h_a.below hB
  replace h_b := h_b.below hB
  replace h_c := h_c.below hB
  clear hB
  go_wp2_with fail
  refine (norm_any h_b.arg (by omega)).mono ?_
  rintro e w7 ⟨v_t2, rfl, h_t2, hB⟩
  replace hW := below_trans hW hB
  replace h_a := h_a.below hB
  replace h_b := h_b.below hB
  replace h_c := h_c.below hB
  replace h_t1 := h_t1.below hB
  clear hB
  go_wp2_with fail
  refine (same_diff h_t1 h_t2 (by have := HAB.out; omega)).mono ?_
  rintro e w8 ⟨rfl, hB⟩
  replace hW := below_trans hW hB
  replace h_a := h_a.below hB
  replace h_b := h_b.below hB
  replace h_c := h_c.below hB
  clear hB h_t1 h_t2
  go_wp2_with fail
  refine (sub_no h_a.arg h_b.arg (by omega) (by omega) HAB.out).mono ?_
  rintro e w9 ⟨rfl, hB⟩
  replace hW := below_trans hW hB
  replace h_a := h_a.below hB
  replace h_b := h_b.below hB
  replace h_c := h_c.below hB
  clear hB
  go_wp2_with fail
  refine (add_any h_a.arg h_c.arg (by omega) (by omega)).mono ?_
  rintro e w10 ⟨v_u1, rfl, h_u1, hB⟩
  replace hW := below_trans hW hB
  replace h_a := h_a.below hB
  replace h_b := h_b.below hB
  replace h_c := h_c.below hB
  clear hB
  go_wp2_with fail
  refine (add_any h_b.arg h_c.arg (by omega) (by omega)).mono ?_
  rintro e w11 ⟨v_u2, rfl, h_u2, hB⟩
  replace hW := below_trans hW hB
  replace h_a := h_a.below hB
  replace h_b := h_b.below hB
  replace h_c := h_c.below hB
  replace h_u1 := h_u1.below hB
  clear hB
  go_wp2_with fail
  refine (cmp_val h_u1.arg h_u2.arg (by omega) (by omega) ((sgn_add _ _ _).trans sx.out)).mono ?_
  rintro e w12 ⟨rfl, hB⟩
  replace hW := below_trans hW hB
  replace h_a := h_a.below hB
  replace h_b := h_b.below hB
  replace h_c := h_c.below hB
  clear hB h_u1 h_u2
  go_wp2_with fail
  refine (mul_any h_a.arg h_c.arg (by omega) (by omega)).mono ?_
  rintro e w13 ⟨v_u3, rfl, h_u3, hB⟩
  replace hW := below_trans hW hB
  replace h_b := h_b.below hB
  replace h_c := h_c.below hB
  clear hB h_a
  go_wp2_with fail
  refine (mul_any h_b.arg h_c.arg (by omega) (by omega)).mono ?_
  rintro e w14 ⟨v_u4, rfl, h_u4, hB⟩
  replace hW := below_trans hW hB
  replace h_u3 := h_u3.below hB
  clear hB h_b h_c
  go_wp2_with fail
  refine (cmp_val h_u3.arg h_u4.arg (by omega) (by omega) ((sgn_mul _ _ _ HC.out).trans sx.out)).mono ?_
  rintro e w15 ⟨rfl, hB⟩
  replace hW := below_trans hW hB
  clear hB h_u3 h_u4
  go_wp2
  go_ret
  exact ⟨rfl, hW⟩

set_option maxHeartbeats 4000000 in
theorem order_e00 {w : World} {va vb vc : Value} {xs ys zs : List Int} (ha : Reads .u32 w va xs) (hb : Reads .u32 w vb ys) (hc : Reads .u32 w vc zs) (oa : Nt.Ok xs) (ob : Nt.Ok ys) (oc : Nt.Ok zs)
    (la : xs.length ≤ 70368744177664) (lb : ys.length ≤ 70368744177664) (lc : zs.length ≤ 70368744177664) (hsml : ¬ 1048576 < tot [xs.length, ys.length, zs.length]) (hAB : Nt.val xs = Nt.val ys) (hBC : Nt.val ys ≤ Nt.val zs) :
    Calls Try.prog 3 #[va, vb, vc] w fun e w' => e = .returned (.bool true) ∧ Below w.heap.size w w' := by
  obtain ⟨ao, ca, rfl, ha1, ha2, ha3⟩ := ha
  obtain ⟨bo, cb, rfl, hb1, hb2, hb3⟩ := hb
  obtain ⟨co, cc, rfl, hc1, hc2, hc3⟩ := hc
  have hbey := fun (W : World) => beyond3' (w := W) (g := w.heap.size) (ao := ao) (bo := bo) (co := co) (ca := ca) (cb := cb) (cc := cc) la lb lc
  rw [decide_eq_false hsml] at hbey
  simp only [tot] at hsml
  have Hbey := hide hbey
  have h_a : Arg w (.slice ao xs.length ca) (Nt.val xs) 1048576 := ⟨xs, ⟨ao, ca, rfl, ha1, ha2, ha3⟩, oa, rfl, by omega⟩
  have h_b : Arg w (.slice bo ys.length cb) (Nt.val ys) 1048576 := ⟨ys, ⟨bo, cb, rfl, hb1, hb2, hb3⟩, ob, rfl, by omega⟩
  have h_c : Arg w (.slice co zs.length cc) (Nt.val zs) 1048576 := ⟨zs, ⟨co, cc, rfl, hc1, hc2, hc3⟩, oc, rfl, by omega⟩
  have nC := h_c.nonneg
  clear hbey hsml ha1 ha2 ha3 hb1 hb2 hb3 hc1 hc2 hc3 oa ob oc
  generalize Nt.val xs = A at *
  generalize Nt.val ys = B at *
  generalize Nt.val zs = C at *
  have sx := hide (sgn_eq hAB)
  have sx' := hide (sgn_eq hAB.symm)
  obtain ⟨Y, hY⟩ : ∃ Y, sgn B C = Y := ⟨_, rfl⟩
  have hY0 : Y ≤ 0 := by rw [← hY]; exact sgn_le hBC
  have HY := hide hY
  obtain ⟨S, hS⟩ : ∃ S, sgn A C = S := ⟨_, rfl⟩
  have hS0 : ¬ 0 < S := by rw [← hS]; have := sgn_le (show A ≤ C by omega); omega
  have HS := hide hS
  clear hS
  have HAB := hide hAB
  clear hY hAB
  go_enter Try.func3, Try.ntmps3
  go_wp2_with fail
  refine Calls.mono (Hbey.out _ (by simp) (by simp) (by simp)) ?_
  rintro e w1 ⟨rfl, rfl⟩
  clear Hbey
  have hW : Below w.heap.size w (w.alloc (.cells #[.slice ao xs.length ca, .slice bo ys.length cb, .slice co zs.length cc] 23)) := below_alloc _ _
  replace h_a := h_a.below hW
  replace h_b := h_b.below hW
  replace h_c := h_c.below hW
  go_wp2_with fail
  refine (lives_any).mono ?_
  rintro e w2 ⟨rfl, hB⟩
  replace hW := below_trans hW hB
  replace h_a := h_a.below hB
  replace h_b := h_b.below hB
  replace h_c := h_c.below hB
  clear hB
  go_wp2_with fail
  refine (cmp_val h_a.arg h_b.arg (by omega) (by omega) (sx.out)).mono ?_
  rintro e w3 ⟨rfl, hB⟩
  replace hW := below_trans hW hB
  replace h_a := h_a.below hB
  replace h_b := h_b.below hB
  replace h_c := h_c.below hB
  clear hB
  go_wp2_with fail
  refine (cmp_val h_b.arg h_c.arg (by omega) (by omega) (HY.out)).mono ?_
  rintro e w4 ⟨rfl, hB⟩
  replace hW := below_trans hW hB
  replace h_a := h_a.below hB
  replace h_b := h_b.below hB
  replace h_c := h_c.below hB
  clear hB
  go_wp2_with fail
  refine (cmp_val h_b.arg h_a.arg (by omega) (by omega) (sx'.out)).mono ?_
  rintro e w5 ⟨rfl, hB⟩
  replace hW := below_trans hW hB
  replace h_a := h_a.below hB
  replace h_b := h_b.below hB
  replace h_c := h_c.below hB
  clear hB
  go_wp2_with fail
  refine (cmp_val h_a.arg h_c.arg (by omega) (by omega) (HS.out)).mono ?_
  rintro e w6 ⟨rfl, hB⟩
  replace hW := below_trans hW hB
  replace h_a := h_a.below hB
  replace h_b := h_b.below hB
  replace h_c := h_c.below hB
  clear hB
  go_wp2_with fail
  refine (norm_any h_a.arg (by omega)).mono ?_
  rintro e w7 ⟨v_t1, rfl, h_t1, hB⟩
  replace hW := below_trans hW hB
  replace h_a := h_a.below hB
  replace h_b := h_b.below hB
  replace h_c := h_c.below hB
  clear hB
  go_wp2_with fail
  refine (norm_any h_b.arg (by omega)).mono ?_
  rintro e w8 ⟨v_t2, rfl, h_t2, hB⟩
  replace hW := below_trans hW hB
  replace h_a := h_a.below hB
  replace h_b := h_b.below hB
  replace h_c := h_c.below hB
  replace h_t1 := h_t1.below hB
  clear hB
  go_wp2_with fail
  refine (same_num h_t1 h_t2 (HAB.out)).mono ?_
  rintro e w9 ⟨rfl, hB⟩
  replace hW := below_trans hW hB
  replace h_a := h_a.below hB
  replace h_b := h_b.below hB
  replace h_c := h_c.below hB
  clear hB h_t1 h_t2
  go_wp2_with fail
  refine (sub_yes h_a.arg h_b.arg (by omega) (by omega) (by have := HAB.out; omega)).mono ?_
  rintro e w10 ⟨v_d, rfl, h_d, hB⟩
  replace hW := below_trans hW hB
  replace h_a := h_a.below hB
  replace h_b := h_b.below hB
  replace h_c := h_c.below hB
  clear hB
  go_wp2_with fail
  refine (add_any h_a.arg h_c.arg (by omega) (by omega)).mono ?_
  rintro e w11 ⟨v_u1, rfl, h_u1, hB⟩
  replace hW := below_trans hW hB
  replace h_a := h_a.below hB
  replace h_b := h_b.below hB
  replace h_c := h_c.below hB
  clear hB h_d
  go_wp2_with fail
  refine (add_any h_b.arg h_c.arg (by omega) (by omega)).mono ?_
  rintro e w12 ⟨v_u2, rfl, h_u2, hB⟩
  replace hW := below_trans hW hB
  replace h_a := h_a.below hB
  replace h_b := h_b.below hB
  replace h_c := h_c.below hB
  replace h_u1 := h_u1.below hB
  clear hB
  go_wp2_with fail
  refine (cmp_val h_u1.arg h_u2.arg (by omega) (by omega) ((sgn_add _ _ _).trans sx.out)).mono ?_
  rintro e w13 ⟨rfl, hB⟩
  replace hW := below_trans hW hB
  replace h_a := h_a.below hB
  replace h_b := h_b.below hB
  replace h_c := h_c.below hB
  clear hB h_u1 h_u2
  go_wp2_with fail
  refine (mul_any h_a.arg h_c.arg (by omega) (by omega)).mono ?_
  rintro e w14 ⟨v_u3, rfl, h_u3, hB⟩
  replace hW := below_trans hW hB
  replace h_b := h_b.below hB
  replace h_c := h_c.below hB
  clear hB h_a
  go_wp2_with fail
  refine (mul_any h_b.arg h_c.arg (by omega) (by omega)).mono ?_
  rintro e w15 ⟨v_u4, rfl, h_u4, hB⟩
  replace hW := below_trans hW hB
  replace h_u3 := h_u3.below hB
  clear hB h_b h_c
  go_wp2_with fail
  refine (cmp_val h_u3.arg h_u4.arg (by omega) (by omega) (sgn_eq (by rw [HAB.out]))).mono ?_
  rintro e w16 ⟨rfl, hB⟩
  replace hW := below_trans hW hB
  clear hB h_u3 h_u4
  go_wp2
  go_ret
  exact ⟨rfl, hW⟩

set_option maxHeartbeats 4000000 in
theorem order_e10 {w : World} {va vb vc : Value} {xs ys zs : List Int} (ha : Reads .u32 w va xs) (hb : Reads .u32 w vb ys) (hc : Reads .u32 w vc zs) (oa : Nt.Ok xs) (ob : Nt.Ok ys) (oc : Nt.Ok zs)
    (la : xs.length ≤ 70368744177664) (lb : ys.length ≤ 70368744177664) (lc : zs.length ≤ 70368744177664) (hsml : ¬ 1048576 < tot [xs.length, ys.length, zs.length]) (hAB : Nt.val xs = Nt.val ys) (hBC : Nt.val zs < Nt.val ys) :
    Calls Try.prog 3 #[va, vb, vc] w fun e w' => e = .returned (.bool true) ∧ Below w.heap.size w w' := by
  obtain ⟨ao, ca, rfl, ha1, ha2, ha3⟩ := ha
  obtain ⟨bo, cb, rfl, hb1, hb2, hb3⟩ := hb
  obtain ⟨co, cc, rfl, hc1, hc2, hc3⟩ := hc
  have hbey := fun (W : World) => beyond3' (w := W) (g := w.heap.size) (ao := ao) (bo := bo) (co := co) (ca := ca) (cb := cb) (cc := cc) la lb lc
  rw [decide_eq_false hsml] at hbey
  simp only [tot] at hsml
  have Hbey := hide hbey
  have h_a : Arg w (.slice ao xs.length ca) (Nt.val xs) 1048576 := ⟨xs, ⟨ao, ca, rfl, ha1, ha2, ha3⟩, oa, rfl, by omega⟩
  have h_b : Arg w (.slice bo ys.length cb) (Nt.val ys) 1048576 := ⟨ys, ⟨bo, cb, rfl, hb1, hb2, hb3⟩, ob, rfl, by omega⟩
  have h_c : Arg w (.slice co zs.length cc) (Nt.val zs) 1048576 := ⟨zs, ⟨co, cc, rfl, hc1, hc2, hc3⟩, oc, rfl, by omega⟩
  have nC := h_c.nonneg
  clear hbey hsml ha1 ha2 ha3 hb1 hb2 hb3 hc1 hc2 hc3 oa ob oc
  generalize Nt.val xs = A at *
  generalize Nt.val ys = B at *
  generalize Nt.val zs = C at *
  have sx := hide (sgn_eq hAB)
  have sx' := hide (sgn_eq hAB.symm)
  obtain ⟨Y, hY⟩ : ∃ Y, sgn B C = Y := ⟨_, rfl⟩
  have hY0 : ¬ Y ≤ 0 := by rw [← hY, sgn_gt hBC]; omega
  have HY := hide hY
  have HAB := hide hAB
  clear hY hAB
  go_enter Try.func3, Try.ntmps3
  go_wp2_with fail
  refine Calls.mono (Hbey.out _ (by simp) (by simp) (by simp)) ?_
  rintro e w1 ⟨rfl, rfl⟩
  clear Hbey
  have hW : Below w.heap.size w (w.alloc (.cells #[.slice ao xs.length ca, .slice bo ys.length cb, .slice co zs.length cc] 23)) := below_alloc _ _
  replace h_a := h_a.below hW
  replace h_b := h_b.below hW
  replace h_c := h_c.below hW
  go_wp2_with fail
  refine (lives_any).mono ?_
  rintro e w2 ⟨rfl, hB⟩
  replace hW := below_trans hW hB
  replace h_a := h_a.below hB
  replace h_b := h_b.below hB
  replace h_c := h_c.below hB
  clear hB
  go_wp2_with fail
  refine (cmp_val h_a.arg h_b.arg (by omega) (by omega) (sx.out)).mono ?_
  rintro e w3 ⟨rfl, hB⟩
  replace hW := below_trans hW hB
  replace h_a := h_a.below hB
  replace h_b := h_b.below hB
  replace h_c := h_c.below hB
  clear hB
  go_wp2_with fail
  refine (cmp_val h_b.arg h_c.arg (by omega) (by omega) (HY.out)).mono ?_
  rintro e w4 ⟨rfl, hB⟩
  replace hW := below_trans hW hB
  replace h_a := h_a.below hB
  replace h_b := h_b.below hB
  replace h_c := h_c.below hB
  clear hB
  go_wp2_with fail
  refine (cmp_val h_b.arg h_a.arg (by omega) (by omega) (sx'.out)).mono ?_
  rintro e w5 ⟨rfl, hB⟩
  replace hW := below_trans hW hB
  replace h_a := h_a.below hB
  replace h_b := h_b.below hB
  replace h_c := h_c.below hB
  clear hB
  go_wp2_with fail
  refine (norm_any h_a.arg (by omega)).mono ?_
  rintro e w6 ⟨v_t1, rfl, h_t1, hB⟩
  replace hW := below_trans hW hB
  replace h_a := h_a.below hB
  replace h_b := h_b.below hB
  replace h_c := h_c.below hB
  clear hB
  go_wp2_with fail
  refine (norm_any h_b.arg (by omega)).mono ?_
  rintro e w7 ⟨v_t2, rfl, h_t2, hB⟩
  replace hW := below_trans hW hB
  replace h_a := h_a.below hB
  replace h_b := h_b.below hB
  replace h_c := h_c.below hB
  replace h_t1 := h_t1.below hB
  clear hB
  go_wp2_with fail
  refine (same_num h_t1 h_t2 (HAB.out)).mono ?_
  rintro e w8 ⟨rfl, hB⟩
  replace hW := below_trans hW hB
  replace h_a := h_a.below hB
  replace h_b := h_b.below hB
  replace h_c := h_c.below hB
  clear hB h_t1 h_t2
  go_wp2_with fail
  refine (sub_yes h_a.arg h_b.arg (by omega) (by omega) (by have := HAB.out; omega)).mono ?_
  rintro e w9 ⟨v_d, rfl, h_d, hB⟩
  replace hW := below_trans hW hB
  replace h_a := h_a.below hB
  replace h_b := h_b.below hB
  replace h_c := h_c.below hB
  clear hB
  go_wp2_with fail
  refine (add_any h_a.arg h_c.arg (by omega) (by omega)).mono ?_
  rintro e w10 ⟨v_u1, rfl, h_u1, hB⟩
  replace hW := below_trans hW hB
  replace h_a := h_a.below hB
  replace h_b := h_b.below hB
  replace h_c := h_c.below hB
  clear hB h_d
  go_wp2_with fail
  refine (add_any h_b.arg h_c.arg (by omega) (by omega)).mono ?_
  rintro e w11 ⟨v_u2, rfl, h_u2, hB⟩
  replace hW := below_trans hW hB
  replace h_a := h_a.below hB
  replace h_b := h_b.below hB
  replace h_c := h_c.below hB
  replace h_u1 := h_u1.below hB
  clear hB
  go_wp2_with fail
  refine (cmp_val h_u1.arg h_u2.arg (by omega) (by omega) ((sgn_add _ _ _).trans sx.out)).mono ?_
  rintro e w12 ⟨rfl, hB⟩
  replace hW := below_trans hW hB
  replace h_a := h_a.below hB
  replace h_b := h_b.below hB
  replace h_c := h_c.below hB
  clear hB h_u1 h_u2
  go_wp2_with fail
  refine (mul_any h_a.arg h_c.arg (by omega) (by omega)).mono ?_
  rintro e w13 ⟨v_u3, rfl, h_u3, hB⟩
  replace hW := below_trans hW hB
  replace h_b := h_b.below hB
  replace h_c := h_c.below hB
  clear hB h_a
  go_wp2_with fail
  refine (mul_any h_b.arg h_c.arg (by omega) (by omega)).mono ?_
  rintro e w14 ⟨v_u4, rfl, h_u4, hB⟩
  replace hW := below_trans hW hB
  replace h_u3 := h_u3.below hB
  clear hB h_b h_c
  go_wp2_with fail
  refine (cmp_val h_u3.arg h_u4.arg (by omega) (by omega) (sgn_eq (by rw [HAB.out]))).mono ?_
  rintro e w15 ⟨rfl, hB⟩
  replace hW := below_trans hW hB
  clear hB h_u3 h_u4
  go_wp2
  go_ret
  exact ⟨rfl, hW⟩

set_option maxHeartbeats 4000000 in
theorem order_g00 {w : World} {va vb vc : Value} {xs ys zs : List Int} (ha : Reads .u32 w va xs) (hb : Reads .u32 w vb ys) (hc : Reads .u32 w vc zs) (oa : Nt.Ok xs) (ob : Nt.Ok ys) (oc : Nt.Ok zs)
    (la : xs.length ≤ 70368744177664) (lb : ys.length ≤ 70368744177664) (lc : zs.length ≤ 70368744177664) (hsml : ¬ 1048576 < tot [xs.length, ys.length, zs.length]) (hAB : Nt.val ys < Nt.val xs) (hC : Nt.val zs = 0) :
    Calls Try.prog 3 #[va, vb, vc] w fun e w' => e = .returned (.bool true) ∧ Below w.heap.size w w' := by
  obtain ⟨ao, ca, rfl, ha1, ha2, ha3⟩ := ha
  obtain ⟨bo, cb, rfl, hb1, hb2, hb3⟩ := hb
  obtain ⟨co, cc, rfl, hc1, hc2, hc3⟩ := hc
  have hbey := fun (W : World) => beyond3' (w := W) (g := w.heap.size) (ao := ao) (bo := bo) (co := co) (ca := ca) (cb := cb) (cc := cc) la lb lc
  rw [decide_eq_false hsml] at hbey
  simp only [tot] at hsml
  have Hbey := hide hbey
  have h_a : Arg w (.slice ao xs.length ca) (Nt.val xs) 1048576 := ⟨xs, ⟨ao, ca, rfl, ha1, ha2, ha3⟩, oa, rfl, by omega⟩
  have h_b : Arg w (.slice bo ys.length cb) (Nt.val ys) 1048576 := ⟨ys, ⟨bo, cb, rfl, hb1, hb2, hb3⟩, ob, rfl, by omega⟩
  have h_c : Arg w (.slice co zs.length cc) (Nt.val zs) 1048576 := ⟨zs, ⟨co, cc, rfl, hc1, hc2, hc3⟩, oc, rfl, by omega⟩
  have nC := h_c.nonneg
  clear hbey hsml ha1 ha2 ha3 hb1 hb2 hb3 hc1 hc2 hc3 oa ob oc
  generalize Nt.val xs = A at *
  generalize Nt.val ys = B at *
  generalize Nt.val zs = C at *
  have sx := hide (sgn_gt hAB)
  have sx' := hide (sgn_lt hAB)
  obtain ⟨Y, hY⟩ : ∃ Y, sgn B C = Y := ⟨_, rfl⟩
  have HY := hide hY
  have HAB := hide hAB
  have HC := hide hC
  clear hY hAB hC
  go_enter Try.func3, Try.ntmps3
  go_wp2_with fail
  refine Calls.mono (Hbey.out _ (by simp) (by simp) (by simp)) ?_
  rintro e w1 ⟨rfl, rfl⟩
  clear Hbey
  have hW : Below w.heap.size w (w.alloc (.cells #[.slice ao xs.length ca, .slice bo ys.length cb, .slice co zs.length cc] 23)) := below_alloc _ _
  replace h_a := h_a.below hW
  replace h_b := h_b.below hW
  replace h_c := h_c.below hW
  go_wp2_with fail
  refine (lives_any).mono ?_
  rintro e w2 ⟨rfl, hB⟩
  replace hW := below_trans hW hB
  replace h_a := h_a.below hB
  replace h_b := h_b.below hB
  replace h_c := h_c.below hB
  clear hB
  go_wp2_with fail
  refine (cmp_val h_a.arg h_b.arg (by omega) (by omega) (sx.out)).mono ?_
  rintro e w3 ⟨rfl, hB⟩
  replace hW := below_trans hW hB
  replace h_a := h_a.below hB
  replace h_b := h_b.below hB
  replace h_c := h_c.below hB
  clear hB
  go_wp2_with fail
  refine (cmp_val h_b.arg h_c.arg (by omega) (by omega) (HY.out)).mono ?_
  rintro e w4 ⟨rfl, hB⟩
  replace hW := below_trans hW hB
  replace h_a := h_a.below hB
  replace h_b := h_b.below hB
  replace h_c := h_c.below hB
  clear hB
  go_wp2_with fail
  refine (cmp_val h_b.arg h_a.arg (by omega) (by omega) (sx'.out)).mono ?_
  rintro e w5 ⟨rfl, hB⟩
  replace hW := below_trans hW hB
  replace h_a := h_a.below hB
  replace h_b := h_b.below hB
  replace h_c := h_c.below hB
  clear hB
  go_wp2_with fail
  refine (norm_any h_a.arg (by omega)).mono ?_
  rintro e w6 ⟨v_t1, rfl, h_t1, hB⟩
  replace hW := below_trans hW hB
  replace h_a := h_a.below hB
  replace h_b := h_b.below hB
  replace h_c := h_c.below hB
  clear hB
  go_wp2_with fail
  refine (norm_any h_b.arg (by omega)).mono ?_
  rintro e w7 ⟨v_t2, rfl, h_t2, hB⟩
  replace hW := below_trans hW hB
  replace h_a := h_a.below hB
  replace h_b := h_b.below hB
  replace h_c := h_c.below hB
  replace h_t1 := h_t1.below hB
  clear hB
  go_wp2_with fail
  refine (same_diff h_t1 h_t2 (by have := HAB.out; omega)).mono ?_
  rintro e w8 ⟨rfl, hB⟩
  replace hW := below_trans hW hB
  replace h_a := h_a.below hB
  replace h_b := h_b.below hB
  replace h_c := h_c.below hB
  clear hB h_t1 h_t2
  go_wp2_with fail
  refine (sub_yes h_a.arg h_b.arg (by omega) (by omega) (by have := HAB.out; omega)).mono ?_
  rintro e w9 ⟨v_d, rfl, h_d, hB⟩
  replace hW := below_trans hW hB
  replace h_a := h_a.below hB
  replace h_b := h_b.below hB
  replace h_c := h_c.below hB
  clear hB
  go_wp2_with fail
  refine (add_any h_a.arg h_c.arg (by omega) (by omega)).mono ?_
  rintro e w10 ⟨v_u1, rfl, h_u1, hB⟩
  replace hW := below_trans hW hB
  replace h_a := h_a.below hB
  replace h_b := h_b.below hB
  replace h_c := h_c.below hB
  clear hB h_d
  go_wp2_with fail
  refine (add_any h_b.arg h_c.arg (by omega) (by omega)).mono ?_
  rintro e w11 ⟨v_u2, rfl, h_u2, hB⟩
  replace hW := below_trans hW hB
  replace h_a := h_a.below hB
  replace h_b := h_b.below hB
  replace h_c := h_c.below hB
  replace h_u1 := h_u1.below hB
  clear hB
  go_wp2_with fail
  refine (cmp_val h_u1.arg h_u2.arg (by omega) (by omega) ((sgn_add _ _ _).trans sx.out)).mono ?_
  rintro e w12 ⟨rfl, hB⟩
  replace hW := below_trans hW hB
  replace h_a := h_a.below hB
  replace h_b := h_b.below hB
  replace h_c := h_c.below hB
  clear hB h_u1 h_u2
  go_wp2_with fail
  refine (mul_any h_a.arg h_c.arg (by omega) (by omega)).mono ?_
  rintro e w13 ⟨v_u3, rfl, h_u3, hB⟩
  replace hW := below_trans hW hB
  replace h_b := h_b.below hB
  replace h_c := h_c.below hB
  clear hB h_a
  go_wp2_with fail
  refine (mul_any h_b.arg h_c.arg (by omega) (by omega)).mono ?_
  rintro e w14 ⟨v_u4, rfl, h_u4, hB⟩
  replace hW := below_trans hW hB
  replace h_c := h_c.below hB
  replace h_u3 := h_u3.below hB
  clear hB h_b
  go_wp2_with fail
  refine (cmp_val h_u3.arg h_u4.arg (by omega) (by omega) (sgn_eq (by rw [HC.out, Int.mul_zero, Int.mul_zero]))).mono ?_
  rintro e w15 ⟨rfl, hB⟩
  replace hW := below_trans hW hB
  replace h_c := h_c.below hB
  clear hB h_u3 h_u4
  go_wp2_with fail
  refine (norm_any h_c.arg (by omega)).mono ?_
  rintro e w16 ⟨v_z, rfl, h_z, hB⟩
  replace hW := below_trans hW hB
  clear hB h_c
  obtain ⟨zo, rfl⟩ := h_z.zero HC.out
  go_wp2
  go_ret
  exact ⟨rfl, hW⟩

set_option maxHeartbeats 4000000 in
theorem order_g01 {w : World} {va vb vc : Value} {xs ys zs : List Int} (ha : Reads .u32 w va xs) (hb : Reads .u32 w vb ys) (hc : Reads .u32 w vc zs) (oa : Nt.Ok xs) (ob : Nt.Ok ys) (oc : Nt.Ok zs)
    (la : xs.length ≤ 70368744177664) (lb : ys.length ≤ 70368744177664) (lc : zs.length ≤ 70368744177664) (hsml : ¬ 1048576 < tot [xs.length, ys.length, zs.length]) (hAB : Nt.val ys < Nt.val xs) (hC : 0 < Nt.val zs) :
    Calls Try.prog 3 #[va, vb, vc] w fun e w' => e = .returned (.bool true) ∧ Below w.heap.size w w' := by
  obtain ⟨ao, ca, rfl, ha1, ha2, ha3⟩ := ha
  obtain ⟨bo, cb, rfl, hb1, hb2, hb3⟩ := hb
  obtain ⟨co, cc, rfl, hc1, hc2, hc3⟩ := hc
  have hbey := fun (W : World) => beyond3' (w := W) (g := w.heap.size) (ao := ao) (bo := bo) (co := co) (ca := ca) (cb := cb) (cc := cc) la lb lc
  rw [decide_eq_false hsml] at hbey
  simp only [tot] at hsml
  have Hbey := hide hbey
  have h_a : Arg w (.slice ao xs.length ca) (Nt.val xs) 1048576 := ⟨xs, ⟨ao, ca, rfl, ha1, ha2, ha3⟩, oa, rfl, by omega⟩
  have h_b : Arg w (.slice bo ys.length cb) (Nt.val ys) 1048576 := ⟨ys, ⟨bo, cb, rfl, hb1, hb2, hb3⟩, ob, rfl, by omega⟩
  have h_c : Arg w (.slice co zs.length cc) (Nt.val zs) 1048576 := ⟨zs, ⟨co, cc, rfl, hc1, hc2, hc3⟩, oc, rfl, by omega⟩
  have nC := h_c.nonneg
  clear hbey hsml ha1 ha2 ha3 hb1 hb2 hb3 hc1 hc2 hc3 oa ob oc
  generalize Nt.val xs = A at *
  generalize Nt.val ys = B at *
  generalize Nt.val zs = C at *
  have sx := hide (sgn_gt hAB)
  have sx' := hide (sgn_lt hAB)
  obtain ⟨Y, hY⟩ : ∃ Y, sgn B C = Y := ⟨_, rfl⟩
  have HY := hide hY
  have HAB := hide hAB
  have HC := hide hC
  clear hY hAB hC
  go_enter Try.func3, Try.ntmps3
  go_wp2_with fail
  refine Calls.mono (Hbey.out _ (by simp) (by simp) (by simp)) ?_
  rintro e w1 ⟨rfl, rfl⟩
  clear Hbey
  have hW : Below w.heap.size w (w.alloc (.cells #[.slice ao xs.length ca, .slice bo ys.length cb, .slice co zs.length cc] 23)) := below_alloc _ _
  replace h_a := h_a.below hW
  replace h_b := h_b.below hW
  replace h_c := h_c.below hW
  go_wp2_with fail
  refine (lives_any).mono ?_
  rintro e w2 ⟨rfl, hB⟩
  replace hW := below_trans hW hB
  replace h_a := h_a.below hB
  replace h_b := h_b.below hB
  replace h_c := h_c.below hB
  clear hB
  go_wp2_with fail
  refine (cmp_val h_a.arg h_b.arg (by omega) (by omega) (sx.out)).mono ?_
  rintro e w3 ⟨rfl, hB⟩
  replace hW := below_trans hW hB
  replace h_a := h_a.below hB
  replace h_b := h_b.below hB
  replace h_c := h_c.below hB
  clear hB
  go_wp2_with fail
  refine (cmp_val h_b.arg h_c.arg (by omega) (by omega) (HY.out)).mono ?_
  rintro e w4 ⟨rfl, hB⟩
  replace hW := below_trans hW hB
  replace h_a := h_a.below hB
  replace h_b := h_b.below hB
  replace h_c := h_c.below hB
  clear hB
  go_wp2_with fail
  refine (cmp_val h_b.arg h_a.arg (by omega) (by omega) (sx'.out)).mono ?_
  rintro e w5 ⟨rfl, hB⟩
  replace hW := below_trans hW hB
  replace h_a := h_a.below hB
  replace h_b := h_b.below hB
  replace h_c := h_c.below hB
  clear hB
  go_wp2_with fail
  refine (norm_any h_a.arg (by omega)).mono ?_
  rintro e w6 ⟨v_t1, rfl, h_t1, hB⟩
  replace hW := below_trans hW hB
  replace h_a := h_a.below hB
  replace h_b := h_b.below hB
  replace h_c := h_c.below hB
  clear hB
  go_wp2_with fail
  refine (norm_any h_b.arg (by omega)).mono ?_
  rintro e w7 ⟨v_t2, rfl, h_t2, hB⟩
  replace hW := below_trans hW hB
  replace h_a := h_a.below hB
  replace h_b := h_b.below hB
  replace h_c := h_c.below hB
  replace h_t1 := h_t1.below hB
  clear hB
  go_wp2_with fail
  refine (same_diff h_t1 h_t2 (by have := HAB.out; omega)).mono ?_
  rintro e w8 ⟨rfl, hB⟩
  replace hW := below_trans hW hB
  replace h_a := h_a.below hB
  replace h_b := h_b.below hB
  replace h_c := h_c.below hB
  clear hB h_t1 h_t2
  go_wp2_with fail
  refine (sub_yes h_a.arg h_b.arg (by omega) (by omega) (by have := HAB.out; omega)).mono ?_
  rintro e w9 ⟨v_d, rfl, h_d, hB⟩
  replace hW := below_trans hW hB
  replace h_a := h_a.below hB
  replace h_b := h_b.below hB
  replace h_c := h_c.below hB
  clear hB
  go_wp2_with fail
  refine (add_any h_a.arg h_c.arg (by omega) (by omega)).mono ?_
  rintro e w10 ⟨v_u1, rfl, h_u1, hB⟩
  replace hW := below_trans hW hB
  replace h_a := h_a.below hB
  replace h_b := h_b.below hB
  replace h_c := h_c.below hB
  clear hB h_d
  go_wp2_with fail
  refine (add_any h_b.arg h_c.arg (by omega) (by omega)).mono ?_
  rintro e w11 ⟨v_u2, rfl, h_u2, hB⟩
  replace hW := below_trans hW hB
  replace h_a := h_a.below hB
  replace h_b := h_b.below hB
  replace h_c := h_c.below hB
  replace h_u1 := h_u1.below hB
  clear hB
  go_wp2_with fail
  refine (cmp_val h_u1.arg h_u2.arg (by omega) (by omega) ((sgn_add _ _ _).trans sx.out)).mono ?_
  rintro e w12 ⟨rfl, hB⟩
  replace hW := below_trans hW hB
  replace h_a := h_a.below hB
  replace h_b := h_b.below hB
  replace h_c := h_c.below hB
  clear hB h_u1 h_u2
  go_wp2_with fail
  refine (mul_any h_a.arg h_c.arg (by omega) (by omega)).mono ?_
  rintro e w13 ⟨v_u3, rfl, h_u3, hB⟩
  replace hW := below_trans hW hB
  replace h_b := h_b.below hB
  replace h_c := h_c.below hB
  clear hB h_a
  go_wp2_with fail
  refine (mul_any h_b.arg h_c.arg (by omega) (by omega)).mono ?_
  rintro e w14 ⟨v_u4, rfl, h_u4, hB⟩
  replace hW := below_trans hW hB
  replace h_u3 := h_u3.below hB
  clear hB h_b h_c
  go_wp2_with fail
  refine (cmp_val h_u3.arg h_u4.arg (by omega) (by omega) ((sgn_mul _ _ _ HC.out).trans sx.out)).mono ?_
  rintro e w15 ⟨rfl, hB⟩
  replace hW := below_trans hW hB
  clear hB h_u3 h_u4
  go_wp2
  go_ret
  exact ⟨rfl, hW⟩

set_option maxHeartbeats 4000000 in
theorem order_big {w : World} {va vb vc : Value} {xs ys zs : List Int} (ha : Reads .u32 w va xs) (hb : Reads .u32 w vb ys) (hc : Reads .u32 w vc zs) 
    (la : xs.length ≤ 70368744177664) (lb : ys.length ≤ 70368744177664) (lc : zs.length ≤ 70368744177664) (hbig : 1048576 < tot [xs.length, ys.length, zs.length]) :
    Calls Try.prog 3 #[va, vb, vc] w fun e w' => e = .returned (.bool true) ∧ Below w.heap.size w w' := by
  obtain ⟨ao, ca, rfl, ha1, ha2, ha3⟩ := ha
  obtain ⟨bo, cb, rfl, hb1, hb2, hb3⟩ := hb
  obtain ⟨co, cc, rfl, hc1, hc2, hc3⟩ := hc
  have hbey := fun (W : World) => beyond3' (w := W) (g := w.heap.size) (ao := ao) (bo := bo) (co := co) (ca := ca) (cb := cb) (cc := cc) la lb lc
  rw [decide_eq_true hbig] at hbey
  have Hbey := hide hbey
  clear hbey hbig
  go_enter Try.func3, Try.ntmps3
  go_wp2_with fail
  refine Calls.mono (Hbey.out _ (by simp) (by simp) (by simp)) ?_
  rintro e w1 ⟨rfl, rfl⟩
  go_wp2
  go_ret
  exact ⟨rfl, below_alloc _ _⟩

theorem order_walk {w : World} {va vb vc : Value} {xs ys zs : List Int} (ha : Reads .u32 w va xs) (hb : Reads .u32 w vb ys) (hc : Reads .u32 w vc zs) (oa : Nt.Ok xs) (ob : Nt.Ok ys) (oc : Nt.Ok zs)
    (la : xs.length ≤ 70368744177664) (lb : ys.length ≤ 70368744177664) (lc : zs.length ≤ 70368744177664) :
    Calls Try.prog 3 #[va, vb, vc] w fun e w' => e = .returned (.bool true) ∧ Below w.heap.size w w' := by
  have nC := Nt.val_nonneg oc
  by_cases hbig : 1048576 < tot [xs.length, ys.length, zs.length]
  · exact order_big ha hb hc la lb lc hbig
  rcases Int.lt_trichotomy (Nt.val xs) (Nt.val ys) with h | h | h
  · by_cases hy : Nt.val ys ≤ Nt.val zs
    · by_cases hz : Nt.val zs = 0
      · exact order_l00 ha hb hc oa ob oc la lb lc hbig h hy hz
      · exact order_l01 ha hb hc oa ob oc la lb lc hbig h hy (by omega)
    · by_cases hz : Nt.val zs = 0
      · exact order_l10 ha hb hc oa ob oc la lb lc hbig h (by omega) hz
      · exact order_l11 ha hb hc oa ob oc la lb lc hbig h (by omega) (by omega)
  · by_cases hy : Nt.val ys ≤ Nt.val zs
    · exact order_e00 ha hb hc oa ob oc la lb lc hbig h hy
    · exact order_e10 ha hb hc oa ob oc la lb lc hbig h (by omega)
  · by_cases hz : Nt.val zs = 0
    · exact order_g00 ha hb hc oa ob oc la lb lc hbig h hz
    · exact order_g01 ha hb hc oa ob oc la lb lc hbig h (by omega)

end Go.Proofs.Ytlfkfeedopgfjab
