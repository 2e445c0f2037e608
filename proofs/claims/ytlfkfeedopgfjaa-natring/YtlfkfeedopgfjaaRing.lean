/- NatRing -/
import Derived.Test.YtlfkfeedopgfjaaLives
import Derived.Test.YtlfkfeedopgfjaaSub
import Derived.Test.YtlfkfeedopgfjaaNorm
import Derived.Test.YtlfkfeedopgfjaaBeyond
namespace Go.Proofs.Ytlfkfeedopgfjaa
open Go.RowKit

theorem beyond3 {w : World} {g : Nat} {ao bo co : Option Addr} {la lb lc ca cb cc : Nat} (ha : la ≤ 70368744177664) (hb : lb ≤ 70368744177664) (hc : lc ≤ 70368744177664)
    (h0 : w.cell? ⟨g, 0, none⟩ = some (.slice ao la ca)) (h1 : w.cell? ⟨g, 1, none⟩ = some (.slice bo lb cb)) (h2 : w.cell? ⟨g, 2, none⟩ = some (.slice co lc cc)) :
    Calls Try.prog 9 #[.slice (some ⟨g, 0, none⟩) 3 3] w fun e w' => e = .returned (.bool (decide (1048576 < tot [la, lb, lc]))) ∧ w' = w := by
  refine beyond_any (ls := [la, lb, lc]) (by simp) (fun i => ?_) (fun i hi => ?_)
  · match i with
    | 0 => simpa using ha
    | 1 => simpa using hb
    | 2 => simpa using hc
    | i + 3 => simp
  · match i, hi with
    | 0, _ => exact ⟨_, _, h0⟩
    | 1, _ => exact ⟨_, _, h1⟩
    | 2, _ => exact ⟨_, _, h2⟩

set_option maxHeartbeats 4000000 in
theorem ring_walk {w : World} {va vb vc : Value} {xs ys zs : List Int} (ha : Reads .u32 w va xs) (hb : Reads .u32 w vb ys) (hc : Reads .u32 w vc zs) (oa : Nt.Ok xs) (ob : Nt.Ok ys) (oc : Nt.Ok zs)
    (la : xs.length ≤ 70368744177664) (lb : ys.length ≤ 70368744177664) (lc : zs.length ≤ 70368744177664) :
    Calls Try.prog 8 #[va, vb, vc] w fun e w' => e = .returned (.bool true) ∧ Below w.heap.size w w' := by
  obtain ⟨ao, ca, rfl, ha1, ha2, ha3⟩ := ha
  obtain ⟨bo, cb, rfl, hb1, hb2, hb3⟩ := hb
  obtain ⟨co, cc, rfl, hc1, hc2, hc3⟩ := hc
  have hbey := fun (W : World) => beyond3 (w := W) (g := w.heap.size) (ao := ao) (bo := bo) (co := co) (ca := ca) (cb := cb) (cc := cc) la lb lc
  by_cases hbig : 1048576 < tot [xs.length, ys.length, zs.length]
  · rw [decide_eq_true hbig] at hbey
    have Hbey := hide hbey
    clear hbey hbig
    go_enter Try.func8, Try.ntmps8
    go_wp2_with fail
    refine Calls.mono (Hbey.out _ (by simp) (by simp) (by simp)) ?_
    rintro e w1 ⟨rfl, rfl⟩
    go_wp2
    go_ret
    exact ⟨rfl, below_alloc _ _⟩
  rw [decide_eq_false hbig] at hbey
  simp only [tot] at hbig
  have Hbey := hide hbey
  have h_a : Arg w (.slice ao xs.length ca) (Nt.val xs) 1048576 := ⟨xs, ⟨ao, ca, rfl, ha1, ha2, ha3⟩, oa, rfl, by omega⟩
  have h_b : Arg w (.slice bo ys.length cb) (Nt.val ys) 1048576 := ⟨ys, ⟨bo, cb, rfl, hb1, hb2, hb3⟩, ob, rfl, by omega⟩
  have h_c : Arg w (.slice co zs.length cc) (Nt.val zs) 1048576 := ⟨zs, ⟨co, cc, rfl, hc1, hc2, hc3⟩, oc, rfl, by omega⟩
  have nA := h_a.nonneg
  have nB := h_b.nonneg
  have nC := h_c.nonneg
  clear hbey hbig ha1 ha2 ha3 hb1 hb2 hb3 hc1 hc2 hc3 oa ob oc
  generalize Nt.val xs = A at *
  generalize Nt.val ys = B at *
  generalize Nt.val zs = C at *
  go_enter Try.func8, Try.ntmps8
  go_wp2_with fail
  refine Calls.mono (Hbey.out _ (by simp) (by simp) (by simp)) ?_
  rintro e w1 ⟨rfl, rfl⟩
  clear Hbey
  have hW : Below w.heap.size w (w.alloc (.cells #[.slice ao xs.length ca, .slice bo ys.length cb, .slice co zs.length cc] 23)) := below_alloc _ _
  replace h_a := h_a.below hW
  replace h_b := h_b.below hW
  replace h_c := h_c.below hW
  go_wp2_with fail
  refine (lives_any).mono ?_
  rintro e w2 ⟨rfl, hB⟩
  replace hW := below_trans hW hB
  replace h_a := h_a.below hB
  replace h_b := h_b.below hB
  replace h_c := h_c.below hB
  clear hB
  go_wp2_with fail
  refine (add_any h_a.arg h_b.arg (by omega) (by omega)).mono ?_
  rintro e w3 ⟨v_ab, rfl, h_ab, hB⟩
  replace hW := below_trans hW hB
  replace h_a := h_a.below hB
  replace h_b := h_b.below hB
  replace h_c := h_c.below hB
  clear hB
  go_wp2_with fail
  refine (mul_any h_a.arg h_b.arg (by omega) (by omega)).mono ?_
  rintro e w4 ⟨v_p, rfl, h_p, hB⟩
  replace hW := below_trans hW hB
  replace h_a := h_a.below hB
  replace h_b := h_b.below hB
  replace h_c := h_c.below hB
  replace h_ab := h_ab.below hB
  clear hB
  go_wp2_with fail
  refine (sub_yes h_ab.arg h_b.arg (by omega) (by omega) (by omega)).mono ?_
  rintro e w5 ⟨v_back, rfl, h_back, hB⟩
  replace hW := below_trans hW hB
  replace h_a := h_a.below hB
  replace h_b := h_b.below hB
  replace h_c := h_c.below hB
  replace h_ab := h_ab.below hB
  replace h_p := h_p.below hB
  clear hB
  go_wp2_with fail
  refine (listed_num h_ab).mono ?_
  rintro e w6 ⟨rfl, rfl⟩
  go_wp2_with fail
  refine (listed_num h_p).mono ?_
  rintro e w7 ⟨rfl, rfl⟩
  go_wp2_with fail
  refine (norm_any h_a.arg (by omega)).mono ?_
  rintro e w8 ⟨v_t1, rfl, h_t1, hB⟩
  replace hW := below_trans hW hB
  replace h_a := h_a.below hB
  replace h_b := h_b.below hB
  replace h_c := h_c.below hB
  replace h_ab := h_ab.below hB
  replace h_p := h_p.below hB
  replace h_back := h_back.below hB
  clear hB
  go_wp2_with fail
  refine (same_num h_back h_t1 (by omega)).mono ?_
  rintro e w9 ⟨rfl, hB⟩
  replace hW := below_trans hW hB
  replace h_a := h_a.below hB
  replace h_b := h_b.below hB
  replace h_c := h_c.below hB
  replace h_ab := h_ab.below hB
  replace h_p := h_p.below hB
  clear hB h_back h_t1
  go_wp2_with fail
  refine (add_any h_b.arg h_a.arg (by omega) (by omega)).mono ?_
  rintro e w10 ⟨v_t2, rfl, h_t2, hB⟩
  replace hW := below_trans hW hB
  replace h_a := h_a.below hB
  replace h_b := h_b.below hB
  replace h_c := h_c.below hB
  replace h_ab := h_ab.below hB
  replace h_p := h_p.below hB
  clear hB
  go_wp2_with fail
  refine (same_num h_ab h_t2 (Int.add_comm _ _)).mono ?_
  rintro e w11 ⟨rfl, hB⟩
  replace hW := below_trans hW hB
  replace h_a := h_a.below hB
  replace h_b := h_b.below hB
  replace h_c := h_c.below hB
  replace h_ab := h_ab.below hB
  replace h_p := h_p.below hB
  clear hB h_t2
  go_wp2_with fail
  refine (mul_any h_b.arg h_a.arg (by omega) (by omega)).mono ?_
  rintro e w12 ⟨v_t3, rfl, h_t3, hB⟩
  replace hW := below_trans hW hB
  replace h_a := h_a.below hB
  replace h_b := h_b.below hB
  replace h_c := h_c.below hB
  replace h_ab := h_ab.below hB
  replace h_p := h_p.below hB
  clear hB
  go_wp2_with fail
  refine (same_num h_p h_t3 (Int.mul_comm _ _)).mono ?_
  rintro e w13 ⟨rfl, hB⟩
  replace hW := below_trans hW hB
  replace h_a := h_a.below hB
  replace h_b := h_b.below hB
  replace h_c := h_c.below hB
  replace h_ab := h_ab.below hB
  replace h_p := h_p.below hB
  clear hB h_t3
  go_wp2_with fail
  refine (add_any h_ab.arg h_c.arg (by omega) (by omega)).mono ?_
  rintro e w14 ⟨v_t4, rfl, h_t4, hB⟩
  replace hW := below_trans hW hB
  replace h_a := h_a.below hB
  replace h_b := h_b.below hB
  replace h_c := h_c.below hB
  replace h_ab := h_ab.below hB
  replace h_p := h_p.below hB
  clear hB
  go_wp2_with fail
  refine (add_any h_b.arg h_c.arg (by omega) (by omega)).mono ?_
  rintro e w15 ⟨v_t5, rfl, h_t5, hB⟩
  replace hW := below_trans hW hB
  replace h_a := h_a.below hB
  replace h_b := h_b.below hB
  replace h_c := h_c.below hB
  replace h_ab := h_ab.below hB
  replace h_p := h_p.below hB
  replace h_t4 := h_t4.below hB
  clear hB
  go_wp2_with fail
  refine (add_any h_a.arg h_t5.arg (by omega) (by omega)).mono ?_
  rintro e w16 ⟨v_t6, rfl, h_t6, hB⟩
  replace hW := below_trans hW hB
  replace h_a := h_a.below hB
  replace h_b := h_b.below hB
  replace h_c := h_c.below hB
  replace h_ab := h_ab.below hB
  replace h_p := h_p.below hB
  replace h_t4 := h_t4.below hB
  clear hB h_t5
  go_wp2_with fail
  refine (same_num h_t4 h_t6 (Int.add_assoc _ _ _)).mono ?_
  rintro e w17 ⟨rfl, hB⟩
  replace hW := below_trans hW hB
  replace h_a := h_a.below hB
  replace h_b := h_b.below hB
  replace h_c := h_c.below hB
  replace h_ab := h_ab.below hB
  replace h_p := h_p.below hB
  clear hB h_t4 h_t6
  go_wp2_with fail
  refine (mul_any h_p.arg h_c.arg (by omega) (by omega)).mono ?_
  rintro e w18 ⟨v_t7, rfl, h_t7, hB⟩
  replace hW := below_trans hW hB
  replace h_a := h_a.below hB
  replace h_b := h_b.below hB
  replace h_c := h_c.below hB
  replace h_ab := h_ab.below hB
  clear hB h_p
  go_wp2_with fail
  refine (mul_any h_b.arg h_c.arg (by omega) (by omega)).mono ?_
  rintro e w19 ⟨v_t8, rfl, h_t8, hB⟩
  replace hW := below_trans hW hB
  replace h_a := h_a.below hB
  replace h_b := h_b.below hB
  replace h_c := h_c.below hB
  replace h_ab := h_ab.below hB
  replace h_t7 := h_t7.below hB
  clear hB
  go_wp2_with fail
  refine (mul_any h_a.arg h_t8.arg (by omega) (by omega)).mono ?_
  rintro e w20 ⟨v_t9, rfl, h_t9, hB⟩
  replace hW := below_trans hW hB
  replace h_a := h_a.below hB
  replace h_b := h_b.below hB
  replace h_c := h_c.below hB
  replace h_ab := h_ab.below hB
  replace h_t7 := h_t7.below hB
  clear hB h_t8
  go_wp2_with fail
  refine (same_num h_t7 h_t9 (Int.mul_assoc _ _ _)).mono ?_
  rintro e w21 ⟨rfl, hB⟩
  replace hW := below_trans hW hB
  replace h_a := h_a.below hB
  replace h_b := h_b.below hB
  replace h_c := h_c.below hB
  replace h_ab := h_ab.below hB
  clear hB h_t7 h_t9
  go_wp2_with fail
  refine (from_any 1 (by omega) (by omega)).mono ?_
  rintro e w22 ⟨v_one, rfl, h_one, hB⟩
  replace hW := below_trans hW hB
  replace h_a := h_a.below hB
  replace h_b := h_b.below hB
  replace h_c := h_c.below hB
  replace h_ab := h_ab.below hB
  clear hB
  go_wp2_with fail
  refine (mul_any h_ab.arg h_c.arg (by omega) (by omega)).mono ?_
  rintro e w23 ⟨v_u1, rfl, h_u1, hB⟩
  replace hW := below_trans hW hB
  replace h_a := h_a.below hB
  replace h_b := h_b.below hB
  replace h_c := h_c.below hB
  replace h_one := h_one.below hB
  clear hB h_ab
  go_wp2_with fail
  refine (mul_any h_a.arg h_c.arg (by omega) (by omega)).mono ?_
  rintro e w24 ⟨v_u2, rfl, h_u2, hB⟩
  replace hW := below_trans hW hB
  replace h_a := h_a.below hB
  replace h_b := h_b.below hB
  replace h_c := h_c.below hB
  replace h_one := h_one.below hB
  replace h_u1 := h_u1.below hB
  clear hB
  go_wp2_with fail
  refine (mul_any h_b.arg h_c.arg (by omega) (by omega)).mono ?_
  rintro e w25 ⟨v_u3, rfl, h_u3, hB⟩
  replace hW := below_trans hW hB
  replace h_a := h_a.below hB
  replace h_one := h_one.below hB
  replace h_u1 := h_u1.below hB
  replace h_u2 := h_u2.below hB
  clear hB h_b h_c
  go_wp2_with fail
  refine (add_any h_u2.arg h_u3.arg (by omega) (by omega)).mono ?_
  rintro e w26 ⟨v_u4, rfl, h_u4, hB⟩
  replace hW := below_trans hW hB
  replace h_a := h_a.below hB
  replace h_one := h_one.below hB
  replace h_u1 := h_u1.below hB
  clear hB h_u2 h_u3
  go_wp2_with fail
  refine (same_num h_u1 h_u4 (Int.add_mul _ _ _)).mono ?_
  rintro e w27 ⟨rfl, hB⟩
  replace hW := below_trans hW hB
  replace h_a := h_a.below hB
  replace h_one := h_one.below hB
  clear hB h_u1 h_u4
  go_wp2_with fail
  refine (mul_any h_a.arg h_one.arg (by omega) (by omega)).mono ?_
  rintro e w28 ⟨v_u5, rfl, h_u5, hB⟩
  replace hW := below_trans hW hB
  replace h_a := h_a.below hB
  clear hB h_one
  go_wp2_with fail
  refine (norm_any h_a.arg (by omega)).mono ?_
  rintro e w29 ⟨v_u6, rfl, h_u6, hB⟩
  replace hW := below_trans hW hB
  replace h_a := h_a.below hB
  replace h_u5 := h_u5.below hB
  clear hB
  go_wp2_with fail
  refine (same_num h_u5 h_u6 (Int.mul_one _)).mono ?_
  rintro e w30 ⟨rfl, hB⟩
  replace hW := below_trans hW hB
  replace h_a := h_a.below hB
  clear hB h_u5 h_u6
  go_wp2_with fail
  refine (add_any h_a.arg (arg_nil _) (by omega) (by omega)).mono ?_
  rintro e w31 ⟨v_u7, rfl, h_u7, hB⟩
  replace hW := below_trans hW hB
  replace h_a := h_a.below hB
  clear hB
  go_wp2_with fail
  refine (norm_any h_a.arg (by omega)).mono ?_
  rintro e w32 ⟨v_u8, rfl, h_u8, hB⟩
  replace hW := below_trans hW hB
  replace h_a := h_a.below hB
  replace h_u7 := h_u7.below hB
  clear hB
  go_wp2_with fail
  refine (same_num h_u7 h_u8 (Int.add_zero _)).mono ?_
  rintro e w33 ⟨rfl, hB⟩
  replace hW := below_trans hW hB
  replace h_a := h_a.below hB
  clear hB h_u7 h_u8
  go_wp2_with fail
  refine (mul_any h_a.arg (arg_nil _) (by omega) (by omega)).mono ?_
  rintro e w34 ⟨v_u9, rfl, h_u9, hB⟩
  replace hW := below_trans hW hB
  clear hB h_a
  obtain ⟨zo, rfl⟩ := h_u9.zero (Int.mul_zero _)
  go_wp2
  go_ret
  exact ⟨rfl, hW⟩

end Go.Proofs.Ytlfkfeedopgfjaa
