/- NatProducts -/
import Derived.Test.YtlfkfeedopgfjaaForms
import Derived.Test.YtlfkfeedopgfjaaRefD
namespace Go.Proofs.Ytlfkfeedopgfjaa
open Go.RowKit

set_option maxRecDepth 100000 in
set_option maxHeartbeats 4000000 in
theorem prods_0 {w : World} {va vb : Value} {xs ys : List Int} (ha : Reads .u32 w va xs) (hb : Reads .u32 w vb ys) (oa : Nt.Ok xs) (ob : Nt.Ok ys) (la : xs.length ≤ 70368744177664) (lb : ys.length ≤ 70368744177664) (hsml : ¬ 1048576 < tot [xs.length, ys.length])  :
    Calls Try.prog 5 #[va, vb] w fun e w' => e = .returned (.bool true) ∧ Below w.heap.size w w' := by
  obtain ⟨ao, ca, rfl, ha1, ha2, ha3⟩ := ha
  obtain ⟨bo, cb, rfl, hb1, hb2, hb3⟩ := hb
  have hbey := fun (W : World) => beyond_two (w := W) (g := w.heap.size) (ao := ao) (ca := ca) (bo := bo) (cb := cb) la lb
  rw [decide_eq_false hsml] at hbey
  have Hbey := hide hbey
  simp only [tot] at hsml
  have hlx : xs.length ≤ 1048576 := by omega
  have hly : ys.length ≤ 1048576 := by omega
  have h_r : Reads .u32 w (.slice ao xs.length ca) xs := ⟨ao, ca, rfl, ha1, ha2, ha3⟩
  have h_s : Reads .u32 w (.slice bo ys.length cb) ys := ⟨bo, cb, rfl, hb1, hb2, hb3⟩
  have h_a : Arg w (.slice ao xs.length ca) (Nt.val xs) 1048576 := ⟨xs, h_r, oa, rfl, hlx⟩
  have h_b : Arg w (.slice bo ys.length cb) (Nt.val ys) 1048576 := ⟨ys, h_s, ob, rfl, hly⟩
  clear hbey hsml ha1 ha2 ha3 hb1 hb2 hb3
  go_enter Try.func5, Try.ntmps5
  go_wp2_with fail
  refine Calls.mono (Hbey.out _ (by simp) (by simp)) ?_
  rintro e w1 ⟨rfl, rfl⟩
  clear Hbey
  have hW : Below w.heap.size w (w.alloc (.cells #[.slice ao xs.length ca, .slice bo ys.length cb] 23)) := below_alloc _ _
  replace h_a := h_a.below hW
  replace h_b := h_b.below hW
  replace h_r := h_r.below hW
  replace h_s := h_s.below hW
  go_wp2_with fail
  refine (twin_any h_r (by omega)).mono ?_
  rintro e w2 ⟨v_t, rfl, h_t, hB⟩
  replace hW := below_trans hW hB
  replace h_a := h_a.below hB
  replace h_b := h_b.below hB
  replace h_r := h_r.below hB
  replace h_s := h_s.below hB
  clear hB
  go_wp2_with fail
  refine (twin_any h_s (by omega)).mono ?_
  rintro e w3 ⟨v_u, rfl, h_u, hB⟩
  replace hW := below_trans hW hB
  replace h_a := h_a.below hB
  replace h_b := h_b.below hB
  replace h_r := h_r.below hB
  replace h_s := h_s.below hB
  replace h_t := h_t.below hB
  clear hB
  go_wp2_with fail
  refine (mul_any (h_t.argOf oa hlx) (h_u.argOf ob hly) (by omega) (by omega)).mono ?_
  rintro e w4 ⟨v_1, rfl, h_1, hB⟩
  replace hW := below_trans hW hB
  replace h_a := h_a.below hB
  replace h_b := h_b.below hB
  replace h_r := h_r.below hB
  replace h_s := h_s.below hB
  replace h_t := h_t.below hB
  replace h_u := h_u.below hB
  clear hB
  go_wp2_with fail
  refine (rmul_any h_a h_b (by omega) (by omega)).mono ?_
  rintro e w5 ⟨v_2, rfl, h_2, hB⟩
  replace hW := below_trans hW hB
  replace h_a := h_a.below hB
  replace h_r := h_r.below hB
  replace h_s := h_s.below hB
  replace h_t := h_t.below hB
  replace h_u := h_u.below hB
  replace h_1 := h_1.below hB
  clear hB h_b
  go_wp2_with fail
  refine (same_num h_1 h_2 (rfl)).mono ?_
  rintro e w6 ⟨rfl, hB⟩
  replace hW := below_trans hW hB
  replace h_a := h_a.below hB
  replace h_r := h_r.below hB
  replace h_s := h_s.below hB
  replace h_t := h_t.below hB
  replace h_u := h_u.below hB
  clear hB h_1 h_2
  go_wp2_with fail
  refine (mul_any (h_t.argOf oa hlx) (h_t.argOf oa hlx) (by omega) (by omega)).mono ?_
  rintro e w7 ⟨v_3, rfl, h_3, hB⟩
  replace hW := below_trans hW hB
  replace h_a := h_a.below hB
  replace h_r := h_r.below hB
  replace h_s := h_s.below hB
  replace h_t := h_t.below hB
  replace h_u := h_u.below hB
  clear hB
  go_wp2_with fail
  refine (rmul_any h_a h_a (by omega) (by omega)).mono ?_
  rintro e w8 ⟨v_4, rfl, h_4, hB⟩
  replace hW := below_trans hW hB
  replace h_r := h_r.below hB
  replace h_s := h_s.below hB
  replace h_t := h_t.below hB
  replace h_u := h_u.below hB
  replace h_3 := h_3.below hB
  clear hB h_a
  go_wp2_with fail
  refine (same_num h_3 h_4 (rfl)).mono ?_
  rintro e w9 ⟨rfl, hB⟩
  replace hW := below_trans hW hB
  replace h_r := h_r.below hB
  replace h_s := h_s.below hB
  replace h_t := h_t.below hB
  replace h_u := h_u.below hB
  clear hB h_3 h_4
  go_wp2_with fail
  refine (left_any h_t h_r).mono ?_
  rintro e w10 ⟨rfl, hB⟩
  replace hW := below_trans hW hB
  replace h_s := h_s.below hB
  replace h_u := h_u.below hB
  clear hB h_r h_t
  go_wp2_with fail
  refine (left_any h_u h_s).mono ?_
  rintro e w11 ⟨rfl, hB⟩
  replace hW := below_trans hW hB
  clear hB h_s h_u
  go_wp2
  go_ret
  exact ⟨rfl, hW⟩

set_option maxRecDepth 100000 in
set_option maxHeartbeats 1000000 in
theorem prods_big {w : World} {va vb : Value} {xs ys : List Int} (ha : Reads .u32 w va xs) (hb : Reads .u32 w vb ys) (la : xs.length ≤ 70368744177664) (lb : ys.length ≤ 70368744177664) (hbig : 1048576 < tot [xs.length, ys.length]) :
    Calls Try.prog 5 #[va, vb] w fun e w' => e = .returned (.bool true) ∧ Below w.heap.size w w' := by
  obtain ⟨ao, ca, rfl, ha1, ha2, ha3⟩ := ha
  obtain ⟨bo, cb, rfl, hb1, hb2, hb3⟩ := hb
  have hbey := fun (W : World) => beyond_two (w := W) (g := w.heap.size) (ao := ao) (ca := ca) (bo := bo) (cb := cb) la lb
  rw [decide_eq_true hbig] at hbey
  have Hbey := hide hbey
  clear hbey hbig
  go_enter Try.func5, Try.ntmps5
  go_wp2_with fail
  refine Calls.mono (Hbey.out _ (by simp) (by simp)) ?_
  rintro e w1 ⟨rfl, rfl⟩
  go_wp2
  go_ret
  exact ⟨rfl, below_alloc _ _⟩

theorem prods_walk {w : World} {va vb : Value} {xs ys : List Int} (ha : Reads .u32 w va xs) (hb : Reads .u32 w vb ys) (oa : Nt.Ok xs) (ob : Nt.Ok ys) (la : xs.length ≤ 70368744177664) (lb : ys.length ≤ 70368744177664) :
    Calls Try.prog 5 #[va, vb] w fun e w' => e = .returned (.bool true) ∧ Below w.heap.size w w' := by
  by_cases hbig : 1048576 < tot [xs.length, ys.length]
  · exact prods_big ha hb la lb hbig
  · exact prods_0 ha hb oa ob la lb hbig

end Go.Proofs.Ytlfkfeedopgfjaa
