/- NatSums -/
import Derived.Test.YtlfkfeedopgfjaaForms
import Derived.Test.YtlfkfeedopgfjaaRefC
import Derived.Test.YtlfkfeedopgfjaaSub
namespace Go.Proofs.Ytlfkfeedopgfjaa
open Go.RowKit

theorem num_empty (B : Nat) (w : World) : Num B w (.slice none 0 0) 0 0 := ⟨[], ⟨none, rfl, by unfold maxLen; simp, fun h => absurd h (by simp)⟩, Nt.canon_nil, rfl, Nat.le_refl _⟩
theorem cmp_told {w : World} {va vb : Value} {n m s : Int} {ka kb : Nat} (ha : Arg w va n ka) (hb : Arg w vb m kb) (hka : ka ≤ 1099511627776) (hkb : kb ≤ 1099511627776) (hs : sgn n m = s) :
    Calls Try.prog 23 #[va, vb] w fun e w' => e = .returned (.int .i64 s) ∧ Below w.heap.size w w' := by
  subst hs
  exact cmp_any ha hb hka hkb
theorem rcmp_told {w : World} {va vb : Value} {n m s : Int} {ka kb : Nat} (ha : Arg w va n ka) (hb : Arg w vb m kb) (hka : ka ≤ 1099511627776) (hkb : kb ≤ 1099511627776) (hs : sgn n m = s) :
    Calls Try.prog 24 #[va, vb] w fun e w' => e = .returned (.int .i64 s) ∧ Below w.heap.size w w' := by
  subst hs
  exact rcmp_any ha hb hka hkb

set_option maxRecDepth 100000 in
set_option maxHeartbeats 4000000 in
theorem sums_0 {w : World} {va vb : Value} {xs ys : List Int} (ha : Reads .u32 w va xs) (hb : Reads .u32 w vb ys) (oa : Nt.Ok xs) (ob : Nt.Ok ys) (la : xs.length ≤ 70368744177664) (lb : ys.length ≤ 70368744177664) (hsml : ¬ 1048576 < tot [xs.length, ys.length]) (hO : Nt.val ys ≤ Nt.val xs) :
    Calls Try.prog 4 #[va, vb] w fun e w' => e = .returned (.bool true) ∧ Below w.heap.size w w' := by
  obtain ⟨ao, ca, rfl, ha1, ha2, ha3⟩ := ha
  obtain ⟨bo, cb, rfl, hb1, hb2, hb3⟩ := hb
  have hbey := fun (W : World) => beyond_two (w := W) (g := w.heap.size) (ao := ao) (ca := ca) (bo := bo) (cb := cb) la lb
  rw [decide_eq_false hsml] at hbey
  have Hbey := hide hbey
  simp only [tot] at hsml
  have hlx : xs.length ≤ 1048576 := by omega
  have hly : ys.length ≤ 1048576 := by omega
  have h_r : Reads .u32 w (.slice ao xs.length ca) xs := ⟨ao, ca, rfl, ha1, ha2, ha3⟩
  have h_s : Reads .u32 w (.slice bo ys.length cb) ys := ⟨bo, cb, rfl, hb1, hb2, hb3⟩
  have h_a : Arg w (.slice ao xs.length ca) (Nt.val xs) 1048576 := ⟨xs, h_r, oa, rfl, hlx⟩
  have h_b : Arg w (.slice bo ys.length cb) (Nt.val ys) 1048576 := ⟨ys, h_s, ob, rfl, hly⟩
  clear hbey hsml ha1 ha2 ha3 hb1 hb2 hb3
  have HO := hide hO
  obtain ⟨S, hS⟩ : ∃ S, sgn (Nt.val xs) (Nt.val ys) = S := ⟨_, rfl⟩
  have HS := hide hS
  clear hO hS
  go_enter Try.func4, Try.ntmps4
  go_wp2_with fail
  refine Calls.mono (Hbey.out _ (by simp) (by simp)) ?_
  rintro e w1 ⟨rfl, rfl⟩
  clear Hbey
  have hW : Below w.heap.size w (w.alloc (.cells #[.slice ao xs.length ca, .slice bo ys.length cb] 23)) := below_alloc _ _
  replace h_a := h_a.below hW
  replace h_b := h_b.below hW
  replace h_r := h_r.below hW
  replace h_s := h_s.below hW
  go_wp2_with fail
  refine (twin_any h_r (by omega)).mono ?_
  rintro e w2 ⟨v_t, rfl, h_t, hB⟩
  replace hW := below_trans hW hB
  replace h_a := h_a.below hB
  replace h_b := h_b.below hB
  replace h_r := h_r.below hB
  replace h_s := h_s.below hB
  clear hB
  go_wp2_with fail
  refine (twin_any h_s (by omega)).mono ?_
  rintro e w3 ⟨v_u, rfl, h_u, hB⟩
  replace hW := below_trans hW hB
  replace h_a := h_a.below hB
  replace h_b := h_b.below hB
  replace h_r := h_r.below hB
  replace h_s := h_s.below hB
  replace h_t := h_t.below hB
  clear hB
  go_wp2_with fail
  refine (sub_yes (h_t.argOf oa hlx) (h_u.argOf ob hly) (by omega) (by omega) HO.out).mono ?_
  rintro e w4 ⟨v_d, rfl, h_d, hB⟩
  replace hW := below_trans hW hB
  replace h_a := h_a.below hB
  replace h_b := h_b.below hB
  replace h_r := h_r.below hB
  replace h_s := h_s.below hB
  replace h_t := h_t.below hB
  replace h_u := h_u.below hB
  clear hB
  go_wp2_with fail
  refine (rsub_yes h_a h_b (by omega) (by omega) HO.out).mono ?_
  rintro e w5 ⟨v_w, rfl, h_w, hB⟩
  replace hW := below_trans hW hB
  replace h_a := h_a.below hB
  replace h_b := h_b.below hB
  replace h_r := h_r.below hB
  replace h_s := h_s.below hB
  replace h_t := h_t.below hB
  replace h_u := h_u.below hB
  replace h_d := h_d.below hB
  clear hB
  go_wp2_with fail
  refine (sub_yes (h_t.argOf oa hlx) (h_t.argOf oa hlx) (by omega) (by omega) (Int.le_refl _)).mono ?_
  rintro e w6 ⟨v_e, rfl, h_e, hB⟩
  replace hW := below_trans hW hB
  replace h_a := h_a.below hB
  replace h_b := h_b.below hB
  replace h_r := h_r.below hB
  replace h_s := h_s.below hB
  replace h_t := h_t.below hB
  replace h_u := h_u.below hB
  replace h_d := h_d.below hB
  replace h_w := h_w.below hB
  clear hB
  obtain ⟨eo, rfl⟩ := h_e.zero (Int.sub_self _)
  clear h_e
  go_wp2_with fail
  refine (cmp_told (h_t.argOf oa hlx) (h_u.argOf ob hly) (by omega) (by omega) HS.out).mono ?_
  rintro e w7 ⟨rfl, hB⟩
  replace hW := below_trans hW hB
  replace h_a := h_a.below hB
  replace h_b := h_b.below hB
  replace h_r := h_r.below hB
  replace h_s := h_s.below hB
  replace h_t := h_t.below hB
  replace h_u := h_u.below hB
  replace h_d := h_d.below hB
  replace h_w := h_w.below hB
  clear hB
  go_wp2_with fail
  refine (rcmp_told h_a h_b (by omega) (by omega) HS.out).mono ?_
  rintro e w8 ⟨rfl, hB⟩
  replace hW := below_trans hW hB
  replace h_a := h_a.below hB
  replace h_b := h_b.below hB
  replace h_r := h_r.below hB
  replace h_s := h_s.below hB
  replace h_t := h_t.below hB
  replace h_u := h_u.below hB
  replace h_d := h_d.below hB
  replace h_w := h_w.below hB
  clear hB
  go_wp2_with fail
  refine (cmp_told (h_t.argOf oa hlx) (h_t.argOf oa hlx) (by omega) (by omega) (sgn_eq rfl)).mono ?_
  rintro e w9 ⟨rfl, hB⟩
  replace hW := below_trans hW hB
  replace h_a := h_a.below hB
  replace h_b := h_b.below hB
  replace h_r := h_r.below hB
  replace h_s := h_s.below hB
  replace h_t := h_t.below hB
  replace h_u := h_u.below hB
  replace h_d := h_d.below hB
  replace h_w := h_w.below hB
  clear hB
  go_wp2_with fail
  refine (same_num h_d h_w (rfl)).mono ?_
  rintro e w10 ⟨rfl, hB⟩
  replace hW := below_trans hW hB
  replace h_a := h_a.below hB
  replace h_b := h_b.below hB
  replace h_r := h_r.below hB
  replace h_s := h_s.below hB
  replace h_t := h_t.below hB
  replace h_u := h_u.below hB
  clear hB h_d h_w
  go_wp2_with fail
  refine (add_any (h_t.argOf oa hlx) (h_u.argOf ob hly) (by omega) (by omega)).mono ?_
  rintro e w11 ⟨v_1, rfl, h_1, hB⟩
  replace hW := below_trans hW hB
  replace h_a := h_a.below hB
  replace h_b := h_b.below hB
  replace h_r := h_r.below hB
  replace h_s := h_s.below hB
  replace h_t := h_t.below hB
  replace h_u := h_u.below hB
  clear hB
  go_wp2_with fail
  refine (radd_any h_a h_b (by omega) (by omega)).mono ?_
  rintro e w12 ⟨v_2, rfl, h_2, hB⟩
  replace hW := below_trans hW hB
  replace h_a := h_a.below hB
  replace h_r := h_r.below hB
  replace h_s := h_s.below hB
  replace h_t := h_t.below hB
  replace h_u := h_u.below hB
  replace h_1 := h_1.below hB
  clear hB h_b
  go_wp2_with fail
  refine (same_num h_1 h_2 (rfl)).mono ?_
  rintro e w13 ⟨rfl, hB⟩
  replace hW := below_trans hW hB
  replace h_a := h_a.below hB
  replace h_r := h_r.below hB
  replace h_s := h_s.below hB
  replace h_t := h_t.below hB
  replace h_u := h_u.below hB
  clear hB h_1 h_2
  go_wp2_with fail
  refine (add_any (h_t.argOf oa hlx) (h_t.argOf oa hlx) (by omega) (by omega)).mono ?_
  rintro e w14 ⟨v_3, rfl, h_3, hB⟩
  replace hW := below_trans hW hB
  replace h_a := h_a.below hB
  replace h_r := h_r.below hB
  replace h_s := h_s.below hB
  replace h_t := h_t.below hB
  replace h_u := h_u.below hB
  clear hB
  go_wp2_with fail
  refine (radd_any h_a h_a (by omega) (by omega)).mono ?_
  rintro e w15 ⟨v_4, rfl, h_4, hB⟩
  replace hW := below_trans hW hB
  replace h_r := h_r.below hB
  replace h_s := h_s.below hB
  replace h_t := h_t.below hB
  replace h_u := h_u.below hB
  replace h_3 := h_3.below hB
  clear hB h_a
  go_wp2_with fail
  refine (same_num h_3 h_4 (rfl)).mono ?_
  rintro e w16 ⟨rfl, hB⟩
  replace hW := below_trans hW hB
  replace h_r := h_r.below hB
  replace h_s := h_s.below hB
  replace h_t := h_t.below hB
  replace h_u := h_u.below hB
  clear hB h_3 h_4
  go_wp2_with fail
  refine (left_any h_t h_r).mono ?_
  rintro e w17 ⟨rfl, hB⟩
  replace hW := below_trans hW hB
  replace h_s := h_s.below hB
  replace h_u := h_u.below hB
  clear hB h_r h_t
  go_wp2_with fail
  refine (left_any h_u h_s).mono ?_
  rintro e w18 ⟨rfl, hB⟩
  replace hW := below_trans hW hB
  clear hB h_s h_u
  go_wp2
  go_ret
  exact ⟨rfl, hW⟩

set_option maxRecDepth 100000 in
set_option maxHeartbeats 4000000 in
theorem sums_1 {w : World} {va vb : Value} {xs ys : List Int} (ha : Reads .u32 w va xs) (hb : Reads .u32 w vb ys) (oa : Nt.Ok xs) (ob : Nt.Ok ys) (la : xs.length ≤ 70368744177664) (lb : ys.length ≤ 70368744177664) (hsml : ¬ 1048576 < tot [xs.length, ys.length]) (hO : Nt.val xs < Nt.val ys) :
    Calls Try.prog 4 #[va, vb] w fun e w' => e = .returned (.bool true) ∧ Below w.heap.size w w' := by
  obtain ⟨ao, ca, rfl, ha1, ha2, ha3⟩ := ha
  obtain ⟨bo, cb, rfl, hb1, hb2, hb3⟩ := hb
  have hbey := fun (W : World) => beyond_two (w := W) (g := w.heap.size) (ao := ao) (ca := ca) (bo := bo) (cb := cb) la lb
  rw [decide_eq_false hsml] at hbey
  have Hbey := hide hbey
  simp only [tot] at hsml
  have hlx : xs.length ≤ 1048576 := by omega
  have hly : ys.length ≤ 1048576 := by omega
  have h_r : Reads .u32 w (.slice ao xs.length ca) xs := ⟨ao, ca, rfl, ha1, ha2, ha3⟩
  have h_s : Reads .u32 w (.slice bo ys.length cb) ys := ⟨bo, cb, rfl, hb1, hb2, hb3⟩
  have h_a : Arg w (.slice ao xs.length ca) (Nt.val xs) 1048576 := ⟨xs, h_r, oa, rfl, hlx⟩
  have h_b : Arg w (.slice bo ys.length cb) (Nt.val ys) 1048576 := ⟨ys, h_s, ob, rfl, hly⟩
  clear hbey hsml ha1 ha2 ha3 hb1 hb2 hb3
  have HO := hide hO
  obtain ⟨S, hS⟩ : ∃ S, sgn (Nt.val xs) (Nt.val ys) = S := ⟨_, rfl⟩
  have HS := hide hS
  clear hO hS
  go_enter Try.func4, Try.ntmps4
  go_wp2_with fail
  refine Calls.mono (Hbey.out _ (by simp) (by simp)) ?_
  rintro e w1 ⟨rfl, rfl⟩
  clear Hbey
  have hW : Below w.heap.size w (w.alloc (.cells #[.slice ao xs.length ca, .slice bo ys.length cb] 23)) := below_alloc _ _
  replace h_a := h_a.below hW
  replace h_b := h_b.below hW
  replace h_r := h_r.below hW
  replace h_s := h_s.below hW
  go_wp2_with fail
  refine (twin_any h_r (by omega)).mono ?_
  rintro e w2 ⟨v_t, rfl, h_t, hB⟩
  replace hW := below_trans hW hB
  replace h_a := h_a.below hB
  replace h_b := h_b.below hB
  replace h_r := h_r.below hB
  replace h_s := h_s.below hB
  clear hB
  go_wp2_with fail
  refine (twin_any h_s (by omega)).mono ?_
  rintro e w3 ⟨v_u, rfl, h_u, hB⟩
  replace hW := below_trans hW hB
  replace h_a := h_a.below hB
  replace h_b := h_b.below hB
  replace h_r := h_r.below hB
  replace h_s := h_s.below hB
  replace h_t := h_t.below hB
  clear hB
  go_wp2_with fail
  refine (sub_no (h_t.argOf oa hlx) (h_u.argOf ob hly) (by omega) (by omega) HO.out).mono ?_
  rintro e w4 ⟨rfl, hB⟩
  replace hW := below_trans hW hB
  replace h_a := h_a.below hB
  replace h_b := h_b.below hB
  replace h_r := h_r.below hB
  replace h_s := h_s.below hB
  replace h_t := h_t.below hB
  replace h_u := h_u.below hB
  clear hB
  go_wp2_with fail
  refine (rsub_no h_a h_b (by omega) (by omega) HO.out).mono ?_
  rintro e w5 ⟨rfl, hB⟩
  replace hW := below_trans hW hB
  replace h_a := h_a.below hB
  replace h_b := h_b.below hB
  replace h_r := h_r.below hB
  replace h_s := h_s.below hB
  replace h_t := h_t.below hB
  replace h_u := h_u.below hB
  clear hB
  go_wp2_with fail
  refine (sub_yes (h_t.argOf oa hlx) (h_t.argOf oa hlx) (by omega) (by omega) (Int.le_refl _)).mono ?_
  rintro e w6 ⟨v_e, rfl, h_e, hB⟩
  replace hW := below_trans hW hB
  replace h_a := h_a.below hB
  replace h_b := h_b.below hB
  replace h_r := h_r.below hB
  replace h_s := h_s.below hB
  replace h_t := h_t.below hB
  replace h_u := h_u.below hB
  clear hB
  obtain ⟨eo, rfl⟩ := h_e.zero (Int.sub_self _)
  clear h_e
  go_wp2_with fail
  refine (cmp_told (h_t.argOf oa hlx) (h_u.argOf ob hly) (by omega) (by omega) HS.out).mono ?_
  rintro e w7 ⟨rfl, hB⟩
  replace hW := below_trans hW hB
  replace h_a := h_a.below hB
  replace h_b := h_b.below hB
  replace h_r := h_r.below hB
  replace h_s := h_s.below hB
  replace h_t := h_t.below hB
  replace h_u := h_u.below hB
  clear hB
  go_wp2_with fail
  refine (rcmp_told h_a h_b (by omega) (by omega) HS.out).mono ?_
  rintro e w8 ⟨rfl, hB⟩
  replace hW := below_trans hW hB
  replace h_a := h_a.below hB
  replace h_b := h_b.below hB
  replace h_r := h_r.below hB
  replace h_s := h_s.below hB
  replace h_t := h_t.below hB
  replace h_u := h_u.below hB
  clear hB
  go_wp2_with fail
  refine (cmp_told (h_t.argOf oa hlx) (h_t.argOf oa hlx) (by omega) (by omega) (sgn_eq rfl)).mono ?_
  rintro e w9 ⟨rfl, hB⟩
  replace hW := below_trans hW hB
  replace h_a := h_a.below hB
  replace h_b := h_b.below hB
  replace h_r := h_r.below hB
  replace h_s := h_s.below hB
  replace h_t := h_t.below hB
  replace h_u := h_u.below hB
  clear hB
  go_wp2_with fail
  refine (same_num (num_empty 0 _) (num_empty 0 _) rfl).mono ?_
  rintro e w10 ⟨rfl, hB⟩
  replace hW := below_trans hW hB
  replace h_a := h_a.below hB
  replace h_b := h_b.below hB
  replace h_r := h_r.below hB
  replace h_s := h_s.below hB
  replace h_t := h_t.below hB
  replace h_u := h_u.below hB
  clear hB
  go_wp2_with fail
  refine (add_any (h_t.argOf oa hlx) (h_u.argOf ob hly) (by omega) (by omega)).mono ?_
  rintro e w11 ⟨v_1, rfl, h_1, hB⟩
  replace hW := below_trans hW hB
  replace h_a := h_a.below hB
  replace h_b := h_b.below hB
  replace h_r := h_r.below hB
  replace h_s := h_s.below hB
  replace h_t := h_t.below hB
  replace h_u := h_u.below hB
  clear hB
  go_wp2_with fail
  refine (radd_any h_a h_b (by omega) (by omega)).mono ?_
  rintro e w12 ⟨v_2, rfl, h_2, hB⟩
  replace hW := below_trans hW hB
  replace h_a := h_a.below hB
  replace h_r := h_r.below hB
  replace h_s := h_s.below hB
  replace h_t := h_t.below hB
  replace h_u := h_u.below hB
  replace h_1 := h_1.below hB
  clear hB h_b
  go_wp2_with fail
  refine (same_num h_1 h_2 (rfl)).mono ?_
  rintro e w13 ⟨rfl, hB⟩
  replace hW := below_trans hW hB
  replace h_a := h_a.below hB
  replace h_r := h_r.below hB
  replace h_s := h_s.below hB
  replace h_t := h_t.below hB
  replace h_u := h_u.below hB
  clear hB h_1 h_2
  go_wp2_with fail
  refine (add_any (h_t.argOf oa hlx) (h_t.argOf oa hlx) (by omega) (by omega)).mono ?_
  rintro e w14 ⟨v_3, rfl, h_3, hB⟩
  replace hW := below_trans hW hB
  replace h_a := h_a.below hB
  replace h_r := h_r.below hB
  replace h_s := h_s.below hB
  replace h_t := h_t.below hB
  replace h_u := h_u.below hB
  clear hB
  go_wp2_with fail
  refine (radd_any h_a h_a (by omega) (by omega)).mono ?_
  rintro e w15 ⟨v_4, rfl, h_4, hB⟩
  replace hW := below_trans hW hB
  replace h_r := h_r.below hB
  replace h_s := h_s.below hB
  replace h_t := h_t.below hB
  replace h_u := h_u.below hB
  replace h_3 := h_3.below hB
  clear hB h_a
  go_wp2_with fail
  refine (same_num h_3 h_4 (rfl)).mono ?_
  rintro e w16 ⟨rfl, hB⟩
  replace hW := below_trans hW hB
  replace h_r := h_r.below hB
  replace h_s := h_s.below hB
  replace h_t := h_t.below hB
  replace h_u := h_u.below hB
  clear hB h_3 h_4
  go_wp2_with fail
  refine (left_any h_t h_r).mono ?_
  rintro e w17 ⟨rfl, hB⟩
  replace hW := below_trans hW hB
  replace h_s := h_s.below hB
  replace h_u := h_u.below hB
  clear hB h_r h_t
  go_wp2_with fail
  refine (left_any h_u h_s).mono ?_
  rintro e w18 ⟨rfl, hB⟩
  replace hW := below_trans hW hB
  clear hB h_s h_u
  go_wp2
  go_ret
  exact ⟨rfl, hW⟩

set_option maxRecDepth 100000 in
set_option maxHeartbeats 1000000 in
theorem sums_big {w : World} {va vb : Value} {xs ys : List Int} (ha : Reads .u32 w va xs) (hb : Reads .u32 w vb ys) (la : xs.length ≤ 70368744177664) (lb : ys.length ≤ 70368744177664) (hbig : 1048576 < tot [xs.length, ys.length]) :
    Calls Try.prog 4 #[va, vb] w fun e w' => e = .returned (.bool true) ∧ Below w.heap.size w w' := by
  obtain ⟨ao, ca, rfl, ha1, ha2, ha3⟩ := ha
  obtain ⟨bo, cb, rfl, hb1, hb2, hb3⟩ := hb
  have hbey := fun (W : World) => beyond_two (w := W) (g := w.heap.size) (ao := ao) (ca := ca) (bo := bo) (cb := cb) la lb
  rw [decide_eq_true hbig] at hbey
  have Hbey := hide hbey
  clear hbey hbig
  go_enter Try.func4, Try.ntmps4
  go_wp2_with fail
  refine Calls.mono (Hbey.out _ (by simp) (by simp)) ?_
  rintro e w1 ⟨rfl, rfl⟩
  go_wp2
  go_ret
  exact ⟨rfl, below_alloc _ _⟩

theorem sums_walk {w : World} {va vb : Value} {xs ys : List Int} (ha : Reads .u32 w va xs) (hb : Reads .u32 w vb ys) (oa : Nt.Ok xs) (ob : Nt.Ok ys) (la : xs.length ≤ 70368744177664) (lb : ys.length ≤ 70368744177664) :
    Calls Try.prog 4 #[va, vb] w fun e w' => e = .returned (.bool true) ∧ Below w.heap.size w w' := by
  by_cases hbig : 1048576 < tot [xs.length, ys.length]
  · exact sums_big ha hb la lb hbig
  by_cases h : Nt.val xs < Nt.val ys
  · exact sums_1 ha hb oa ob la lb hbig h
  · exact sums_0 ha hb oa ob la lb hbig (by omega)

end Go.Proofs.Ytlfkfeedopgfjaa
