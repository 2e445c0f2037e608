/- IeeeRounds' walk (mk_iround.py) -/
import Derived.Test.YtmmkdihhcmcjjaaDoorIRefRS
import Derived.Test.YtmmkdihhcmcjjaaDoorIRefRD
import Derived.Test.YtmmkdihhcmcjjaaDoorIeeeQ
import Derived.Test.YtmmkdihhcmcjjaaDoorTwin
import Derived.Test.YtmmkdihhcmcjjaaDoorBeyond
namespace Go.Proofs.YtmmkdihhcmcjjaaDoor
open Go.RowKit
set_option linter.unusedVariables false

theorem beyond_solo {w : World} {g : Nat} {ao : Option Addr} {la ca : Nat} (ha : la ≤ 70368744177664) (h0 : w.cell? ⟨g, 0, none⟩ = some (.slice ao la ca)) :
    Calls Tryd.prog 9 #[.slice (some ⟨g, 0, none⟩) 1 1] w fun e w' => e = .returned (.bool (decide (1048576 < tot [la]))) ∧ w' = w := by
  refine beyond_any (ls := [la]) (by simp) (fun i => ?_) (fun i hi => ?_)
  · match i with
    | 0 => exact ha
    | i + 1 => simp
  · match i, hi with
    | 0, _ => exact ⟨_, _, h0⟩

set_option maxRecDepth 20000 in
set_option maxHeartbeats 8000000 in
theorem irounds_0 {w : World} (L : Lays w) (v : Int) (v0 : 0 ≤ v) (v1 : v < 256) (hv : v % 4 = 0) (neg : Bool) {va : Value} {xs : List Int} (ha : Reads .u32 w va xs) (oa : Nt.Ok xs) (la : xs.length ≤ 70368744177664) (e : Int) (e0 : -9223372036854775808 ≤ e) (e1 : e < 9223372036854775808) :
    Calls Tryd.prog 3 #[.int .u8 v, .bool neg, va, .int .i64 e] w fun x w' => x = .returned (.bool true) ∧ Below w.heap.size w w' := by
  obtain ⟨ao, ca, rfl, ha1, ha2, ha3⟩ := ha
  have h_r : Reads .u32 w (.slice ao xs.length ca) xs := ⟨ao, ca, rfl, ha1, ha2, ha3⟩
  have Hbey := hide (fun (W : World) (g : Nat) => beyond_solo (w := W) (g := g) (ao := ao) (ca := ca) la)
  clear ha1 ha2 ha3
  go_enter Tryd.func3, Tryd.ntmps3
  go_wp2_with fail
  refine Calls.mono (Hbey.out _ _ (by simp)) ?_
  rintro x' u2 ⟨rfl, rfl⟩
  clear Hbey
  have K := bel_new w (.cells #[.slice ao xs.length ca] 23)
  by_cases big : 1048576 < tot [xs.length]
  · rw [decide_eq_true big]
    go_wp2
    go_ret
    exact ⟨rfl, K⟩
  rw [decide_eq_false big]
  simp only [tot] at big
  have hlx : xs.length ≤ 1048576 := by omega
  have h_a : Arg w (.slice ao xs.length ca) (Nt.val xs) 1048576 := ⟨xs, h_r, oa, rfl, hlx⟩
  have A0 := h_a.nonneg
  replace h_a := h_a.below K
  replace h_r := h_r.below K
  generalize w.alloc (.cells #[.slice ao xs.length ca] 23) = u at *
  go_wp2_with fail
  with_reducible refine (twin_any h_r (by omega)).mono ?_
  rintro x' u49 ⟨vt, rfl, h_t, kb⟩
  replace K := below_trans K kb; replace h_a := h_a.below kb; replace h_r := h_r.below kb; clear kb
  have h_u : Arg _ vt (Nt.val xs) 1048576 := ⟨xs, h_t.reads, oa, rfl, hlx⟩
  generalize Nt.val xs = A at *
  go_wp2_with fail
  with_reducible refine (lround_0 (L.below K) v v0 v1 hv (neg := neg) (more := false) h_u (by decide) e0 e1).mono ?_
  rintro x' u50 ⟨r1, rfl, N1, kb⟩
  replace K := below_trans K kb; replace h_a := h_a.below kb; replace h_r := h_r.below kb; replace h_t := h_t.below kb; replace h_u := h_u.below kb; clear kb
  go_wp2_with fail
  with_reducible refine (lround_0 (L.below K) v v0 v1 hv (neg := neg) (more := true) h_u (by decide) e0 e1).mono ?_
  rintro x' u51 ⟨r2, rfl, N2, kb⟩
  replace K := below_trans K kb; replace h_a := h_a.below kb; replace h_r := h_r.below kb; replace h_t := h_t.below kb; clear kb
  clear h_u
  go_wp2_with fail
  with_reducible refine (lwidth_0 _ v v0 v1 hv).mono ?_
  rintro x' u52 ⟨rfl, rfl⟩
  go_wp2_with fail
  with_reducible refine (rRound_h (neg := neg) (more := false) h_a (by decide) e0 e1).mono ?_
  rintro x' u53 ⟨⟨r3, A3, e3, m3, rfl, N3, S3⟩, kb⟩
  replace K := below_trans K kb; replace h_a := h_a.below kb; replace h_r := h_r.below kb; replace h_t := h_t.below kb; clear kb
  obtain rfl := stick_same (fr := 10) (by decide) (by decide) A0 N1 N3 S3
  clear N1 N3 S3
  go_wp2_with fail
  with_reducible refine (lwidth_0 _ v v0 v1 hv).mono ?_
  rintro x' u54 ⟨rfl, rfl⟩
  go_wp2_with fail
  with_reducible refine (rRound_h (neg := neg) (more := true) h_a (by decide) e0 e1).mono ?_
  rintro x' u55 ⟨⟨r4, A4, e4, m4, rfl, N4, S4⟩, kb⟩
  replace K := below_trans K kb; replace h_r := h_r.below kb; replace h_t := h_t.below kb; clear kb
  obtain rfl := stick_same (fr := 10) (by decide) (by decide) A0 N2 N4 S4
  clear N2 N4 S4
  go_wp2_with fail
  with_reducible refine (left_any h_t h_r).mono ?_
  rintro x' u56 ⟨rfl, kb⟩
  replace K := below_trans K kb; clear kb
  go_wp2
  go_ret
  exact ⟨rfl, K⟩

set_option maxRecDepth 20000 in
set_option maxHeartbeats 8000000 in
theorem irounds_1 {w : World} (L : Lays w) (v : Int) (v0 : 0 ≤ v) (v1 : v < 256) (hv : v % 4 = 1) (neg : Bool) {va : Value} {xs : List Int} (ha : Reads .u32 w va xs) (oa : Nt.Ok xs) (la : xs.length ≤ 70368744177664) (e : Int) (e0 : -9223372036854775808 ≤ e) (e1 : e < 9223372036854775808) :
    Calls Tryd.prog 3 #[.int .u8 v, .bool neg, va, .int .i64 e] w fun x w' => x = .returned (.bool true) ∧ Below w.heap.size w w' := by
  obtain ⟨ao, ca, rfl, ha1, ha2, ha3⟩ := ha
  have h_r : Reads .u32 w (.slice ao xs.length ca) xs := ⟨ao, ca, rfl, ha1, ha2, ha3⟩
  have Hbey := hide (fun (W : World) (g : Nat) => beyond_solo (w := W) (g := g) (ao := ao) (ca := ca) la)
  clear ha1 ha2 ha3
  go_enter Tryd.func3, Tryd.ntmps3
  go_wp2_with fail
  refine Calls.mono (Hbey.out _ _ (by simp)) ?_
  rintro x' u2 ⟨rfl, rfl⟩
  clear Hbey
  have K := bel_new w (.cells #[.slice ao xs.length ca] 23)
  by_cases big : 1048576 < tot [xs.length]
  · rw [decide_eq_true big]
    go_wp2
    go_ret
    exact ⟨rfl, K⟩
  rw [decide_eq_false big]
  simp only [tot] at big
  have hlx : xs.length ≤ 1048576 := by omega
  have h_a : Arg w (.slice ao xs.length ca) (Nt.val xs) 1048576 := ⟨xs, h_r, oa, rfl, hlx⟩
  have A0 := h_a.nonneg
  replace h_a := h_a.below K
  replace h_r := h_r.below K
  generalize w.alloc (.cells #[.slice ao xs.length ca] 23) = u at *
  go_wp2_with fail
  with_reducible refine (twin_any h_r (by omega)).mono ?_
  rintro x' u57 ⟨vt, rfl, h_t, kb⟩
  replace K := below_trans K kb; replace h_a := h_a.below kb; replace h_r := h_r.below kb; clear kb
  have h_u : Arg _ vt (Nt.val xs) 1048576 := ⟨xs, h_t.reads, oa, rfl, hlx⟩
  generalize Nt.val xs = A at *
  go_wp2_with fail
  with_reducible refine (lround_1 (L.below K) v v0 v1 hv (neg := neg) (more := false) h_u (by decide) e0 e1).mono ?_
  rintro x' u58 ⟨r1, rfl, N1, kb⟩
  replace K := below_trans K kb; replace h_a := h_a.below kb; replace h_r := h_r.below kb; replace h_t := h_t.below kb; replace h_u := h_u.below kb; clear kb
  go_wp2_with fail
  with_reducible refine (lround_1 (L.below K) v v0 v1 hv (neg := neg) (more := true) h_u (by decide) e0 e1).mono ?_
  rintro x' u59 ⟨r2, rfl, N2, kb⟩
  replace K := below_trans K kb; replace h_a := h_a.below kb; replace h_r := h_r.below kb; replace h_t := h_t.below kb; clear kb
  clear h_u
  go_wp2_with fail
  with_reducible refine (lwidth_1 _ v v0 v1 hv).mono ?_
  rintro x' u60 ⟨rfl, rfl⟩
  go_wp2_with fail
  with_reducible refine (rRound_s (neg := neg) (more := false) h_a (by decide) e0 e1).mono ?_
  rintro x' u61 ⟨⟨r3, A3, e3, m3, rfl, N3, S3⟩, kb⟩
  replace K := below_trans K kb; replace h_a := h_a.below kb; replace h_r := h_r.below kb; replace h_t := h_t.below kb; clear kb
  obtain rfl := stick_same (fr := 23) (by decide) (by decide) A0 N1 N3 S3
  clear N1 N3 S3
  go_wp2_with fail
  with_reducible refine (lwidth_1 _ v v0 v1 hv).mono ?_
  rintro x' u62 ⟨rfl, rfl⟩
  go_wp2_with fail
  with_reducible refine (rRound_s (neg := neg) (more := true) h_a (by decide) e0 e1).mono ?_
  rintro x' u63 ⟨⟨r4, A4, e4, m4, rfl, N4, S4⟩, kb⟩
  replace K := below_trans K kb; replace h_r := h_r.below kb; replace h_t := h_t.below kb; clear kb
  obtain rfl := stick_same (fr := 23) (by decide) (by decide) A0 N2 N4 S4
  clear N2 N4 S4
  go_wp2_with fail
  with_reducible refine (left_any h_t h_r).mono ?_
  rintro x' u64 ⟨rfl, kb⟩
  replace K := below_trans K kb; clear kb
  go_wp2
  go_ret
  exact ⟨rfl, K⟩

set_option maxRecDepth 20000 in
set_option maxHeartbeats 8000000 in
theorem irounds_2 {w : World} (L : Lays w) (v : Int) (v0 : 0 ≤ v) (v1 : v < 256) (hv : v % 4 = 2) (neg : Bool) {va : Value} {xs : List Int} (ha : Reads .u32 w va xs) (oa : Nt.Ok xs) (la : xs.length ≤ 70368744177664) (e : Int) (e0 : -9223372036854775808 ≤ e) (e1 : e < 9223372036854775808) :
    Calls Tryd.prog 3 #[.int .u8 v, .bool neg, va, .int .i64 e] w fun x w' => x = .returned (.bool true) ∧ Below w.heap.size w w' := by
  obtain ⟨ao, ca, rfl, ha1, ha2, ha3⟩ := ha
  have h_r : Reads .u32 w (.slice ao xs.length ca) xs := ⟨ao, ca, rfl, ha1, ha2, ha3⟩
  have Hbey := hide (fun (W : World) (g : Nat) => beyond_solo (w := W) (g := g) (ao := ao) (ca := ca) la)
  clear ha1 ha2 ha3
  go_enter Tryd.func3, Tryd.ntmps3
  go_wp2_with fail
  refine Calls.mono (Hbey.out _ _ (by simp)) ?_
  rintro x' u2 ⟨rfl, rfl⟩
  clear Hbey
  have K := bel_new w (.cells #[.slice ao xs.length ca] 23)
  by_cases big : 1048576 < tot [xs.length]
  · rw [decide_eq_true big]
    go_wp2
    go_ret
    exact ⟨rfl, K⟩
  rw [decide_eq_false big]
  simp only [tot] at big
  have hlx : xs.length ≤ 1048576 := by omega
  have h_a : Arg w (.slice ao xs.length ca) (Nt.val xs) 1048576 := ⟨xs, h_r, oa, rfl, hlx⟩
  have A0 := h_a.nonneg
  replace h_a := h_a.below K
  replace h_r := h_r.below K
  generalize w.alloc (.cells #[.slice ao xs.length ca] 23) = u at *
  go_wp2_with fail
  with_reducible refine (twin_any h_r (by omega)).mono ?_
  rintro x' u65 ⟨vt, rfl, h_t, kb⟩
  replace K := below_trans K kb; replace h_a := h_a.below kb; replace h_r := h_r.below kb; clear kb
  have h_u : Arg _ vt (Nt.val xs) 1048576 := ⟨xs, h_t.reads, oa, rfl, hlx⟩
  generalize Nt.val xs = A at *
  go_wp2_with fail
  with_reducible refine (lround_2 (L.below K) v v0 v1 hv (neg := neg) (more := false) h_u (by decide) e0 e1).mono ?_
  rintro x' u66 ⟨r1, rfl, N1, kb⟩
  replace K := below_trans K kb; replace h_a := h_a.below kb; replace h_r := h_r.below kb; replace h_t := h_t.below kb; replace h_u := h_u.below kb; clear kb
  go_wp2_with fail
  with_reducible refine (lround_2 (L.below K) v v0 v1 hv (neg := neg) (more := true) h_u (by decide) e0 e1).mono ?_
  rintro x' u67 ⟨r2, rfl, N2, kb⟩
  replace K := below_trans K kb; replace h_a := h_a.below kb; replace h_r := h_r.below kb; replace h_t := h_t.below kb; clear kb
  clear h_u
  go_wp2_with fail
  with_reducible refine (lwidth_2 _ v v0 v1 hv).mono ?_
  rintro x' u68 ⟨rfl, rfl⟩
  go_wp2_with fail
  with_reducible refine (rRound_d (neg := neg) (more := false) h_a (by decide) e0 e1).mono ?_
  rintro x' u69 ⟨⟨r3, A3, e3, m3, rfl, N3, S3⟩, kb⟩
  replace K := below_trans K kb; replace h_a := h_a.below kb; replace h_r := h_r.below kb; replace h_t := h_t.below kb; clear kb
  obtain rfl := stick_same (fr := 52) (by decide) (by decide) A0 N1 N3 S3
  clear N1 N3 S3
  go_wp2_with fail
  with_reducible refine (lwidth_2 _ v v0 v1 hv).mono ?_
  rintro x' u70 ⟨rfl, rfl⟩
  go_wp2_with fail
  with_reducible refine (rRound_d (neg := neg) (more := true) h_a (by decide) e0 e1).mono ?_
  rintro x' u71 ⟨⟨r4, A4, e4, m4, rfl, N4, S4⟩, kb⟩
  replace K := below_trans K kb; replace h_r := h_r.below kb; replace h_t := h_t.below kb; clear kb
  obtain rfl := stick_same (fr := 52) (by decide) (by decide) A0 N2 N4 S4
  clear N2 N4 S4
  go_wp2_with fail
  with_reducible refine (left_any h_t h_r).mono ?_
  rintro x' u72 ⟨rfl, kb⟩
  replace K := below_trans K kb; clear kb
  go_wp2
  go_ret
  exact ⟨rfl, K⟩

set_option maxRecDepth 20000 in
set_option maxHeartbeats 8000000 in
theorem irounds_3 {w : World} (L : Lays w) (v : Int) (v0 : 0 ≤ v) (v1 : v < 256) (hv : v % 4 = 3) (neg : Bool) {va : Value} {xs : List Int} (ha : Reads .u32 w va xs) (oa : Nt.Ok xs) (la : xs.length ≤ 70368744177664) (e : Int) (e0 : -9223372036854775808 ≤ e) (e1 : e < 9223372036854775808) :
    Calls Tryd.prog 3 #[.int .u8 v, .bool neg, va, .int .i64 e] w fun x w' => x = .returned (.bool true) ∧ Below w.heap.size w w' := by
  obtain ⟨ao, ca, rfl, ha1, ha2, ha3⟩ := ha
  have h_r : Reads .u32 w (.slice ao xs.length ca) xs := ⟨ao, ca, rfl, ha1, ha2, ha3⟩
  have Hbey := hide (fun (W : World) (g : Nat) => beyond_solo (w := W) (g := g) (ao := ao) (ca := ca) la)
  clear ha1 ha2 ha3
  go_enter Tryd.func3, Tryd.ntmps3
  go_wp2_with fail
  refine Calls.mono (Hbey.out _ _ (by simp)) ?_
  rintro x' u2 ⟨rfl, rfl⟩
  clear Hbey
  have K := bel_new w (.cells #[.slice ao xs.length ca] 23)
  by_cases big : 1048576 < tot [xs.length]
  · rw [decide_eq_true big]
    go_wp2
    go_ret
    exact ⟨rfl, K⟩
  rw [decide_eq_false big]
  simp only [tot] at big
  have hlx : xs.length ≤ 1048576 := by omega
  have h_a : Arg w (.slice ao xs.length ca) (Nt.val xs) 1048576 := ⟨xs, h_r, oa, rfl, hlx⟩
  have A0 := h_a.nonneg
  replace h_a := h_a.below K
  replace h_r := h_r.below K
  generalize w.alloc (.cells #[.slice ao xs.length ca] 23) = u at *
  go_wp2_with fail
  with_reducible refine (twin_any h_r (by omega)).mono ?_
  rintro x' u73 ⟨vt, rfl, h_t, kb⟩
  replace K := below_trans K kb; replace h_a := h_a.below kb; replace h_r := h_r.below kb; clear kb
  have h_u : Arg _ vt (Nt.val xs) 1048576 := ⟨xs, h_t.reads, oa, rfl, hlx⟩
  generalize Nt.val xs = A at *
  go_wp2_with fail
  with_reducible refine (lround_3 (L.below K) v v0 v1 hv (neg := neg) (more := false) h_u (by decide) e0 e1).mono ?_
  rintro x' u74 ⟨r1, rfl, N1, kb⟩
  replace K := below_trans K kb; replace h_a := h_a.below kb; replace h_r := h_r.below kb; replace h_t := h_t.below kb; replace h_u := h_u.below kb; clear kb
  go_wp2_with fail
  with_reducible refine (lround_3 (L.below K) v v0 v1 hv (neg := neg) (more := true) h_u (by decide) e0 e1).mono ?_
  rintro x' u75 ⟨r2, rfl, N2, kb⟩
  replace K := below_trans K kb; replace h_a := h_a.below kb; replace h_r := h_r.below kb; replace h_t := h_t.below kb; clear kb
  clear h_u
  go_wp2_with fail
  with_reducible refine (lwidth_3 _ v v0 v1 hv).mono ?_
  rintro x' u76 ⟨rfl, rfl⟩
  go_wp2_with fail
  with_reducible refine (rRound_s (neg := neg) (more := false) h_a (by decide) e0 e1).mono ?_
  rintro x' u77 ⟨⟨r3, A3, e3, m3, rfl, N3, S3⟩, kb⟩
  replace K := below_trans K kb; replace h_a := h_a.below kb; replace h_r := h_r.below kb; replace h_t := h_t.below kb; clear kb
  obtain rfl := stick_same (fr := 23) (by decide) (by decide) A0 N1 N3 S3
  clear N1 N3 S3
  go_wp2_with fail
  with_reducible refine (lwidth_3 _ v v0 v1 hv).mono ?_
  rintro x' u78 ⟨rfl, rfl⟩
  go_wp2_with fail
  with_reducible refine (rRound_s (neg := neg) (more := true) h_a (by decide) e0 e1).mono ?_
  rintro x' u79 ⟨⟨r4, A4, e4, m4, rfl, N4, S4⟩, kb⟩
  replace K := below_trans K kb; replace h_r := h_r.below kb; replace h_t := h_t.below kb; clear kb
  obtain rfl := stick_same (fr := 23) (by decide) (by decide) A0 N2 N4 S4
  clear N2 N4 S4
  go_wp2_with fail
  with_reducible refine (left_any h_t h_r).mono ?_
  rintro x' u80 ⟨rfl, kb⟩
  replace K := below_trans K kb; clear kb
  go_wp2
  go_ret
  exact ⟨rfl, K⟩

theorem irounds_walk {w : World} (L : Lays w) (v : Int) (v0 : 0 ≤ v) (v1 : v < 256) (neg : Bool) {va : Value} {xs : List Int} (ha : Reads .u32 w va xs) (oa : Nt.Ok xs) (la : xs.length ≤ 70368744177664) (e : Int) (e0 : -9223372036854775808 ≤ e) (e1 : e < 9223372036854775808) :
    Calls Tryd.prog 3 #[.int .u8 v, .bool neg, va, .int .i64 e] w fun x w' => x = .returned (.bool true) ∧ Below w.heap.size w w' := by
  rcases (by omega : v % 4 = 0 ∨ v % 4 = 1 ∨ v % 4 = 2 ∨ v % 4 = 3) with k | k | k | k
  · exact irounds_0 L v v0 v1 k neg ha oa la e e0 e1
  · exact irounds_1 L v v0 v1 k neg ha oa la e e0 e1
  · exact irounds_2 L v v0 v1 k neg ha oa la e e0 e1
  · exact irounds_3 L v v0 v1 k neg ha oa la e e0 e1

end Go.Proofs.YtmmkdihhcmcjjaaDoor
