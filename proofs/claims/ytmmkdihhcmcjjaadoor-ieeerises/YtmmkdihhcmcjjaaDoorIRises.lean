/- IeeeRises' walk (mk_irises.py) -/
import Derived.Test.YtmmkdihhcmcjjaaDoorIeeeQ
import Derived.Test.YtmmkdihhcmcjjaaDoorAdd
import Derived.Test.YtmmkdihhcmcjjaaDoorBeyond
namespace Go.Proofs.YtmmkdihhcmcjjaaDoor
open Go.RowKit
set_option linter.unusedVariables false

theorem beyond_duo {w : World} {g : Nat} {ao bo : Option Addr} {la ca lb cb : Nat} (ha : la ≤ 70368744177664) (hb : lb ≤ 70368744177664) (h0 : w.cell? ⟨g, 0, none⟩ = some (.slice ao la ca)) (h1 : w.cell? ⟨g, 1, none⟩ = some (.slice bo lb cb)) :
    Calls Tryd.prog 9 #[.slice (some ⟨g, 0, none⟩) 2 2] w fun e w' => e = .returned (.bool (decide (1048576 < tot [la, lb]))) ∧ w' = w := by
  refine beyond_any (ls := [la, lb]) (by simp) (fun i => ?_) (fun i hi => ?_)
  · match i with
    | 0 => exact ha
    | 1 => exact hb
    | i + 2 => simp
  · match i, hi with
    | 0, _ => exact ⟨_, _, h0⟩
    | 1, _ => exact ⟨_, _, h1⟩
theorem sc_mono {N N' E B : Int} (h : N ≤ N') : sc N E B ≤ sc N' E B := Int.mul_le_mul_of_nonneg_right h (Int.le_of_lt (p2_pos _))

set_option maxRecDepth 20000 in
set_option maxHeartbeats 8000000 in
theorem rises_0 {w : World} (L : Lays w) (T : Brn w) (v : Int) (v0 : 0 ≤ v) (v1 : v < 256) (hv : v % 4 = 0) {va vb : Value} {xs ys : List Int} (ha : Reads .u32 w va xs) (oa : Nt.Ok xs) (la : xs.length ≤ 70368744177664) (hb : Reads .u32 w vb ys) (ob : Nt.Ok ys) (lb : ys.length ≤ 70368744177664) (e : Int) (e0 : -9223372036854775808 ≤ e) (e1 : e < 9223372036854775808) (more : Bool) :
    Calls Tryd.prog 8 #[.int .u8 v, va, vb, .int .i64 e, .bool more] w fun x w' => x = .returned (.bool true) ∧ Below w.heap.size w w' := by
  obtain ⟨ao, ca, rfl, ha1, ha2, ha3⟩ := ha
  obtain ⟨bo, cb, rfl, hb1, hb2, hb3⟩ := hb
  have h_r : Reads .u32 w (.slice ao xs.length ca) xs := ⟨ao, ca, rfl, ha1, ha2, ha3⟩
  have h_s : Reads .u32 w (.slice bo ys.length cb) ys := ⟨bo, cb, rfl, hb1, hb2, hb3⟩
  have Hbey := hide (fun (W : World) (g : Nat) => beyond_duo (w := W) (g := g) (ao := ao) (ca := ca) (bo := bo) (cb := cb) la lb)
  clear ha1 ha2 ha3 hb1 hb2 hb3
  have K := Below.refl w.heap.size w
  go_enter Tryd.func8, Tryd.ntmps8
  go_wp2_with fail
  with_reducible refine (lives_ok L T).mono ?_
  rintro x' u1 ⟨rfl, K⟩
  replace h_r := h_r.below K
  replace h_s := h_s.below K
  go_wp2_with fail
  refine Calls.mono (Hbey.out _ _ (by simp) (by simp)) ?_
  rintro x' u2 ⟨rfl, rfl⟩
  clear Hbey
  rename World => u1
  have K1 := bel_new u1 (.cells #[.slice ao xs.length ca, .slice bo ys.length cb] 23)
  by_cases big : 1048576 < tot [xs.length, ys.length]
  · rw [decide_eq_true big]
    go_wp2
    go_ret
    exact ⟨rfl, below_trans K K1⟩
  rw [decide_eq_false big]
  simp only [tot] at big
  have hlx : xs.length ≤ 1048576 := by omega
  have hly : ys.length ≤ 1048576 := by omega
  have h_a : Arg _ (.slice ao xs.length ca) (Nt.val xs) 1048576 := ⟨xs, h_r, oa, rfl, hlx⟩
  have h_b : Arg _ (.slice bo ys.length cb) (Nt.val ys) 1048576 := ⟨ys, h_s, ob, rfl, hly⟩
  have A0 := h_a.nonneg
  have B0 := h_b.nonneg
  replace K := below_trans K K1
  replace h_a := h_a.below K1
  replace h_b := h_b.below K1
  clear h_r h_s K1
  generalize Nt.val xs = A at *
  generalize Nt.val ys = C at *
  generalize u1.alloc (.cells #[.slice ao xs.length ca, .slice bo ys.length cb] 23) = u at *
  go_wp2_with fail
  with_reducible refine (lround_0 (L.below K) v v0 v1 hv h_a (by decide) e0 e1).mono ?_
  rintro x' u2 ⟨r1, rfl, N1, kb⟩
  replace K := below_trans K kb; replace h_a := h_a.below kb; replace h_b := h_b.below kb; clear kb
  rw [show r1 + b2i false * 32768 = r1 by rw [show b2i false = 0 from rfl]; omega]
  go_wp2_with fail
  with_reducible refine (add_any h_a h_b (by decide) (by decide)).mono ?_
  rintro x' u3 ⟨vs, rfl, h_c, kb⟩
  replace K := below_trans K kb; replace h_a := h_a.below kb; clear kb
  go_wp2_with fail
  with_reducible refine (lround_0 (L.below K) v v0 v1 hv h_c.arg (by decide) e0 e1).mono ?_
  rintro x' u4 ⟨r2, rfl, N2, kb⟩
  replace K := below_trans K kb; replace h_a := h_a.below kb; clear kb
  rw [show r2 + b2i false * 32768 = r2 by rw [show b2i false = 0 from rfl]; omega]
  have le12 := near_le (B := min (e - 1) (-24)) (by decide) N1 N2 (by omega) (by omega) (by omega) (sc_mono (by omega))
  have r10 := N1.1
  have r2I := N2.2.1
  have H1 := hide N1
  clear N1 N2 h_c h_b
  go_wp2_with fail
  with_reducible refine (ltop_0 _ v v0 v1 hv).mono ?_
  rintro x' u5 ⟨rfl, rfl⟩
  go_wp2_with fail
  with_reducible refine (lround_0 (L.below K) v v0 v1 hv h_a (by decide) e0 e1).mono ?_
  rintro x' u6 ⟨r3, rfl, N3, kb⟩
  replace K := below_trans K kb; replace h_a := h_a.below kb; clear kb
  obtain rfl := near_unique (by decide) N3 H1.out
  rw [show r3 + b2i true * 32768 = r3 + 32768 by rw [show b2i true = 1 from rfl]; omega]
  clear N3
  go_wp2_with fail
  with_reducible refine (lsign_0 _ v v0 v1 hv).mono ?_
  rintro x' u7 ⟨rfl, rfl⟩
  go_wp2_with fail
  with_reducible refine (len_any h_a (by decide)).mono ?_
  rintro x' u8 ⟨size, rfl, hlen, hsz, rfl⟩
  have Hlen := hide hlen
  clear hlen
  have sz1 : (size : Int) ≤ 35184372088832 := by omega
  have hw : IntKind.i64.wrap (-1100 - (size : Int)) = -1100 - (size : Int) := by rw [IntKind.wrap_i64]; omega
  by_cases z : size = 0
  · have z' : ((size : Int) == 0) = true := by simp [z]
    cases more
    · have HN := hide (near_low (F := 1024) (L := (-24)) (I := 31744) (e := e) (by decide) (by decide) A0 Hlen.out (b2i_or false) (Or.inl ⟨z, rfl⟩))
      clear z
      have e3 := near_unique (by decide) H1.out HN.out
      subst e3
      go_wp2
      go_ret
      exact ⟨rfl, K⟩
    · skip
      go_wp2_with fail
      with_reducible refine (len_any h_a (by decide)).mono ?_
      rintro x' u9 ⟨size', rfl, hlen', hsz', rfl⟩
      obtain rfl := isLen_unique hlen' Hlen.out
      clear hlen'
      by_cases lo : e < -1100 - (size' : Int)
      · have HN := hide (near_low (F := 1024) (L := (-24)) (I := 31744) (e := e) (by decide) (by decide) A0 Hlen.out (b2i_or true) (Or.inr (by omega)))
        have e3 := near_unique (by decide) H1.out HN.out
        subst e3
        go_wp2
        go_ret
        exact ⟨rfl, K⟩
      by_cases hi : e ≤ 1024
      · go_wp2
        go_ret
        exact ⟨rfl, K⟩
      have HN := hide (near_high (F := 1024) (L := (-24)) (I := 31744) (lim := 16) (fr := 10) (e := e) (by decide) (by decide) (by decide) A0 Hlen.out (b2i_or true) (by simp [b2i]) (by omega))
      go_wp2_with fail
      with_reducible refine (ltop_0 _ v v0 v1 hv).mono ?_
      rintro x' u10 ⟨rfl, rfl⟩
      have e3 := near_unique (by decide) H1.out HN.out
      subst e3
      go_wp2
      go_ret
      exact ⟨rfl, K⟩
  · have z' : ((size : Int) == 0) = false := by simp [z]
    go_wp2_with fail
    with_reducible refine (len_any h_a (by decide)).mono ?_
    rintro x' u11 ⟨size', rfl, hlen', hsz', rfl⟩
    obtain rfl := isLen_unique hlen' Hlen.out
    clear hlen'
    by_cases lo : e < -1100 - (size' : Int)
    · have HN := hide (near_low (F := 1024) (L := (-24)) (I := 31744) (e := e) (by decide) (by decide) A0 Hlen.out (b2i_or more) (Or.inr (by omega)))
      have e3 := near_unique (by decide) H1.out HN.out
      subst e3
      go_wp2
      go_ret
      exact ⟨rfl, K⟩
    by_cases hi : e ≤ 1024
    · go_wp2
      go_ret
      exact ⟨rfl, K⟩
    have HN := hide (near_high (F := 1024) (L := (-24)) (I := 31744) (lim := 16) (fr := 10) (e := e) (by decide) (by decide) (by decide) A0 Hlen.out (b2i_or more) (by omega) (by omega))
    go_wp2_with fail
    with_reducible refine (ltop_0 _ v v0 v1 hv).mono ?_
    rintro x' u12 ⟨rfl, rfl⟩
    have e3 := near_unique (by decide) H1.out HN.out
    subst e3
    go_wp2
    go_ret
    exact ⟨rfl, K⟩

set_option maxRecDepth 20000 in
set_option maxHeartbeats 8000000 in
theorem rises_1 {w : World} (L : Lays w) (T : Brn w) (v : Int) (v0 : 0 ≤ v) (v1 : v < 256) (hv : v % 4 = 1) {va vb : Value} {xs ys : List Int} (ha : Reads .u32 w va xs) (oa : Nt.Ok xs) (la : xs.length ≤ 70368744177664) (hb : Reads .u32 w vb ys) (ob : Nt.Ok ys) (lb : ys.length ≤ 70368744177664) (e : Int) (e0 : -9223372036854775808 ≤ e) (e1 : e < 9223372036854775808) (more : Bool) :
    Calls Tryd.prog 8 #[.int .u8 v, va, vb, .int .i64 e, .bool more] w fun x w' => x = .returned (.bool true) ∧ Below w.heap.size w w' := by
  obtain ⟨ao, ca, rfl, ha1, ha2, ha3⟩ := ha
  obtain ⟨bo, cb, rfl, hb1, hb2, hb3⟩ := hb
  have h_r : Reads .u32 w (.slice ao xs.length ca) xs := ⟨ao, ca, rfl, ha1, ha2, ha3⟩
  have h_s : Reads .u32 w (.slice bo ys.length cb) ys := ⟨bo, cb, rfl, hb1, hb2, hb3⟩
  have Hbey := hide (fun (W : World) (g : Nat) => beyond_duo (w := W) (g := g) (ao := ao) (ca := ca) (bo := bo) (cb := cb) la lb)
  clear ha1 ha2 ha3 hb1 hb2 hb3
  have K := Below.refl w.heap.size w
  go_enter Tryd.func8, Tryd.ntmps8
  go_wp2_with fail
  with_reducible refine (lives_ok L T).mono ?_
  rintro x' u13 ⟨rfl, K⟩
  replace h_r := h_r.below K
  replace h_s := h_s.below K
  go_wp2_with fail
  refine Calls.mono (Hbey.out _ _ (by simp) (by simp)) ?_
  rintro x' u2 ⟨rfl, rfl⟩
  clear Hbey
  rename World => u1
  have K1 := bel_new u1 (.cells #[.slice ao xs.length ca, .slice bo ys.length cb] 23)
  by_cases big : 1048576 < tot [xs.length, ys.length]
  · rw [decide_eq_true big]
    go_wp2
    go_ret
    exact ⟨rfl, below_trans K K1⟩
  rw [decide_eq_false big]
  simp only [tot] at big
  have hlx : xs.length ≤ 1048576 := by omega
  have hly : ys.length ≤ 1048576 := by omega
  have h_a : Arg _ (.slice ao xs.length ca) (Nt.val xs) 1048576 := ⟨xs, h_r, oa, rfl, hlx⟩
  have h_b : Arg _ (.slice bo ys.length cb) (Nt.val ys) 1048576 := ⟨ys, h_s, ob, rfl, hly⟩
  have A0 := h_a.nonneg
  have B0 := h_b.nonneg
  replace K := below_trans K K1
  replace h_a := h_a.below K1
  replace h_b := h_b.below K1
  clear h_r h_s K1
  generalize Nt.val xs = A at *
  generalize Nt.val ys = C at *
  generalize u1.alloc (.cells #[.slice ao xs.length ca, .slice bo ys.length cb] 23) = u at *
  go_wp2_with fail
  with_reducible refine (lround_1 (L.below K) v v0 v1 hv h_a (by decide) e0 e1).mono ?_
  rintro x' u14 ⟨r1, rfl, N1, kb⟩
  replace K := below_trans K kb; replace h_a := h_a.below kb; replace h_b := h_b.below kb; clear kb
  rw [show r1 + b2i false * 2147483648 = r1 by rw [show b2i false = 0 from rfl]; omega]
  go_wp2_with fail
  with_reducible refine (add_any h_a h_b (by decide) (by decide)).mono ?_
  rintro x' u15 ⟨vs, rfl, h_c, kb⟩
  replace K := below_trans K kb; replace h_a := h_a.below kb; clear kb
  go_wp2_with fail
  with_reducible refine (lround_1 (L.below K) v v0 v1 hv h_c.arg (by decide) e0 e1).mono ?_
  rintro x' u16 ⟨r2, rfl, N2, kb⟩
  replace K := below_trans K kb; replace h_a := h_a.below kb; clear kb
  rw [show r2 + b2i false * 2147483648 = r2 by rw [show b2i false = 0 from rfl]; omega]
  have le12 := near_le (B := min (e - 1) (-149)) (by decide) N1 N2 (by omega) (by omega) (by omega) (sc_mono (by omega))
  have r10 := N1.1
  have r2I := N2.2.1
  have H1 := hide N1
  clear N1 N2 h_c h_b
  go_wp2_with fail
  with_reducible refine (ltop_1 _ v v0 v1 hv).mono ?_
  rintro x' u17 ⟨rfl, rfl⟩
  go_wp2_with fail
  with_reducible refine (lround_1 (L.below K) v v0 v1 hv h_a (by decide) e0 e1).mono ?_
  rintro x' u18 ⟨r3, rfl, N3, kb⟩
  replace K := below_trans K kb; replace h_a := h_a.below kb; clear kb
  obtain rfl := near_unique (by decide) N3 H1.out
  rw [show r3 + b2i true * 2147483648 = r3 + 2147483648 by rw [show b2i true = 1 from rfl]; omega]
  clear N3
  go_wp2_with fail
  with_reducible refine (lsign_1 _ v v0 v1 hv).mono ?_
  rintro x' u19 ⟨rfl, rfl⟩
  go_wp2_with fail
  with_reducible refine (len_any h_a (by decide)).mono ?_
  rintro x' u20 ⟨size, rfl, hlen, hsz, rfl⟩
  have Hlen := hide hlen
  clear hlen
  have sz1 : (size : Int) ≤ 35184372088832 := by omega
  have hw : IntKind.i64.wrap (-1100 - (size : Int)) = -1100 - (size : Int) := by rw [IntKind.wrap_i64]; omega
  by_cases z : size = 0
  · have z' : ((size : Int) == 0) = true := by simp [z]
    cases more
    · have HN := hide (near_low (F := 8388608) (L := (-149)) (I := 2139095040) (e := e) (by decide) (by decide) A0 Hlen.out (b2i_or false) (Or.inl ⟨z, rfl⟩))
      clear z
      have e3 := near_unique (by decide) H1.out HN.out
      subst e3
      go_wp2
      go_ret
      exact ⟨rfl, K⟩
    · skip
      go_wp2_with fail
      with_reducible refine (len_any h_a (by decide)).mono ?_
      rintro x' u21 ⟨size', rfl, hlen', hsz', rfl⟩
      obtain rfl := isLen_unique hlen' Hlen.out
      clear hlen'
      by_cases lo : e < -1100 - (size' : Int)
      · have HN := hide (near_low (F := 8388608) (L := (-149)) (I := 2139095040) (e := e) (by decide) (by decide) A0 Hlen.out (b2i_or true) (Or.inr (by omega)))
        have e3 := near_unique (by decide) H1.out HN.out
        subst e3
        go_wp2
        go_ret
        exact ⟨rfl, K⟩
      by_cases hi : e ≤ 1024
      · go_wp2
        go_ret
        exact ⟨rfl, K⟩
      have HN := hide (near_high (F := 8388608) (L := (-149)) (I := 2139095040) (lim := 128) (fr := 23) (e := e) (by decide) (by decide) (by decide) A0 Hlen.out (b2i_or true) (by simp [b2i]) (by omega))
      go_wp2_with fail
      with_reducible refine (ltop_1 _ v v0 v1 hv).mono ?_
      rintro x' u22 ⟨rfl, rfl⟩
      have e3 := near_unique (by decide) H1.out HN.out
      subst e3
      go_wp2
      go_ret
      exact ⟨rfl, K⟩
  · have z' : ((size : Int) == 0) = false := by simp [z]
    go_wp2_with fail
    with_reducible refine (len_any h_a (by decide)).mono ?_
    rintro x' u23 ⟨size', rfl, hlen', hsz', rfl⟩
    obtain rfl := isLen_unique hlen' Hlen.out
    clear hlen'
    by_cases lo : e < -1100 - (size' : Int)
    · have HN := hide (near_low (F := 8388608) (L := (-149)) (I := 2139095040) (e := e) (by decide) (by decide) A0 Hlen.out (b2i_or more) (Or.inr (by omega)))
      have e3 := near_unique (by decide) H1.out HN.out
      subst e3
      go_wp2
      go_ret
      exact ⟨rfl, K⟩
    by_cases hi : e ≤ 1024
    · go_wp2
      go_ret
      exact ⟨rfl, K⟩
    have HN := hide (near_high (F := 8388608) (L := (-149)) (I := 2139095040) (lim := 128) (fr := 23) (e := e) (by decide) (by decide) (by decide) A0 Hlen.out (b2i_or more) (by omega) (by omega))
    go_wp2_with fail
    with_reducible refine (ltop_1 _ v v0 v1 hv).mono ?_
    rintro x' u24 ⟨rfl, rfl⟩
    have e3 := near_unique (by decide) H1.out HN.out
    subst e3
    go_wp2
    go_ret
    exact ⟨rfl, K⟩

set_option maxRecDepth 20000 in
set_option maxHeartbeats 8000000 in
theorem rises_2 {w : World} (L : Lays w) (T : Brn w) (v : Int) (v0 : 0 ≤ v) (v1 : v < 256) (hv : v % 4 = 2) {va vb : Value} {xs ys : List Int} (ha : Reads .u32 w va xs) (oa : Nt.Ok xs) (la : xs.length ≤ 70368744177664) (hb : Reads .u32 w vb ys) (ob : Nt.Ok ys) (lb : ys.length ≤ 70368744177664) (e : Int) (e0 : -9223372036854775808 ≤ e) (e1 : e < 9223372036854775808) (more : Bool) :
    Calls Tryd.prog 8 #[.int .u8 v, va, vb, .int .i64 e, .bool more] w fun x w' => x = .returned (.bool true) ∧ Below w.heap.size w w' := by
  obtain ⟨ao, ca, rfl, ha1, ha2, ha3⟩ := ha
  obtain ⟨bo, cb, rfl, hb1, hb2, hb3⟩ := hb
  have h_r : Reads .u32 w (.slice ao xs.length ca) xs := ⟨ao, ca, rfl, ha1, ha2, ha3⟩
  have h_s : Reads .u32 w (.slice bo ys.length cb) ys := ⟨bo, cb, rfl, hb1, hb2, hb3⟩
  have Hbey := hide (fun (W : World) (g : Nat) => beyond_duo (w := W) (g := g) (ao := ao) (ca := ca) (bo := bo) (cb := cb) la lb)
  clear ha1 ha2 ha3 hb1 hb2 hb3
  have K := Below.refl w.heap.size w
  go_enter Tryd.func8, Tryd.ntmps8
  go_wp2_with fail
  with_reducible refine (lives_ok L T).mono ?_
  rintro x' u25 ⟨rfl, K⟩
  replace h_r := h_r.below K
  replace h_s := h_s.below K
  go_wp2_with fail
  refine Calls.mono (Hbey.out _ _ (by simp) (by simp)) ?_
  rintro x' u2 ⟨rfl, rfl⟩
  clear Hbey
  rename World => u1
  have K1 := bel_new u1 (.cells #[.slice ao xs.length ca, .slice bo ys.length cb] 23)
  by_cases big : 1048576 < tot [xs.length, ys.length]
  · rw [decide_eq_true big]
    go_wp2
    go_ret
    exact ⟨rfl, below_trans K K1⟩
  rw [decide_eq_false big]
  simp only [tot] at big
  have hlx : xs.length ≤ 1048576 := by omega
  have hly : ys.length ≤ 1048576 := by omega
  have h_a : Arg _ (.slice ao xs.length ca) (Nt.val xs) 1048576 := ⟨xs, h_r, oa, rfl, hlx⟩
  have h_b : Arg _ (.slice bo ys.length cb) (Nt.val ys) 1048576 := ⟨ys, h_s, ob, rfl, hly⟩
  have A0 := h_a.nonneg
  have B0 := h_b.nonneg
  replace K := below_trans K K1
  replace h_a := h_a.below K1
  replace h_b := h_b.below K1
  clear h_r h_s K1
  generalize Nt.val xs = A at *
  generalize Nt.val ys = C at *
  generalize u1.alloc (.cells #[.slice ao xs.length ca, .slice bo ys.length cb] 23) = u at *
  go_wp2_with fail
  with_reducible refine (lround_2 (L.below K) v v0 v1 hv h_a (by decide) e0 e1).mono ?_
  rintro x' u26 ⟨r1, rfl, N1, kb⟩
  replace K := below_trans K kb; replace h_a := h_a.below kb; replace h_b := h_b.below kb; clear kb
  rw [show r1 + b2i false * 9223372036854775808 = r1 by rw [show b2i false = 0 from rfl]; omega]
  go_wp2_with fail
  with_reducible refine (add_any h_a h_b (by decide) (by decide)).mono ?_
  rintro x' u27 ⟨vs, rfl, h_c, kb⟩
  replace K := below_trans K kb; replace h_a := h_a.below kb; clear kb
  go_wp2_with fail
  with_reducible refine (lround_2 (L.below K) v v0 v1 hv h_c.arg (by decide) e0 e1).mono ?_
  rintro x' u28 ⟨r2, rfl, N2, kb⟩
  replace K := below_trans K kb; replace h_a := h_a.below kb; clear kb
  rw [show r2 + b2i false * 9223372036854775808 = r2 by rw [show b2i false = 0 from rfl]; omega]
  have le12 := near_le (B := min (e - 1) (-1074)) (by decide) N1 N2 (by omega) (by omega) (by omega) (sc_mono (by omega))
  have r10 := N1.1
  have r2I := N2.2.1
  have H1 := hide N1
  clear N1 N2 h_c h_b
  go_wp2_with fail
  with_reducible refine (ltop_2 _ v v0 v1 hv).mono ?_
  rintro x' u29 ⟨rfl, rfl⟩
  go_wp2_with fail
  with_reducible refine (lround_2 (L.below K) v v0 v1 hv h_a (by decide) e0 e1).mono ?_
  rintro x' u30 ⟨r3, rfl, N3, kb⟩
  replace K := below_trans K kb; replace h_a := h_a.below kb; clear kb
  obtain rfl := near_unique (by decide) N3 H1.out
  rw [show r3 + b2i true * 9223372036854775808 = r3 + 9223372036854775808 by rw [show b2i true = 1 from rfl]; omega]
  clear N3
  go_wp2_with fail
  with_reducible refine (lsign_2 _ v v0 v1 hv).mono ?_
  rintro x' u31 ⟨rfl, rfl⟩
  go_wp2_with fail
  with_reducible refine (len_any h_a (by decide)).mono ?_
  rintro x' u32 ⟨size, rfl, hlen, hsz, rfl⟩
  have Hlen := hide hlen
  clear hlen
  have sz1 : (size : Int) ≤ 35184372088832 := by omega
  have hw : IntKind.i64.wrap (-1100 - (size : Int)) = -1100 - (size : Int) := by rw [IntKind.wrap_i64]; omega
  by_cases z : size = 0
  · have z' : ((size : Int) == 0) = true := by simp [z]
    cases more
    · have HN := hide (near_low (F := 4503599627370496) (L := (-1074)) (I := 9218868437227405312) (e := e) (by decide) (by decide) A0 Hlen.out (b2i_or false) (Or.inl ⟨z, rfl⟩))
      clear z
      have e3 := near_unique (by decide) H1.out HN.out
      subst e3
      go_wp2
      go_ret
      exact ⟨rfl, K⟩
    · skip
      go_wp2_with fail
      with_reducible refine (len_any h_a (by decide)).mono ?_
      rintro x' u33 ⟨size', rfl, hlen', hsz', rfl⟩
      obtain rfl := isLen_unique hlen' Hlen.out
      clear hlen'
      by_cases lo : e < -1100 - (size' : Int)
      · have HN := hide (near_low (F := 4503599627370496) (L := (-1074)) (I := 9218868437227405312) (e := e) (by decide) (by decide) A0 Hlen.out (b2i_or true) (Or.inr (by omega)))
        have e3 := near_unique (by decide) H1.out HN.out
        subst e3
        go_wp2
        go_ret
        exact ⟨rfl, K⟩
      by_cases hi : e ≤ 1024
      · go_wp2
        go_ret
        exact ⟨rfl, K⟩
      have HN := hide (near_high (F := 4503599627370496) (L := (-1074)) (I := 9218868437227405312) (lim := 1024) (fr := 52) (e := e) (by decide) (by decide) (by decide) A0 Hlen.out (b2i_or true) (by simp [b2i]) (by omega))
      go_wp2_with fail
      with_reducible refine (ltop_2 _ v v0 v1 hv).mono ?_
      rintro x' u34 ⟨rfl, rfl⟩
      have e3 := near_unique (by decide) H1.out HN.out
      subst e3
      go_wp2
      go_ret
      exact ⟨rfl, K⟩
  · have z' : ((size : Int) == 0) = false := by simp [z]
    go_wp2_with fail
    with_reducible refine (len_any h_a (by decide)).mono ?_
    rintro x' u35 ⟨size', rfl, hlen', hsz', rfl⟩
    obtain rfl := isLen_unique hlen' Hlen.out
    clear hlen'
    by_cases lo : e < -1100 - (size' : Int)
    · have HN := hide (near_low (F := 4503599627370496) (L := (-1074)) (I := 9218868437227405312) (e := e) (by decide) (by decide) A0 Hlen.out (b2i_or more) (Or.inr (by omega)))
      have e3 := near_unique (by decide) H1.out HN.out
      subst e3
      go_wp2
      go_ret
      exact ⟨rfl, K⟩
    by_cases hi : e ≤ 1024
    · go_wp2
      go_ret
      exact ⟨rfl, K⟩
    have HN := hide (near_high (F := 4503599627370496) (L := (-1074)) (I := 9218868437227405312) (lim := 1024) (fr := 52) (e := e) (by decide) (by decide) (by decide) A0 Hlen.out (b2i_or more) (by omega) (by omega))
    go_wp2_with fail
    with_reducible refine (ltop_2 _ v v0 v1 hv).mono ?_
    rintro x' u36 ⟨rfl, rfl⟩
    have e3 := near_unique (by decide) H1.out HN.out
    subst e3
    go_wp2
    go_ret
    exact ⟨rfl, K⟩

set_option maxRecDepth 20000 in
set_option maxHeartbeats 8000000 in
theorem rises_3 {w : World} (L : Lays w) (T : Brn w) (v : Int) (v0 : 0 ≤ v) (v1 : v < 256) (hv : v % 4 = 3) {va vb : Value} {xs ys : List Int} (ha : Reads .u32 w va xs) (oa : Nt.Ok xs) (la : xs.length ≤ 70368744177664) (hb : Reads .u32 w vb ys) (ob : Nt.Ok ys) (lb : ys.length ≤ 70368744177664) (e : Int) (e0 : -9223372036854775808 ≤ e) (e1 : e < 9223372036854775808) (more : Bool) :
    Calls Tryd.prog 8 #[.int .u8 v, va, vb, .int .i64 e, .bool more] w fun x w' => x = .returned (.bool true) ∧ Below w.heap.size w w' := by
  obtain ⟨ao, ca, rfl, ha1, ha2, ha3⟩ := ha
  obtain ⟨bo, cb, rfl, hb1, hb2, hb3⟩ := hb
  have h_r : Reads .u32 w (.slice ao xs.length ca) xs := ⟨ao, ca, rfl, ha1, ha2, ha3⟩
  have h_s : Reads .u32 w (.slice bo ys.length cb) ys := ⟨bo, cb, rfl, hb1, hb2, hb3⟩
  have Hbey := hide (fun (W : World) (g : Nat) => beyond_duo (w := W) (g := g) (ao := ao) (ca := ca) (bo := bo) (cb := cb) la lb)
  clear ha1 ha2 ha3 hb1 hb2 hb3
  have K := Below.refl w.heap.size w
  go_enter Tryd.func8, Tryd.ntmps8
  go_wp2_with fail
  with_reducible refine (lives_ok L T).mono ?_
  rintro x' u37 ⟨rfl, K⟩
  replace h_r := h_r.below K
  replace h_s := h_s.below K
  go_wp2_with fail
  refine Calls.mono (Hbey.out _ _ (by simp) (by simp)) ?_
  rintro x' u2 ⟨rfl, rfl⟩
  clear Hbey
  rename World => u1
  have K1 := bel_new u1 (.cells #[.slice ao xs.length ca, .slice bo ys.length cb] 23)
  by_cases big : 1048576 < tot [xs.length, ys.length]
  · rw [decide_eq_true big]
    go_wp2
    go_ret
    exact ⟨rfl, below_trans K K1⟩
  rw [decide_eq_false big]
  simp only [tot] at big
  have hlx : xs.length ≤ 1048576 := by omega
  have hly : ys.length ≤ 1048576 := by omega
  have h_a : Arg _ (.slice ao xs.length ca) (Nt.val xs) 1048576 := ⟨xs, h_r, oa, rfl, hlx⟩
  have h_b : Arg _ (.slice bo ys.length cb) (Nt.val ys) 1048576 := ⟨ys, h_s, ob, rfl, hly⟩
  have A0 := h_a.nonneg
  have B0 := h_b.nonneg
  replace K := below_trans K K1
  replace h_a := h_a.below K1
  replace h_b := h_b.below K1
  clear h_r h_s K1
  generalize Nt.val xs = A at *
  generalize Nt.val ys = C at *
  generalize u1.alloc (.cells #[.slice ao xs.length ca, .slice bo ys.length cb] 23) = u at *
  go_wp2_with fail
  with_reducible refine (lround_3 (L.below K) v v0 v1 hv h_a (by decide) e0 e1).mono ?_
  rintro x' u38 ⟨r1, rfl, N1, kb⟩
  replace K := below_trans K kb; replace h_a := h_a.below kb; replace h_b := h_b.below kb; clear kb
  rw [show r1 + b2i false * 2147483648 = r1 by rw [show b2i false = 0 from rfl]; omega]
  go_wp2_with fail
  with_reducible refine (add_any h_a h_b (by decide) (by decide)).mono ?_
  rintro x' u39 ⟨vs, rfl, h_c, kb⟩
  replace K := below_trans K kb; replace h_a := h_a.below kb; clear kb
  go_wp2_with fail
  with_reducible refine (lround_3 (L.below K) v v0 v1 hv h_c.arg (by decide) e0 e1).mono ?_
  rintro x' u40 ⟨r2, rfl, N2, kb⟩
  replace K := below_trans K kb; replace h_a := h_a.below kb; clear kb
  rw [show r2 + b2i false * 2147483648 = r2 by rw [show b2i false = 0 from rfl]; omega]
  have le12 := near_le (B := min (e - 1) (-149)) (by decide) N1 N2 (by omega) (by omega) (by omega) (sc_mono (by omega))
  have r10 := N1.1
  have r2I := N2.2.1
  have H1 := hide N1
  clear N1 N2 h_c h_b
  go_wp2_with fail
  with_reducible refine (ltop_3 _ v v0 v1 hv).mono ?_
  rintro x' u41 ⟨rfl, rfl⟩
  go_wp2_with fail
  with_reducible refine (lround_3 (L.below K) v v0 v1 hv h_a (by decide) e0 e1).mono ?_
  rintro x' u42 ⟨r3, rfl, N3, kb⟩
  replace K := below_trans K kb; replace h_a := h_a.below kb; clear kb
  obtain rfl := near_unique (by decide) N3 H1.out
  rw [show r3 + b2i true * 2147483648 = r3 + 2147483648 by rw [show b2i true = 1 from rfl]; omega]
  clear N3
  go_wp2_with fail
  with_reducible refine (lsign_3 _ v v0 v1 hv).mono ?_
  rintro x' u43 ⟨rfl, rfl⟩
  go_wp2_with fail
  with_reducible refine (len_any h_a (by decide)).mono ?_
  rintro x' u44 ⟨size, rfl, hlen, hsz, rfl⟩
  have Hlen := hide hlen
  clear hlen
  have sz1 : (size : Int) ≤ 35184372088832 := by omega
  have hw : IntKind.i64.wrap (-1100 - (size : Int)) = -1100 - (size : Int) := by rw [IntKind.wrap_i64]; omega
  by_cases z : size = 0
  · have z' : ((size : Int) == 0) = true := by simp [z]
    cases more
    · have HN := hide (near_low (F := 8388608) (L := (-149)) (I := 2139095040) (e := e) (by decide) (by decide) A0 Hlen.out (b2i_or false) (Or.inl ⟨z, rfl⟩))
      clear z
      have e3 := near_unique (by decide) H1.out HN.out
      subst e3
      go_wp2
      go_ret
      exact ⟨rfl, K⟩
    · skip
      go_wp2_with fail
      with_reducible refine (len_any h_a (by decide)).mono ?_
      rintro x' u45 ⟨size', rfl, hlen', hsz', rfl⟩
      obtain rfl := isLen_unique hlen' Hlen.out
      clear hlen'
      by_cases lo : e < -1100 - (size' : Int)
      · have HN := hide (near_low (F := 8388608) (L := (-149)) (I := 2139095040) (e := e) (by decide) (by decide) A0 Hlen.out (b2i_or true) (Or.inr (by omega)))
        have e3 := near_unique (by decide) H1.out HN.out
        subst e3
        go_wp2
        go_ret
        exact ⟨rfl, K⟩
      by_cases hi : e ≤ 1024
      · go_wp2
        go_ret
        exact ⟨rfl, K⟩
      have HN := hide (near_high (F := 8388608) (L := (-149)) (I := 2139095040) (lim := 128) (fr := 23) (e := e) (by decide) (by decide) (by decide) A0 Hlen.out (b2i_or true) (by simp [b2i]) (by omega))
      go_wp2_with fail
      with_reducible refine (ltop_3 _ v v0 v1 hv).mono ?_
      rintro x' u46 ⟨rfl, rfl⟩
      have e3 := near_unique (by decide) H1.out HN.out
      subst e3
      go_wp2
      go_ret
      exact ⟨rfl, K⟩
  · have z' : ((size : Int) == 0) = false := by simp [z]
    go_wp2_with fail
    with_reducible refine (len_any h_a (by decide)).mono ?_
    rintro x' u47 ⟨size', rfl, hlen', hsz', rfl⟩
    obtain rfl := isLen_unique hlen' Hlen.out
    clear hlen'
    by_cases lo : e < -1100 - (size' : Int)
    · have HN := hide (near_low (F := 8388608) (L := (-149)) (I := 2139095040) (e := e) (by decide) (by decide) A0 Hlen.out (b2i_or more) (Or.inr (by omega)))
      have e3 := near_unique (by decide) H1.out HN.out
      subst e3
      go_wp2
      go_ret
      exact ⟨rfl, K⟩
    by_cases hi : e ≤ 1024
    · go_wp2
      go_ret
      exact ⟨rfl, K⟩
    have HN := hide (near_high (F := 8388608) (L := (-149)) (I := 2139095040) (lim := 128) (fr := 23) (e := e) (by decide) (by decide) (by decide) A0 Hlen.out (b2i_or more) (by omega) (by omega))
    go_wp2_with fail
    with_reducible refine (ltop_3 _ v v0 v1 hv).mono ?_
    rintro x' u48 ⟨rfl, rfl⟩
    have e3 := near_unique (by decide) H1.out HN.out
    subst e3
    go_wp2
    go_ret
    exact ⟨rfl, K⟩

theorem rises_walk {w : World} (h : Lays w ∧ Brn w) (v : Int) (v0 : 0 ≤ v) (v1 : v < 256) {va vb : Value} {xs ys : List Int} (ha : Reads .u32 w va xs) (oa : Nt.Ok xs) (la : xs.length ≤ 70368744177664) (hb : Reads .u32 w vb ys) (ob : Nt.Ok ys) (lb : ys.length ≤ 70368744177664) (e : Int) (e0 : -9223372036854775808 ≤ e) (e1 : e < 9223372036854775808) (more : Bool) :
    Calls Tryd.prog 8 #[.int .u8 v, va, vb, .int .i64 e, .bool more] w fun x w' => x = .returned (.bool true) ∧ Below w.heap.size w w' := by
  rcases (by omega : v % 4 = 0 ∨ v % 4 = 1 ∨ v % 4 = 2 ∨ v % 4 = 3) with k | k | k | k
  · exact rises_0 h.1 h.2 v v0 v1 k ha oa la hb ob lb e e0 e1 more
  · exact rises_1 h.1 h.2 v v0 v1 k ha oa la hb ob lb e e0 e1 more
  · exact rises_2 h.1 h.2 v v0 v1 k ha oa la hb ob lb e e0 e1 more
  · exact rises_3 h.1 h.2 v v0 v1 k ha oa la hb ob lb e e0 e1 more

end Go.Proofs.YtmmkdihhcmcjjaaDoor
