/- IeeeWhole's walk (mk_iwhole.py) -/
import Derived.Test.YtmmkdihhcmcjjaaDoorIRefF
import Derived.Test.YtmmkdihhcmcjjaaDoorIeeeL
import Derived.Test.YtmmkdihhcmcjjaaDoorBeyond
namespace Go.Proofs.YtmmkdihhcmcjjaaDoor
open Go.RowKit
set_option linter.unusedVariables false

theorem beyond_solo {w : World} {g : Nat} {ao : Option Addr} {la ca : Nat} (ha : la ≤ 70368744177664) (h0 : w.cell? ⟨g, 0, none⟩ = some (.slice ao la ca)) :
    Calls Tryd.prog 9 #[.slice (some ⟨g, 0, none⟩) 1 1] w fun e w' => e = .returned (.bool (decide (1048576 < tot [la]))) ∧ w' = w := by
  refine beyond_any (ls := [la]) (by simp) (fun i => ?_) (fun i hi => ?_)
  · match i with
    | 0 => exact ha
    | i + 1 => simp
  · match i, hi with
    | 0, _ => exact ⟨_, _, h0⟩

set_option maxHeartbeats 4000000 in
theorem lfrom_0 {w : World} (L : Lays w) (T : Brn w) (v : Int) (v0 : 0 ≤ v) (v1 : v < 256) (hv : v % 4 = 0) {vx : Value} {n : Int} {k : Nat} (hx : WArg w vx n k) (hk : k ≤ 1048577) : Calls Tryd.prog 19 #[.int .u8 v, vx] w fun e w' => ∃ y ok, e = .returned (.tuple #[.int .u64 y, .bool ok]) ∧ FromP 32768 1024 (-24) 31744 n y ok ∧ Below w.heap.size w w' := by
  have hx' := hx
  obtain ⟨xg, xm, xa, rfl, ⟨zs, ⟨xo, xc, rfl, -⟩, -⟩, -⟩ := hx'
  go_enter Tryd.func19, Tryd.ntmps19
  go_upto_region 1 with fail
  have D := cell2_new w (.bool xg) (.slice xo zs.length xc) 38
  have K := bel_new w (.cells #[.bool xg, .slice xo zs.length xc] 38)
  replace hx := hx.below K
  generalize w.alloc (.cells #[.bool xg, .slice xo zs.length xc] 38) = w1 at *
  obtain ⟨c0, c1, -, -⟩ := D.told
  go_wp2_with fail
  with_reducible refine (fromi_16 (L.below K) (T.below K) hx hk).mono ?_
  rintro x' w2 ⟨y, ok, rfl, y0, y1, hF, kb⟩
  have HF := hide hF
  clear hF c0 c1
  go_wp2
  go_ret2
  exact ⟨y, ok, rfl, HF.out, below_trans K kb⟩

set_option maxRecDepth 20000 in
set_option maxHeartbeats 8000000 in
theorem iwhole_0 {w : World} (L : Lays w) (T : Brn w) (v : Int) (v0 : 0 ≤ v) (v1 : v < 256) (hv : v % 4 = 0) {ng : Bool} {va : Value} {xs : List Int} (ha : Reads .u32 w va xs) (oa : Nt.Ok xs) (la : xs.length ≤ 70368744177664) :
    Calls Tryd.prog 5 #[.int .u8 v, .agg #[.bool ng, va]] w fun x w' => x = .returned (.bool true) ∧ Below w.heap.size w w' := by
  obtain ⟨ao, ca, rfl, ha1, ha2, ha3⟩ := ha
  have h_r : Reads .u32 w (.slice ao xs.length ca) xs := ⟨ao, ca, rfl, ha1, ha2, ha3⟩
  have Hbey := hide (fun (W : World) (g : Nat) => beyond_solo (w := W) (g := g) (ao := ao) (ca := ca) la)
  clear ha1 ha2 ha3
  go_enter Tryd.func5, Tryd.ntmps5
  go_upto_region 1 with fail
  have D := cell2_new w (.bool ng) (.slice ao xs.length ca) 38
  have K := bel_new w (.cells #[.bool ng, .slice ao xs.length ca] 38)
  replace h_r := h_r.below K
  have lb : w.heap.size < (w.alloc (.cells #[.bool ng, .slice ao xs.length ca] 38)).heap.size := by simp
  generalize hB : w.heap.size = b0 at *
  generalize w.alloc (.cells #[.bool ng, .slice ao xs.length ca] 38) = w1 at *
  obtain ⟨c0, c1, -, -⟩ := D.told
  go_wp2_with fail
  refine Calls.mono (Hbey.out _ _ (by simp)) ?_
  rintro x' u2 ⟨rfl, rfl⟩
  clear Hbey c0 c1
  have k2 := bel_new w1 (.cells #[.slice ao xs.length ca] 23)
  have K2 : Below b0 w (w1.alloc (.cells #[.slice ao xs.length ca] 23)) := K.trans (k2.mono (by have := K.size; omega))
  replace D := D.below k2
  replace h_r := h_r.below k2
  by_cases big : 1048576 < tot [xs.length]
  · rw [decide_eq_true big]
    go_wp2
    go_ret
    exact ⟨rfl, by rw [hB]; exact K2⟩
  rw [decide_eq_false big]
  simp only [tot] at big
  have hlx : xs.length ≤ 1048576 := by omega
  clear K k2
  generalize w1.alloc (.cells #[.slice ao xs.length ca] 23) = u at *
  have h_a : WArg u (.agg #[.bool ng, .slice ao xs.length ca]) (wn ng (Nt.val xs)) 1048576 := ⟨ng, _, Nt.val xs, rfl, ⟨xs, h_r, oa, rfl, hlx⟩, rfl⟩
  generalize hnn : wn ng (Nt.val xs) = n at *
  obtain ⟨c0, c1, -, -⟩ := D.told
  go_wp2_with fail
  with_reducible refine (wtwin_any h_r (by omega)).mono ?_
  rintro x' w3 ⟨g, rfl, h_t, kb⟩
  clear c0 c1
  subst hB
  replace K2 := below_trans K2 kb
  replace D := D.below kb
  replace h_r := h_r.below kb
  replace h_a := h_a.below kb
  clear kb
  have h_u : WArg w3 (.agg #[.bool ng, .slice (some ⟨g, 0, none⟩) xs.length (xs.length + 1)]) n 1048576 := ⟨ng, _, Nt.val xs, rfl, ⟨xs, h_t.reads, oa, rfl, hlx⟩, hnn.symm⟩
  clear hnn
  go_upto_region 4 with fail
  have D2 := cell2_new w3 (.bool ng) (.slice (some ⟨g, 0, none⟩) xs.length (xs.length + 1)) 38
  have kb := bel_new w3 (.cells #[.bool ng, .slice (some ⟨g, 0, none⟩) xs.length (xs.length + 1)] 38)
  replace K2 := below_trans K2 kb
  replace D := D.below kb
  replace h_r := h_r.below kb
  replace h_a := h_a.below kb
  replace h_u := h_u.below kb
  replace h_t := h_t.below kb
  clear kb
  generalize w3.heap.size = b2 at *
  generalize w3.alloc (.cells #[.bool ng, .slice (some ⟨g, 0, none⟩) xs.length (xs.length + 1)] 38) = w4 at *
  obtain ⟨c0, c1, -, -⟩ := D2.told
  go_wp2_with fail
  with_reducible refine (lfrom_0 (L.below K2) (T.below K2) v v0 v1 hv h_u (by omega)).mono ?_
  rintro x' w5 ⟨y, ok, rfl, hF, kb⟩
  clear c0 c1 h_u
  replace K2 := below_trans K2 kb
  replace D := D.below kb
  replace D2 := D2.below kb
  replace h_r := h_r.below kb
  replace h_a := h_a.below kb
  replace h_t := h_t.below kb
  clear kb
  have HF := hide hF
  clear hF
  go_upto_region 5 with fail
  have K : Below w5.heap.size w5 w5.drew := (Below.refl _ _).drew
  go_region_held3 (fun w' => w'.cell? ⟨w.heap.size, 0, none⟩ = some (.bool ng) ∧ w'.cell? ⟨w.heap.size, 1, none⟩ = some (.slice ao xs.length ca))
    (first
      | with_reducible exact ⟨(D.below K).c0, (D.below K).c1⟩
      | go_keep)
    (first
      | (go_at_call 13; (with_reducible refine (lwidth_0 _ v v0 v1 hv).mono ?_); rintro e w6 ⟨rfl, rfl⟩)
      | (go_at_call 20; (with_reducible refine (rFrom_h (h_a.below K) (by omega)).mono ?_); rintro e w7 ⟨y', ok', rfl, hR, hb⟩; obtain ⟨rfl, rfl⟩ := from_same HF.out hR; clear hR; replace K := below_trans K hb; clear hb))
  all_goals (
    have e0 := (D.below K).c0
    have e1 := (D.below K).c1
    have e2 := (D2.below K).c0
    have e3 := (D2.below K).c1
    have T9 := h_t.below K
    have R9 := h_r.below K
    replace K2 := below_trans K2 K
    clear K D D2 h_t h_r h_a HF
    go_wp2_with fail
    with_reducible refine (wleft_any T9 R9).mono ?_
    rintro x' w9 ⟨rfl, kb⟩
    go_wp2
    go_ret
    exact ⟨rfl, below_trans K2 kb⟩)

set_option maxHeartbeats 4000000 in
theorem lfrom_1 {w : World} (L : Lays w) (T : Brn w) (v : Int) (v0 : 0 ≤ v) (v1 : v < 256) (hv : v % 4 = 1) {vx : Value} {n : Int} {k : Nat} (hx : WArg w vx n k) (hk : k ≤ 1048577) : Calls Tryd.prog 19 #[.int .u8 v, vx] w fun e w' => ∃ y ok, e = .returned (.tuple #[.int .u64 y, .bool ok]) ∧ FromP 2147483648 8388608 (-149) 2139095040 n y ok ∧ Below w.heap.size w w' := by
  have hx' := hx
  obtain ⟨xg, xm, xa, rfl, ⟨zs, ⟨xo, xc, rfl, -⟩, -⟩, -⟩ := hx'
  go_enter Tryd.func19, Tryd.ntmps19
  go_upto_region 1 with fail
  have D := cell2_new w (.bool xg) (.slice xo zs.length xc) 38
  have K := bel_new w (.cells #[.bool xg, .slice xo zs.length xc] 38)
  replace hx := hx.below K
  generalize w.alloc (.cells #[.bool xg, .slice xo zs.length xc] 38) = w1 at *
  obtain ⟨c0, c1, -, -⟩ := D.told
  go_wp2_with fail
  with_reducible refine (fromi_32 (L.below K) (T.below K) hx hk).mono ?_
  rintro x' w2 ⟨y, ok, rfl, y0, y1, hF, kb⟩
  have HF := hide hF
  clear hF c0 c1
  go_wp2
  go_ret2
  exact ⟨y, ok, rfl, HF.out, below_trans K kb⟩

set_option maxRecDepth 20000 in
set_option maxHeartbeats 8000000 in
theorem iwhole_1 {w : World} (L : Lays w) (T : Brn w) (v : Int) (v0 : 0 ≤ v) (v1 : v < 256) (hv : v % 4 = 1) {ng : Bool} {va : Value} {xs : List Int} (ha : Reads .u32 w va xs) (oa : Nt.Ok xs) (la : xs.length ≤ 70368744177664) :
    Calls Tryd.prog 5 #[.int .u8 v, .agg #[.bool ng, va]] w fun x w' => x = .returned (.bool true) ∧ Below w.heap.size w w' := by
  obtain ⟨ao, ca, rfl, ha1, ha2, ha3⟩ := ha
  have h_r : Reads .u32 w (.slice ao xs.length ca) xs := ⟨ao, ca, rfl, ha1, ha2, ha3⟩
  have Hbey := hide (fun (W : World) (g : Nat) => beyond_solo (w := W) (g := g) (ao := ao) (ca := ca) la)
  clear ha1 ha2 ha3
  go_enter Tryd.func5, Tryd.ntmps5
  go_upto_region 1 with fail
  have D := cell2_new w (.bool ng) (.slice ao xs.length ca) 38
  have K := bel_new w (.cells #[.bool ng, .slice ao xs.length ca] 38)
  replace h_r := h_r.below K
  have lb : w.heap.size < (w.alloc (.cells #[.bool ng, .slice ao xs.length ca] 38)).heap.size := by simp
  generalize hB : w.heap.size = b0 at *
  generalize w.alloc (.cells #[.bool ng, .slice ao xs.length ca] 38) = w1 at *
  obtain ⟨c0, c1, -, -⟩ := D.told
  go_wp2_with fail
  refine Calls.mono (Hbey.out _ _ (by simp)) ?_
  rintro x' u2 ⟨rfl, rfl⟩
  clear Hbey c0 c1
  have k2 := bel_new w1 (.cells #[.slice ao xs.length ca] 23)
  have K2 : Below b0 w (w1.alloc (.cells #[.slice ao xs.length ca] 23)) := K.trans (k2.mono (by have := K.size; omega))
  replace D := D.below k2
  replace h_r := h_r.below k2
  by_cases big : 1048576 < tot [xs.length]
  · rw [decide_eq_true big]
    go_wp2
    go_ret
    exact ⟨rfl, by rw [hB]; exact K2⟩
  rw [decide_eq_false big]
  simp only [tot] at big
  have hlx : xs.length ≤ 1048576 := by omega
  clear K k2
  generalize w1.alloc (.cells #[.slice ao xs.length ca] 23) = u at *
  have h_a : WArg u (.agg #[.bool ng, .slice ao xs.length ca]) (wn ng (Nt.val xs)) 1048576 := ⟨ng, _, Nt.val xs, rfl, ⟨xs, h_r, oa, rfl, hlx⟩, rfl⟩
  generalize hnn : wn ng (Nt.val xs) = n at *
  obtain ⟨c0, c1, -, -⟩ := D.told
  go_wp2_with fail
  with_reducible refine (wtwin_any h_r (by omega)).mono ?_
  rintro x' w3 ⟨g, rfl, h_t, kb⟩
  clear c0 c1
  subst hB
  replace K2 := below_trans K2 kb
  replace D := D.below kb
  replace h_r := h_r.below kb
  replace h_a := h_a.below kb
  clear kb
  have h_u : WArg w3 (.agg #[.bool ng, .slice (some ⟨g, 0, none⟩) xs.length (xs.length + 1)]) n 1048576 := ⟨ng, _, Nt.val xs, rfl, ⟨xs, h_t.reads, oa, rfl, hlx⟩, hnn.symm⟩
  clear hnn
  go_upto_region 4 with fail
  have D2 := cell2_new w3 (.bool ng) (.slice (some ⟨g, 0, none⟩) xs.length (xs.length + 1)) 38
  have kb := bel_new w3 (.cells #[.bool ng, .slice (some ⟨g, 0, none⟩) xs.length (xs.length + 1)] 38)
  replace K2 := below_trans K2 kb
  replace D := D.below kb
  replace h_r := h_r.below kb
  replace h_a := h_a.below kb
  replace h_u := h_u.below kb
  replace h_t := h_t.below kb
  clear kb
  generalize w3.heap.size = b2 at *
  generalize w3.alloc (.cells #[.bool ng, .slice (some ⟨g, 0, none⟩) xs.length (xs.length + 1)] 38) = w4 at *
  obtain ⟨c0, c1, -, -⟩ := D2.told
  go_wp2_with fail
  with_reducible refine (lfrom_1 (L.below K2) (T.below K2) v v0 v1 hv h_u (by omega)).mono ?_
  rintro x' w5 ⟨y, ok, rfl, hF, kb⟩
  clear c0 c1 h_u
  replace K2 := below_trans K2 kb
  replace D := D.below kb
  replace D2 := D2.below kb
  replace h_r := h_r.below kb
  replace h_a := h_a.below kb
  replace h_t := h_t.below kb
  clear kb
  have HF := hide hF
  clear hF
  go_upto_region 5 with fail
  have K : Below w5.heap.size w5 w5.drew := (Below.refl _ _).drew
  go_region_held3 (fun w' => w'.cell? ⟨w.heap.size, 0, none⟩ = some (.bool ng) ∧ w'.cell? ⟨w.heap.size, 1, none⟩ = some (.slice ao xs.length ca))
    (first
      | with_reducible exact ⟨(D.below K).c0, (D.below K).c1⟩
      | go_keep)
    (first
      | (go_at_call 13; (with_reducible refine (lwidth_1 _ v v0 v1 hv).mono ?_); rintro e w6 ⟨rfl, rfl⟩)
      | (go_at_call 20; (with_reducible refine (rFrom_s (h_a.below K) (by omega)).mono ?_); rintro e w7 ⟨y', ok', rfl, hR, hb⟩; obtain ⟨rfl, rfl⟩ := from_same HF.out hR; clear hR; replace K := below_trans K hb; clear hb))
  all_goals (
    have e0 := (D.below K).c0
    have e1 := (D.below K).c1
    have e2 := (D2.below K).c0
    have e3 := (D2.below K).c1
    have T9 := h_t.below K
    have R9 := h_r.below K
    replace K2 := below_trans K2 K
    clear K D D2 h_t h_r h_a HF
    go_wp2_with fail
    with_reducible refine (wleft_any T9 R9).mono ?_
    rintro x' w9 ⟨rfl, kb⟩
    go_wp2
    go_ret
    exact ⟨rfl, below_trans K2 kb⟩)

set_option maxHeartbeats 4000000 in
theorem lfrom_2 {w : World} (L : Lays w) (T : Brn w) (v : Int) (v0 : 0 ≤ v) (v1 : v < 256) (hv : v % 4 = 2) {vx : Value} {n : Int} {k : Nat} (hx : WArg w vx n k) (hk : k ≤ 1048577) : Calls Tryd.prog 19 #[.int .u8 v, vx] w fun e w' => ∃ y ok, e = .returned (.tuple #[.int .u64 y, .bool ok]) ∧ FromP 9223372036854775808 4503599627370496 (-1074) 9218868437227405312 n y ok ∧ Below w.heap.size w w' := by
  have hx' := hx
  obtain ⟨xg, xm, xa, rfl, ⟨zs, ⟨xo, xc, rfl, -⟩, -⟩, -⟩ := hx'
  go_enter Tryd.func19, Tryd.ntmps19
  go_upto_region 1 with fail
  have D := cell2_new w (.bool xg) (.slice xo zs.length xc) 38
  have K := bel_new w (.cells #[.bool xg, .slice xo zs.length xc] 38)
  replace hx := hx.below K
  generalize w.alloc (.cells #[.bool xg, .slice xo zs.length xc] 38) = w1 at *
  obtain ⟨c0, c1, -, -⟩ := D.told
  go_wp2_with fail
  with_reducible refine (fromi_64 (L.below K) (T.below K) hx hk).mono ?_
  rintro x' w2 ⟨y, ok, rfl, y0, y1, hF, kb⟩
  have HF := hide hF
  clear hF c0 c1
  go_wp2
  go_ret2
  exact ⟨y, ok, rfl, HF.out, below_trans K kb⟩

set_option maxRecDepth 20000 in
set_option maxHeartbeats 8000000 in
theorem iwhole_2 {w : World} (L : Lays w) (T : Brn w) (v : Int) (v0 : 0 ≤ v) (v1 : v < 256) (hv : v % 4 = 2) {ng : Bool} {va : Value} {xs : List Int} (ha : Reads .u32 w va xs) (oa : Nt.Ok xs) (la : xs.length ≤ 70368744177664) :
    Calls Tryd.prog 5 #[.int .u8 v, .agg #[.bool ng, va]] w fun x w' => x = .returned (.bool true) ∧ Below w.heap.size w w' := by
  obtain ⟨ao, ca, rfl, ha1, ha2, ha3⟩ := ha
  have h_r : Reads .u32 w (.slice ao xs.length ca) xs := ⟨ao, ca, rfl, ha1, ha2, ha3⟩
  have Hbey := hide (fun (W : World) (g : Nat) => beyond_solo (w := W) (g := g) (ao := ao) (ca := ca) la)
  clear ha1 ha2 ha3
  go_enter Tryd.func5, Tryd.ntmps5
  go_upto_region 1 with fail
  have D := cell2_new w (.bool ng) (.slice ao xs.length ca) 38
  have K := bel_new w (.cells #[.bool ng, .slice ao xs.length ca] 38)
  replace h_r := h_r.below K
  have lb : w.heap.size < (w.alloc (.cells #[.bool ng, .slice ao xs.length ca] 38)).heap.size := by simp
  generalize hB : w.heap.size = b0 at *
  generalize w.alloc (.cells #[.bool ng, .slice ao xs.length ca] 38) = w1 at *
  obtain ⟨c0, c1, -, -⟩ := D.told
  go_wp2_with fail
  refine Calls.mono (Hbey.out _ _ (by simp)) ?_
  rintro x' u2 ⟨rfl, rfl⟩
  clear Hbey c0 c1
  have k2 := bel_new w1 (.cells #[.slice ao xs.length ca] 23)
  have K2 : Below b0 w (w1.alloc (.cells #[.slice ao xs.length ca] 23)) := K.trans (k2.mono (by have := K.size; omega))
  replace D := D.below k2
  replace h_r := h_r.below k2
  by_cases big : 1048576 < tot [xs.length]
  · rw [decide_eq_true big]
    go_wp2
    go_ret
    exact ⟨rfl, by rw [hB]; exact K2⟩
  rw [decide_eq_false big]
  simp only [tot] at big
  have hlx : xs.length ≤ 1048576 := by omega
  clear K k2
  generalize w1.alloc (.cells #[.slice ao xs.length ca] 23) = u at *
  have h_a : WArg u (.agg #[.bool ng, .slice ao xs.length ca]) (wn ng (Nt.val xs)) 1048576 := ⟨ng, _, Nt.val xs, rfl, ⟨xs, h_r, oa, rfl, hlx⟩, rfl⟩
  generalize hnn : wn ng (Nt.val xs) = n at *
  obtain ⟨c0, c1, -, -⟩ := D.told
  go_wp2_with fail
  with_reducible refine (wtwin_any h_r (by omega)).mono ?_
  rintro x' w3 ⟨g, rfl, h_t, kb⟩
  clear c0 c1
  subst hB
  replace K2 := below_trans K2 kb
  replace D := D.below kb
  replace h_r := h_r.below kb
  replace h_a := h_a.below kb
  clear kb
  have h_u : WArg w3 (.agg #[.bool ng, .slice (some ⟨g, 0, none⟩) xs.length (xs.length + 1)]) n 1048576 := ⟨ng, _, Nt.val xs, rfl, ⟨xs, h_t.reads, oa, rfl, hlx⟩, hnn.symm⟩
  clear hnn
  go_upto_region 4 with fail
  have D2 := cell2_new w3 (.bool ng) (.slice (some ⟨g, 0, none⟩) xs.length (xs.length + 1)) 38
  have kb := bel_new w3 (.cells #[.bool ng, .slice (some ⟨g, 0, none⟩) xs.length (xs.length + 1)] 38)
  replace K2 := below_trans K2 kb
  replace D := D.below kb
  replace h_r := h_r.below kb
  replace h_a := h_a.below kb
  replace h_u := h_u.below kb
  replace h_t := h_t.below kb
  clear kb
  generalize w3.heap.size = b2 at *
  generalize w3.alloc (.cells #[.bool ng, .slice (some ⟨g, 0, none⟩) xs.length (xs.length + 1)] 38) = w4 at *
  obtain ⟨c0, c1, -, -⟩ := D2.told
  go_wp2_with fail
  with_reducible refine (lfrom_2 (L.below K2) (T.below K2) v v0 v1 hv h_u (by omega)).mono ?_
  rintro x' w5 ⟨y, ok, rfl, hF, kb⟩
  clear c0 c1 h_u
  replace K2 := below_trans K2 kb
  replace D := D.below kb
  replace D2 := D2.below kb
  replace h_r := h_r.below kb
  replace h_a := h_a.below kb
  replace h_t := h_t.below kb
  clear kb
  have HF := hide hF
  clear hF
  go_upto_region 5 with fail
  have K : Below w5.heap.size w5 w5.drew := (Below.refl _ _).drew
  go_region_held3 (fun w' => w'.cell? ⟨w.heap.size, 0, none⟩ = some (.bool ng) ∧ w'.cell? ⟨w.heap.size, 1, none⟩ = some (.slice ao xs.length ca))
    (first
      | with_reducible exact ⟨(D.below K).c0, (D.below K).c1⟩
      | go_keep)
    (first
      | (go_at_call 13; (with_reducible refine (lwidth_2 _ v v0 v1 hv).mono ?_); rintro e w6 ⟨rfl, rfl⟩)
      | (go_at_call 20; (with_reducible refine (rFrom_d (h_a.below K) (by omega)).mono ?_); rintro e w7 ⟨y', ok', rfl, hR, hb⟩; obtain ⟨rfl, rfl⟩ := from_same HF.out hR; clear hR; replace K := below_trans K hb; clear hb))
  all_goals (
    have e0 := (D.below K).c0
    have e1 := (D.below K).c1
    have e2 := (D2.below K).c0
    have e3 := (D2.below K).c1
    have T9 := h_t.below K
    have R9 := h_r.below K
    replace K2 := below_trans K2 K
    clear K D D2 h_t h_r h_a HF
    go_wp2_with fail
    with_reducible refine (wleft_any T9 R9).mono ?_
    rintro x' w9 ⟨rfl, kb⟩
    go_wp2
    go_ret
    exact ⟨rfl, below_trans K2 kb⟩)

set_option maxHeartbeats 4000000 in
theorem lfrom_3 {w : World} (L : Lays w) (T : Brn w) (v : Int) (v0 : 0 ≤ v) (v1 : v < 256) (hv : v % 4 = 3) {vx : Value} {n : Int} {k : Nat} (hx : WArg w vx n k) (hk : k ≤ 1048577) : Calls Tryd.prog 19 #[.int .u8 v, vx] w fun e w' => ∃ y ok, e = .returned (.tuple #[.int .u64 y, .bool ok]) ∧ FromP 2147483648 8388608 (-149) 2139095040 n y ok ∧ Below w.heap.size w w' := by
  have hx' := hx
  obtain ⟨xg, xm, xa, rfl, ⟨zs, ⟨xo, xc, rfl, -⟩, -⟩, -⟩ := hx'
  go_enter Tryd.func19, Tryd.ntmps19
  go_upto_region 1 with fail
  have D := cell2_new w (.bool xg) (.slice xo zs.length xc) 38
  have K := bel_new w (.cells #[.bool xg, .slice xo zs.length xc] 38)
  replace hx := hx.below K
  generalize w.alloc (.cells #[.bool xg, .slice xo zs.length xc] 38) = w1 at *
  obtain ⟨c0, c1, -, -⟩ := D.told
  go_wp2_with fail
  with_reducible refine (fromi_m (L.below K) (T.below K) hx hk).mono ?_
  rintro x' w2 ⟨y, ok, rfl, y0, y1, hF, kb⟩
  have HF := hide hF
  clear hF c0 c1
  go_wp2
  go_ret2
  exact ⟨y, ok, rfl, HF.out, below_trans K kb⟩

set_option maxRecDepth 20000 in
set_option maxHeartbeats 8000000 in
theorem iwhole_3 {w : World} (L : Lays w) (T : Brn w) (v : Int) (v0 : 0 ≤ v) (v1 : v < 256) (hv : v % 4 = 3) {ng : Bool} {va : Value} {xs : List Int} (ha : Reads .u32 w va xs) (oa : Nt.Ok xs) (la : xs.length ≤ 70368744177664) :
    Calls Tryd.prog 5 #[.int .u8 v, .agg #[.bool ng, va]] w fun x w' => x = .returned (.bool true) ∧ Below w.heap.size w w' := by
  obtain ⟨ao, ca, rfl, ha1, ha2, ha3⟩ := ha
  have h_r : Reads .u32 w (.slice ao xs.length ca) xs := ⟨ao, ca, rfl, ha1, ha2, ha3⟩
  have Hbey := hide (fun (W : World) (g : Nat) => beyond_solo (w := W) (g := g) (ao := ao) (ca := ca) la)
  clear ha1 ha2 ha3
  go_enter Tryd.func5, Tryd.ntmps5
  go_upto_region 1 with fail
  have D := cell2_new w (.bool ng) (.slice ao xs.length ca) 38
  have K := bel_new w (.cells #[.bool ng, .slice ao xs.length ca] 38)
  replace h_r := h_r.below K
  have lb : w.heap.size < (w.alloc (.cells #[.bool ng, .slice ao xs.length ca] 38)).heap.size := by simp
  generalize hB : w.heap.size = b0 at *
  generalize w.alloc (.cells #[.bool ng, .slice ao xs.length ca] 38) = w1 at *
  obtain ⟨c0, c1, -, -⟩ := D.told
  go_wp2_with fail
  refine Calls.mono (Hbey.out _ _ (by simp)) ?_
  rintro x' u2 ⟨rfl, rfl⟩
  clear Hbey c0 c1
  have k2 := bel_new w1 (.cells #[.slice ao xs.length ca] 23)
  have K2 : Below b0 w (w1.alloc (.cells #[.slice ao xs.length ca] 23)) := K.trans (k2.mono (by have := K.size; omega))
  replace D := D.below k2
  replace h_r := h_r.below k2
  by_cases big : 1048576 < tot [xs.length]
  · rw [decide_eq_true big]
    go_wp2
    go_ret
    exact ⟨rfl, by rw [hB]; exact K2⟩
  rw [decide_eq_false big]
  simp only [tot] at big
  have hlx : xs.length ≤ 1048576 := by omega
  clear K k2
  generalize w1.alloc (.cells #[.slice ao xs.length ca] 23) = u at *
  have h_a : WArg u (.agg #[.bool ng, .slice ao xs.length ca]) (wn ng (Nt.val xs)) 1048576 := ⟨ng, _, Nt.val xs, rfl, ⟨xs, h_r, oa, rfl, hlx⟩, rfl⟩
  generalize hnn : wn ng (Nt.val xs) = n at *
  obtain ⟨c0, c1, -, -⟩ := D.told
  go_wp2_with fail
  with_reducible refine (wtwin_any h_r (by omega)).mono ?_
  rintro x' w3 ⟨g, rfl, h_t, kb⟩
  clear c0 c1
  subst hB
  replace K2 := below_trans K2 kb
  replace D := D.below kb
  replace h_r := h_r.below kb
  replace h_a := h_a.below kb
  clear kb
  have h_u : WArg w3 (.agg #[.bool ng, .slice (some ⟨g, 0, none⟩) xs.length (xs.length + 1)]) n 1048576 := ⟨ng, _, Nt.val xs, rfl, ⟨xs, h_t.reads, oa, rfl, hlx⟩, hnn.symm⟩
  clear hnn
  go_upto_region 4 with fail
  have D2 := cell2_new w3 (.bool ng) (.slice (some ⟨g, 0, none⟩) xs.length (xs.length + 1)) 38
  have kb := bel_new w3 (.cells #[.bool ng, .slice (some ⟨g, 0, none⟩) xs.length (xs.length + 1)] 38)
  replace K2 := below_trans K2 kb
  replace D := D.below kb
  replace h_r := h_r.below kb
  replace h_a := h_a.below kb
  replace h_u := h_u.below kb
  replace h_t := h_t.below kb
  clear kb
  generalize w3.heap.size = b2 at *
  generalize w3.alloc (.cells #[.bool ng, .slice (some ⟨g, 0, none⟩) xs.length (xs.length + 1)] 38) = w4 at *
  obtain ⟨c0, c1, -, -⟩ := D2.told
  go_wp2_with fail
  with_reducible refine (lfrom_3 (L.below K2) (T.below K2) v v0 v1 hv h_u (by omega)).mono ?_
  rintro x' w5 ⟨y, ok, rfl, hF, kb⟩
  clear c0 c1 h_u
  replace K2 := below_trans K2 kb
  replace D := D.below kb
  replace D2 := D2.below kb
  replace h_r := h_r.below kb
  replace h_a := h_a.below kb
  replace h_t := h_t.below kb
  clear kb
  have HF := hide hF
  clear hF
  go_upto_region 5 with fail
  have K : Below w5.heap.size w5 w5.drew := (Below.refl _ _).drew
  go_region_held3 (fun w' => w'.cell? ⟨w.heap.size, 0, none⟩ = some (.bool ng) ∧ w'.cell? ⟨w.heap.size, 1, none⟩ = some (.slice ao xs.length ca))
    (first
      | with_reducible exact ⟨(D.below K).c0, (D.below K).c1⟩
      | go_keep)
    (first
      | (go_at_call 13; (with_reducible refine (lwidth_3 _ v v0 v1 hv).mono ?_); rintro e w6 ⟨rfl, rfl⟩)
      | (go_at_call 20; (with_reducible refine (rFrom_s (h_a.below K) (by omega)).mono ?_); rintro e w7 ⟨y', ok', rfl, hR, hb⟩; obtain ⟨rfl, rfl⟩ := from_same HF.out hR; clear hR; replace K := below_trans K hb; clear hb))
  all_goals (
    have e0 := (D.below K).c0
    have e1 := (D.below K).c1
    have e2 := (D2.below K).c0
    have e3 := (D2.below K).c1
    have T9 := h_t.below K
    have R9 := h_r.below K
    replace K2 := below_trans K2 K
    clear K D D2 h_t h_r h_a HF
    go_wp2_with fail
    with_reducible refine (wleft_any T9 R9).mono ?_
    rintro x' w9 ⟨rfl, kb⟩
    go_wp2
    go_ret
    exact ⟨rfl, below_trans K2 kb⟩)

theorem iwhole_walk {w : World} (h : Lays w ∧ Brn w) (v : Int) (v0 : 0 ≤ v) (v1 : v < 256) {ng : Bool} {va : Value} {xs : List Int} (ha : Reads .u32 w va xs) (oa : Nt.Ok xs) (la : xs.length ≤ 70368744177664) :
    Calls Tryd.prog 5 #[.int .u8 v, .agg #[.bool ng, va]] w fun x w' => x = .returned (.bool true) ∧ Below w.heap.size w w' := by
  rcases (by omega : v % 4 = 0 ∨ v % 4 = 1 ∨ v % 4 = 2 ∨ v % 4 = 3) with k | k | k | k
  · exact iwhole_0 h.1 h.2 v v0 v1 k ha oa la
  · exact iwhole_1 h.1 h.2 v v0 v1 k ha oa la
  · exact iwhole_2 h.1 h.2 v v0 v1 k ha oa la
  · exact iwhole_3 h.1 h.2 v v0 v1 k ha oa la

end Go.Proofs.YtmmkdihhcmcjjaaDoor
