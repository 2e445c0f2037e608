/- ShortestRises: the walk (mk_srises.py) -/
import Derived.Test.YtlhjbmdkfdabmabDoorSD
import Derived.Test.YtlhjbmdkfdabmabDoorSRisesM
namespace Go.Proofs.YtlhjbmdkfdabmabDoor
open Go.RowKit
set_option linter.unusedVariables false

set_option maxHeartbeats 4000000 in
theorem below6 {w : World} (a b : Bool) (t u : ByteArray) (p q : Int) (r : Bool) (hr : (if p = q then Op.bytesLess t.toList u.toList else decide (p < q)) = r) :
    Calls Tryd.prog 11 #[.agg #[.bool a, .string t, .int .i64 p], .agg #[.bool b, .string u, .int .i64 q]] w fun e w' => e = .returned (.bool r) ∧ Below w.heap.size w w' := by
  have K := below_trans (bel_new w (.cells #[.bool a, .string t, .int .i64 p] 28)) (bel_new _ (.cells #[.bool b, .string u, .int .i64 q] 28))
  have C1 := (cell3_new w (.bool a) (.string t) (.int .i64 p) 28).below (bel_new _ (.cells #[.bool b, .string u, .int .i64 q] 28))
  have C2 := cell3_new (w.alloc (.cells #[.bool a, .string t, .int .i64 p] 28)) (.bool b) (.string u) (.int .i64 q) 28
  have zs : (w.alloc (.cells #[.bool a, .string t, .int .i64 p] 28)).heap.size = w.heap.size + 1 := by simp
  rw [zs] at C2
  go_enter Tryd.func11, Tryd.ntmps11
  go_upto_region 1 with fail
  clear zs
  generalize ((w.alloc (.cells #[.bool a, .string t, .int .i64 p] 28)).alloc (.cells #[.bool b, .string u, .int .i64 q] 28)) = w1 at *
  have c1 := C1.c1
  have c2 := C1.c2
  have d1 := C2.c1
  have d2 := C2.c2
  by_cases e : p = q
  · subst e
    rw [if_pos rfl] at hr
    have n : (p != p) = false := by simp
    go_wp2
    go_ret
    exact ⟨by rw [← hr]; rfl, K⟩
  · rw [if_neg e] at hr
    have n : (p != q) = true := by simp [e]
    go_wp2
    go_ret
    exact ⟨by rw [← hr]; rfl, K⟩
/-- a size above 0 that is finite -/
theorem Dg.fin {F L I s : Int} {ng ok a : Bool} {t : ByteArray} {q : Int} (hF : 0 < F) (hL : -1074 ≤ L) (h0 : 0 < s) (h1 : s < I) (h : Dg F L I s ng (.agg #[.bool a, .string t, .int .i64 q]) ok) : ok = true ∧ a = ng ∧ Tl F L s t q := by
  obtain ⟨h2, p, k, c, sh, k17, hv⟩ := h.2.2 h0 h1
  injection hv with hv
  simp at hv
  obtain ⟨e1, e2, e3⟩ := hv
  subst e1 e2 e3
  exact ⟨h2, rfl, tl_of hF h0 hL sh k17⟩
theorem rise_val {F L I s s' P P' : Int} {t t' : ByteArray} (hF : 0 < F) (h0 : 0 < s) (h1 : s < s') (h2 : s' < I) (h : Tl F L s t P) (h' : Tl F L s' t' P') :
    (if P = P' then Op.bytesLess t.toList t'.toList else decide (P < P')) = true ∧ (if P' = P then Op.bytesLess t'.toList t.toList else decide (P' < P)) = false := by
  rcases rise hF h0 h1 h2 h h' with c | ⟨c, d, e⟩
  · rw [if_neg (by omega), if_neg (by omega)]
    exact ⟨decide_eq_true c, decide_eq_false (by omega)⟩
  · rw [if_pos c, if_pos c.symm]
    exact ⟨d, e⟩

set_option maxRecDepth 100000 in
set_option maxHeartbeats 8000000 in
theorem rises_h {w : World} (T : Lays w) (U : Brn w) (x y n : Int) (x0 : 0 ≤ x) (x1 : x < 18446744073709551616) (y0 : 0 ≤ y) (y1 : y < 18446744073709551616) (n0 : 0 ≤ n) (n1 : n < 256) (hr : n % 3 = 0) :
    Calls Tryd.prog 3 #[.int .u64 x, .int .u64 y, .int .u8 n] w fun e w' => e = .returned (.bool true) ∧ Below w.heap.size w w' := by
  go_enter Tryd.func3, Tryd.ntmps3
  go_wp2_with fail
  refine (lwidth_h w n n0 n1 hr).mono ?_
  rintro r w' ⟨rfl, rfl⟩
  go_wp2_with fail
  refine (lcut_h w' x x0 x1).mono ?_
  rintro r w ⟨rfl, rfl⟩
  obtain ⟨s, hs⟩ : ∃ a, x % 65536 % 32768 = a := ⟨_, rfl⟩
  obtain ⟨u, hu⟩ : ∃ a, y % 65536 % 32768 = a := ⟨_, rfl⟩
  go_wp2_with fail
  refine (rSize_h w (x % 65536) s (by omega) (by omega) hs).mono ?_
  rintro r w' ⟨rfl, rfl⟩
  go_wp2_with fail
  refine (lcut_h w' y y0 y1).mono ?_
  rintro r w ⟨rfl, rfl⟩
  go_wp2_with fail
  refine (rSize_h w (y % 65536) u (by omega) (by omega) hu).mono ?_
  rintro r w' ⟨rfl, rfl⟩
  have s0 : 0 ≤ s ∧ s < 32768 := by omega
  have u0 : 0 ≤ u ∧ u < 32768 := by omega
  clear hs hu hr
  go_upto_if 28 with fail
  go_cut [0, 1] from 28 (fun s0 s1 wc => ∃ lo hi : Int, s0 = .int .u64 lo ∧ s1 = .int .u64 hi ∧ 0 ≤ lo ∧ lo ≤ hi ∧ hi < 32768 ∧ wc = w')
  case first =>
    by_cases g : u < s
    · have g' : decide (s > u) = true := decide_eq_true g
      go_wp2
      go_meet
      exact ⟨u, s, rfl, rfl, by omega, by omega, by omega, rfl⟩
    · have g' : decide (s > u) = false := decide_eq_false (by omega)
      go_wp2
      go_meet
      exact ⟨s, u, rfl, rfl, by omega, by omega, by omega, rfl⟩
  case rest =>
  obtain ⟨lo, hi, rfl, rfl, l0, lh, h1, rfl⟩ := hcut
  clear s0 u0
  rename World => w
  by_cases z : lo = 0
  · have z' : (lo == 0) = true := by simp [z]
    go_wp2_with fail
    refine (lives6 T U).mono ?_
    rintro r wb ⟨rfl, bb⟩
    go_wp2
    go_ret
    exact ⟨rfl, bb⟩
  have l0 : 0 < lo := by omega
  have z' : (lo == 0) = false := by simp [z]
  go_wp2_with fail
  refine (rInf_h w).mono ?_
  rintro r w1 ⟨rfl, b1⟩
  by_cases c : 31744 ≤ hi
  · have c' : decide (hi ≥ 31744) = true := decide_eq_true c
    go_wp2_with fail
    refine (lives6 (T.below b1) (U.below b1)).mono ?_
    rintro r wb ⟨rfl, bb⟩
    go_wp2
    go_ret
    exact ⟨rfl, below_trans b1 bb⟩
  have c' : decide (hi ≥ 31744) = false := decide_eq_false (by omega)
  go_wp2_with fail
  refine (ldigits_h (T.below b1) (U.below b1) (lo) (lo) false (by omega) (by omega) (by omega) (decide_eq_false (by omega)).symm).mono ?_
  rintro r w2 ⟨Aa, At, Aq, Ak, rfl, Ad, Ab⟩
  obtain ⟨rfl, rfl, Al⟩ := Ad.fin (by decide) (by decide) (by omega) (by omega)
  have K2 := below_trans (below_trans b1 Ab) (bel_new w2 (.cells #[.bool false, .string At, .int .i64 Aq] 28))
  have CA := cell3_new w2 (.bool false) (.string At) (.int .i64 Aq) 28
  have HAd := hide Ad
  clear Ad
  go_wp2_with fail
  generalize w2.alloc (.cells #[.bool false, .string At, .int .i64 Aq] 28) = w3 at *
  refine (ldigits_h (T.below K2) (U.below K2) (hi) (hi) false (by omega) (by omega) (by omega) (decide_eq_false (by omega)).symm).mono ?_
  rintro r w4 ⟨Ba, Bt, Bq, Bk, rfl, Bd, Bb⟩
  obtain ⟨rfl, rfl, Bl⟩ := Bd.fin (by decide) (by decide) (by omega) (by omega)
  have K4 := below_trans (below_trans K2 Bb) (bel_new w4 (.cells #[.bool false, .string Bt, .int .i64 Bq] 28))
  replace CA := (CA.below Bb).below (bel_new w4 (.cells #[.bool false, .string Bt, .int .i64 Bq] 28))
  have CB := cell3_new w4 (.bool false) (.string Bt) (.int .i64 Bq) 28
  have HBd := hide Bd
  clear Bd Ab Bb b1 K2
  go_upto_region 9 with fail
  generalize w4.alloc (.cells #[.bool false, .string Bt, .int .i64 Bq] 28) = w5 at *
  have c0 := CA.c0
  have c1 := CA.c1
  have c2 := CA.c2
  have d0 := CB.c0
  have d1 := CB.c1
  have d2 := CB.c2
  by_cases lt : lo < hi
  · obtain ⟨v1, v2⟩ := rise_val (I := 31744) (by decide) l0 lt (by omega) Al Bl
    have lt' : decide (lo < hi) = true := decide_eq_true lt
    go_wp2_with fail
    refine (below6 false false At Bt Aq Bq true v1).mono ?_
    rintro r w6 ⟨rfl, b6⟩
    have K6 := below_trans K4 b6
    replace CA := CA.below b6
    replace CB := CB.below b6
    clear c0 c1 c2 d0 d1 d2 b6
    have c0 := CA.c0
    have c1 := CA.c1
    have c2 := CA.c2
    have d0 := CB.c0
    have d1 := CB.c1
    have d2 := CB.c2
    go_wp2_with fail
    refine (below6 false false Bt At Bq Aq false v2).mono ?_
    rintro r wx ⟨rfl, bx⟩
    have Kx := below_trans K6 bx
    replace CA := CA.below bx
    clear c0 c1 c2 d0 d1 d2 bx K6 K4 CB v1 v2
    have ws : IntKind.u64.wrap (lo + 1) = lo + 1 := by rw [IntKind.wrap_u64]; omega
    go_wp2_with fail
    refine (rInf_h wx).mono ?_
    rintro r w7 ⟨rfl, b7⟩
    have K7 := below_trans Kx b7
    by_cases c3 : lo + 1 < 31744
    · have c3' : decide (lo + 1 < 31744) = true := decide_eq_true c3
      go_wp2_with fail
      refine (ldigits_h (T.below K7) (U.below K7) (lo + 1) (lo + 1) false (by omega) (by omega) (by omega) (decide_eq_false (by omega)).symm).mono ?_
      rintro r w8 ⟨Ca, Ct, Cq, Ck, rfl, Cd, Cb⟩
      obtain ⟨rfl, rfl, Cl⟩ := Cd.fin (by decide) (by decide) (by omega) (by omega)
      obtain ⟨v1, v2⟩ := rise_val (I := 31744) (by decide) l0 (by omega) c3 Al Cl
      have C7 := ((CA.below b7).below Cb).below (bel_new w8 (.cells #[.bool false, .string Ct, .int .i64 Cq] 28))
      have D7 := cell3_new w8 (.bool false) (.string Ct) (.int .i64 Cq) 28
      have K8 := below_trans (below_trans K7 Cb) (bel_new w8 (.cells #[.bool false, .string Ct, .int .i64 Cq] 28))
      have HA := hide Al
      clear Al Cl Cd Bl
      go_upto_region 13 with fail
      generalize w8.alloc (.cells #[.bool false, .string Ct, .int .i64 Cq] 28) = w9 at *
      have c0 := C7.c0
      have c1 := C7.c1
      have c2 := C7.c2
      have d0 := D7.c0
      have d1 := D7.c1
      have d2 := D7.c2
      go_wp2_with fail
      refine (below6 false false At Ct Aq Cq true v1).mono ?_
      rintro r wa ⟨rfl, ba⟩
      have Ka := below_trans K8 ba
      go_wp2_with fail
      refine (lives6 (T.below Ka) (U.below Ka)).mono ?_
      rintro r wb ⟨rfl, bb⟩
      go_wp2
      go_ret
      exact ⟨rfl, below_trans Ka bb⟩
    · have c3' : decide (lo + 1 < 31744) = false := decide_eq_false c3
      go_wp2_with fail
      refine (lives6 (T.below K7) (U.below K7)).mono ?_
      rintro r wb ⟨rfl, bb⟩
      go_wp2
      go_ret
      exact ⟨rfl, below_trans K7 bb⟩
  · have e : lo = hi := by omega
    subst e
    obtain ⟨_, ⟨k, _⟩ | ⟨_, _, t0, q0, e1, e2⟩⟩ := Dg.unique (by decide) (by omega) HAd.out HBd.out
    · cases k
    injection e1 with e1
    injection e2 with e2
    simp at e1 e2
    have eT : At = Bt := by rw [e1.1, e2.1]
    have eQ : Aq = Bq := by rw [e1.2, e2.2]
    clear e1 e2
    subst eT eQ
    have lt' : decide (lo < lo) = false := decide_eq_false (by omega)
    go_wp2_with fail
    refine (below6 false false At At Aq Aq false (by rw [if_pos rfl]; exact less_self _)).mono ?_
    rintro r w6 ⟨rfl, b6⟩
    have K6 := below_trans K4 b6
    replace CA := CA.below b6
    replace CB := CB.below b6
    clear c0 c1 c2 d0 d1 d2 b6
    have c0 := CA.c0
    have c1 := CA.c1
    have c2 := CA.c2
    have d0 := CB.c0
    have d1 := CB.c1
    have d2 := CB.c2
    go_wp2_with fail
    refine (below6 false false At At Aq Aq false (by rw [if_pos rfl]; exact less_self _)).mono ?_
    rintro r wx ⟨rfl, bx⟩
    have Kx := below_trans K6 bx
    replace CA := CA.below bx
    clear c0 c1 c2 d0 d1 d2 bx K6 K4 CB
    have ws : IntKind.u64.wrap (lo + 1) = lo + 1 := by rw [IntKind.wrap_u64]; omega
    go_wp2_with fail
    refine (rInf_h wx).mono ?_
    rintro r w7 ⟨rfl, b7⟩
    have K7 := below_trans Kx b7
    by_cases c3 : lo + 1 < 31744
    · have c3' : decide (lo + 1 < 31744) = true := decide_eq_true c3
      go_wp2_with fail
      refine (ldigits_h (T.below K7) (U.below K7) (lo + 1) (lo + 1) false (by omega) (by omega) (by omega) (decide_eq_false (by omega)).symm).mono ?_
      rintro r w8 ⟨Ca, Ct, Cq, Ck, rfl, Cd, Cb⟩
      obtain ⟨rfl, rfl, Cl⟩ := Cd.fin (by decide) (by decide) (by omega) (by omega)
      obtain ⟨v1, v2⟩ := rise_val (I := 31744) (by decide) l0 (by omega) c3 Al Cl
      have C7 := ((CA.below b7).below Cb).below (bel_new w8 (.cells #[.bool false, .string Ct, .int .i64 Cq] 28))
      have D7 := cell3_new w8 (.bool false) (.string Ct) (.int .i64 Cq) 28
      have K8 := below_trans (below_trans K7 Cb) (bel_new w8 (.cells #[.bool false, .string Ct, .int .i64 Cq] 28))
      have HA := hide Al
      clear Al Cl Cd Bl
      go_upto_region 13 with fail
      generalize w8.alloc (.cells #[.bool false, .string Ct, .int .i64 Cq] 28) = w9 at *
      have c0 := C7.c0
      have c1 := C7.c1
      have c2 := C7.c2
      have d0 := D7.c0
      have d1 := D7.c1
      have d2 := D7.c2
      go_wp2_with fail
      refine (below6 false false At Ct Aq Cq true v1).mono ?_
      rintro r wa ⟨rfl, ba⟩
      have Ka := below_trans K8 ba
      go_wp2_with fail
      refine (lives6 (T.below Ka) (U.below Ka)).mono ?_
      rintro r wb ⟨rfl, bb⟩
      go_wp2
      go_ret
      exact ⟨rfl, below_trans Ka bb⟩
    · have c3' : decide (lo + 1 < 31744) = false := decide_eq_false c3
      go_wp2_with fail
      refine (lives6 (T.below K7) (U.below K7)).mono ?_
      rintro r wb ⟨rfl, bb⟩
      go_wp2
      go_ret
      exact ⟨rfl, below_trans K7 bb⟩

set_option maxRecDepth 100000 in
set_option maxHeartbeats 8000000 in
theorem rises_s {w : World} (T : Lays w) (U : Brn w) (x y n : Int) (x0 : 0 ≤ x) (x1 : x < 18446744073709551616) (y0 : 0 ≤ y) (y1 : y < 18446744073709551616) (n0 : 0 ≤ n) (n1 : n < 256) (hr : n % 3 = 1) :
    Calls Tryd.prog 3 #[.int .u64 x, .int .u64 y, .int .u8 n] w fun e w' => e = .returned (.bool true) ∧ Below w.heap.size w w' := by
  go_enter Tryd.func3, Tryd.ntmps3
  go_wp2_with fail
  refine (lwidth_s w n n0 n1 hr).mono ?_
  rintro r w' ⟨rfl, rfl⟩
  go_wp2_with fail
  refine (lcut_s w' x x0 x1).mono ?_
  rintro r w ⟨rfl, rfl⟩
  obtain ⟨s, hs⟩ : ∃ a, x % 4294967296 % 2147483648 = a := ⟨_, rfl⟩
  obtain ⟨u, hu⟩ : ∃ a, y % 4294967296 % 2147483648 = a := ⟨_, rfl⟩
  go_wp2_with fail
  refine (rSize_s w (x % 4294967296) s (by omega) (by omega) hs).mono ?_
  rintro r w' ⟨rfl, rfl⟩
  go_wp2_with fail
  refine (lcut_s w' y y0 y1).mono ?_
  rintro r w ⟨rfl, rfl⟩
  go_wp2_with fail
  refine (rSize_s w (y % 4294967296) u (by omega) (by omega) hu).mono ?_
  rintro r w' ⟨rfl, rfl⟩
  have s0 : 0 ≤ s ∧ s < 2147483648 := by omega
  have u0 : 0 ≤ u ∧ u < 2147483648 := by omega
  clear hs hu hr
  go_upto_if 28 with fail
  go_cut [0, 1] from 28 (fun s0 s1 wc => ∃ lo hi : Int, s0 = .int .u64 lo ∧ s1 = .int .u64 hi ∧ 0 ≤ lo ∧ lo ≤ hi ∧ hi < 2147483648 ∧ wc = w')
  case first =>
    by_cases g : u < s
    · have g' : decide (s > u) = true := decide_eq_true g
      go_wp2
      go_meet
      exact ⟨u, s, rfl, rfl, by omega, by omega, by omega, rfl⟩
    · have g' : decide (s > u) = false := decide_eq_false (by omega)
      go_wp2
      go_meet
      exact ⟨s, u, rfl, rfl, by omega, by omega, by omega, rfl⟩
  case rest =>
  obtain ⟨lo, hi, rfl, rfl, l0, lh, h1, rfl⟩ := hcut
  clear s0 u0
  rename World => w
  by_cases z : lo = 0
  · have z' : (lo == 0) = true := by simp [z]
    go_wp2_with fail
    refine (lives6 T U).mono ?_
    rintro r wb ⟨rfl, bb⟩
    go_wp2
    go_ret
    exact ⟨rfl, bb⟩
  have l0 : 0 < lo := by omega
  have z' : (lo == 0) = false := by simp [z]
  go_wp2_with fail
  refine (rInf_s w).mono ?_
  rintro r w1 ⟨rfl, b1⟩
  by_cases c : 2139095040 ≤ hi
  · have c' : decide (hi ≥ 2139095040) = true := decide_eq_true c
    go_wp2_with fail
    refine (lives6 (T.below b1) (U.below b1)).mono ?_
    rintro r wb ⟨rfl, bb⟩
    go_wp2
    go_ret
    exact ⟨rfl, below_trans b1 bb⟩
  have c' : decide (hi ≥ 2139095040) = false := decide_eq_false (by omega)
  go_wp2_with fail
  refine (ldigits_s (T.below b1) (U.below b1) (lo) (lo) false (by omega) (by omega) (by omega) (decide_eq_false (by omega)).symm).mono ?_
  rintro r w2 ⟨Aa, At, Aq, Ak, rfl, Ad, Ab⟩
  obtain ⟨rfl, rfl, Al⟩ := Ad.fin (by decide) (by decide) (by omega) (by omega)
  have K2 := below_trans (below_trans b1 Ab) (bel_new w2 (.cells #[.bool false, .string At, .int .i64 Aq] 28))
  have CA := cell3_new w2 (.bool false) (.string At) (.int .i64 Aq) 28
  have HAd := hide Ad
  clear Ad
  go_wp2_with fail
  generalize w2.alloc (.cells #[.bool false, .string At, .int .i64 Aq] 28) = w3 at *
  refine (ldigits_s (T.below K2) (U.below K2) (hi) (hi) false (by omega) (by omega) (by omega) (decide_eq_false (by omega)).symm).mono ?_
  rintro r w4 ⟨Ba, Bt, Bq, Bk, rfl, Bd, Bb⟩
  obtain ⟨rfl, rfl, Bl⟩ := Bd.fin (by decide) (by decide) (by omega) (by omega)
  have K4 := below_trans (below_trans K2 Bb) (bel_new w4 (.cells #[.bool false, .string Bt, .int .i64 Bq] 28))
  replace CA := (CA.below Bb).below (bel_new w4 (.cells #[.bool false, .string Bt, .int .i64 Bq] 28))
  have CB := cell3_new w4 (.bool false) (.string Bt) (.int .i64 Bq) 28
  have HBd := hide Bd
  clear Bd Ab Bb b1 K2
  go_upto_region 9 with fail
  generalize w4.alloc (.cells #[.bool false, .string Bt, .int .i64 Bq] 28) = w5 at *
  have c0 := CA.c0
  have c1 := CA.c1
  have c2 := CA.c2
  have d0 := CB.c0
  have d1 := CB.c1
  have d2 := CB.c2
  by_cases lt : lo < hi
  · obtain ⟨v1, v2⟩ := rise_val (I := 2139095040) (by decide) l0 lt (by omega) Al Bl
    have lt' : decide (lo < hi) = true := decide_eq_true lt
    go_wp2_with fail
    refine (below6 false false At Bt Aq Bq true v1).mono ?_
    rintro r w6 ⟨rfl, b6⟩
    have K6 := below_trans K4 b6
    replace CA := CA.below b6
    replace CB := CB.below b6
    clear c0 c1 c2 d0 d1 d2 b6
    have c0 := CA.c0
    have c1 := CA.c1
    have c2 := CA.c2
    have d0 := CB.c0
    have d1 := CB.c1
    have d2 := CB.c2
    go_wp2_with fail
    refine (below6 false false Bt At Bq Aq false v2).mono ?_
    rintro r wx ⟨rfl, bx⟩
    have Kx := below_trans K6 bx
    replace CA := CA.below bx
    clear c0 c1 c2 d0 d1 d2 bx K6 K4 CB v1 v2
    have ws : IntKind.u64.wrap (lo + 1) = lo + 1 := by rw [IntKind.wrap_u64]; omega
    go_wp2_with fail
    refine (rInf_s wx).mono ?_
    rintro r w7 ⟨rfl, b7⟩
    have K7 := below_trans Kx b7
    by_cases c3 : lo + 1 < 2139095040
    · have c3' : decide (lo + 1 < 2139095040) = true := decide_eq_true c3
      go_wp2_with fail
      refine (ldigits_s (T.below K7) (U.below K7) (lo + 1) (lo + 1) false (by omega) (by omega) (by omega) (decide_eq_false (by omega)).symm).mono ?_
      rintro r w8 ⟨Ca, Ct, Cq, Ck, rfl, Cd, Cb⟩
      obtain ⟨rfl, rfl, Cl⟩ := Cd.fin (by decide) (by decide) (by omega) (by omega)
      obtain ⟨v1, v2⟩ := rise_val (I := 2139095040) (by decide) l0 (by omega) c3 Al Cl
      have C7 := ((CA.below b7).below Cb).below (bel_new w8 (.cells #[.bool false, .string Ct, .int .i64 Cq] 28))
      have D7 := cell3_new w8 (.bool false) (.string Ct) (.int .i64 Cq) 28
      have K8 := below_trans (below_trans K7 Cb) (bel_new w8 (.cells #[.bool false, .string Ct, .int .i64 Cq] 28))
      have HA := hide Al
      clear Al Cl Cd Bl
      go_upto_region 13 with fail
      generalize w8.alloc (.cells #[.bool false, .string Ct, .int .i64 Cq] 28) = w9 at *
      have c0 := C7.c0
      have c1 := C7.c1
      have c2 := C7.c2
      have d0 := D7.c0
      have d1 := D7.c1
      have d2 := D7.c2
      go_wp2_with fail
      refine (below6 false false At Ct Aq Cq true v1).mono ?_
      rintro r wa ⟨rfl, ba⟩
      have Ka := below_trans K8 ba
      go_wp2_with fail
      refine (lives6 (T.below Ka) (U.below Ka)).mono ?_
      rintro r wb ⟨rfl, bb⟩
      go_wp2
      go_ret
      exact ⟨rfl, below_trans Ka bb⟩
    · have c3' : decide (lo + 1 < 2139095040) = false := decide_eq_false c3
      go_wp2_with fail
      refine (lives6 (T.below K7) (U.below K7)).mono ?_
      rintro r wb ⟨rfl, bb⟩
      go_wp2
      go_ret
      exact ⟨rfl, below_trans K7 bb⟩
  · have e : lo = hi := by omega
    subst e
    obtain ⟨_, ⟨k, _⟩ | ⟨_, _, t0, q0, e1, e2⟩⟩ := Dg.unique (by decide) (by omega) HAd.out HBd.out
    · cases k
    injection e1 with e1
    injection e2 with e2
    simp at e1 e2
    have eT : At = Bt := by rw [e1.1, e2.1]
    have eQ : Aq = Bq := by rw [e1.2, e2.2]
    clear e1 e2
    subst eT eQ
    have lt' : decide (lo < lo) = false := decide_eq_false (by omega)
    go_wp2_with fail
    refine (below6 false false At At Aq Aq false (by rw [if_pos rfl]; exact less_self _)).mono ?_
    rintro r w6 ⟨rfl, b6⟩
    have K6 := below_trans K4 b6
    replace CA := CA.below b6
    replace CB := CB.below b6
    clear c0 c1 c2 d0 d1 d2 b6
    have c0 := CA.c0
    have c1 := CA.c1
    have c2 := CA.c2
    have d0 := CB.c0
    have d1 := CB.c1
    have d2 := CB.c2
    go_wp2_with fail
    refine (below6 false false At At Aq Aq false (by rw [if_pos rfl]; exact less_self _)).mono ?_
    rintro r wx ⟨rfl, bx⟩
    have Kx := below_trans K6 bx
    replace CA := CA.below bx
    clear c0 c1 c2 d0 d1 d2 bx K6 K4 CB
    have ws : IntKind.u64.wrap (lo + 1) = lo + 1 := by rw [IntKind.wrap_u64]; omega
    go_wp2_with fail
    refine (rInf_s wx).mono ?_
    rintro r w7 ⟨rfl, b7⟩
    have K7 := below_trans Kx b7
    by_cases c3 : lo + 1 < 2139095040
    · have c3' : decide (lo + 1 < 2139095040) = true := decide_eq_true c3
      go_wp2_with fail
      refine (ldigits_s (T.below K7) (U.below K7) (lo + 1) (lo + 1) false (by omega) (by omega) (by omega) (decide_eq_false (by omega)).symm).mono ?_
      rintro r w8 ⟨Ca, Ct, Cq, Ck, rfl, Cd, Cb⟩
      obtain ⟨rfl, rfl, Cl⟩ := Cd.fin (by decide) (by decide) (by omega) (by omega)
      obtain ⟨v1, v2⟩ := rise_val (I := 2139095040) (by decide) l0 (by omega) c3 Al Cl
      have C7 := ((CA.below b7).below Cb).below (bel_new w8 (.cells #[.bool false, .string Ct, .int .i64 Cq] 28))
      have D7 := cell3_new w8 (.bool false) (.string Ct) (.int .i64 Cq) 28
      have K8 := below_trans (below_trans K7 Cb) (bel_new w8 (.cells #[.bool false, .string Ct, .int .i64 Cq] 28))
      have HA := hide Al
      clear Al Cl Cd Bl
      go_upto_region 13 with fail
      generalize w8.alloc (.cells #[.bool false, .string Ct, .int .i64 Cq] 28) = w9 at *
      have c0 := C7.c0
      have c1 := C7.c1
      have c2 := C7.c2
      have d0 := D7.c0
      have d1 := D7.c1
      have d2 := D7.c2
      go_wp2_with fail
      refine (below6 false false At Ct Aq Cq true v1).mono ?_
      rintro r wa ⟨rfl, ba⟩
      have Ka := below_trans K8 ba
      go_wp2_with fail
      refine (lives6 (T.below Ka) (U.below Ka)).mono ?_
      rintro r wb ⟨rfl, bb⟩
      go_wp2
      go_ret
      exact ⟨rfl, below_trans Ka bb⟩
    · have c3' : decide (lo + 1 < 2139095040) = false := decide_eq_false c3
      go_wp2_with fail
      refine (lives6 (T.below K7) (U.below K7)).mono ?_
      rintro r wb ⟨rfl, bb⟩
      go_wp2
      go_ret
      exact ⟨rfl, below_trans K7 bb⟩

set_option maxRecDepth 100000 in
set_option maxHeartbeats 8000000 in
theorem rises_d {w : World} (T : Lays w) (U : Brn w) (x y n : Int) (x0 : 0 ≤ x) (x1 : x < 18446744073709551616) (y0 : 0 ≤ y) (y1 : y < 18446744073709551616) (n0 : 0 ≤ n) (n1 : n < 256) (hr : n % 3 = 2) :
    Calls Tryd.prog 3 #[.int .u64 x, .int .u64 y, .int .u8 n] w fun e w' => e = .returned (.bool true) ∧ Below w.heap.size w w' := by
  go_enter Tryd.func3, Tryd.ntmps3
  go_wp2_with fail
  refine (lwidth_d w n n0 n1 hr).mono ?_
  rintro r w' ⟨rfl, rfl⟩
  go_wp2_with fail
  refine (lcut_d w' x x0 x1).mono ?_
  rintro r w ⟨rfl, rfl⟩
  obtain ⟨s, hs⟩ : ∃ a, x % 18446744073709551616 % 9223372036854775808 = a := ⟨_, rfl⟩
  obtain ⟨u, hu⟩ : ∃ a, y % 18446744073709551616 % 9223372036854775808 = a := ⟨_, rfl⟩
  go_wp2_with fail
  refine (rSize_d w (x % 18446744073709551616) s (by omega) (by omega) hs).mono ?_
  rintro r w' ⟨rfl, rfl⟩
  go_wp2_with fail
  refine (lcut_d w' y y0 y1).mono ?_
  rintro r w ⟨rfl, rfl⟩
  go_wp2_with fail
  refine (rSize_d w (y % 18446744073709551616) u (by omega) (by omega) hu).mono ?_
  rintro r w' ⟨rfl, rfl⟩
  have s0 : 0 ≤ s ∧ s < 9223372036854775808 := by omega
  have u0 : 0 ≤ u ∧ u < 9223372036854775808 := by omega
  clear hs hu hr
  go_upto_if 28 with fail
  go_cut [0, 1] from 28 (fun s0 s1 wc => ∃ lo hi : Int, s0 = .int .u64 lo ∧ s1 = .int .u64 hi ∧ 0 ≤ lo ∧ lo ≤ hi ∧ hi < 9223372036854775808 ∧ wc = w')
  case first =>
    by_cases g : u < s
    · have g' : decide (s > u) = true := decide_eq_true g
      go_wp2
      go_meet
      exact ⟨u, s, rfl, rfl, by omega, by omega, by omega, rfl⟩
    · have g' : decide (s > u) = false := decide_eq_false (by omega)
      go_wp2
      go_meet
      exact ⟨s, u, rfl, rfl, by omega, by omega, by omega, rfl⟩
  case rest =>
  obtain ⟨lo, hi, rfl, rfl, l0, lh, h1, rfl⟩ := hcut
  clear s0 u0
  rename World => w
  by_cases z : lo = 0
  · have z' : (lo == 0) = true := by simp [z]
    go_wp2_with fail
    refine (lives6 T U).mono ?_
    rintro r wb ⟨rfl, bb⟩
    go_wp2
    go_ret
    exact ⟨rfl, bb⟩
  have l0 : 0 < lo := by omega
  have z' : (lo == 0) = false := by simp [z]
  go_wp2_with fail
  refine (rInf_d w).mono ?_
  rintro r w1 ⟨rfl, b1⟩
  by_cases c : 9218868437227405312 ≤ hi
  · have c' : decide (hi ≥ 9218868437227405312) = true := decide_eq_true c
    go_wp2_with fail
    refine (lives6 (T.below b1) (U.below b1)).mono ?_
    rintro r wb ⟨rfl, bb⟩
    go_wp2
    go_ret
    exact ⟨rfl, below_trans b1 bb⟩
  have c' : decide (hi ≥ 9218868437227405312) = false := decide_eq_false (by omega)
  go_wp2_with fail
  refine (ldigits_d (T.below b1) (U.below b1) (lo) (lo) false (by omega) (by omega) (by omega) (decide_eq_false (by omega)).symm).mono ?_
  rintro r w2 ⟨Aa, At, Aq, Ak, rfl, Ad, Ab⟩
  obtain ⟨rfl, rfl, Al⟩ := Ad.fin (by decide) (by decide) (by omega) (by omega)
  have K2 := below_trans (below_trans b1 Ab) (bel_new w2 (.cells #[.bool false, .string At, .int .i64 Aq] 28))
  have CA := cell3_new w2 (.bool false) (.string At) (.int .i64 Aq) 28
  have HAd := hide Ad
  clear Ad
  go_wp2_with fail
  generalize w2.alloc (.cells #[.bool false, .string At, .int .i64 Aq] 28) = w3 at *
  refine (ldigits_d (T.below K2) (U.below K2) (hi) (hi) false (by omega) (by omega) (by omega) (decide_eq_false (by omega)).symm).mono ?_
  rintro r w4 ⟨Ba, Bt, Bq, Bk, rfl, Bd, Bb⟩
  obtain ⟨rfl, rfl, Bl⟩ := Bd.fin (by decide) (by decide) (by omega) (by omega)
  have K4 := below_trans (below_trans K2 Bb) (bel_new w4 (.cells #[.bool false, .string Bt, .int .i64 Bq] 28))
  replace CA := (CA.below Bb).below (bel_new w4 (.cells #[.bool false, .string Bt, .int .i64 Bq] 28))
  have CB := cell3_new w4 (.bool false) (.string Bt) (.int .i64 Bq) 28
  have HBd := hide Bd
  clear Bd Ab Bb b1 K2
  go_upto_region 9 with fail
  generalize w4.alloc (.cells #[.bool false, .string Bt, .int .i64 Bq] 28) = w5 at *
  have c0 := CA.c0
  have c1 := CA.c1
  have c2 := CA.c2
  have d0 := CB.c0
  have d1 := CB.c1
  have d2 := CB.c2
  by_cases lt : lo < hi
  · obtain ⟨v1, v2⟩ := rise_val (I := 9218868437227405312) (by decide) l0 lt (by omega) Al Bl
    have lt' : decide (lo < hi) = true := decide_eq_true lt
    go_wp2_with fail
    refine (below6 false false At Bt Aq Bq true v1).mono ?_
    rintro r w6 ⟨rfl, b6⟩
    have K6 := below_trans K4 b6
    replace CA := CA.below b6
    replace CB := CB.below b6
    clear c0 c1 c2 d0 d1 d2 b6
    have c0 := CA.c0
    have c1 := CA.c1
    have c2 := CA.c2
    have d0 := CB.c0
    have d1 := CB.c1
    have d2 := CB.c2
    go_wp2_with fail
    refine (below6 false false Bt At Bq Aq false v2).mono ?_
    rintro r wx ⟨rfl, bx⟩
    have Kx := below_trans K6 bx
    replace CA := CA.below bx
    clear c0 c1 c2 d0 d1 d2 bx K6 K4 CB v1 v2
    have ws : IntKind.u64.wrap (lo + 1) = lo + 1 := by rw [IntKind.wrap_u64]; omega
    go_wp2_with fail
    refine (rInf_d wx).mono ?_
    rintro r w7 ⟨rfl, b7⟩
    have K7 := below_trans Kx b7
    by_cases c3 : lo + 1 < 9218868437227405312
    · have c3' : decide (lo + 1 < 9218868437227405312) = true := decide_eq_true c3
      go_wp2_with fail
      refine (ldigits_d (T.below K7) (U.below K7) (lo + 1) (lo + 1) false (by omega) (by omega) (by omega) (decide_eq_false (by omega)).symm).mono ?_
      rintro r w8 ⟨Ca, Ct, Cq, Ck, rfl, Cd, Cb⟩
      obtain ⟨rfl, rfl, Cl⟩ := Cd.fin (by decide) (by decide) (by omega) (by omega)
      obtain ⟨v1, v2⟩ := rise_val (I := 9218868437227405312) (by decide) l0 (by omega) c3 Al Cl
      have C7 := ((CA.below b7).below Cb).below (bel_new w8 (.cells #[.bool false, .string Ct, .int .i64 Cq] 28))
      have D7 := cell3_new w8 (.bool false) (.string Ct) (.int .i64 Cq) 28
      have K8 := below_trans (below_trans K7 Cb) (bel_new w8 (.cells #[.bool false, .string Ct, .int .i64 Cq] 28))
      have HA := hide Al
      clear Al Cl Cd Bl
      go_upto_region 13 with fail
      generalize w8.alloc (.cells #[.bool false, .string Ct, .int .i64 Cq] 28) = w9 at *
      have c0 := C7.c0
      have c1 := C7.c1
      have c2 := C7.c2
      have d0 := D7.c0
      have d1 := D7.c1
      have d2 := D7.c2
      go_wp2_with fail
      refine (below6 false false At Ct Aq Cq true v1).mono ?_
      rintro r wa ⟨rfl, ba⟩
      have Ka := below_trans K8 ba
      go_wp2_with fail
      refine (lives6 (T.below Ka) (U.below Ka)).mono ?_
      rintro r wb ⟨rfl, bb⟩
      go_wp2
      go_ret
      exact ⟨rfl, below_trans Ka bb⟩
    · have c3' : decide (lo + 1 < 9218868437227405312) = false := decide_eq_false c3
      go_wp2_with fail
      refine (lives6 (T.below K7) (U.below K7)).mono ?_
      rintro r wb ⟨rfl, bb⟩
      go_wp2
      go_ret
      exact ⟨rfl, below_trans K7 bb⟩
  · have e : lo = hi := by omega
    subst e
    obtain ⟨_, ⟨k, _⟩ | ⟨_, _, t0, q0, e1, e2⟩⟩ := Dg.unique (by decide) (by omega) HAd.out HBd.out
    · cases k
    injection e1 with e1
    injection e2 with e2
    simp at e1 e2
    have eT : At = Bt := by rw [e1.1, e2.1]
    have eQ : Aq = Bq := by rw [e1.2, e2.2]
    clear e1 e2
    subst eT eQ
    have lt' : decide (lo < lo) = false := decide_eq_false (by omega)
    go_wp2_with fail
    refine (below6 false false At At Aq Aq false (by rw [if_pos rfl]; exact less_self _)).mono ?_
    rintro r w6 ⟨rfl, b6⟩
    have K6 := below_trans K4 b6
    replace CA := CA.below b6
    replace CB := CB.below b6
    clear c0 c1 c2 d0 d1 d2 b6
    have c0 := CA.c0
    have c1 := CA.c1
    have c2 := CA.c2
    have d0 := CB.c0
    have d1 := CB.c1
    have d2 := CB.c2
    go_wp2_with fail
    refine (below6 false false At At Aq Aq false (by rw [if_pos rfl]; exact less_self _)).mono ?_
    rintro r wx ⟨rfl, bx⟩
    have Kx := below_trans K6 bx
    replace CA := CA.below bx
    clear c0 c1 c2 d0 d1 d2 bx K6 K4 CB
    have ws : IntKind.u64.wrap (lo + 1) = lo + 1 := by rw [IntKind.wrap_u64]; omega
    go_wp2_with fail
    refine (rInf_d wx).mono ?_
    rintro r w7 ⟨rfl, b7⟩
    have K7 := below_trans Kx b7
    by_cases c3 : lo + 1 < 9218868437227405312
    · have c3' : decide (lo + 1 < 9218868437227405312) = true := decide_eq_true c3
      go_wp2_with fail
      refine (ldigits_d (T.below K7) (U.below K7) (lo + 1) (lo + 1) false (by omega) (by omega) (by omega) (decide_eq_false (by omega)).symm).mono ?_
      rintro r w8 ⟨Ca, Ct, Cq, Ck, rfl, Cd, Cb⟩
      obtain ⟨rfl, rfl, Cl⟩ := Cd.fin (by decide) (by decide) (by omega) (by omega)
      obtain ⟨v1, v2⟩ := rise_val (I := 9218868437227405312) (by decide) l0 (by omega) c3 Al Cl
      have C7 := ((CA.below b7).below Cb).below (bel_new w8 (.cells #[.bool false, .string Ct, .int .i64 Cq] 28))
      have D7 := cell3_new w8 (.bool false) (.string Ct) (.int .i64 Cq) 28
      have K8 := below_trans (below_trans K7 Cb) (bel_new w8 (.cells #[.bool false, .string Ct, .int .i64 Cq] 28))
      have HA := hide Al
      clear Al Cl Cd Bl
      go_upto_region 13 with fail
      generalize w8.alloc (.cells #[.bool false, .string Ct, .int .i64 Cq] 28) = w9 at *
      have c0 := C7.c0
      have c1 := C7.c1
      have c2 := C7.c2
      have d0 := D7.c0
      have d1 := D7.c1
      have d2 := D7.c2
      go_wp2_with fail
      refine (below6 false false At Ct Aq Cq true v1).mono ?_
      rintro r wa ⟨rfl, ba⟩
      have Ka := below_trans K8 ba
      go_wp2_with fail
      refine (lives6 (T.below Ka) (U.below Ka)).mono ?_
      rintro r wb ⟨rfl, bb⟩
      go_wp2
      go_ret
      exact ⟨rfl, below_trans Ka bb⟩
    · have c3' : decide (lo + 1 < 9218868437227405312) = false := decide_eq_false c3
      go_wp2_with fail
      refine (lives6 (T.below K7) (U.below K7)).mono ?_
      rintro r wb ⟨rfl, bb⟩
      go_wp2
      go_ret
      exact ⟨rfl, below_trans K7 bb⟩

theorem rises_walk {w : World} (h : Lays w ∧ Brn w) (x : Int) (x0 : 0 ≤ x) (x1 : x < 18446744073709551616) (y : Int) (y0 : 0 ≤ y) (y1 : y < 18446744073709551616) (n : Int) (n0 : 0 ≤ n) (n1 : n < 256) :
    Calls Tryd.prog 3 #[.int .u64 x, .int .u64 y, .int .u8 n] w fun e w' => e = .returned (.bool true) ∧ Below w.heap.size w w' := by
  have : n % 3 = 0 ∨ n % 3 = 1 ∨ n % 3 = 2 := by omega
  rcases this with r | r | r
  · exact rises_h h.1 h.2 x y n x0 x1 y0 y1 n0 n1 r
  · exact rises_s h.1 h.2 x y n x0 x1 y0 y1 n0 n1 r
  · exact rises_d h.1 h.2 x y n x0 x1 y0 y1 n0 n1 r

end Go.Proofs.YtlhjbmdkfdabmabDoor
