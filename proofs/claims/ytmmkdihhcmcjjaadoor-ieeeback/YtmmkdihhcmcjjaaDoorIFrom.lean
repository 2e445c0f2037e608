/- ieee.From, an instance each (mk_iwhole.py) -/
import Derived.Test.YtmmkdihhcmcjjaaDoorIeeeO
import Derived.Test.YtmmkdihhcmcjjaaDoorIInt
import Derived.Test.YtmmkdihhcmcjjaaDoorIGap
import Derived.Test.YtmmkdihhcmcjjaaDoorWCmp
namespace Go.Proofs.YtmmkdihhcmcjjaaDoor
open Go.RowKit
set_option linter.unusedVariables false

def mag (n : Int) : Int := if n < 0 then -n else n
def FromP (S F L I n y : Int) (ok : Bool) : Prop := ∃ r n2 k, Near F L I (2 * mag n + b2i false) (0 - 1) r ∧ y = r + b2i (decide (n < 0)) * S ∧ IntIs F L I r (decide (n < 0)) n2 k ∧ ok = (k && decide (n2 = n))
def FromR (S F L I n y : Int) (ok : Bool) : Prop := ∃ r n2 k, 0 ≤ r ∧ (∀ r', Near F L I (2 * mag n + b2i false) (0 - 1) r' → r' = r) ∧ y = r + b2i (decide (n < 0)) * S ∧ IntIs F L I r (decide (n < 0)) n2 k ∧ ok = (k && decide (n2 = n))
theorem from_same {S F L I n y y' : Int} {ok ok' : Bool} (h : FromP S F L I n y ok) (h' : FromR S F L I n y' ok') : y = y' ∧ ok = ok' := by
  obtain ⟨r, n2, k, h1, rfl, h3, rfl⟩ := h
  obtain ⟨r', n2', k', r0, g1, rfl, g3, rfl⟩ := h'
  obtain rfl := g1 _ h1
  obtain ⟨rfl, rfl⟩ := h3.unique r0 g3
  exact ⟨rfl, rfl⟩
theorem sgn_split {S r : Int} (ng : Bool) (r0 : 0 ≤ r) (r1 : r < S) : (r + b2i ng * S) % S = r ∧ ng = decide (S ≤ r + b2i ng * S) ∧ 0 ≤ r + b2i ng * S ∧ r + b2i ng * S < 2 * S := by
  cases ng
  · rw [show b2i false = 0 from rfl, Int.zero_mul, Int.add_zero]
    exact ⟨Int.emod_eq_of_lt r0 r1, by rw [decide_eq_false]; omega, r0, by omega⟩
  · rw [show b2i true = 1 from rfl, Int.one_mul]
    exact ⟨by rw [Int.add_emod_right, Int.emod_eq_of_lt r0 r1], by rw [decide_eq_true]; omega, by omega, by omega⟩
theorem wnum_sign {B : Nat} {w : World} {ng : Bool} {m : Value} {n : Int} {k : Nat} (h : WNum B w (.agg #[.bool ng, m]) n k) : ng = decide (n < 0) ∧ Num B w m (mag n) k := by
  obtain ⟨g, m', a, e, h1, h2, h3⟩ := h
  simp at e
  obtain ⟨rfl, rfl⟩ := e
  have h0 := h1.arg.nonneg
  cases ng
  · rw [h2]
    simp only [wn, Bool.false_eq_true, if_false]
    refine ⟨by rw [decide_eq_false]; omega, ?_⟩
    unfold mag
    rw [if_neg (by omega)]
    exact h1
  · have := h3 rfl
    rw [h2]
    simp only [wn, if_true]
    refine ⟨by rw [decide_eq_true]; omega, ?_⟩
    unfold mag
    rw [if_pos (by omega), Int.neg_neg]
    exact h1
theorem sgn_zero {x y : Int} : (sgn x y == 0) = decide (x = y) := by
  unfold sgn
  by_cases h : x < y
  · rw [if_pos h, decide_eq_false (by omega)]; rfl
  · rw [if_neg h]
    by_cases g : y < x
    · rw [if_pos g, decide_eq_false (by omega)]; rfl
    · rw [if_neg g, decide_eq_true (by omega)]; rfl
theorem Cell2.told {w : World} {b : Nat} {x y : Value} (h : Cell2 w b x y) : w.cell? ⟨b, 0, none⟩ = some x ∧ w.cell? ⟨b, 1, none⟩ = some y ∧ w.frozen? ⟨b, 0, none⟩ = false ∧ w.frozen? ⟨b, 1, none⟩ = false := ⟨h.c0, h.c1, h.f0, h.f1⟩

set_option maxRecDepth 20000 in
set_option maxHeartbeats 8000000 in
theorem fromi_16 {w : World} (L : Lays w) (T : Brn w) {vx : Value} {n : Int} {k : Nat} (hx : WArg w vx n k) (hk : k ≤ 1048577) : Calls Tryd.prog 55 #[vx] w fun e w' => ∃ y ok, e = .returned (.tuple #[.int .u16 y, .bool ok]) ∧ 0 ≤ y ∧ y < 65536 ∧ FromP 32768 1024 (-24) 31744 n y ok ∧ Below w.heap.size w w' := by
  have hx' := hx
  obtain ⟨xg, xm, xa, rfl, ⟨zs, ⟨xo, xc, rfl, -⟩, -⟩, -⟩ := hx'
  go_enter Tryd.func55, Tryd.ntmps55
  go_upto_region 1 with fail
  have D := cell2_new w (.bool xg) (.slice xo zs.length xc) 38
  have K := bel_new w (.cells #[.bool xg, .slice xo zs.length xc] 38)
  have hx1 := hx.below K
  have lb : w.heap.size < (w.alloc (.cells #[.bool xg, .slice xo zs.length xc] 38)).heap.size := by simp
  generalize w.alloc (.cells #[.bool xg, .slice xo zs.length xc] 38) = w1 at *
  obtain ⟨c0, c1, -, -⟩ := D.told
  go_wp2_with fail
  with_reducible refine (wnorm_any hx1 (by omega)).mono ?_
  rintro x' w2 ⟨vn, rfl, hR, kb⟩
  clear c0 c1 hx hx1
  obtain ⟨rg, ro, rl, rfl⟩ := hR.told
  have d0 := (D.below kb).c0; have d1 := (D.below kb).c1; have g0 := (D.below kb).f0; have g1 := (D.below kb).f1
  go_upto_region 2 with fail
  have PD := (D.below kb).put (.bool rg) (.slice ro rl rl)
  have KB := below_put2 (b := w.heap.size) (below_trans K kb) (Nat.le_refl _) (.bool rg) (.slice ro rl rl)
  have WN := (hR.put lb 0 (.bool rg)).put lb 1 (.slice ro rl rl)
  clear d0 d1 g0 g1 hR D K kb
  generalize (w2.setCell ⟨w.heap.size, 0, none⟩ (.bool rg)).setCell ⟨w.heap.size, 1, none⟩ (.slice ro rl rl) = w3 at *
  obtain ⟨hsg, hmag⟩ := wnum_sign WN
  have Hsg := hide hsg
  clear hsg
  obtain ⟨c0, c1, -, -⟩ := PD.told
  go_wp2_with fail
  with_reducible refine (round_16 (L.below KB) (neg := rg) (more := false) (e := 0) hmag.arg (by omega) (by decide) (by decide)).mono ?_
  rintro x' w4 ⟨r, rfl, hN, kb⟩
  clear c0 c1 hmag
  replace PD := PD.below kb
  replace WN := WN.below kb
  replace KB := below_trans KB kb
  clear kb
  have r0 := hN.1
  have r1 := hN.2.1
  obtain ⟨y1, y2, y3, y4⟩ := sgn_split (S := 32768) rg r0 (by omega)
  have HN := hide hN
  clear hN
  generalize hy : r + b2i rg * 32768 = y at *
  have HY := hide hy
  clear hy
  go_wp2_with fail
  with_reducible refine (int_16 (L.below KB) (T.below KB) y r rg y3 (by omega) y1 y2).mono ?_
  rintro x' w5 ⟨vb, n2, ok, rfl, hQ, hI, kb⟩
  replace PD := PD.below kb
  replace WN := WN.below kb
  replace KB := below_trans KB kb
  clear kb
  have HF : ∀ b, b = (ok && decide (n2 = n)) → Hid (FromP 32768 1024 (-24) 31744 n y b) := by
    intro b hb
    refine hide ⟨r, n2, ok, HN.out, ?_, ?_, hb⟩
    · rw [← Hsg.out]; exact HY.out.symm
    · rw [← Hsg.out]; exact hI
  clear hI y1 y2 HN HY Hsg
  obtain ⟨qg, qo, ql, rfl⟩ := hQ.told
  go_upto_region 4 with fail
  have D2 := cell2_new w5 (.bool qg) (.slice qo ql ql) 38
  have k2 := bel_new w5 (.cells #[.bool qg, .slice qo ql ql] 38)
  replace KB := below_trans KB k2
  replace PD := PD.below k2
  replace WN := WN.below k2
  replace hQ := hQ.below k2
  clear k2
  generalize w5.heap.size = b2 at *
  generalize w5.alloc (.cells #[.bool qg, .slice qo ql ql] 38) = w6 at *
  obtain ⟨c0, c1, -, -⟩ := PD.told
  obtain ⟨d0, d1, -, -⟩ := D2.told
  cases ok
  · have H1 := HF false (by simp)
    clear HF
    go_wp2
    go_ret2
    exact ⟨y, _, rfl, y3, by omega, H1.out, KB⟩
  go_wp2_with fail
  with_reducible refine (wcmp_any hQ.arg WN.arg (by omega) (by omega)).mono ?_
  rintro x' w7 ⟨rfl, kb⟩
  replace KB := below_trans KB kb
  have hz := sgn_zero (x := n2) (y := n)
  generalize sgn n2 n = c at *
  clear c0 c1 d0 d1 kb hQ WN PD D2
  by_cases en : n2 = n
  · have hc : (c == 0) = true := by rw [hz, decide_eq_true en]
    have H1 := HF true (by rw [decide_eq_true en]; rfl)
    clear HF hz en
    go_wp2
    go_ret2
    exact ⟨y, _, rfl, y3, by omega, H1.out, KB⟩
  · have hc : (c == 0) = false := by rw [hz, decide_eq_false en]
    have H1 := HF false (by rw [decide_eq_false en]; rfl)
    clear HF hz en
    go_wp2
    go_ret2
    exact ⟨y, _, rfl, y3, by omega, H1.out, KB⟩

set_option maxRecDepth 20000 in
set_option maxHeartbeats 8000000 in
theorem fromi_32 {w : World} (L : Lays w) (T : Brn w) {vx : Value} {n : Int} {k : Nat} (hx : WArg w vx n k) (hk : k ≤ 1048577) : Calls Tryd.prog 58 #[vx] w fun e w' => ∃ y ok, e = .returned (.tuple #[.int .u32 y, .bool ok]) ∧ 0 ≤ y ∧ y < 4294967296 ∧ FromP 2147483648 8388608 (-149) 2139095040 n y ok ∧ Below w.heap.size w w' := by
  have hx' := hx
  obtain ⟨xg, xm, xa, rfl, ⟨zs, ⟨xo, xc, rfl, -⟩, -⟩, -⟩ := hx'
  go_enter Tryd.func58, Tryd.ntmps58
  go_upto_region 1 with fail
  have D := cell2_new w (.bool xg) (.slice xo zs.length xc) 38
  have K := bel_new w (.cells #[.bool xg, .slice xo zs.length xc] 38)
  have hx1 := hx.below K
  have lb : w.heap.size < (w.alloc (.cells #[.bool xg, .slice xo zs.length xc] 38)).heap.size := by simp
  generalize w.alloc (.cells #[.bool xg, .slice xo zs.length xc] 38) = w1 at *
  obtain ⟨c0, c1, -, -⟩ := D.told
  go_wp2_with fail
  with_reducible refine (wnorm_any hx1 (by omega)).mono ?_
  rintro x' w2 ⟨vn, rfl, hR, kb⟩
  clear c0 c1 hx hx1
  obtain ⟨rg, ro, rl, rfl⟩ := hR.told
  have d0 := (D.below kb).c0; have d1 := (D.below kb).c1; have g0 := (D.below kb).f0; have g1 := (D.below kb).f1
  go_upto_region 2 with fail
  have PD := (D.below kb).put (.bool rg) (.slice ro rl rl)
  have KB := below_put2 (b := w.heap.size) (below_trans K kb) (Nat.le_refl _) (.bool rg) (.slice ro rl rl)
  have WN := (hR.put lb 0 (.bool rg)).put lb 1 (.slice ro rl rl)
  clear d0 d1 g0 g1 hR D K kb
  generalize (w2.setCell ⟨w.heap.size, 0, none⟩ (.bool rg)).setCell ⟨w.heap.size, 1, none⟩ (.slice ro rl rl) = w3 at *
  obtain ⟨hsg, hmag⟩ := wnum_sign WN
  have Hsg := hide hsg
  clear hsg
  obtain ⟨c0, c1, -, -⟩ := PD.told
  go_wp2_with fail
  with_reducible refine (round_32 (L.below KB) (neg := rg) (more := false) (e := 0) hmag.arg (by omega) (by decide) (by decide)).mono ?_
  rintro x' w4 ⟨r, rfl, hN, kb⟩
  clear c0 c1 hmag
  replace PD := PD.below kb
  replace WN := WN.below kb
  replace KB := below_trans KB kb
  clear kb
  have r0 := hN.1
  have r1 := hN.2.1
  obtain ⟨y1, y2, y3, y4⟩ := sgn_split (S := 2147483648) rg r0 (by omega)
  have HN := hide hN
  clear hN
  generalize hy : r + b2i rg * 2147483648 = y at *
  have HY := hide hy
  clear hy
  go_wp2_with fail
  with_reducible refine (int_32 (L.below KB) (T.below KB) y r rg y3 (by omega) y1 y2).mono ?_
  rintro x' w5 ⟨vb, n2, ok, rfl, hQ, hI, kb⟩
  replace PD := PD.below kb
  replace WN := WN.below kb
  replace KB := below_trans KB kb
  clear kb
  have HF : ∀ b, b = (ok && decide (n2 = n)) → Hid (FromP 2147483648 8388608 (-149) 2139095040 n y b) := by
    intro b hb
    refine hide ⟨r, n2, ok, HN.out, ?_, ?_, hb⟩
    · rw [← Hsg.out]; exact HY.out.symm
    · rw [← Hsg.out]; exact hI
  clear hI y1 y2 HN HY Hsg
  obtain ⟨qg, qo, ql, rfl⟩ := hQ.told
  go_upto_region 4 with fail
  have D2 := cell2_new w5 (.bool qg) (.slice qo ql ql) 38
  have k2 := bel_new w5 (.cells #[.bool qg, .slice qo ql ql] 38)
  replace KB := below_trans KB k2
  replace PD := PD.below k2
  replace WN := WN.below k2
  replace hQ := hQ.below k2
  clear k2
  generalize w5.heap.size = b2 at *
  generalize w5.alloc (.cells #[.bool qg, .slice qo ql ql] 38) = w6 at *
  obtain ⟨c0, c1, -, -⟩ := PD.told
  obtain ⟨d0, d1, -, -⟩ := D2.told
  cases ok
  · have H1 := HF false (by simp)
    clear HF
    go_wp2
    go_ret2
    exact ⟨y, _, rfl, y3, by omega, H1.out, KB⟩
  go_wp2_with fail
  with_reducible refine (wcmp_any hQ.arg WN.arg (by omega) (by omega)).mono ?_
  rintro x' w7 ⟨rfl, kb⟩
  replace KB := below_trans KB kb
  have hz := sgn_zero (x := n2) (y := n)
  generalize sgn n2 n = c at *
  clear c0 c1 d0 d1 kb hQ WN PD D2
  by_cases en : n2 = n
  · have hc : (c == 0) = true := by rw [hz, decide_eq_true en]
    have H1 := HF true (by rw [decide_eq_true en]; rfl)
    clear HF hz en
    go_wp2
    go_ret2
    exact ⟨y, _, rfl, y3, by omega, H1.out, KB⟩
  · have hc : (c == 0) = false := by rw [hz, decide_eq_false en]
    have H1 := HF false (by rw [decide_eq_false en]; rfl)
    clear HF hz en
    go_wp2
    go_ret2
    exact ⟨y, _, rfl, y3, by omega, H1.out, KB⟩

set_option maxRecDepth 20000 in
set_option maxHeartbeats 8000000 in
theorem fromi_64 {w : World} (L : Lays w) (T : Brn w) {vx : Value} {n : Int} {k : Nat} (hx : WArg w vx n k) (hk : k ≤ 1048577) : Calls Tryd.prog 56 #[vx] w fun e w' => ∃ y ok, e = .returned (.tuple #[.int .u64 y, .bool ok]) ∧ 0 ≤ y ∧ y < 18446744073709551616 ∧ FromP 9223372036854775808 4503599627370496 (-1074) 9218868437227405312 n y ok ∧ Below w.heap.size w w' := by
  have hx' := hx
  obtain ⟨xg, xm, xa, rfl, ⟨zs, ⟨xo, xc, rfl, -⟩, -⟩, -⟩ := hx'
  go_enter Tryd.func56, Tryd.ntmps56
  go_upto_region 1 with fail
  have D := cell2_new w (.bool xg) (.slice xo zs.length xc) 38
  have K := bel_new w (.cells #[.bool xg, .slice xo zs.length xc] 38)
  have hx1 := hx.below K
  have lb : w.heap.size < (w.alloc (.cells #[.bool xg, .slice xo zs.length xc] 38)).heap.size := by simp
  generalize w.alloc (.cells #[.bool xg, .slice xo zs.length xc] 38) = w1 at *
  obtain ⟨c0, c1, -, -⟩ := D.told
  go_wp2_with fail
  with_reducible refine (wnorm_any hx1 (by omega)).mono ?_
  rintro x' w2 ⟨vn, rfl, hR, kb⟩
  clear c0 c1 hx hx1
  obtain ⟨rg, ro, rl, rfl⟩ := hR.told
  have d0 := (D.below kb).c0; have d1 := (D.below kb).c1; have g0 := (D.below kb).f0; have g1 := (D.below kb).f1
  go_upto_region 2 with fail
  have PD := (D.below kb).put (.bool rg) (.slice ro rl rl)
  have KB := below_put2 (b := w.heap.size) (below_trans K kb) (Nat.le_refl _) (.bool rg) (.slice ro rl rl)
  have WN := (hR.put lb 0 (.bool rg)).put lb 1 (.slice ro rl rl)
  clear d0 d1 g0 g1 hR D K kb
  generalize (w2.setCell ⟨w.heap.size, 0, none⟩ (.bool rg)).setCell ⟨w.heap.size, 1, none⟩ (.slice ro rl rl) = w3 at *
  obtain ⟨hsg, hmag⟩ := wnum_sign WN
  have Hsg := hide hsg
  clear hsg
  obtain ⟨c0, c1, -, -⟩ := PD.told
  go_wp2_with fail
  with_reducible refine (round_64 (L.below KB) (neg := rg) (more := false) (e := 0) hmag.arg (by omega) (by decide) (by decide)).mono ?_
  rintro x' w4 ⟨r, rfl, hN, kb⟩
  clear c0 c1 hmag
  replace PD := PD.below kb
  replace WN := WN.below kb
  replace KB := below_trans KB kb
  clear kb
  have r0 := hN.1
  have r1 := hN.2.1
  obtain ⟨y1, y2, y3, y4⟩ := sgn_split (S := 9223372036854775808) rg r0 (by omega)
  have HN := hide hN
  clear hN
  generalize hy : r + b2i rg * 9223372036854775808 = y at *
  have HY := hide hy
  clear hy
  go_wp2_with fail
  with_reducible refine (int_64 (L.below KB) (T.below KB) y r rg y3 (by omega) y1 y2).mono ?_
  rintro x' w5 ⟨vb, n2, ok, rfl, hQ, hI, kb⟩
  replace PD := PD.below kb
  replace WN := WN.below kb
  replace KB := below_trans KB kb
  clear kb
  have HF : ∀ b, b = (ok && decide (n2 = n)) → Hid (FromP 9223372036854775808 4503599627370496 (-1074) 9218868437227405312 n y b) := by
    intro b hb
    refine hide ⟨r, n2, ok, HN.out, ?_, ?_, hb⟩
    · rw [← Hsg.out]; exact HY.out.symm
    · rw [← Hsg.out]; exact hI
  clear hI y1 y2 HN HY Hsg
  obtain ⟨qg, qo, ql, rfl⟩ := hQ.told
  go_upto_region 4 with fail
  have D2 := cell2_new w5 (.bool qg) (.slice qo ql ql) 38
  have k2 := bel_new w5 (.cells #[.bool qg, .slice qo ql ql] 38)
  replace KB := below_trans KB k2
  replace PD := PD.below k2
  replace WN := WN.below k2
  replace hQ := hQ.below k2
  clear k2
  generalize w5.heap.size = b2 at *
  generalize w5.alloc (.cells #[.bool qg, .slice qo ql ql] 38) = w6 at *
  obtain ⟨c0, c1, -, -⟩ := PD.told
  obtain ⟨d0, d1, -, -⟩ := D2.told
  cases ok
  · have H1 := HF false (by simp)
    clear HF
    go_wp2
    go_ret2
    exact ⟨y, _, rfl, y3, by omega, H1.out, KB⟩
  go_wp2_with fail
  with_reducible refine (wcmp_any hQ.arg WN.arg (by omega) (by omega)).mono ?_
  rintro x' w7 ⟨rfl, kb⟩
  replace KB := below_trans KB kb
  have hz := sgn_zero (x := n2) (y := n)
  generalize sgn n2 n = c at *
  clear c0 c1 d0 d1 kb hQ WN PD D2
  by_cases en : n2 = n
  · have hc : (c == 0) = true := by rw [hz, decide_eq_true en]
    have H1 := HF true (by rw [decide_eq_true en]; rfl)
    clear HF hz en
    go_wp2
    go_ret2
    exact ⟨y, _, rfl, y3, by omega, H1.out, KB⟩
  · have hc : (c == 0) = false := by rw [hz, decide_eq_false en]
    have H1 := HF false (by rw [decide_eq_false en]; rfl)
    clear HF hz en
    go_wp2
    go_ret2
    exact ⟨y, _, rfl, y3, by omega, H1.out, KB⟩

set_option maxRecDepth 20000 in
set_option maxHeartbeats 8000000 in
theorem fromi_m {w : World} (L : Lays w) (T : Brn w) {vx : Value} {n : Int} {k : Nat} (hx : WArg w vx n k) (hk : k ≤ 1048577) : Calls Tryd.prog 57 #[vx] w fun e w' => ∃ y ok, e = .returned (.tuple #[.int .u32 y, .bool ok]) ∧ 0 ≤ y ∧ y < 4294967296 ∧ FromP 2147483648 8388608 (-149) 2139095040 n y ok ∧ Below w.heap.size w w' := by
  have hx' := hx
  obtain ⟨xg, xm, xa, rfl, ⟨zs, ⟨xo, xc, rfl, -⟩, -⟩, -⟩ := hx'
  go_enter Tryd.func57, Tryd.ntmps57
  go_upto_region 1 with fail
  have D := cell2_new w (.bool xg) (.slice xo zs.length xc) 38
  have K := bel_new w (.cells #[.bool xg, .slice xo zs.length xc] 38)
  have hx1 := hx.below K
  have lb : w.heap.size < (w.alloc (.cells #[.bool xg, .slice xo zs.length xc] 38)).heap.size := by simp
  generalize w.alloc (.cells #[.bool xg, .slice xo zs.length xc] 38) = w1 at *
  obtain ⟨c0, c1, -, -⟩ := D.told
  go_wp2_with fail
  with_reducible refine (wnorm_any hx1 (by omega)).mono ?_
  rintro x' w2 ⟨vn, rfl, hR, kb⟩
  clear c0 c1 hx hx1
  obtain ⟨rg, ro, rl, rfl⟩ := hR.told
  have d0 := (D.below kb).c0; have d1 := (D.below kb).c1; have g0 := (D.below kb).f0; have g1 := (D.below kb).f1
  go_upto_region 2 with fail
  have PD := (D.below kb).put (.bool rg) (.slice ro rl rl)
  have KB := below_put2 (b := w.heap.size) (below_trans K kb) (Nat.le_refl _) (.bool rg) (.slice ro rl rl)
  have WN := (hR.put lb 0 (.bool rg)).put lb 1 (.slice ro rl rl)
  clear d0 d1 g0 g1 hR D K kb
  generalize (w2.setCell ⟨w.heap.size, 0, none⟩ (.bool rg)).setCell ⟨w.heap.size, 1, none⟩ (.slice ro rl rl) = w3 at *
  obtain ⟨hsg, hmag⟩ := wnum_sign WN
  have Hsg := hide hsg
  clear hsg
  obtain ⟨c0, c1, -, -⟩ := PD.told
  go_wp2_with fail
  with_reducible refine (round_m (L.below KB) (neg := rg) (more := false) (e := 0) hmag.arg (by omega) (by decide) (by decide)).mono ?_
  rintro x' w4 ⟨r, rfl, hN, kb⟩
  clear c0 c1 hmag
  replace PD := PD.below kb
  replace WN := WN.below kb
  replace KB := below_trans KB kb
  clear kb
  have r0 := hN.1
  have r1 := hN.2.1
  obtain ⟨y1, y2, y3, y4⟩ := sgn_split (S := 2147483648) rg r0 (by omega)
  have HN := hide hN
  clear hN
  generalize hy : r + b2i rg * 2147483648 = y at *
  have HY := hide hy
  clear hy
  go_wp2_with fail
  with_reducible refine (int_m (L.below KB) (T.below KB) y r rg y3 (by omega) y1 y2).mono ?_
  rintro x' w5 ⟨vb, n2, ok, rfl, hQ, hI, kb⟩
  replace PD := PD.below kb
  replace WN := WN.below kb
  replace KB := below_trans KB kb
  clear kb
  have HF : ∀ b, b = (ok && decide (n2 = n)) → Hid (FromP 2147483648 8388608 (-149) 2139095040 n y b) := by
    intro b hb
    refine hide ⟨r, n2, ok, HN.out, ?_, ?_, hb⟩
    · rw [← Hsg.out]; exact HY.out.symm
    · rw [← Hsg.out]; exact hI
  clear hI y1 y2 HN HY Hsg
  obtain ⟨qg, qo, ql, rfl⟩ := hQ.told
  go_upto_region 4 with fail
  have D2 := cell2_new w5 (.bool qg) (.slice qo ql ql) 38
  have k2 := bel_new w5 (.cells #[.bool qg, .slice qo ql ql] 38)
  replace KB := below_trans KB k2
  replace PD := PD.below k2
  replace WN := WN.below k2
  replace hQ := hQ.below k2
  clear k2
  generalize w5.heap.size = b2 at *
  generalize w5.alloc (.cells #[.bool qg, .slice qo ql ql] 38) = w6 at *
  obtain ⟨c0, c1, -, -⟩ := PD.told
  obtain ⟨d0, d1, -, -⟩ := D2.told
  cases ok
  · have H1 := HF false (by simp)
    clear HF
    go_wp2
    go_ret2
    exact ⟨y, _, rfl, y3, by omega, H1.out, KB⟩
  go_wp2_with fail
  with_reducible refine (wcmp_any hQ.arg WN.arg (by omega) (by omega)).mono ?_
  rintro x' w7 ⟨rfl, kb⟩
  replace KB := below_trans KB kb
  have hz := sgn_zero (x := n2) (y := n)
  generalize sgn n2 n = c at *
  clear c0 c1 d0 d1 kb hQ WN PD D2
  by_cases en : n2 = n
  · have hc : (c == 0) = true := by rw [hz, decide_eq_true en]
    have H1 := HF true (by rw [decide_eq_true en]; rfl)
    clear HF hz en
    go_wp2
    go_ret2
    exact ⟨y, _, rfl, y3, by omega, H1.out, KB⟩
  · have hc : (c == 0) = false := by rw [hz, decide_eq_false en]
    have H1 := HF false (by rw [decide_eq_false en]; rfl)
    clear HF hz en
    go_wp2
    go_ret2
    exact ⟨y, _, rfl, y3, by omega, H1.out, KB⟩

end Go.Proofs.YtmmkdihhcmcjjaaDoor
