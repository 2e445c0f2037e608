/- IeeeParts' walk (mk_iint.py) -/
import Derived.Test.YtomjckginmjhmaaDoorIeeeL
import Derived.Test.YtomjckginmjhmaaDoorIRefP
namespace Go.Proofs.YtomjckginmjhmaaDoor
open Go.RowKit
set_option linter.unusedVariables false

set_option maxHeartbeats 2000000 in
theorem lparts_0 {w : World} (L : Lays w) (T : Brn w) (v : Int) (v0 : 0 ≤ v) (v1 : v < 256) (hv : v % 4 = 0) (x s : Int) (ng : Bool) (h0 : 0 ≤ x) (h1 : x < 65536) (hs : x % 32768 = s) (hng : ng = decide (32768 ≤ x)) : Calls Tryd.prog 8 #[.int .u8 v, .int .u64 x] w fun e w' => ∃ a m E ok, e = .returned (.tuple #[.bool a, .int .u64 m, .int .i64 E, .bool ok]) ∧ PartIs 1024 (-24) 31744 s ng a m E ok ∧ Below w.heap.size w w' := by
  go_enter Tryd.func8, Tryd.ntmps8
  go_wp2_with fail
  with_reducible refine (parts_16 L T x s ng h0 h1 hs hng).mono ?_
  rintro x' w1 ⟨a, m, E, ok, rfl, hP, K⟩
  have HP := hide hP
  clear hP
  go_wp2
  (try simp only [Exit.inBlock, Exit.then])
  exact bodyPost_ret (v := .tuple #[.bool a, .int .u64 m, .int .i64 E, .bool ok]) (by simp [results, Tryd.results8, go_sem]) rfl ⟨_, _, _, _, rfl, HP.out, K⟩
theorem lclass_0 {w : World} (L : Lays w) (v : Int) (v0 : 0 ≤ v) (v1 : v < 256) (hv : v % 4 = 0) (x s : Int) (h0 : 0 ≤ x) (h1 : x < 65536) (hs : x % 32768 = s) : Calls Tryd.prog 11 #[.int .u8 v, .int .u64 x] w fun e w' => e = .returned (.int .i8 (cls 32768 1024 s)) ∧ Below w.heap.size w w' := by
  go_enter Tryd.func11, Tryd.ntmps11
  go_wp2_with fail
  with_reducible refine (class_16 L x s h0 h1 hs).mono ?_
  rintro x' w1 ⟨rfl, K⟩
  generalize hA : cls 32768 1024 s = a at *
  go_wp2
  go_ret
  exact ⟨by first | rfl | (rw [hA]; rfl), K⟩
set_option maxHeartbeats 4000000 in
theorem lwhole_0 {w : World} (L : Lays w) (T : Brn w) (v : Int) (v0 : 0 ≤ v) (v1 : v < 256) (hv : v % 4 = 0) (x s : Int) (ng : Bool) (h0 : 0 ≤ x) (h1 : x < 65536) (hs : x % 32768 = s) (hng : ng = decide (32768 ≤ x)) : Calls Tryd.prog 13 #[.int .u8 v, .int .u64 x] w fun e w' => ∃ va n ok, e = .returned (.tuple #[va, .bool ok]) ∧ WNum w.heap.size w' va n 100 ∧ IntIs 1024 (-24) 31744 s ng n ok ∧ Below w.heap.size w w' := by
  go_enter Tryd.func13, Tryd.ntmps13
  go_upto_region 1 with fail
  have D := cell2_new w (.bool false) (.slice none 0 0) 35
  have K1 := bel_new w (.cells #[.bool false, .slice none 0 0] 35)
  generalize w.alloc (.cells #[.bool false, .slice none 0 0] 35) = w1 at *
  go_wp2_with fail
  with_reducible refine (int_16 (L.below K1) (T.below K1) x s ng h0 h1 hs hng).mono ?_
  rintro x' w5 ⟨vr, n, ok, rfl, hR, hI, K⟩
  have HI := hide hI
  have ltb : w.heap.size < w1.heap.size := D.lt
  obtain ⟨rg, ro, rl, rfl⟩ := hR.told
  clear hI hs hng
  have d0 := (D.below K).c0; have d1 := (D.below K).c1; have g0 := (D.below K).f0; have g1 := (D.below K).f1
  go_wp2
  have PD := (D.below K).put (.bool rg) (.slice ro rl rl)
  have KB := below_put2 (b := w.heap.size) (below_trans K1 K) (Nat.le_refl _) (.bool rg) (.slice ro rl rl)
  have WN := ((hR.put ltb 0 (.bool rg)).put ltb 1 (.slice ro rl rl)).low (B' := w.heap.size) (by omega)
  clear d0 d1 g0 g1 hR
  generalize (w5.setCell ⟨w.heap.size, 0, none⟩ (.bool rg)).setCell ⟨w.heap.size, 1, none⟩ (.slice ro rl rl) = w9 at *
  (try simp only [Exit.inBlock, Exit.then])
  exact bodyPost_ret (v := .tuple #[.agg #[.bool rg, .slice ro rl rl], .bool ok]) (by simp [results, Tryd.results13, go_sem, PD.c0, PD.c1]) rfl ⟨_, _, _, rfl, WN, HI.out, KB⟩

set_option maxRecDepth 20000 in
set_option maxHeartbeats 8000000 in
theorem iparts_0 {w : World} (L : Lays w) (T : Brn w) (v : Int) (v0 : 0 ≤ v) (v1 : v < 256) (hv : v % 4 = 0) (x : Int) (x0 : 0 ≤ x) (x1 : x < 18446744073709551616) : Calls Tryd.prog 3 #[.int .u8 v, .int .u64 x] w fun e w' => e = .returned (.bool true) ∧ Below w.heap.size w w' := by
  have K := Below.refl w.heap.size w
  go_enter Tryd.func3, Tryd.ntmps3
  go_wp2_with fail
  with_reducible refine (lfit_0 _ v v0 v1 hv x x0 x1).mono ?_
  rintro x' u49 ⟨rfl, rfl⟩
  obtain ⟨X, hX⟩ : ∃ X, x % 65536 = X := ⟨_, rfl⟩
  have X0 : 0 ≤ X := by omega
  have X1 : X < 65536 := by omega
  rw [hX]
  clear hX
  obtain ⟨s, hs⟩ : ∃ s, X % 32768 = s := ⟨_, rfl⟩
  have s0 : 0 ≤ s := by omega
  obtain ⟨ng, hng⟩ : ∃ b, b = decide (32768 ≤ X) := ⟨_, rfl⟩
  have Hs := hide hs
  have Hng := hide hng
  clear hs hng
  go_wp2_with fail
  with_reducible refine (lparts_0 (L.below K) (T.below K) v v0 v1 hv X s ng X0 X1 Hs.out Hng.out).mono ?_
  rintro x' u50 ⟨a, m, E, ok, rfl, hP, kb⟩
  replace K := below_trans K kb; clear kb
  go_wp2_with fail
  with_reducible refine (lwidth_0 _ v v0 v1 hv).mono ?_
  rintro x' u51 ⟨rfl, rfl⟩
  go_wp2_with fail
  with_reducible refine (rParts_h _ X s ng X0 X1 Hs.out Hng.out).mono ?_
  rintro x' u52 ⟨a', m', E', ok', rfl, hP', kb⟩
  replace K := below_trans K kb; clear kb
  obtain ⟨rfl, rfl, rfl, rfl⟩ := hP.unique s0 hP'
  clear hP hP'
  go_wp2_with fail
  with_reducible refine (lclass_0 (L.below K) v v0 v1 hv X s X0 X1 Hs.out).mono ?_
  rintro x' u53 ⟨rfl, kb⟩
  replace K := below_trans K kb; clear kb
  generalize hc : cls 32768 1024 s = c
  go_wp2_with fail
  with_reducible refine (lwidth_0 _ v v0 v1 hv).mono ?_
  rintro x' u54 ⟨rfl, rfl⟩
  go_wp2_with fail
  with_reducible refine (rClass_h _ X s X0 X1 Hs.out).mono ?_
  rintro x' u55 ⟨rfl, kb⟩
  replace K := below_trans K kb; clear kb
  rw [hc]
  clear hc
  go_wp2_with fail
  with_reducible refine (lwhole_0 (L.below K) (T.below K) v v0 v1 hv X s ng X0 X1 Hs.out Hng.out).mono ?_
  rintro x' u56 ⟨va, n, ok2, rfl, hR, hI, kb⟩
  replace K := below_trans K kb; clear kb
  obtain ⟨rg, ro, rl, rfl⟩ := hR.told
  have HI := hide hI
  clear hI
  go_upto_region 7 with fail
  rename World => u1
  have D1 := cell2_new u1 (.bool rg) (.slice ro rl rl) 35
  have k1 := bel_new u1 (.cells #[.bool rg, .slice ro rl rl] 35)
  replace K := below_trans K k1
  replace hR := hR.below k1
  clear k1
  generalize hb1 : u1.heap.size = b1 at *
  generalize u1.alloc (.cells #[.bool rg, .slice ro rl rl] 35) = u2 at *
  clear hb1
  go_wp2_with fail
  with_reducible refine (lwidth_0 _ v v0 v1 hv).mono ?_
  rintro x' u57 ⟨rfl, rfl⟩
  go_wp2_with fail
  with_reducible refine (rInt_h _ X s ng X0 X1 Hs.out Hng.out).mono ?_
  rintro x' u58 ⟨vb, n', ok3, rfl, hQ, hJ, kb⟩
  replace K := below_trans K kb; replace hR := hR.below kb; replace D1 := D1.below kb; clear kb
  obtain ⟨rfl, rfl⟩ := HI.out.unique s0 hJ
  obtain ⟨qg, qo, ql, rfl⟩ := hQ.told
  clear hJ HI
  go_upto_region 8 with fail
  rename World => u3
  have D2 := cell2_new u3 (.bool qg) (.slice qo ql ql) 35
  have k2 := bel_new u3 (.cells #[.bool qg, .slice qo ql ql] 35)
  replace K := below_trans K k2
  replace hR := hR.below k2
  replace hQ := hQ.below k2
  replace D1 := D1.below k2
  clear k2
  generalize u3.heap.size = b2 at *
  generalize u3.alloc (.cells #[.bool qg, .slice qo ql ql] 35) = u4 at *
  have c0 := D1.c0; have c1 := D1.c1; have d0 := D2.c0; have d1 := D2.c1
  go_wp2_with fail
  with_reducible refine (wsame_any hR hQ rfl).mono ?_
  rintro x' u59 ⟨rfl, kb⟩
  replace K := below_trans K kb; clear kb
  go_wp2
  go_ret
  exact ⟨rfl, K⟩

set_option maxHeartbeats 2000000 in
theorem lparts_1 {w : World} (L : Lays w) (T : Brn w) (v : Int) (v0 : 0 ≤ v) (v1 : v < 256) (hv : v % 4 = 1) (x s : Int) (ng : Bool) (h0 : 0 ≤ x) (h1 : x < 4294967296) (hs : x % 2147483648 = s) (hng : ng = decide (2147483648 ≤ x)) : Calls Tryd.prog 8 #[.int .u8 v, .int .u64 x] w fun e w' => ∃ a m E ok, e = .returned (.tuple #[.bool a, .int .u64 m, .int .i64 E, .bool ok]) ∧ PartIs 8388608 (-149) 2139095040 s ng a m E ok ∧ Below w.heap.size w w' := by
  go_enter Tryd.func8, Tryd.ntmps8
  go_wp2_with fail
  with_reducible refine (parts_32 L T x s ng h0 h1 hs hng).mono ?_
  rintro x' w1 ⟨a, m, E, ok, rfl, hP, K⟩
  have HP := hide hP
  clear hP
  go_wp2
  (try simp only [Exit.inBlock, Exit.then])
  exact bodyPost_ret (v := .tuple #[.bool a, .int .u64 m, .int .i64 E, .bool ok]) (by simp [results, Tryd.results8, go_sem]) rfl ⟨_, _, _, _, rfl, HP.out, K⟩
theorem lclass_1 {w : World} (L : Lays w) (v : Int) (v0 : 0 ≤ v) (v1 : v < 256) (hv : v % 4 = 1) (x s : Int) (h0 : 0 ≤ x) (h1 : x < 4294967296) (hs : x % 2147483648 = s) : Calls Tryd.prog 11 #[.int .u8 v, .int .u64 x] w fun e w' => e = .returned (.int .i8 (cls 2147483648 8388608 s)) ∧ Below w.heap.size w w' := by
  go_enter Tryd.func11, Tryd.ntmps11
  go_wp2_with fail
  with_reducible refine (class_32 L x s h0 h1 hs).mono ?_
  rintro x' w1 ⟨rfl, K⟩
  generalize hA : cls 2147483648 8388608 s = a at *
  go_wp2
  go_ret
  exact ⟨by first | rfl | (rw [hA]; rfl), K⟩
set_option maxHeartbeats 4000000 in
theorem lwhole_1 {w : World} (L : Lays w) (T : Brn w) (v : Int) (v0 : 0 ≤ v) (v1 : v < 256) (hv : v % 4 = 1) (x s : Int) (ng : Bool) (h0 : 0 ≤ x) (h1 : x < 4294967296) (hs : x % 2147483648 = s) (hng : ng = decide (2147483648 ≤ x)) : Calls Tryd.prog 13 #[.int .u8 v, .int .u64 x] w fun e w' => ∃ va n ok, e = .returned (.tuple #[va, .bool ok]) ∧ WNum w.heap.size w' va n 100 ∧ IntIs 8388608 (-149) 2139095040 s ng n ok ∧ Below w.heap.size w w' := by
  go_enter Tryd.func13, Tryd.ntmps13
  go_upto_region 1 with fail
  have D := cell2_new w (.bool false) (.slice none 0 0) 35
  have K1 := bel_new w (.cells #[.bool false, .slice none 0 0] 35)
  generalize w.alloc (.cells #[.bool false, .slice none 0 0] 35) = w1 at *
  go_wp2_with fail
  with_reducible refine (int_32 (L.below K1) (T.below K1) x s ng h0 h1 hs hng).mono ?_
  rintro x' w5 ⟨vr, n, ok, rfl, hR, hI, K⟩
  have HI := hide hI
  have ltb : w.heap.size < w1.heap.size := D.lt
  obtain ⟨rg, ro, rl, rfl⟩ := hR.told
  clear hI hs hng
  have d0 := (D.below K).c0; have d1 := (D.below K).c1; have g0 := (D.below K).f0; have g1 := (D.below K).f1
  go_wp2
  have PD := (D.below K).put (.bool rg) (.slice ro rl rl)
  have KB := below_put2 (b := w.heap.size) (below_trans K1 K) (Nat.le_refl _) (.bool rg) (.slice ro rl rl)
  have WN := ((hR.put ltb 0 (.bool rg)).put ltb 1 (.slice ro rl rl)).low (B' := w.heap.size) (by omega)
  clear d0 d1 g0 g1 hR
  generalize (w5.setCell ⟨w.heap.size, 0, none⟩ (.bool rg)).setCell ⟨w.heap.size, 1, none⟩ (.slice ro rl rl) = w9 at *
  (try simp only [Exit.inBlock, Exit.then])
  exact bodyPost_ret (v := .tuple #[.agg #[.bool rg, .slice ro rl rl], .bool ok]) (by simp [results, Tryd.results13, go_sem, PD.c0, PD.c1]) rfl ⟨_, _, _, rfl, WN, HI.out, KB⟩

set_option maxRecDepth 20000 in
set_option maxHeartbeats 8000000 in
theorem iparts_1 {w : World} (L : Lays w) (T : Brn w) (v : Int) (v0 : 0 ≤ v) (v1 : v < 256) (hv : v % 4 = 1) (x : Int) (x0 : 0 ≤ x) (x1 : x < 18446744073709551616) : Calls Tryd.prog 3 #[.int .u8 v, .int .u64 x] w fun e w' => e = .returned (.bool true) ∧ Below w.heap.size w w' := by
  have K := Below.refl w.heap.size w
  go_enter Tryd.func3, Tryd.ntmps3
  go_wp2_with fail
  with_reducible refine (lfit_1 _ v v0 v1 hv x x0 x1).mono ?_
  rintro x' u60 ⟨rfl, rfl⟩
  obtain ⟨X, hX⟩ : ∃ X, x % 4294967296 = X := ⟨_, rfl⟩
  have X0 : 0 ≤ X := by omega
  have X1 : X < 4294967296 := by omega
  rw [hX]
  clear hX
  obtain ⟨s, hs⟩ : ∃ s, X % 2147483648 = s := ⟨_, rfl⟩
  have s0 : 0 ≤ s := by omega
  obtain ⟨ng, hng⟩ : ∃ b, b = decide (2147483648 ≤ X) := ⟨_, rfl⟩
  have Hs := hide hs
  have Hng := hide hng
  clear hs hng
  go_wp2_with fail
  with_reducible refine (lparts_1 (L.below K) (T.below K) v v0 v1 hv X s ng X0 X1 Hs.out Hng.out).mono ?_
  rintro x' u61 ⟨a, m, E, ok, rfl, hP, kb⟩
  replace K := below_trans K kb; clear kb
  go_wp2_with fail
  with_reducible refine (lwidth_1 _ v v0 v1 hv).mono ?_
  rintro x' u62 ⟨rfl, rfl⟩
  go_wp2_with fail
  with_reducible refine (rParts_s _ X s ng X0 X1 Hs.out Hng.out).mono ?_
  rintro x' u63 ⟨a', m', E', ok', rfl, hP', kb⟩
  replace K := below_trans K kb; clear kb
  obtain ⟨rfl, rfl, rfl, rfl⟩ := hP.unique s0 hP'
  clear hP hP'
  go_wp2_with fail
  with_reducible refine (lclass_1 (L.below K) v v0 v1 hv X s X0 X1 Hs.out).mono ?_
  rintro x' u64 ⟨rfl, kb⟩
  replace K := below_trans K kb; clear kb
  generalize hc : cls 2147483648 8388608 s = c
  go_wp2_with fail
  with_reducible refine (lwidth_1 _ v v0 v1 hv).mono ?_
  rintro x' u65 ⟨rfl, rfl⟩
  go_wp2_with fail
  with_reducible refine (rClass_s _ X s X0 X1 Hs.out).mono ?_
  rintro x' u66 ⟨rfl, kb⟩
  replace K := below_trans K kb; clear kb
  rw [hc]
  clear hc
  go_wp2_with fail
  with_reducible refine (lwhole_1 (L.below K) (T.below K) v v0 v1 hv X s ng X0 X1 Hs.out Hng.out).mono ?_
  rintro x' u67 ⟨va, n, ok2, rfl, hR, hI, kb⟩
  replace K := below_trans K kb; clear kb
  obtain ⟨rg, ro, rl, rfl⟩ := hR.told
  have HI := hide hI
  clear hI
  go_upto_region 7 with fail
  rename World => u1
  have D1 := cell2_new u1 (.bool rg) (.slice ro rl rl) 35
  have k1 := bel_new u1 (.cells #[.bool rg, .slice ro rl rl] 35)
  replace K := below_trans K k1
  replace hR := hR.below k1
  clear k1
  generalize hb1 : u1.heap.size = b1 at *
  generalize u1.alloc (.cells #[.bool rg, .slice ro rl rl] 35) = u2 at *
  clear hb1
  go_wp2_with fail
  with_reducible refine (lwidth_1 _ v v0 v1 hv).mono ?_
  rintro x' u68 ⟨rfl, rfl⟩
  go_wp2_with fail
  with_reducible refine (rInt_s _ X s ng X0 X1 Hs.out Hng.out).mono ?_
  rintro x' u69 ⟨vb, n', ok3, rfl, hQ, hJ, kb⟩
  replace K := below_trans K kb; replace hR := hR.below kb; replace D1 := D1.below kb; clear kb
  obtain ⟨rfl, rfl⟩ := HI.out.unique s0 hJ
  obtain ⟨qg, qo, ql, rfl⟩ := hQ.told
  clear hJ HI
  go_upto_region 8 with fail
  rename World => u3
  have D2 := cell2_new u3 (.bool qg) (.slice qo ql ql) 35
  have k2 := bel_new u3 (.cells #[.bool qg, .slice qo ql ql] 35)
  replace K := below_trans K k2
  replace hR := hR.below k2
  replace hQ := hQ.below k2
  replace D1 := D1.below k2
  clear k2
  generalize u3.heap.size = b2 at *
  generalize u3.alloc (.cells #[.bool qg, .slice qo ql ql] 35) = u4 at *
  have c0 := D1.c0; have c1 := D1.c1; have d0 := D2.c0; have d1 := D2.c1
  go_wp2_with fail
  with_reducible refine (wsame_any hR hQ rfl).mono ?_
  rintro x' u70 ⟨rfl, kb⟩
  replace K := below_trans K kb; clear kb
  go_wp2
  go_ret
  exact ⟨rfl, K⟩

set_option maxHeartbeats 2000000 in
theorem lparts_2 {w : World} (L : Lays w) (T : Brn w) (v : Int) (v0 : 0 ≤ v) (v1 : v < 256) (hv : v % 4 = 2) (x s : Int) (ng : Bool) (h0 : 0 ≤ x) (h1 : x < 18446744073709551616) (hs : x % 9223372036854775808 = s) (hng : ng = decide (9223372036854775808 ≤ x)) : Calls Tryd.prog 8 #[.int .u8 v, .int .u64 x] w fun e w' => ∃ a m E ok, e = .returned (.tuple #[.bool a, .int .u64 m, .int .i64 E, .bool ok]) ∧ PartIs 4503599627370496 (-1074) 9218868437227405312 s ng a m E ok ∧ Below w.heap.size w w' := by
  go_enter Tryd.func8, Tryd.ntmps8
  go_wp2_with fail
  with_reducible refine (parts_64 L T x s ng h0 h1 hs hng).mono ?_
  rintro x' w1 ⟨a, m, E, ok, rfl, hP, K⟩
  have HP := hide hP
  clear hP
  go_wp2
  (try simp only [Exit.inBlock, Exit.then])
  exact bodyPost_ret (v := .tuple #[.bool a, .int .u64 m, .int .i64 E, .bool ok]) (by simp [results, Tryd.results8, go_sem]) rfl ⟨_, _, _, _, rfl, HP.out, K⟩
theorem lclass_2 {w : World} (L : Lays w) (v : Int) (v0 : 0 ≤ v) (v1 : v < 256) (hv : v % 4 = 2) (x s : Int) (h0 : 0 ≤ x) (h1 : x < 18446744073709551616) (hs : x % 9223372036854775808 = s) : Calls Tryd.prog 11 #[.int .u8 v, .int .u64 x] w fun e w' => e = .returned (.int .i8 (cls 9223372036854775808 4503599627370496 s)) ∧ Below w.heap.size w w' := by
  go_enter Tryd.func11, Tryd.ntmps11
  go_wp2_with fail
  with_reducible refine (class_64 L x s h0 h1 hs).mono ?_
  rintro x' w1 ⟨rfl, K⟩
  generalize hA : cls 9223372036854775808 4503599627370496 s = a at *
  go_wp2
  go_ret
  exact ⟨by first | rfl | (rw [hA]; rfl), K⟩
set_option maxHeartbeats 4000000 in
theorem lwhole_2 {w : World} (L : Lays w) (T : Brn w) (v : Int) (v0 : 0 ≤ v) (v1 : v < 256) (hv : v % 4 = 2) (x s : Int) (ng : Bool) (h0 : 0 ≤ x) (h1 : x < 18446744073709551616) (hs : x % 9223372036854775808 = s) (hng : ng = decide (9223372036854775808 ≤ x)) : Calls Tryd.prog 13 #[.int .u8 v, .int .u64 x] w fun e w' => ∃ va n ok, e = .returned (.tuple #[va, .bool ok]) ∧ WNum w.heap.size w' va n 100 ∧ IntIs 4503599627370496 (-1074) 9218868437227405312 s ng n ok ∧ Below w.heap.size w w' := by
  go_enter Tryd.func13, Tryd.ntmps13
  go_upto_region 1 with fail
  have D := cell2_new w (.bool false) (.slice none 0 0) 35
  have K1 := bel_new w (.cells #[.bool false, .slice none 0 0] 35)
  generalize w.alloc (.cells #[.bool false, .slice none 0 0] 35) = w1 at *
  go_wp2_with fail
  with_reducible refine (int_64 (L.below K1) (T.below K1) x s ng h0 h1 hs hng).mono ?_
  rintro x' w5 ⟨vr, n, ok, rfl, hR, hI, K⟩
  have HI := hide hI
  have ltb : w.heap.size < w1.heap.size := D.lt
  obtain ⟨rg, ro, rl, rfl⟩ := hR.told
  clear hI hs hng
  have d0 := (D.below K).c0; have d1 := (D.below K).c1; have g0 := (D.below K).f0; have g1 := (D.below K).f1
  go_wp2
  have PD := (D.below K).put (.bool rg) (.slice ro rl rl)
  have KB := below_put2 (b := w.heap.size) (below_trans K1 K) (Nat.le_refl _) (.bool rg) (.slice ro rl rl)
  have WN := ((hR.put ltb 0 (.bool rg)).put ltb 1 (.slice ro rl rl)).low (B' := w.heap.size) (by omega)
  clear d0 d1 g0 g1 hR
  generalize (w5.setCell ⟨w.heap.size, 0, none⟩ (.bool rg)).setCell ⟨w.heap.size, 1, none⟩ (.slice ro rl rl) = w9 at *
  (try simp only [Exit.inBlock, Exit.then])
  exact bodyPost_ret (v := .tuple #[.agg #[.bool rg, .slice ro rl rl], .bool ok]) (by simp [results, Tryd.results13, go_sem, PD.c0, PD.c1]) rfl ⟨_, _, _, rfl, WN, HI.out, KB⟩

set_option maxRecDepth 20000 in
set_option maxHeartbeats 8000000 in
theorem iparts_2 {w : World} (L : Lays w) (T : Brn w) (v : Int) (v0 : 0 ≤ v) (v1 : v < 256) (hv : v % 4 = 2) (x : Int) (x0 : 0 ≤ x) (x1 : x < 18446744073709551616) : Calls Tryd.prog 3 #[.int .u8 v, .int .u64 x] w fun e w' => e = .returned (.bool true) ∧ Below w.heap.size w w' := by
  have K := Below.refl w.heap.size w
  go_enter Tryd.func3, Tryd.ntmps3
  go_wp2_with fail
  with_reducible refine (lfit_2 _ v v0 v1 hv x x0 x1).mono ?_
  rintro x' u71 ⟨rfl, rfl⟩
  obtain ⟨X, hX⟩ : ∃ X, x % 18446744073709551616 = X := ⟨_, rfl⟩
  have X0 : 0 ≤ X := by omega
  have X1 : X < 18446744073709551616 := by omega
  rw [hX]
  clear hX
  obtain ⟨s, hs⟩ : ∃ s, X % 9223372036854775808 = s := ⟨_, rfl⟩
  have s0 : 0 ≤ s := by omega
  obtain ⟨ng, hng⟩ : ∃ b, b = decide (9223372036854775808 ≤ X) := ⟨_, rfl⟩
  have Hs := hide hs
  have Hng := hide hng
  clear hs hng
  go_wp2_with fail
  with_reducible refine (lparts_2 (L.below K) (T.below K) v v0 v1 hv X s ng X0 X1 Hs.out Hng.out).mono ?_
  rintro x' u72 ⟨a, m, E, ok, rfl, hP, kb⟩
  replace K := below_trans K kb; clear kb
  go_wp2_with fail
  with_reducible refine (lwidth_2 _ v v0 v1 hv).mono ?_
  rintro x' u73 ⟨rfl, rfl⟩
  go_wp2_with fail
  with_reducible refine (rParts_d _ X s ng X0 X1 Hs.out Hng.out).mono ?_
  rintro x' u74 ⟨a', m', E', ok', rfl, hP', kb⟩
  replace K := below_trans K kb; clear kb
  obtain ⟨rfl, rfl, rfl, rfl⟩ := hP.unique s0 hP'
  clear hP hP'
  go_wp2_with fail
  with_reducible refine (lclass_2 (L.below K) v v0 v1 hv X s X0 X1 Hs.out).mono ?_
  rintro x' u75 ⟨rfl, kb⟩
  replace K := below_trans K kb; clear kb
  generalize hc : cls 9223372036854775808 4503599627370496 s = c
  go_wp2_with fail
  with_reducible refine (lwidth_2 _ v v0 v1 hv).mono ?_
  rintro x' u76 ⟨rfl, rfl⟩
  go_wp2_with fail
  with_reducible refine (rClass_d _ X s X0 X1 Hs.out).mono ?_
  rintro x' u77 ⟨rfl, kb⟩
  replace K := below_trans K kb; clear kb
  rw [hc]
  clear hc
  go_wp2_with fail
  with_reducible refine (lwhole_2 (L.below K) (T.below K) v v0 v1 hv X s ng X0 X1 Hs.out Hng.out).mono ?_
  rintro x' u78 ⟨va, n, ok2, rfl, hR, hI, kb⟩
  replace K := below_trans K kb; clear kb
  obtain ⟨rg, ro, rl, rfl⟩ := hR.told
  have HI := hide hI
  clear hI
  go_upto_region 7 with fail
  rename World => u1
  have D1 := cell2_new u1 (.bool rg) (.slice ro rl rl) 35
  have k1 := bel_new u1 (.cells #[.bool rg, .slice ro rl rl] 35)
  replace K := below_trans K k1
  replace hR := hR.below k1
  clear k1
  generalize hb1 : u1.heap.size = b1 at *
  generalize u1.alloc (.cells #[.bool rg, .slice ro rl rl] 35) = u2 at *
  clear hb1
  go_wp2_with fail
  with_reducible refine (lwidth_2 _ v v0 v1 hv).mono ?_
  rintro x' u79 ⟨rfl, rfl⟩
  go_wp2_with fail
  with_reducible refine (rInt_d _ X s ng X0 X1 Hs.out Hng.out).mono ?_
  rintro x' u80 ⟨vb, n', ok3, rfl, hQ, hJ, kb⟩
  replace K := below_trans K kb; replace hR := hR.below kb; replace D1 := D1.below kb; clear kb
  obtain ⟨rfl, rfl⟩ := HI.out.unique s0 hJ
  obtain ⟨qg, qo, ql, rfl⟩ := hQ.told
  clear hJ HI
  go_upto_region 8 with fail
  rename World => u3
  have D2 := cell2_new u3 (.bool qg) (.slice qo ql ql) 35
  have k2 := bel_new u3 (.cells #[.bool qg, .slice qo ql ql] 35)
  replace K := below_trans K k2
  replace hR := hR.below k2
  replace hQ := hQ.below k2
  replace D1 := D1.below k2
  clear k2
  generalize u3.heap.size = b2 at *
  generalize u3.alloc (.cells #[.bool qg, .slice qo ql ql] 35) = u4 at *
  have c0 := D1.c0; have c1 := D1.c1; have d0 := D2.c0; have d1 := D2.c1
  go_wp2_with fail
  with_reducible refine (wsame_any hR hQ rfl).mono ?_
  rintro x' u81 ⟨rfl, kb⟩
  replace K := below_trans K kb; clear kb
  go_wp2
  go_ret
  exact ⟨rfl, K⟩

set_option maxHeartbeats 2000000 in
theorem lparts_3 {w : World} (L : Lays w) (T : Brn w) (v : Int) (v0 : 0 ≤ v) (v1 : v < 256) (hv : v % 4 = 3) (x s : Int) (ng : Bool) (h0 : 0 ≤ x) (h1 : x < 4294967296) (hs : x % 2147483648 = s) (hng : ng = decide (2147483648 ≤ x)) : Calls Tryd.prog 8 #[.int .u8 v, .int .u64 x] w fun e w' => ∃ a m E ok, e = .returned (.tuple #[.bool a, .int .u64 m, .int .i64 E, .bool ok]) ∧ PartIs 8388608 (-149) 2139095040 s ng a m E ok ∧ Below w.heap.size w w' := by
  go_enter Tryd.func8, Tryd.ntmps8
  go_wp2_with fail
  with_reducible refine (parts_m L T x s ng h0 h1 hs hng).mono ?_
  rintro x' w1 ⟨a, m, E, ok, rfl, hP, K⟩
  have HP := hide hP
  clear hP
  go_wp2
  (try simp only [Exit.inBlock, Exit.then])
  exact bodyPost_ret (v := .tuple #[.bool a, .int .u64 m, .int .i64 E, .bool ok]) (by simp [results, Tryd.results8, go_sem]) rfl ⟨_, _, _, _, rfl, HP.out, K⟩
theorem lclass_3 {w : World} (L : Lays w) (v : Int) (v0 : 0 ≤ v) (v1 : v < 256) (hv : v % 4 = 3) (x s : Int) (h0 : 0 ≤ x) (h1 : x < 4294967296) (hs : x % 2147483648 = s) : Calls Tryd.prog 11 #[.int .u8 v, .int .u64 x] w fun e w' => e = .returned (.int .i8 (cls 2147483648 8388608 s)) ∧ Below w.heap.size w w' := by
  go_enter Tryd.func11, Tryd.ntmps11
  go_wp2_with fail
  with_reducible refine (class_m L x s h0 h1 hs).mono ?_
  rintro x' w1 ⟨rfl, K⟩
  generalize hA : cls 2147483648 8388608 s = a at *
  go_wp2
  go_ret
  exact ⟨by first | rfl | (rw [hA]; rfl), K⟩
set_option maxHeartbeats 4000000 in
theorem lwhole_3 {w : World} (L : Lays w) (T : Brn w) (v : Int) (v0 : 0 ≤ v) (v1 : v < 256) (hv : v % 4 = 3) (x s : Int) (ng : Bool) (h0 : 0 ≤ x) (h1 : x < 4294967296) (hs : x % 2147483648 = s) (hng : ng = decide (2147483648 ≤ x)) : Calls Tryd.prog 13 #[.int .u8 v, .int .u64 x] w fun e w' => ∃ va n ok, e = .returned (.tuple #[va, .bool ok]) ∧ WNum w.heap.size w' va n 100 ∧ IntIs 8388608 (-149) 2139095040 s ng n ok ∧ Below w.heap.size w w' := by
  go_enter Tryd.func13, Tryd.ntmps13
  go_upto_region 1 with fail
  have D := cell2_new w (.bool false) (.slice none 0 0) 35
  have K1 := bel_new w (.cells #[.bool false, .slice none 0 0] 35)
  generalize w.alloc (.cells #[.bool false, .slice none 0 0] 35) = w1 at *
  go_wp2_with fail
  with_reducible refine (int_m (L.below K1) (T.below K1) x s ng h0 h1 hs hng).mono ?_
  rintro x' w5 ⟨vr, n, ok, rfl, hR, hI, K⟩
  have HI := hide hI
  have ltb : w.heap.size < w1.heap.size := D.lt
  obtain ⟨rg, ro, rl, rfl⟩ := hR.told
  clear hI hs hng
  have d0 := (D.below K).c0; have d1 := (D.below K).c1; have g0 := (D.below K).f0; have g1 := (D.below K).f1
  go_wp2
  have PD := (D.below K).put (.bool rg) (.slice ro rl rl)
  have KB := below_put2 (b := w.heap.size) (below_trans K1 K) (Nat.le_refl _) (.bool rg) (.slice ro rl rl)
  have WN := ((hR.put ltb 0 (.bool rg)).put ltb 1 (.slice ro rl rl)).low (B' := w.heap.size) (by omega)
  clear d0 d1 g0 g1 hR
  generalize (w5.setCell ⟨w.heap.size, 0, none⟩ (.bool rg)).setCell ⟨w.heap.size, 1, none⟩ (.slice ro rl rl) = w9 at *
  (try simp only [Exit.inBlock, Exit.then])
  exact bodyPost_ret (v := .tuple #[.agg #[.bool rg, .slice ro rl rl], .bool ok]) (by simp [results, Tryd.results13, go_sem, PD.c0, PD.c1]) rfl ⟨_, _, _, rfl, WN, HI.out, KB⟩

set_option maxRecDepth 20000 in
set_option maxHeartbeats 8000000 in
theorem iparts_3 {w : World} (L : Lays w) (T : Brn w) (v : Int) (v0 : 0 ≤ v) (v1 : v < 256) (hv : v % 4 = 3) (x : Int) (x0 : 0 ≤ x) (x1 : x < 18446744073709551616) : Calls Tryd.prog 3 #[.int .u8 v, .int .u64 x] w fun e w' => e = .returned (.bool true) ∧ Below w.heap.size w w' := by
  have K := Below.refl w.heap.size w
  go_enter Tryd.func3, Tryd.ntmps3
  go_wp2_with fail
  with_reducible refine (lfit_3 _ v v0 v1 hv x x0 x1).mono ?_
  rintro x' u82 ⟨rfl, rfl⟩
  obtain ⟨X, hX⟩ : ∃ X, x % 4294967296 = X := ⟨_, rfl⟩
  have X0 : 0 ≤ X := by omega
  have X1 : X < 4294967296 := by omega
  rw [hX]
  clear hX
  obtain ⟨s, hs⟩ : ∃ s, X % 2147483648 = s := ⟨_, rfl⟩
  have s0 : 0 ≤ s := by omega
  obtain ⟨ng, hng⟩ : ∃ b, b = decide (2147483648 ≤ X) := ⟨_, rfl⟩
  have Hs := hide hs
  have Hng := hide hng
  clear hs hng
  go_wp2_with fail
  with_reducible refine (lparts_3 (L.below K) (T.below K) v v0 v1 hv X s ng X0 X1 Hs.out Hng.out).mono ?_
  rintro x' u83 ⟨a, m, E, ok, rfl, hP, kb⟩
  replace K := below_trans K kb; clear kb
  go_wp2_with fail
  with_reducible refine (lwidth_3 _ v v0 v1 hv).mono ?_
  rintro x' u84 ⟨rfl, rfl⟩
  go_wp2_with fail
  with_reducible refine (rParts_s _ X s ng X0 X1 Hs.out Hng.out).mono ?_
  rintro x' u85 ⟨a', m', E', ok', rfl, hP', kb⟩
  replace K := below_trans K kb; clear kb
  obtain ⟨rfl, rfl, rfl, rfl⟩ := hP.unique s0 hP'
  clear hP hP'
  go_wp2_with fail
  with_reducible refine (lclass_3 (L.below K) v v0 v1 hv X s X0 X1 Hs.out).mono ?_
  rintro x' u86 ⟨rfl, kb⟩
  replace K := below_trans K kb; clear kb
  generalize hc : cls 2147483648 8388608 s = c
  go_wp2_with fail
  with_reducible refine (lwidth_3 _ v v0 v1 hv).mono ?_
  rintro x' u87 ⟨rfl, rfl⟩
  go_wp2_with fail
  with_reducible refine (rClass_s _ X s X0 X1 Hs.out).mono ?_
  rintro x' u88 ⟨rfl, kb⟩
  replace K := below_trans K kb; clear kb
  rw [hc]
  clear hc
  go_wp2_with fail
  with_reducible refine (lwhole_3 (L.below K) (T.below K) v v0 v1 hv X s ng X0 X1 Hs.out Hng.out).mono ?_
  rintro x' u89 ⟨va, n, ok2, rfl, hR, hI, kb⟩
  replace K := below_trans K kb; clear kb
  obtain ⟨rg, ro, rl, rfl⟩ := hR.told
  have HI := hide hI
  clear hI
  go_upto_region 7 with fail
  rename World => u1
  have D1 := cell2_new u1 (.bool rg) (.slice ro rl rl) 35
  have k1 := bel_new u1 (.cells #[.bool rg, .slice ro rl rl] 35)
  replace K := below_trans K k1
  replace hR := hR.below k1
  clear k1
  generalize hb1 : u1.heap.size = b1 at *
  generalize u1.alloc (.cells #[.bool rg, .slice ro rl rl] 35) = u2 at *
  clear hb1
  go_wp2_with fail
  with_reducible refine (lwidth_3 _ v v0 v1 hv).mono ?_
  rintro x' u90 ⟨rfl, rfl⟩
  go_wp2_with fail
  with_reducible refine (rInt_s _ X s ng X0 X1 Hs.out Hng.out).mono ?_
  rintro x' u91 ⟨vb, n', ok3, rfl, hQ, hJ, kb⟩
  replace K := below_trans K kb; replace hR := hR.below kb; replace D1 := D1.below kb; clear kb
  obtain ⟨rfl, rfl⟩ := HI.out.unique s0 hJ
  obtain ⟨qg, qo, ql, rfl⟩ := hQ.told
  clear hJ HI
  go_upto_region 8 with fail
  rename World => u3
  have D2 := cell2_new u3 (.bool qg) (.slice qo ql ql) 35
  have k2 := bel_new u3 (.cells #[.bool qg, .slice qo ql ql] 35)
  replace K := below_trans K k2
  replace hR := hR.below k2
  replace hQ := hQ.below k2
  replace D1 := D1.below k2
  clear k2
  generalize u3.heap.size = b2 at *
  generalize u3.alloc (.cells #[.bool qg, .slice qo ql ql] 35) = u4 at *
  have c0 := D1.c0; have c1 := D1.c1; have d0 := D2.c0; have d1 := D2.c1
  go_wp2_with fail
  with_reducible refine (wsame_any hR hQ rfl).mono ?_
  rintro x' u92 ⟨rfl, kb⟩
  replace K := below_trans K kb; clear kb
  go_wp2
  go_ret
  exact ⟨rfl, K⟩

theorem iparts_walk {w : World} (h : Lays w ∧ Brn w) (v : Int) (v0 : 0 ≤ v) (v1 : v < 256) (x : Int) (x0 : 0 ≤ x) (x1 : x < 18446744073709551616) : Calls Tryd.prog 3 #[.int .u8 v, .int .u64 x] w fun e w' => e = .returned (.bool true) ∧ Below w.heap.size w w' := by
  rcases (by omega : v % 4 = 0 ∨ v % 4 = 1 ∨ v % 4 = 2 ∨ v % 4 = 3) with k | k | k | k
  · exact iparts_0 h.1 h.2 v v0 v1 k x x0 x1
  · exact iparts_1 h.1 h.2 v v0 v1 k x x0 x1
  · exact iparts_2 h.1 h.2 v v0 v1 k x x0 x1
  · exact iparts_3 h.1 h.2 v v0 v1 k x x0 x1

end Go.Proofs.YtomjckginmjhmaaDoor
