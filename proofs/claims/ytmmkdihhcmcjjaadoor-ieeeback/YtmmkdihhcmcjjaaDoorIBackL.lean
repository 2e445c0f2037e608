/- IeeeBack: the law's helpers (mk_iback.py) -/
import Derived.Test.YtmmkdihhcmcjjaaDoorIBackM
import Derived.Test.YtmmkdihhcmcjjaaDoorIeeeQ
import Derived.Test.YtmmkdihhcmcjjaaDoorITo16
import Derived.Test.YtmmkdihhcmcjjaaDoorITo32
import Derived.Test.YtmmkdihhcmcjjaaDoorITo64
import Derived.Test.YtmmkdihhcmcjjaaDoorITom
namespace Go.Proofs.YtmmkdihhcmcjjaaDoor
open Go.RowKit
set_option linter.unusedVariables false

theorem int_no {F L I s n : Int} {ng : Bool} (h : IntIs F L I s ng n false) : n = 0 := by
  obtain ⟨a, m, E, k, hP, h1⟩ := h
  rcases h1 with ⟨_, _, c, _⟩ | ⟨_, _, c⟩
  · cases c
  · exact c
theorem empty_len {zs : List Int} (hc : Nt.Canon zs) (hv : Nt.val zs = 0) : zs.length = 0 := by
  rw [Nt.canon_unique hc Nt.canon_nil (by rw [hv]; rfl)]
  rfl

theorem lnan_0 (w : World) (v : Int) (v0 : 0 ≤ v) (v1 : v < 256) (hv : v % 4 = 0) : Calls Tryd.prog 27 #[.int .u8 v] w fun e w' => e = .returned (.int .u64 32256) ∧ w' = w := by
  go_enter Tryd.func27, Tryd.ntmps27
  go_wp2
  go_ret
  exact ⟨rfl, rfl⟩
set_option maxHeartbeats 2000000 in
theorem bparts_0 {w : World} (L : Lays w) (T : Brn w) (v : Int) (v0 : 0 ≤ v) (v1 : v < 256) (hv : v % 4 = 0) (x s : Int) (ng : Bool) (h0 : 0 ≤ x) (h1 : x < 65536) (hs : x % 32768 = s) (hng : ng = decide (32768 ≤ x)) : Calls Tryd.prog 24 #[.int .u8 v, .int .u64 x] w fun e w' => ∃ a m E ok, e = .returned (.tuple #[.bool a, .int .u64 m, .int .i64 E, .bool ok]) ∧ PartIs 1024 (-24) 31744 s ng a m E ok ∧ Below w.heap.size w w' := by
  go_enter Tryd.func24, Tryd.ntmps24
  go_wp2_with fail
  with_reducible refine (parts_16 L T x s ng h0 h1 hs hng).mono ?_
  rintro x' w1 ⟨a, m, E, ok, rfl, hP, K⟩
  have HP := hide hP
  clear hP hs hng
  go_wp2
  (try simp only [Exit.inBlock, Exit.then])
  exact bodyPost_ret (v := .tuple #[.bool a, .int .u64 m, .int .i64 E, .bool ok]) (by simp [results, Tryd.results24, go_sem]) rfl ⟨_, _, _, _, rfl, HP.out, K⟩
set_option maxHeartbeats 4000000 in
theorem bwhole_0 {w : World} (L : Lays w) (T : Brn w) (v : Int) (v0 : 0 ≤ v) (v1 : v < 256) (hv : v % 4 = 0) (x s : Int) (ng : Bool) (h0 : 0 ≤ x) (h1 : x < 65536) (hs : x % 32768 = s) (hng : ng = decide (32768 ≤ x)) : Calls Tryd.prog 28 #[.int .u8 v, .int .u64 x] w fun e w' => ∃ va n ok, e = .returned (.tuple #[va, .bool ok]) ∧ WNum w.heap.size w' va n 100 ∧ IntIs 1024 (-24) 31744 s ng n ok ∧ Below w.heap.size w w' := by
  go_enter Tryd.func28, Tryd.ntmps28
  go_upto_region 1 with fail
  have D := cell2_new w (.bool false) (.slice none 0 0) 38
  have K1 := bel_new w (.cells #[.bool false, .slice none 0 0] 38)
  generalize w.alloc (.cells #[.bool false, .slice none 0 0] 38) = w1 at *
  go_wp2_with fail
  with_reducible refine (int_16 (L.below K1) (T.below K1) x s ng h0 h1 hs hng).mono ?_
  rintro x' w5 ⟨vr, n, ok, rfl, hR, hI, K⟩
  have HI := hide hI
  have ltb : w.heap.size < w1.heap.size := D.lt
  obtain ⟨rg, ro, rl, rfl⟩ := hR.told
  clear hI hs hng
  have d0 := (D.below K).c0; have d1 := (D.below K).c1; have g0 := (D.below K).f0; have g1 := (D.below K).f1
  go_wp2
  have PD := (D.below K).put (.bool rg) (.slice ro rl rl)
  have KB := below_put2 (b := w.heap.size) (below_trans K1 K) (Nat.le_refl _) (.bool rg) (.slice ro rl rl)
  have WN := ((hR.put ltb 0 (.bool rg)).put ltb 1 (.slice ro rl rl)).low (B' := w.heap.size) (by omega)
  clear d0 d1 g0 g1 hR
  generalize (w5.setCell ⟨w.heap.size, 0, none⟩ (.bool rg)).setCell ⟨w.heap.size, 1, none⟩ (.slice ro rl rl) = w9 at *
  (try simp only [Exit.inBlock, Exit.then])
  exact bodyPost_ret (v := .tuple #[.agg #[.bool rg, .slice ro rl rl], .bool ok]) (by simp [results, Tryd.results28, go_sem, PD.c0, PD.c1]) rfl ⟨_, _, _, rfl, WN, HI.out, KB⟩
set_option maxHeartbeats 4000000 in
theorem bfrom_0 {w : World} (L : Lays w) (T : Brn w) (v : Int) (v0 : 0 ≤ v) (v1 : v < 256) (hv : v % 4 = 0) {vx : Value} {n : Int} {k : Nat} (hx : WArg w vx n k) (hk : k ≤ 1048577) : Calls Tryd.prog 19 #[.int .u8 v, vx] w fun e w' => ∃ y ok, e = .returned (.tuple #[.int .u64 y, .bool ok]) ∧ FromP 32768 1024 (-24) 31744 n y ok ∧ Below w.heap.size w w' := by
  have hx' := hx
  obtain ⟨xg, xm, xa, rfl, ⟨zs, ⟨xo, xc, rfl, -⟩, -⟩, -⟩ := hx'
  go_enter Tryd.func19, Tryd.ntmps19
  go_upto_region 1 with fail
  have D := cell2_new w (.bool xg) (.slice xo zs.length xc) 38
  have K := bel_new w (.cells #[.bool xg, .slice xo zs.length xc] 38)
  replace hx := hx.below K
  generalize w.alloc (.cells #[.bool xg, .slice xo zs.length xc] 38) = w1 at *
  obtain ⟨c0, c1, -, -⟩ := D.told
  go_wp2_with fail
  with_reducible refine (fromi_16 (L.below K) (T.below K) hx hk).mono ?_
  rintro x' w2 ⟨y, ok, rfl, y0, y1, hF, kb⟩
  have HF := hide hF
  clear hF c0 c1
  go_wp2
  go_ret2
  exact ⟨y, ok, rfl, HF.out, below_trans K kb⟩

theorem lnan_1 (w : World) (v : Int) (v0 : 0 ≤ v) (v1 : v < 256) (hv : v % 4 = 1) : Calls Tryd.prog 27 #[.int .u8 v] w fun e w' => e = .returned (.int .u64 2143289344) ∧ w' = w := by
  go_enter Tryd.func27, Tryd.ntmps27
  go_wp2
  go_ret
  exact ⟨rfl, rfl⟩
set_option maxHeartbeats 2000000 in
theorem bparts_1 {w : World} (L : Lays w) (T : Brn w) (v : Int) (v0 : 0 ≤ v) (v1 : v < 256) (hv : v % 4 = 1) (x s : Int) (ng : Bool) (h0 : 0 ≤ x) (h1 : x < 4294967296) (hs : x % 2147483648 = s) (hng : ng = decide (2147483648 ≤ x)) : Calls Tryd.prog 24 #[.int .u8 v, .int .u64 x] w fun e w' => ∃ a m E ok, e = .returned (.tuple #[.bool a, .int .u64 m, .int .i64 E, .bool ok]) ∧ PartIs 8388608 (-149) 2139095040 s ng a m E ok ∧ Below w.heap.size w w' := by
  go_enter Tryd.func24, Tryd.ntmps24
  go_wp2_with fail
  with_reducible refine (parts_32 L T x s ng h0 h1 hs hng).mono ?_
  rintro x' w1 ⟨a, m, E, ok, rfl, hP, K⟩
  have HP := hide hP
  clear hP hs hng
  go_wp2
  (try simp only [Exit.inBlock, Exit.then])
  exact bodyPost_ret (v := .tuple #[.bool a, .int .u64 m, .int .i64 E, .bool ok]) (by simp [results, Tryd.results24, go_sem]) rfl ⟨_, _, _, _, rfl, HP.out, K⟩
set_option maxHeartbeats 4000000 in
theorem bwhole_1 {w : World} (L : Lays w) (T : Brn w) (v : Int) (v0 : 0 ≤ v) (v1 : v < 256) (hv : v % 4 = 1) (x s : Int) (ng : Bool) (h0 : 0 ≤ x) (h1 : x < 4294967296) (hs : x % 2147483648 = s) (hng : ng = decide (2147483648 ≤ x)) : Calls Tryd.prog 28 #[.int .u8 v, .int .u64 x] w fun e w' => ∃ va n ok, e = .returned (.tuple #[va, .bool ok]) ∧ WNum w.heap.size w' va n 100 ∧ IntIs 8388608 (-149) 2139095040 s ng n ok ∧ Below w.heap.size w w' := by
  go_enter Tryd.func28, Tryd.ntmps28
  go_upto_region 1 with fail
  have D := cell2_new w (.bool false) (.slice none 0 0) 38
  have K1 := bel_new w (.cells #[.bool false, .slice none 0 0] 38)
  generalize w.alloc (.cells #[.bool false, .slice none 0 0] 38) = w1 at *
  go_wp2_with fail
  with_reducible refine (int_32 (L.below K1) (T.below K1) x s ng h0 h1 hs hng).mono ?_
  rintro x' w5 ⟨vr, n, ok, rfl, hR, hI, K⟩
  have HI := hide hI
  have ltb : w.heap.size < w1.heap.size := D.lt
  obtain ⟨rg, ro, rl, rfl⟩ := hR.told
  clear hI hs hng
  have d0 := (D.below K).c0; have d1 := (D.below K).c1; have g0 := (D.below K).f0; have g1 := (D.below K).f1
  go_wp2
  have PD := (D.below K).put (.bool rg) (.slice ro rl rl)
  have KB := below_put2 (b := w.heap.size) (below_trans K1 K) (Nat.le_refl _) (.bool rg) (.slice ro rl rl)
  have WN := ((hR.put ltb 0 (.bool rg)).put ltb 1 (.slice ro rl rl)).low (B' := w.heap.size) (by omega)
  clear d0 d1 g0 g1 hR
  generalize (w5.setCell ⟨w.heap.size, 0, none⟩ (.bool rg)).setCell ⟨w.heap.size, 1, none⟩ (.slice ro rl rl) = w9 at *
  (try simp only [Exit.inBlock, Exit.then])
  exact bodyPost_ret (v := .tuple #[.agg #[.bool rg, .slice ro rl rl], .bool ok]) (by simp [results, Tryd.results28, go_sem, PD.c0, PD.c1]) rfl ⟨_, _, _, rfl, WN, HI.out, KB⟩
set_option maxHeartbeats 4000000 in
theorem bfrom_1 {w : World} (L : Lays w) (T : Brn w) (v : Int) (v0 : 0 ≤ v) (v1 : v < 256) (hv : v % 4 = 1) {vx : Value} {n : Int} {k : Nat} (hx : WArg w vx n k) (hk : k ≤ 1048577) : Calls Tryd.prog 19 #[.int .u8 v, vx] w fun e w' => ∃ y ok, e = .returned (.tuple #[.int .u64 y, .bool ok]) ∧ FromP 2147483648 8388608 (-149) 2139095040 n y ok ∧ Below w.heap.size w w' := by
  have hx' := hx
  obtain ⟨xg, xm, xa, rfl, ⟨zs, ⟨xo, xc, rfl, -⟩, -⟩, -⟩ := hx'
  go_enter Tryd.func19, Tryd.ntmps19
  go_upto_region 1 with fail
  have D := cell2_new w (.bool xg) (.slice xo zs.length xc) 38
  have K := bel_new w (.cells #[.bool xg, .slice xo zs.length xc] 38)
  replace hx := hx.below K
  generalize w.alloc (.cells #[.bool xg, .slice xo zs.length xc] 38) = w1 at *
  obtain ⟨c0, c1, -, -⟩ := D.told
  go_wp2_with fail
  with_reducible refine (fromi_32 (L.below K) (T.below K) hx hk).mono ?_
  rintro x' w2 ⟨y, ok, rfl, y0, y1, hF, kb⟩
  have HF := hide hF
  clear hF c0 c1
  go_wp2
  go_ret2
  exact ⟨y, ok, rfl, HF.out, below_trans K kb⟩

theorem lnan_2 (w : World) (v : Int) (v0 : 0 ≤ v) (v1 : v < 256) (hv : v % 4 = 2) : Calls Tryd.prog 27 #[.int .u8 v] w fun e w' => e = .returned (.int .u64 9221120237041090560) ∧ w' = w := by
  go_enter Tryd.func27, Tryd.ntmps27
  go_wp2
  go_ret
  exact ⟨rfl, rfl⟩
set_option maxHeartbeats 2000000 in
theorem bparts_2 {w : World} (L : Lays w) (T : Brn w) (v : Int) (v0 : 0 ≤ v) (v1 : v < 256) (hv : v % 4 = 2) (x s : Int) (ng : Bool) (h0 : 0 ≤ x) (h1 : x < 18446744073709551616) (hs : x % 9223372036854775808 = s) (hng : ng = decide (9223372036854775808 ≤ x)) : Calls Tryd.prog 24 #[.int .u8 v, .int .u64 x] w fun e w' => ∃ a m E ok, e = .returned (.tuple #[.bool a, .int .u64 m, .int .i64 E, .bool ok]) ∧ PartIs 4503599627370496 (-1074) 9218868437227405312 s ng a m E ok ∧ Below w.heap.size w w' := by
  go_enter Tryd.func24, Tryd.ntmps24
  go_wp2_with fail
  with_reducible refine (parts_64 L T x s ng h0 h1 hs hng).mono ?_
  rintro x' w1 ⟨a, m, E, ok, rfl, hP, K⟩
  have HP := hide hP
  clear hP hs hng
  go_wp2
  (try simp only [Exit.inBlock, Exit.then])
  exact bodyPost_ret (v := .tuple #[.bool a, .int .u64 m, .int .i64 E, .bool ok]) (by simp [results, Tryd.results24, go_sem]) rfl ⟨_, _, _, _, rfl, HP.out, K⟩
set_option maxHeartbeats 4000000 in
theorem bwhole_2 {w : World} (L : Lays w) (T : Brn w) (v : Int) (v0 : 0 ≤ v) (v1 : v < 256) (hv : v % 4 = 2) (x s : Int) (ng : Bool) (h0 : 0 ≤ x) (h1 : x < 18446744073709551616) (hs : x % 9223372036854775808 = s) (hng : ng = decide (9223372036854775808 ≤ x)) : Calls Tryd.prog 28 #[.int .u8 v, .int .u64 x] w fun e w' => ∃ va n ok, e = .returned (.tuple #[va, .bool ok]) ∧ WNum w.heap.size w' va n 100 ∧ IntIs 4503599627370496 (-1074) 9218868437227405312 s ng n ok ∧ Below w.heap.size w w' := by
  go_enter Tryd.func28, Tryd.ntmps28
  go_upto_region 1 with fail
  have D := cell2_new w (.bool false) (.slice none 0 0) 38
  have K1 := bel_new w (.cells #[.bool false, .slice none 0 0] 38)
  generalize w.alloc (.cells #[.bool false, .slice none 0 0] 38) = w1 at *
  go_wp2_with fail
  with_reducible refine (int_64 (L.below K1) (T.below K1) x s ng h0 h1 hs hng).mono ?_
  rintro x' w5 ⟨vr, n, ok, rfl, hR, hI, K⟩
  have HI := hide hI
  have ltb : w.heap.size < w1.heap.size := D.lt
  obtain ⟨rg, ro, rl, rfl⟩ := hR.told
  clear hI hs hng
  have d0 := (D.below K).c0; have d1 := (D.below K).c1; have g0 := (D.below K).f0; have g1 := (D.below K).f1
  go_wp2
  have PD := (D.below K).put (.bool rg) (.slice ro rl rl)
  have KB := below_put2 (b := w.heap.size) (below_trans K1 K) (Nat.le_refl _) (.bool rg) (.slice ro rl rl)
  have WN := ((hR.put ltb 0 (.bool rg)).put ltb 1 (.slice ro rl rl)).low (B' := w.heap.size) (by omega)
  clear d0 d1 g0 g1 hR
  generalize (w5.setCell ⟨w.heap.size, 0, none⟩ (.bool rg)).setCell ⟨w.heap.size, 1, none⟩ (.slice ro rl rl) = w9 at *
  (try simp only [Exit.inBlock, Exit.then])
  exact bodyPost_ret (v := .tuple #[.agg #[.bool rg, .slice ro rl rl], .bool ok]) (by simp [results, Tryd.results28, go_sem, PD.c0, PD.c1]) rfl ⟨_, _, _, rfl, WN, HI.out, KB⟩
set_option maxHeartbeats 4000000 in
theorem bfrom_2 {w : World} (L : Lays w) (T : Brn w) (v : Int) (v0 : 0 ≤ v) (v1 : v < 256) (hv : v % 4 = 2) {vx : Value} {n : Int} {k : Nat} (hx : WArg w vx n k) (hk : k ≤ 1048577) : Calls Tryd.prog 19 #[.int .u8 v, vx] w fun e w' => ∃ y ok, e = .returned (.tuple #[.int .u64 y, .bool ok]) ∧ FromP 9223372036854775808 4503599627370496 (-1074) 9218868437227405312 n y ok ∧ Below w.heap.size w w' := by
  have hx' := hx
  obtain ⟨xg, xm, xa, rfl, ⟨zs, ⟨xo, xc, rfl, -⟩, -⟩, -⟩ := hx'
  go_enter Tryd.func19, Tryd.ntmps19
  go_upto_region 1 with fail
  have D := cell2_new w (.bool xg) (.slice xo zs.length xc) 38
  have K := bel_new w (.cells #[.bool xg, .slice xo zs.length xc] 38)
  replace hx := hx.below K
  generalize w.alloc (.cells #[.bool xg, .slice xo zs.length xc] 38) = w1 at *
  obtain ⟨c0, c1, -, -⟩ := D.told
  go_wp2_with fail
  with_reducible refine (fromi_64 (L.below K) (T.below K) hx hk).mono ?_
  rintro x' w2 ⟨y, ok, rfl, y0, y1, hF, kb⟩
  have HF := hide hF
  clear hF c0 c1
  go_wp2
  go_ret2
  exact ⟨y, ok, rfl, HF.out, below_trans K kb⟩

theorem lnan_3 (w : World) (v : Int) (v0 : 0 ≤ v) (v1 : v < 256) (hv : v % 4 = 3) : Calls Tryd.prog 27 #[.int .u8 v] w fun e w' => e = .returned (.int .u64 2143289344) ∧ w' = w := by
  go_enter Tryd.func27, Tryd.ntmps27
  go_wp2
  go_ret
  exact ⟨rfl, rfl⟩
set_option maxHeartbeats 2000000 in
theorem bparts_3 {w : World} (L : Lays w) (T : Brn w) (v : Int) (v0 : 0 ≤ v) (v1 : v < 256) (hv : v % 4 = 3) (x s : Int) (ng : Bool) (h0 : 0 ≤ x) (h1 : x < 4294967296) (hs : x % 2147483648 = s) (hng : ng = decide (2147483648 ≤ x)) : Calls Tryd.prog 24 #[.int .u8 v, .int .u64 x] w fun e w' => ∃ a m E ok, e = .returned (.tuple #[.bool a, .int .u64 m, .int .i64 E, .bool ok]) ∧ PartIs 8388608 (-149) 2139095040 s ng a m E ok ∧ Below w.heap.size w w' := by
  go_enter Tryd.func24, Tryd.ntmps24
  go_wp2_with fail
  with_reducible refine (parts_m L T x s ng h0 h1 hs hng).mono ?_
  rintro x' w1 ⟨a, m, E, ok, rfl, hP, K⟩
  have HP := hide hP
  clear hP hs hng
  go_wp2
  (try simp only [Exit.inBlock, Exit.then])
  exact bodyPost_ret (v := .tuple #[.bool a, .int .u64 m, .int .i64 E, .bool ok]) (by simp [results, Tryd.results24, go_sem]) rfl ⟨_, _, _, _, rfl, HP.out, K⟩
set_option maxHeartbeats 4000000 in
theorem bwhole_3 {w : World} (L : Lays w) (T : Brn w) (v : Int) (v0 : 0 ≤ v) (v1 : v < 256) (hv : v % 4 = 3) (x s : Int) (ng : Bool) (h0 : 0 ≤ x) (h1 : x < 4294967296) (hs : x % 2147483648 = s) (hng : ng = decide (2147483648 ≤ x)) : Calls Tryd.prog 28 #[.int .u8 v, .int .u64 x] w fun e w' => ∃ va n ok, e = .returned (.tuple #[va, .bool ok]) ∧ WNum w.heap.size w' va n 100 ∧ IntIs 8388608 (-149) 2139095040 s ng n ok ∧ Below w.heap.size w w' := by
  go_enter Tryd.func28, Tryd.ntmps28
  go_upto_region 1 with fail
  have D := cell2_new w (.bool false) (.slice none 0 0) 38
  have K1 := bel_new w (.cells #[.bool false, .slice none 0 0] 38)
  generalize w.alloc (.cells #[.bool false, .slice none 0 0] 38) = w1 at *
  go_wp2_with fail
  with_reducible refine (int_m (L.below K1) (T.below K1) x s ng h0 h1 hs hng).mono ?_
  rintro x' w5 ⟨vr, n, ok, rfl, hR, hI, K⟩
  have HI := hide hI
  have ltb : w.heap.size < w1.heap.size := D.lt
  obtain ⟨rg, ro, rl, rfl⟩ := hR.told
  clear hI hs hng
  have d0 := (D.below K).c0; have d1 := (D.below K).c1; have g0 := (D.below K).f0; have g1 := (D.below K).f1
  go_wp2
  have PD := (D.below K).put (.bool rg) (.slice ro rl rl)
  have KB := below_put2 (b := w.heap.size) (below_trans K1 K) (Nat.le_refl _) (.bool rg) (.slice ro rl rl)
  have WN := ((hR.put ltb 0 (.bool rg)).put ltb 1 (.slice ro rl rl)).low (B' := w.heap.size) (by omega)
  clear d0 d1 g0 g1 hR
  generalize (w5.setCell ⟨w.heap.size, 0, none⟩ (.bool rg)).setCell ⟨w.heap.size, 1, none⟩ (.slice ro rl rl) = w9 at *
  (try simp only [Exit.inBlock, Exit.then])
  exact bodyPost_ret (v := .tuple #[.agg #[.bool rg, .slice ro rl rl], .bool ok]) (by simp [results, Tryd.results28, go_sem, PD.c0, PD.c1]) rfl ⟨_, _, _, rfl, WN, HI.out, KB⟩
set_option maxHeartbeats 4000000 in
theorem bfrom_3 {w : World} (L : Lays w) (T : Brn w) (v : Int) (v0 : 0 ≤ v) (v1 : v < 256) (hv : v % 4 = 3) {vx : Value} {n : Int} {k : Nat} (hx : WArg w vx n k) (hk : k ≤ 1048577) : Calls Tryd.prog 19 #[.int .u8 v, vx] w fun e w' => ∃ y ok, e = .returned (.tuple #[.int .u64 y, .bool ok]) ∧ FromP 2147483648 8388608 (-149) 2139095040 n y ok ∧ Below w.heap.size w w' := by
  have hx' := hx
  obtain ⟨xg, xm, xa, rfl, ⟨zs, ⟨xo, xc, rfl, -⟩, -⟩, -⟩ := hx'
  go_enter Tryd.func19, Tryd.ntmps19
  go_upto_region 1 with fail
  have D := cell2_new w (.bool xg) (.slice xo zs.length xc) 38
  have K := bel_new w (.cells #[.bool xg, .slice xo zs.length xc] 38)
  replace hx := hx.below K
  generalize w.alloc (.cells #[.bool xg, .slice xo zs.length xc] 38) = w1 at *
  obtain ⟨c0, c1, -, -⟩ := D.told
  go_wp2_with fail
  with_reducible refine (fromi_m (L.below K) (T.below K) hx hk).mono ?_
  rintro x' w2 ⟨y, ok, rfl, y0, y1, hF, kb⟩
  have HF := hide hF
  clear hF c0 c1
  go_wp2
  go_ret2
  exact ⟨y, ok, rfl, HF.out, below_trans K kb⟩

set_option maxHeartbeats 4000000 in
theorem bto_0_0 {w : World} (L : Lays w) (T : Brn w) (u : Int) (u0 : 0 ≤ u) (u1 : u < 256) (hu : u % 4 = 0) (v : Int) (v0 : 0 ≤ v) (v1 : v < 256) (hv : v % 4 = 0) (x s : Int) (ng : Bool) (h0 : 0 ≤ x) (h1 : x < 65536) (hs : x % 32768 = s) (hng : ng = decide (32768 ≤ x)) :
    Calls Tryd.prog 16 #[.int .u8 u, .int .u8 v, .int .u64 x] w fun e w' => ∃ y ok, e = .returned (.tuple #[.int .u64 y, .bool ok]) ∧ ToP 32768 1024 (-24) 31744 1024 (-24) 31744 s ng y ok ∧ 0 ≤ y ∧ y < 65536 ∧ Below w.heap.size w w' := by
  have inner : Calls Tryd.prog 47 #[.int .u8 v, .int .u64 x] w fun e w' => ∃ y ok, e = .returned (.tuple #[.int .u64 y, .bool ok]) ∧ ToP 32768 1024 (-24) 31744 1024 (-24) 31744 s ng y ok ∧ 0 ≤ y ∧ y < 65536 ∧ Below w.heap.size w w' := by
    go_enter Tryd.func47, Tryd.ntmps47
    go_wp2_with fail
    with_reducible refine (to_16_16 L T x s ng h0 h1 hs hng).mono ?_
    rintro x' w1 ⟨y, ok, rfl, y0, y1, hT, K⟩
    have HT := hide hT
    clear hT hs hng
    go_wp2
    go_ret2
    exact ⟨y, ok, rfl, HT.out, y0, y1, K⟩
  clear hs hng
  go_enter Tryd.func16, Tryd.ntmps16
  go_wp2_with fail
  with_reducible refine inner.mono ?_
  rintro x' w1 ⟨y, ok, rfl, hT, y0, y1, K⟩
  have HT := hide hT
  clear hT inner
  go_wp2
  go_ret2
  exact ⟨y, ok, rfl, HT.out, y0, y1, K⟩

set_option maxHeartbeats 4000000 in
theorem bto_0_1 {w : World} (L : Lays w) (T : Brn w) (u : Int) (u0 : 0 ≤ u) (u1 : u < 256) (hu : u % 4 = 0) (v : Int) (v0 : 0 ≤ v) (v1 : v < 256) (hv : v % 4 = 1) (x s : Int) (ng : Bool) (h0 : 0 ≤ x) (h1 : x < 4294967296) (hs : x % 2147483648 = s) (hng : ng = decide (2147483648 ≤ x)) :
    Calls Tryd.prog 16 #[.int .u8 u, .int .u8 v, .int .u64 x] w fun e w' => ∃ y ok, e = .returned (.tuple #[.int .u64 y, .bool ok]) ∧ ToP 32768 1024 (-24) 31744 8388608 (-149) 2139095040 s ng y ok ∧ 0 ≤ y ∧ y < 65536 ∧ Below w.heap.size w w' := by
  have inner : Calls Tryd.prog 47 #[.int .u8 v, .int .u64 x] w fun e w' => ∃ y ok, e = .returned (.tuple #[.int .u64 y, .bool ok]) ∧ ToP 32768 1024 (-24) 31744 8388608 (-149) 2139095040 s ng y ok ∧ 0 ≤ y ∧ y < 65536 ∧ Below w.heap.size w w' := by
    go_enter Tryd.func47, Tryd.ntmps47
    go_wp2_with fail
    with_reducible refine (to_16_32 L T x s ng h0 h1 hs hng).mono ?_
    rintro x' w1 ⟨y, ok, rfl, y0, y1, hT, K⟩
    have HT := hide hT
    clear hT hs hng
    go_wp2
    go_ret2
    exact ⟨y, ok, rfl, HT.out, y0, y1, K⟩
  clear hs hng
  go_enter Tryd.func16, Tryd.ntmps16
  go_wp2_with fail
  with_reducible refine inner.mono ?_
  rintro x' w1 ⟨y, ok, rfl, hT, y0, y1, K⟩
  have HT := hide hT
  clear hT inner
  go_wp2
  go_ret2
  exact ⟨y, ok, rfl, HT.out, y0, y1, K⟩

set_option maxHeartbeats 4000000 in
theorem bto_0_2 {w : World} (L : Lays w) (T : Brn w) (u : Int) (u0 : 0 ≤ u) (u1 : u < 256) (hu : u % 4 = 0) (v : Int) (v0 : 0 ≤ v) (v1 : v < 256) (hv : v % 4 = 2) (x s : Int) (ng : Bool) (h0 : 0 ≤ x) (h1 : x < 18446744073709551616) (hs : x % 9223372036854775808 = s) (hng : ng = decide (9223372036854775808 ≤ x)) :
    Calls Tryd.prog 16 #[.int .u8 u, .int .u8 v, .int .u64 x] w fun e w' => ∃ y ok, e = .returned (.tuple #[.int .u64 y, .bool ok]) ∧ ToP 32768 1024 (-24) 31744 4503599627370496 (-1074) 9218868437227405312 s ng y ok ∧ 0 ≤ y ∧ y < 65536 ∧ Below w.heap.size w w' := by
  have inner : Calls Tryd.prog 47 #[.int .u8 v, .int .u64 x] w fun e w' => ∃ y ok, e = .returned (.tuple #[.int .u64 y, .bool ok]) ∧ ToP 32768 1024 (-24) 31744 4503599627370496 (-1074) 9218868437227405312 s ng y ok ∧ 0 ≤ y ∧ y < 65536 ∧ Below w.heap.size w w' := by
    go_enter Tryd.func47, Tryd.ntmps47
    go_wp2_with fail
    with_reducible refine (to_16_64 L T x s ng h0 h1 hs hng).mono ?_
    rintro x' w1 ⟨y, ok, rfl, y0, y1, hT, K⟩
    have HT := hide hT
    clear hT hs hng
    go_wp2
    go_ret2
    exact ⟨y, ok, rfl, HT.out, y0, y1, K⟩
  clear hs hng
  go_enter Tryd.func16, Tryd.ntmps16
  go_wp2_with fail
  with_reducible refine inner.mono ?_
  rintro x' w1 ⟨y, ok, rfl, hT, y0, y1, K⟩
  have HT := hide hT
  clear hT inner
  go_wp2
  go_ret2
  exact ⟨y, ok, rfl, HT.out, y0, y1, K⟩

set_option maxHeartbeats 4000000 in
theorem bto_0_3 {w : World} (L : Lays w) (T : Brn w) (u : Int) (u0 : 0 ≤ u) (u1 : u < 256) (hu : u % 4 = 0) (v : Int) (v0 : 0 ≤ v) (v1 : v < 256) (hv : v % 4 = 3) (x s : Int) (ng : Bool) (h0 : 0 ≤ x) (h1 : x < 4294967296) (hs : x % 2147483648 = s) (hng : ng = decide (2147483648 ≤ x)) :
    Calls Tryd.prog 16 #[.int .u8 u, .int .u8 v, .int .u64 x] w fun e w' => ∃ y ok, e = .returned (.tuple #[.int .u64 y, .bool ok]) ∧ ToP 32768 1024 (-24) 31744 8388608 (-149) 2139095040 s ng y ok ∧ 0 ≤ y ∧ y < 65536 ∧ Below w.heap.size w w' := by
  have inner : Calls Tryd.prog 47 #[.int .u8 v, .int .u64 x] w fun e w' => ∃ y ok, e = .returned (.tuple #[.int .u64 y, .bool ok]) ∧ ToP 32768 1024 (-24) 31744 8388608 (-149) 2139095040 s ng y ok ∧ 0 ≤ y ∧ y < 65536 ∧ Below w.heap.size w w' := by
    go_enter Tryd.func47, Tryd.ntmps47
    go_wp2_with fail
    with_reducible refine (to_16_m L T x s ng h0 h1 hs hng).mono ?_
    rintro x' w1 ⟨y, ok, rfl, y0, y1, hT, K⟩
    have HT := hide hT
    clear hT hs hng
    go_wp2
    go_ret2
    exact ⟨y, ok, rfl, HT.out, y0, y1, K⟩
  clear hs hng
  go_enter Tryd.func16, Tryd.ntmps16
  go_wp2_with fail
  with_reducible refine inner.mono ?_
  rintro x' w1 ⟨y, ok, rfl, hT, y0, y1, K⟩
  have HT := hide hT
  clear hT inner
  go_wp2
  go_ret2
  exact ⟨y, ok, rfl, HT.out, y0, y1, K⟩

set_option maxHeartbeats 4000000 in
theorem bto_1_0 {w : World} (L : Lays w) (T : Brn w) (u : Int) (u0 : 0 ≤ u) (u1 : u < 256) (hu : u % 4 = 1) (v : Int) (v0 : 0 ≤ v) (v1 : v < 256) (hv : v % 4 = 0) (x s : Int) (ng : Bool) (h0 : 0 ≤ x) (h1 : x < 65536) (hs : x % 32768 = s) (hng : ng = decide (32768 ≤ x)) :
    Calls Tryd.prog 16 #[.int .u8 u, .int .u8 v, .int .u64 x] w fun e w' => ∃ y ok, e = .returned (.tuple #[.int .u64 y, .bool ok]) ∧ ToP 2147483648 8388608 (-149) 2139095040 1024 (-24) 31744 s ng y ok ∧ 0 ≤ y ∧ y < 4294967296 ∧ Below w.heap.size w w' := by
  have inner : Calls Tryd.prog 50 #[.int .u8 v, .int .u64 x] w fun e w' => ∃ y ok, e = .returned (.tuple #[.int .u64 y, .bool ok]) ∧ ToP 2147483648 8388608 (-149) 2139095040 1024 (-24) 31744 s ng y ok ∧ 0 ≤ y ∧ y < 4294967296 ∧ Below w.heap.size w w' := by
    go_enter Tryd.func50, Tryd.ntmps50
    go_wp2_with fail
    with_reducible refine (to_32_16 L T x s ng h0 h1 hs hng).mono ?_
    rintro x' w1 ⟨y, ok, rfl, y0, y1, hT, K⟩
    have HT := hide hT
    clear hT hs hng
    go_wp2
    go_ret2
    exact ⟨y, ok, rfl, HT.out, y0, y1, K⟩
  clear hs hng
  go_enter Tryd.func16, Tryd.ntmps16
  go_wp2_with fail
  with_reducible refine inner.mono ?_
  rintro x' w1 ⟨y, ok, rfl, hT, y0, y1, K⟩
  have HT := hide hT
  clear hT inner
  go_wp2
  go_ret2
  exact ⟨y, ok, rfl, HT.out, y0, y1, K⟩

set_option maxHeartbeats 4000000 in
theorem bto_1_1 {w : World} (L : Lays w) (T : Brn w) (u : Int) (u0 : 0 ≤ u) (u1 : u < 256) (hu : u % 4 = 1) (v : Int) (v0 : 0 ≤ v) (v1 : v < 256) (hv : v % 4 = 1) (x s : Int) (ng : Bool) (h0 : 0 ≤ x) (h1 : x < 4294967296) (hs : x % 2147483648 = s) (hng : ng = decide (2147483648 ≤ x)) :
    Calls Tryd.prog 16 #[.int .u8 u, .int .u8 v, .int .u64 x] w fun e w' => ∃ y ok, e = .returned (.tuple #[.int .u64 y, .bool ok]) ∧ ToP 2147483648 8388608 (-149) 2139095040 8388608 (-149) 2139095040 s ng y ok ∧ 0 ≤ y ∧ y < 4294967296 ∧ Below w.heap.size w w' := by
  have inner : Calls Tryd.prog 50 #[.int .u8 v, .int .u64 x] w fun e w' => ∃ y ok, e = .returned (.tuple #[.int .u64 y, .bool ok]) ∧ ToP 2147483648 8388608 (-149) 2139095040 8388608 (-149) 2139095040 s ng y ok ∧ 0 ≤ y ∧ y < 4294967296 ∧ Below w.heap.size w w' := by
    go_enter Tryd.func50, Tryd.ntmps50
    go_wp2_with fail
    with_reducible refine (to_32_32 L T x s ng h0 h1 hs hng).mono ?_
    rintro x' w1 ⟨y, ok, rfl, y0, y1, hT, K⟩
    have HT := hide hT
    clear hT hs hng
    go_wp2
    go_ret2
    exact ⟨y, ok, rfl, HT.out, y0, y1, K⟩
  clear hs hng
  go_enter Tryd.func16, Tryd.ntmps16
  go_wp2_with fail
  with_reducible refine inner.mono ?_
  rintro x' w1 ⟨y, ok, rfl, hT, y0, y1, K⟩
  have HT := hide hT
  clear hT inner
  go_wp2
  go_ret2
  exact ⟨y, ok, rfl, HT.out, y0, y1, K⟩

set_option maxHeartbeats 4000000 in
theorem bto_1_2 {w : World} (L : Lays w) (T : Brn w) (u : Int) (u0 : 0 ≤ u) (u1 : u < 256) (hu : u % 4 = 1) (v : Int) (v0 : 0 ≤ v) (v1 : v < 256) (hv : v % 4 = 2) (x s : Int) (ng : Bool) (h0 : 0 ≤ x) (h1 : x < 18446744073709551616) (hs : x % 9223372036854775808 = s) (hng : ng = decide (9223372036854775808 ≤ x)) :
    Calls Tryd.prog 16 #[.int .u8 u, .int .u8 v, .int .u64 x] w fun e w' => ∃ y ok, e = .returned (.tuple #[.int .u64 y, .bool ok]) ∧ ToP 2147483648 8388608 (-149) 2139095040 4503599627370496 (-1074) 9218868437227405312 s ng y ok ∧ 0 ≤ y ∧ y < 4294967296 ∧ Below w.heap.size w w' := by
  have inner : Calls Tryd.prog 50 #[.int .u8 v, .int .u64 x] w fun e w' => ∃ y ok, e = .returned (.tuple #[.int .u64 y, .bool ok]) ∧ ToP 2147483648 8388608 (-149) 2139095040 4503599627370496 (-1074) 9218868437227405312 s ng y ok ∧ 0 ≤ y ∧ y < 4294967296 ∧ Below w.heap.size w w' := by
    go_enter Tryd.func50, Tryd.ntmps50
    go_wp2_with fail
    with_reducible refine (to_32_64 L T x s ng h0 h1 hs hng).mono ?_
    rintro x' w1 ⟨y, ok, rfl, y0, y1, hT, K⟩
    have HT := hide hT
    clear hT hs hng
    go_wp2
    go_ret2
    exact ⟨y, ok, rfl, HT.out, y0, y1, K⟩
  clear hs hng
  go_enter Tryd.func16, Tryd.ntmps16
  go_wp2_with fail
  with_reducible refine inner.mono ?_
  rintro x' w1 ⟨y, ok, rfl, hT, y0, y1, K⟩
  have HT := hide hT
  clear hT inner
  go_wp2
  go_ret2
  exact ⟨y, ok, rfl, HT.out, y0, y1, K⟩

set_option maxHeartbeats 4000000 in
theorem bto_1_3 {w : World} (L : Lays w) (T : Brn w) (u : Int) (u0 : 0 ≤ u) (u1 : u < 256) (hu : u % 4 = 1) (v : Int) (v0 : 0 ≤ v) (v1 : v < 256) (hv : v % 4 = 3) (x s : Int) (ng : Bool) (h0 : 0 ≤ x) (h1 : x < 4294967296) (hs : x % 2147483648 = s) (hng : ng = decide (2147483648 ≤ x)) :
    Calls Tryd.prog 16 #[.int .u8 u, .int .u8 v, .int .u64 x] w fun e w' => ∃ y ok, e = .returned (.tuple #[.int .u64 y, .bool ok]) ∧ ToP 2147483648 8388608 (-149) 2139095040 8388608 (-149) 2139095040 s ng y ok ∧ 0 ≤ y ∧ y < 4294967296 ∧ Below w.heap.size w w' := by
  have inner : Calls Tryd.prog 50 #[.int .u8 v, .int .u64 x] w fun e w' => ∃ y ok, e = .returned (.tuple #[.int .u64 y, .bool ok]) ∧ ToP 2147483648 8388608 (-149) 2139095040 8388608 (-149) 2139095040 s ng y ok ∧ 0 ≤ y ∧ y < 4294967296 ∧ Below w.heap.size w w' := by
    go_enter Tryd.func50, Tryd.ntmps50
    go_wp2_with fail
    with_reducible refine (to_32_m L T x s ng h0 h1 hs hng).mono ?_
    rintro x' w1 ⟨y, ok, rfl, y0, y1, hT, K⟩
    have HT := hide hT
    clear hT hs hng
    go_wp2
    go_ret2
    exact ⟨y, ok, rfl, HT.out, y0, y1, K⟩
  clear hs hng
  go_enter Tryd.func16, Tryd.ntmps16
  go_wp2_with fail
  with_reducible refine inner.mono ?_
  rintro x' w1 ⟨y, ok, rfl, hT, y0, y1, K⟩
  have HT := hide hT
  clear hT inner
  go_wp2
  go_ret2
  exact ⟨y, ok, rfl, HT.out, y0, y1, K⟩

set_option maxHeartbeats 4000000 in
theorem bto_2_0 {w : World} (L : Lays w) (T : Brn w) (u : Int) (u0 : 0 ≤ u) (u1 : u < 256) (hu : u % 4 = 2) (v : Int) (v0 : 0 ≤ v) (v1 : v < 256) (hv : v % 4 = 0) (x s : Int) (ng : Bool) (h0 : 0 ≤ x) (h1 : x < 65536) (hs : x % 32768 = s) (hng : ng = decide (32768 ≤ x)) :
    Calls Tryd.prog 16 #[.int .u8 u, .int .u8 v, .int .u64 x] w fun e w' => ∃ y ok, e = .returned (.tuple #[.int .u64 y, .bool ok]) ∧ ToP 9223372036854775808 4503599627370496 (-1074) 9218868437227405312 1024 (-24) 31744 s ng y ok ∧ 0 ≤ y ∧ y < 18446744073709551616 ∧ Below w.heap.size w w' := by
  have inner : Calls Tryd.prog 48 #[.int .u8 v, .int .u64 x] w fun e w' => ∃ y ok, e = .returned (.tuple #[.int .u64 y, .bool ok]) ∧ ToP 9223372036854775808 4503599627370496 (-1074) 9218868437227405312 1024 (-24) 31744 s ng y ok ∧ 0 ≤ y ∧ y < 18446744073709551616 ∧ Below w.heap.size w w' := by
    go_enter Tryd.func48, Tryd.ntmps48
    go_wp2_with fail
    with_reducible refine (to_64_16 L T x s ng h0 h1 hs hng).mono ?_
    rintro x' w1 ⟨y, ok, rfl, y0, y1, hT, K⟩
    have HT := hide hT
    clear hT hs hng
    go_wp2
    go_ret2
    exact ⟨y, ok, rfl, HT.out, y0, y1, K⟩
  clear hs hng
  go_enter Tryd.func16, Tryd.ntmps16
  go_wp2_with fail
  with_reducible refine inner.mono ?_
  rintro x' w1 ⟨y, ok, rfl, hT, y0, y1, K⟩
  have HT := hide hT
  clear hT inner
  go_wp2
  go_ret2
  exact ⟨y, ok, rfl, HT.out, y0, y1, K⟩

set_option maxHeartbeats 4000000 in
theorem bto_2_1 {w : World} (L : Lays w) (T : Brn w) (u : Int) (u0 : 0 ≤ u) (u1 : u < 256) (hu : u % 4 = 2) (v : Int) (v0 : 0 ≤ v) (v1 : v < 256) (hv : v % 4 = 1) (x s : Int) (ng : Bool) (h0 : 0 ≤ x) (h1 : x < 4294967296) (hs : x % 2147483648 = s) (hng : ng = decide (2147483648 ≤ x)) :
    Calls Tryd.prog 16 #[.int .u8 u, .int .u8 v, .int .u64 x] w fun e w' => ∃ y ok, e = .returned (.tuple #[.int .u64 y, .bool ok]) ∧ ToP 9223372036854775808 4503599627370496 (-1074) 9218868437227405312 8388608 (-149) 2139095040 s ng y ok ∧ 0 ≤ y ∧ y < 18446744073709551616 ∧ Below w.heap.size w w' := by
  have inner : Calls Tryd.prog 48 #[.int .u8 v, .int .u64 x] w fun e w' => ∃ y ok, e = .returned (.tuple #[.int .u64 y, .bool ok]) ∧ ToP 9223372036854775808 4503599627370496 (-1074) 9218868437227405312 8388608 (-149) 2139095040 s ng y ok ∧ 0 ≤ y ∧ y < 18446744073709551616 ∧ Below w.heap.size w w' := by
    go_enter Tryd.func48, Tryd.ntmps48
    go_wp2_with fail
    with_reducible refine (to_64_32 L T x s ng h0 h1 hs hng).mono ?_
    rintro x' w1 ⟨y, ok, rfl, y0, y1, hT, K⟩
    have HT := hide hT
    clear hT hs hng
    go_wp2
    go_ret2
    exact ⟨y, ok, rfl, HT.out, y0, y1, K⟩
  clear hs hng
  go_enter Tryd.func16, Tryd.ntmps16
  go_wp2_with fail
  with_reducible refine inner.mono ?_
  rintro x' w1 ⟨y, ok, rfl, hT, y0, y1, K⟩
  have HT := hide hT
  clear hT inner
  go_wp2
  go_ret2
  exact ⟨y, ok, rfl, HT.out, y0, y1, K⟩

set_option maxHeartbeats 4000000 in
theorem bto_2_2 {w : World} (L : Lays w) (T : Brn w) (u : Int) (u0 : 0 ≤ u) (u1 : u < 256) (hu : u % 4 = 2) (v : Int) (v0 : 0 ≤ v) (v1 : v < 256) (hv : v % 4 = 2) (x s : Int) (ng : Bool) (h0 : 0 ≤ x) (h1 : x < 18446744073709551616) (hs : x % 9223372036854775808 = s) (hng : ng = decide (9223372036854775808 ≤ x)) :
    Calls Tryd.prog 16 #[.int .u8 u, .int .u8 v, .int .u64 x] w fun e w' => ∃ y ok, e = .returned (.tuple #[.int .u64 y, .bool ok]) ∧ ToP 9223372036854775808 4503599627370496 (-1074) 9218868437227405312 4503599627370496 (-1074) 9218868437227405312 s ng y ok ∧ 0 ≤ y ∧ y < 18446744073709551616 ∧ Below w.heap.size w w' := by
  have inner : Calls Tryd.prog 48 #[.int .u8 v, .int .u64 x] w fun e w' => ∃ y ok, e = .returned (.tuple #[.int .u64 y, .bool ok]) ∧ ToP 9223372036854775808 4503599627370496 (-1074) 9218868437227405312 4503599627370496 (-1074) 9218868437227405312 s ng y ok ∧ 0 ≤ y ∧ y < 18446744073709551616 ∧ Below w.heap.size w w' := by
    go_enter Tryd.func48, Tryd.ntmps48
    go_wp2_with fail
    with_reducible refine (to_64_64 L T x s ng h0 h1 hs hng).mono ?_
    rintro x' w1 ⟨y, ok, rfl, y0, y1, hT, K⟩
    have HT := hide hT
    clear hT hs hng
    go_wp2
    go_ret2
    exact ⟨y, ok, rfl, HT.out, y0, y1, K⟩
  clear hs hng
  go_enter Tryd.func16, Tryd.ntmps16
  go_wp2_with fail
  with_reducible refine inner.mono ?_
  rintro x' w1 ⟨y, ok, rfl, hT, y0, y1, K⟩
  have HT := hide hT
  clear hT inner
  go_wp2
  go_ret2
  exact ⟨y, ok, rfl, HT.out, y0, y1, K⟩

set_option maxHeartbeats 4000000 in
theorem bto_2_3 {w : World} (L : Lays w) (T : Brn w) (u : Int) (u0 : 0 ≤ u) (u1 : u < 256) (hu : u % 4 = 2) (v : Int) (v0 : 0 ≤ v) (v1 : v < 256) (hv : v % 4 = 3) (x s : Int) (ng : Bool) (h0 : 0 ≤ x) (h1 : x < 4294967296) (hs : x % 2147483648 = s) (hng : ng = decide (2147483648 ≤ x)) :
    Calls Tryd.prog 16 #[.int .u8 u, .int .u8 v, .int .u64 x] w fun e w' => ∃ y ok, e = .returned (.tuple #[.int .u64 y, .bool ok]) ∧ ToP 9223372036854775808 4503599627370496 (-1074) 9218868437227405312 8388608 (-149) 2139095040 s ng y ok ∧ 0 ≤ y ∧ y < 18446744073709551616 ∧ Below w.heap.size w w' := by
  have inner : Calls Tryd.prog 48 #[.int .u8 v, .int .u64 x] w fun e w' => ∃ y ok, e = .returned (.tuple #[.int .u64 y, .bool ok]) ∧ ToP 9223372036854775808 4503599627370496 (-1074) 9218868437227405312 8388608 (-149) 2139095040 s ng y ok ∧ 0 ≤ y ∧ y < 18446744073709551616 ∧ Below w.heap.size w w' := by
    go_enter Tryd.func48, Tryd.ntmps48
    go_wp2_with fail
    with_reducible refine (to_64_m L T x s ng h0 h1 hs hng).mono ?_
    rintro x' w1 ⟨y, ok, rfl, y0, y1, hT, K⟩
    have HT := hide hT
    clear hT hs hng
    go_wp2
    go_ret2
    exact ⟨y, ok, rfl, HT.out, y0, y1, K⟩
  clear hs hng
  go_enter Tryd.func16, Tryd.ntmps16
  go_wp2_with fail
  with_reducible refine inner.mono ?_
  rintro x' w1 ⟨y, ok, rfl, hT, y0, y1, K⟩
  have HT := hide hT
  clear hT inner
  go_wp2
  go_ret2
  exact ⟨y, ok, rfl, HT.out, y0, y1, K⟩

set_option maxHeartbeats 4000000 in
theorem bto_3_0 {w : World} (L : Lays w) (T : Brn w) (u : Int) (u0 : 0 ≤ u) (u1 : u < 256) (hu : u % 4 = 3) (v : Int) (v0 : 0 ≤ v) (v1 : v < 256) (hv : v % 4 = 0) (x s : Int) (ng : Bool) (h0 : 0 ≤ x) (h1 : x < 65536) (hs : x % 32768 = s) (hng : ng = decide (32768 ≤ x)) :
    Calls Tryd.prog 16 #[.int .u8 u, .int .u8 v, .int .u64 x] w fun e w' => ∃ y ok, e = .returned (.tuple #[.int .u64 y, .bool ok]) ∧ ToP 2147483648 8388608 (-149) 2139095040 1024 (-24) 31744 s ng y ok ∧ 0 ≤ y ∧ y < 4294967296 ∧ Below w.heap.size w w' := by
  have inner : Calls Tryd.prog 49 #[.int .u8 v, .int .u64 x] w fun e w' => ∃ y ok, e = .returned (.tuple #[.int .u64 y, .bool ok]) ∧ ToP 2147483648 8388608 (-149) 2139095040 1024 (-24) 31744 s ng y ok ∧ 0 ≤ y ∧ y < 4294967296 ∧ Below w.heap.size w w' := by
    go_enter Tryd.func49, Tryd.ntmps49
    go_wp2_with fail
    with_reducible refine (to_m_16 L T x s ng h0 h1 hs hng).mono ?_
    rintro x' w1 ⟨y, ok, rfl, y0, y1, hT, K⟩
    have HT := hide hT
    clear hT hs hng
    go_wp2
    go_ret2
    exact ⟨y, ok, rfl, HT.out, y0, y1, K⟩
  clear hs hng
  go_enter Tryd.func16, Tryd.ntmps16
  go_wp2_with fail
  with_reducible refine inner.mono ?_
  rintro x' w1 ⟨y, ok, rfl, hT, y0, y1, K⟩
  have HT := hide hT
  clear hT inner
  go_wp2
  go_ret2
  exact ⟨y, ok, rfl, HT.out, y0, y1, K⟩

set_option maxHeartbeats 4000000 in
theorem bto_3_1 {w : World} (L : Lays w) (T : Brn w) (u : Int) (u0 : 0 ≤ u) (u1 : u < 256) (hu : u % 4 = 3) (v : Int) (v0 : 0 ≤ v) (v1 : v < 256) (hv : v % 4 = 1) (x s : Int) (ng : Bool) (h0 : 0 ≤ x) (h1 : x < 4294967296) (hs : x % 2147483648 = s) (hng : ng = decide (2147483648 ≤ x)) :
    Calls Tryd.prog 16 #[.int .u8 u, .int .u8 v, .int .u64 x] w fun e w' => ∃ y ok, e = .returned (.tuple #[.int .u64 y, .bool ok]) ∧ ToP 2147483648 8388608 (-149) 2139095040 8388608 (-149) 2139095040 s ng y ok ∧ 0 ≤ y ∧ y < 4294967296 ∧ Below w.heap.size w w' := by
  have inner : Calls Tryd.prog 49 #[.int .u8 v, .int .u64 x] w fun e w' => ∃ y ok, e = .returned (.tuple #[.int .u64 y, .bool ok]) ∧ ToP 2147483648 8388608 (-149) 2139095040 8388608 (-149) 2139095040 s ng y ok ∧ 0 ≤ y ∧ y < 4294967296 ∧ Below w.heap.size w w' := by
    go_enter Tryd.func49, Tryd.ntmps49
    go_wp2_with fail
    with_reducible refine (to_m_32 L T x s ng h0 h1 hs hng).mono ?_
    rintro x' w1 ⟨y, ok, rfl, y0, y1, hT, K⟩
    have HT := hide hT
    clear hT hs hng
    go_wp2
    go_ret2
    exact ⟨y, ok, rfl, HT.out, y0, y1, K⟩
  clear hs hng
  go_enter Tryd.func16, Tryd.ntmps16
  go_wp2_with fail
  with_reducible refine inner.mono ?_
  rintro x' w1 ⟨y, ok, rfl, hT, y0, y1, K⟩
  have HT := hide hT
  clear hT inner
  go_wp2
  go_ret2
  exact ⟨y, ok, rfl, HT.out, y0, y1, K⟩

set_option maxHeartbeats 4000000 in
theorem bto_3_2 {w : World} (L : Lays w) (T : Brn w) (u : Int) (u0 : 0 ≤ u) (u1 : u < 256) (hu : u % 4 = 3) (v : Int) (v0 : 0 ≤ v) (v1 : v < 256) (hv : v % 4 = 2) (x s : Int) (ng : Bool) (h0 : 0 ≤ x) (h1 : x < 18446744073709551616) (hs : x % 9223372036854775808 = s) (hng : ng = decide (9223372036854775808 ≤ x)) :
    Calls Tryd.prog 16 #[.int .u8 u, .int .u8 v, .int .u64 x] w fun e w' => ∃ y ok, e = .returned (.tuple #[.int .u64 y, .bool ok]) ∧ ToP 2147483648 8388608 (-149) 2139095040 4503599627370496 (-1074) 9218868437227405312 s ng y ok ∧ 0 ≤ y ∧ y < 4294967296 ∧ Below w.heap.size w w' := by
  have inner : Calls Tryd.prog 49 #[.int .u8 v, .int .u64 x] w fun e w' => ∃ y ok, e = .returned (.tuple #[.int .u64 y, .bool ok]) ∧ ToP 2147483648 8388608 (-149) 2139095040 4503599627370496 (-1074) 9218868437227405312 s ng y ok ∧ 0 ≤ y ∧ y < 4294967296 ∧ Below w.heap.size w w' := by
    go_enter Tryd.func49, Tryd.ntmps49
    go_wp2_with fail
    with_reducible refine (to_m_64 L T x s ng h0 h1 hs hng).mono ?_
    rintro x' w1 ⟨y, ok, rfl, y0, y1, hT, K⟩
    have HT := hide hT
    clear hT hs hng
    go_wp2
    go_ret2
    exact ⟨y, ok, rfl, HT.out, y0, y1, K⟩
  clear hs hng
  go_enter Tryd.func16, Tryd.ntmps16
  go_wp2_with fail
  with_reducible refine inner.mono ?_
  rintro x' w1 ⟨y, ok, rfl, hT, y0, y1, K⟩
  have HT := hide hT
  clear hT inner
  go_wp2
  go_ret2
  exact ⟨y, ok, rfl, HT.out, y0, y1, K⟩

set_option maxHeartbeats 4000000 in
theorem bto_3_3 {w : World} (L : Lays w) (T : Brn w) (u : Int) (u0 : 0 ≤ u) (u1 : u < 256) (hu : u % 4 = 3) (v : Int) (v0 : 0 ≤ v) (v1 : v < 256) (hv : v % 4 = 3) (x s : Int) (ng : Bool) (h0 : 0 ≤ x) (h1 : x < 4294967296) (hs : x % 2147483648 = s) (hng : ng = decide (2147483648 ≤ x)) :
    Calls Tryd.prog 16 #[.int .u8 u, .int .u8 v, .int .u64 x] w fun e w' => ∃ y ok, e = .returned (.tuple #[.int .u64 y, .bool ok]) ∧ ToP 2147483648 8388608 (-149) 2139095040 8388608 (-149) 2139095040 s ng y ok ∧ 0 ≤ y ∧ y < 4294967296 ∧ Below w.heap.size w w' := by
  have inner : Calls Tryd.prog 49 #[.int .u8 v, .int .u64 x] w fun e w' => ∃ y ok, e = .returned (.tuple #[.int .u64 y, .bool ok]) ∧ ToP 2147483648 8388608 (-149) 2139095040 8388608 (-149) 2139095040 s ng y ok ∧ 0 ≤ y ∧ y < 4294967296 ∧ Below w.heap.size w w' := by
    go_enter Tryd.func49, Tryd.ntmps49
    go_wp2_with fail
    with_reducible refine (to_m_m L T x s ng h0 h1 hs hng).mono ?_
    rintro x' w1 ⟨y, ok, rfl, y0, y1, hT, K⟩
    have HT := hide hT
    clear hT hs hng
    go_wp2
    go_ret2
    exact ⟨y, ok, rfl, HT.out, y0, y1, K⟩
  clear hs hng
  go_enter Tryd.func16, Tryd.ntmps16
  go_wp2_with fail
  with_reducible refine inner.mono ?_
  rintro x' w1 ⟨y, ok, rfl, hT, y0, y1, K⟩
  have HT := hide hT
  clear hT inner
  go_wp2
  go_ret2
  exact ⟨y, ok, rfl, HT.out, y0, y1, K⟩

end Go.Proofs.YtmmkdihhcmcjjaaDoor
