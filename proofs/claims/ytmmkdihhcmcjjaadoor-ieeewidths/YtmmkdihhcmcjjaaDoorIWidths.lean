/- IeeeWidths' walk (mk_iwid.py) -/
import Derived.Test.YtmmkdihhcmcjjaaDoorITo16
import Derived.Test.YtmmkdihhcmcjjaaDoorITo32
import Derived.Test.YtmmkdihhcmcjjaaDoorITo64
import Derived.Test.YtmmkdihhcmcjjaaDoorITom
import Derived.Test.YtmmkdihhcmcjjaaDoorIRefT
import Derived.Test.YtmmkdihhcmcjjaaDoorIeeeL
namespace Go.Proofs.YtmmkdihhcmcjjaaDoor
open Go.RowKit
set_option linter.unusedVariables false

set_option maxHeartbeats 4000000 in
theorem lto_0_0 {w : World} (L : Lays w) (T : Brn w) (u : Int) (u0 : 0 ≤ u) (u1 : u < 256) (hu : u % 4 = 0) (v : Int) (v0 : 0 ≤ v) (v1 : v < 256) (hv : v % 4 = 0) (x s : Int) (ng : Bool) (h0 : 0 ≤ x) (h1 : x < 65536) (hs : x % 32768 = s) (hng : ng = decide (32768 ≤ x)) :
    Calls Tryd.prog 16 #[.int .u8 u, .int .u8 v, .int .u64 x] w fun e w' => ∃ y ok, e = .returned (.tuple #[.int .u64 y, .bool ok]) ∧ ToP 32768 1024 (-24) 31744 1024 (-24) 31744 s ng y ok ∧ Below w.heap.size w w' := by
  have inner : Calls Tryd.prog 47 #[.int .u8 v, .int .u64 x] w fun e w' => ∃ y ok, e = .returned (.tuple #[.int .u64 y, .bool ok]) ∧ ToP 32768 1024 (-24) 31744 1024 (-24) 31744 s ng y ok ∧ Below w.heap.size w w' := by
    go_enter Tryd.func47, Tryd.ntmps47
    go_wp2_with fail
    with_reducible refine (to_16_16 L T x s ng h0 h1 hs hng).mono ?_
    rintro x' w1 ⟨y, ok, rfl, y0, y1, hT, K⟩
    have HT := hide hT
    clear hT hs hng
    go_wp2
    go_ret2
    exact ⟨y, ok, rfl, HT.out, K⟩
  clear hs hng
  go_enter Tryd.func16, Tryd.ntmps16
  go_wp2_with fail
  with_reducible refine inner.mono ?_
  rintro x' w1 ⟨y, ok, rfl, hT, K⟩
  have HT := hide hT
  clear hT inner
  go_wp2
  go_ret2
  exact ⟨y, ok, rfl, HT.out, K⟩
set_option maxRecDepth 20000 in
set_option maxHeartbeats 4000000 in
theorem iwid_0_0 {w : World} (L : Lays w) (T : Brn w) (u : Int) (u0 : 0 ≤ u) (u1 : u < 256) (hu : u % 4 = 0) (v : Int) (v0 : 0 ≤ v) (v1 : v < 256) (hv : v % 4 = 0) (x : Int) (x0 : 0 ≤ x) (x1 : x < 18446744073709551616) :
    Calls Tryd.prog 4 #[.int .u8 u, .int .u8 v, .int .u64 x] w fun e w' => e = .returned (.bool true) ∧ Below w.heap.size w w' := by
  have K := Below.refl w.heap.size w
  go_enter Tryd.func4, Tryd.ntmps4
  go_wp2_with fail
  with_reducible refine (lfit_0 _ v v0 v1 hv x x0 x1).mono ?_
  rintro x' u49 ⟨rfl, rfl⟩
  obtain ⟨X, hX⟩ : ∃ X, x % 65536 = X := ⟨_, rfl⟩
  have X0 : 0 ≤ X := by omega
  have X1 : X < 65536 := by omega
  rw [hX]
  clear hX
  obtain ⟨s, hs⟩ : ∃ s, X % 32768 = s := ⟨_, rfl⟩
  have s0 : 0 ≤ s := by omega
  obtain ⟨ng, hng⟩ : ∃ b, b = decide (32768 ≤ X) := ⟨_, rfl⟩
  have Hs := hide hs
  have Hng := hide hng
  clear hs hng
  go_wp2_with fail
  with_reducible refine (lto_0_0 (L.below K) (T.below K) u u0 u1 hu v v0 v1 hv X s ng X0 X1 Hs.out Hng.out).mono ?_
  rintro x' u50 ⟨y, ok, rfl, hT, kb⟩
  replace K := below_trans K kb; clear kb
  go_wp2_with fail
  with_reducible refine (lwidth_0 _ u u0 u1 hu).mono ?_
  rintro x' u51 ⟨rfl, rfl⟩
  go_wp2_with fail
  with_reducible refine (lwidth_0 _ v v0 v1 hv).mono ?_
  rintro x' u52 ⟨rfl, rfl⟩
  go_wp2_with fail
  with_reducible refine (rTo_h_h _ X s ng X0 X1 Hs.out Hng.out).mono ?_
  rintro x' u53 ⟨y', ok', rfl, hR, kb⟩
  replace K := below_trans K kb; clear kb
  obtain ⟨rfl, rfl⟩ := to_same s0 hT hR
  clear hT hR
  go_wp2
  go_ret
  exact ⟨rfl, K⟩

set_option maxHeartbeats 4000000 in
theorem lto_0_1 {w : World} (L : Lays w) (T : Brn w) (u : Int) (u0 : 0 ≤ u) (u1 : u < 256) (hu : u % 4 = 0) (v : Int) (v0 : 0 ≤ v) (v1 : v < 256) (hv : v % 4 = 1) (x s : Int) (ng : Bool) (h0 : 0 ≤ x) (h1 : x < 4294967296) (hs : x % 2147483648 = s) (hng : ng = decide (2147483648 ≤ x)) :
    Calls Tryd.prog 16 #[.int .u8 u, .int .u8 v, .int .u64 x] w fun e w' => ∃ y ok, e = .returned (.tuple #[.int .u64 y, .bool ok]) ∧ ToP 32768 1024 (-24) 31744 8388608 (-149) 2139095040 s ng y ok ∧ Below w.heap.size w w' := by
  have inner : Calls Tryd.prog 47 #[.int .u8 v, .int .u64 x] w fun e w' => ∃ y ok, e = .returned (.tuple #[.int .u64 y, .bool ok]) ∧ ToP 32768 1024 (-24) 31744 8388608 (-149) 2139095040 s ng y ok ∧ Below w.heap.size w w' := by
    go_enter Tryd.func47, Tryd.ntmps47
    go_wp2_with fail
    with_reducible refine (to_16_32 L T x s ng h0 h1 hs hng).mono ?_
    rintro x' w1 ⟨y, ok, rfl, y0, y1, hT, K⟩
    have HT := hide hT
    clear hT hs hng
    go_wp2
    go_ret2
    exact ⟨y, ok, rfl, HT.out, K⟩
  clear hs hng
  go_enter Tryd.func16, Tryd.ntmps16
  go_wp2_with fail
  with_reducible refine inner.mono ?_
  rintro x' w1 ⟨y, ok, rfl, hT, K⟩
  have HT := hide hT
  clear hT inner
  go_wp2
  go_ret2
  exact ⟨y, ok, rfl, HT.out, K⟩
set_option maxRecDepth 20000 in
set_option maxHeartbeats 4000000 in
theorem iwid_0_1 {w : World} (L : Lays w) (T : Brn w) (u : Int) (u0 : 0 ≤ u) (u1 : u < 256) (hu : u % 4 = 0) (v : Int) (v0 : 0 ≤ v) (v1 : v < 256) (hv : v % 4 = 1) (x : Int) (x0 : 0 ≤ x) (x1 : x < 18446744073709551616) :
    Calls Tryd.prog 4 #[.int .u8 u, .int .u8 v, .int .u64 x] w fun e w' => e = .returned (.bool true) ∧ Below w.heap.size w w' := by
  have K := Below.refl w.heap.size w
  go_enter Tryd.func4, Tryd.ntmps4
  go_wp2_with fail
  with_reducible refine (lfit_1 _ v v0 v1 hv x x0 x1).mono ?_
  rintro x' u54 ⟨rfl, rfl⟩
  obtain ⟨X, hX⟩ : ∃ X, x % 4294967296 = X := ⟨_, rfl⟩
  have X0 : 0 ≤ X := by omega
  have X1 : X < 4294967296 := by omega
  rw [hX]
  clear hX
  obtain ⟨s, hs⟩ : ∃ s, X % 2147483648 = s := ⟨_, rfl⟩
  have s0 : 0 ≤ s := by omega
  obtain ⟨ng, hng⟩ : ∃ b, b = decide (2147483648 ≤ X) := ⟨_, rfl⟩
  have Hs := hide hs
  have Hng := hide hng
  clear hs hng
  go_wp2_with fail
  with_reducible refine (lto_0_1 (L.below K) (T.below K) u u0 u1 hu v v0 v1 hv X s ng X0 X1 Hs.out Hng.out).mono ?_
  rintro x' u55 ⟨y, ok, rfl, hT, kb⟩
  replace K := below_trans K kb; clear kb
  go_wp2_with fail
  with_reducible refine (lwidth_0 _ u u0 u1 hu).mono ?_
  rintro x' u56 ⟨rfl, rfl⟩
  go_wp2_with fail
  with_reducible refine (lwidth_1 _ v v0 v1 hv).mono ?_
  rintro x' u57 ⟨rfl, rfl⟩
  go_wp2_with fail
  with_reducible refine (rTo_h_s _ X s ng X0 X1 Hs.out Hng.out).mono ?_
  rintro x' u58 ⟨y', ok', rfl, hR, kb⟩
  replace K := below_trans K kb; clear kb
  obtain ⟨rfl, rfl⟩ := to_same s0 hT hR
  clear hT hR
  go_wp2
  go_ret
  exact ⟨rfl, K⟩

set_option maxHeartbeats 4000000 in
theorem lto_0_2 {w : World} (L : Lays w) (T : Brn w) (u : Int) (u0 : 0 ≤ u) (u1 : u < 256) (hu : u % 4 = 0) (v : Int) (v0 : 0 ≤ v) (v1 : v < 256) (hv : v % 4 = 2) (x s : Int) (ng : Bool) (h0 : 0 ≤ x) (h1 : x < 18446744073709551616) (hs : x % 9223372036854775808 = s) (hng : ng = decide (9223372036854775808 ≤ x)) :
    Calls Tryd.prog 16 #[.int .u8 u, .int .u8 v, .int .u64 x] w fun e w' => ∃ y ok, e = .returned (.tuple #[.int .u64 y, .bool ok]) ∧ ToP 32768 1024 (-24) 31744 4503599627370496 (-1074) 9218868437227405312 s ng y ok ∧ Below w.heap.size w w' := by
  have inner : Calls Tryd.prog 47 #[.int .u8 v, .int .u64 x] w fun e w' => ∃ y ok, e = .returned (.tuple #[.int .u64 y, .bool ok]) ∧ ToP 32768 1024 (-24) 31744 4503599627370496 (-1074) 9218868437227405312 s ng y ok ∧ Below w.heap.size w w' := by
    go_enter Tryd.func47, Tryd.ntmps47
    go_wp2_with fail
    with_reducible refine (to_16_64 L T x s ng h0 h1 hs hng).mono ?_
    rintro x' w1 ⟨y, ok, rfl, y0, y1, hT, K⟩
    have HT := hide hT
    clear hT hs hng
    go_wp2
    go_ret2
    exact ⟨y, ok, rfl, HT.out, K⟩
  clear hs hng
  go_enter Tryd.func16, Tryd.ntmps16
  go_wp2_with fail
  with_reducible refine inner.mono ?_
  rintro x' w1 ⟨y, ok, rfl, hT, K⟩
  have HT := hide hT
  clear hT inner
  go_wp2
  go_ret2
  exact ⟨y, ok, rfl, HT.out, K⟩
set_option maxRecDepth 20000 in
set_option maxHeartbeats 4000000 in
theorem iwid_0_2 {w : World} (L : Lays w) (T : Brn w) (u : Int) (u0 : 0 ≤ u) (u1 : u < 256) (hu : u % 4 = 0) (v : Int) (v0 : 0 ≤ v) (v1 : v < 256) (hv : v % 4 = 2) (x : Int) (x0 : 0 ≤ x) (x1 : x < 18446744073709551616) :
    Calls Tryd.prog 4 #[.int .u8 u, .int .u8 v, .int .u64 x] w fun e w' => e = .returned (.bool true) ∧ Below w.heap.size w w' := by
  have K := Below.refl w.heap.size w
  go_enter Tryd.func4, Tryd.ntmps4
  go_wp2_with fail
  with_reducible refine (lfit_2 _ v v0 v1 hv x x0 x1).mono ?_
  rintro x' u59 ⟨rfl, rfl⟩
  obtain ⟨X, hX⟩ : ∃ X, x % 18446744073709551616 = X := ⟨_, rfl⟩
  have X0 : 0 ≤ X := by omega
  have X1 : X < 18446744073709551616 := by omega
  rw [hX]
  clear hX
  obtain ⟨s, hs⟩ : ∃ s, X % 9223372036854775808 = s := ⟨_, rfl⟩
  have s0 : 0 ≤ s := by omega
  obtain ⟨ng, hng⟩ : ∃ b, b = decide (9223372036854775808 ≤ X) := ⟨_, rfl⟩
  have Hs := hide hs
  have Hng := hide hng
  clear hs hng
  go_wp2_with fail
  with_reducible refine (lto_0_2 (L.below K) (T.below K) u u0 u1 hu v v0 v1 hv X s ng X0 X1 Hs.out Hng.out).mono ?_
  rintro x' u60 ⟨y, ok, rfl, hT, kb⟩
  replace K := below_trans K kb; clear kb
  go_wp2_with fail
  with_reducible refine (lwidth_0 _ u u0 u1 hu).mono ?_
  rintro x' u61 ⟨rfl, rfl⟩
  go_wp2_with fail
  with_reducible refine (lwidth_2 _ v v0 v1 hv).mono ?_
  rintro x' u62 ⟨rfl, rfl⟩
  go_wp2_with fail
  with_reducible refine (rTo_h_d _ X s ng X0 X1 Hs.out Hng.out).mono ?_
  rintro x' u63 ⟨y', ok', rfl, hR, kb⟩
  replace K := below_trans K kb; clear kb
  obtain ⟨rfl, rfl⟩ := to_same s0 hT hR
  clear hT hR
  go_wp2
  go_ret
  exact ⟨rfl, K⟩

set_option maxHeartbeats 4000000 in
theorem lto_0_3 {w : World} (L : Lays w) (T : Brn w) (u : Int) (u0 : 0 ≤ u) (u1 : u < 256) (hu : u % 4 = 0) (v : Int) (v0 : 0 ≤ v) (v1 : v < 256) (hv : v % 4 = 3) (x s : Int) (ng : Bool) (h0 : 0 ≤ x) (h1 : x < 4294967296) (hs : x % 2147483648 = s) (hng : ng = decide (2147483648 ≤ x)) :
    Calls Tryd.prog 16 #[.int .u8 u, .int .u8 v, .int .u64 x] w fun e w' => ∃ y ok, e = .returned (.tuple #[.int .u64 y, .bool ok]) ∧ ToP 32768 1024 (-24) 31744 8388608 (-149) 2139095040 s ng y ok ∧ Below w.heap.size w w' := by
  have inner : Calls Tryd.prog 47 #[.int .u8 v, .int .u64 x] w fun e w' => ∃ y ok, e = .returned (.tuple #[.int .u64 y, .bool ok]) ∧ ToP 32768 1024 (-24) 31744 8388608 (-149) 2139095040 s ng y ok ∧ Below w.heap.size w w' := by
    go_enter Tryd.func47, Tryd.ntmps47
    go_wp2_with fail
    with_reducible refine (to_16_m L T x s ng h0 h1 hs hng).mono ?_
    rintro x' w1 ⟨y, ok, rfl, y0, y1, hT, K⟩
    have HT := hide hT
    clear hT hs hng
    go_wp2
    go_ret2
    exact ⟨y, ok, rfl, HT.out, K⟩
  clear hs hng
  go_enter Tryd.func16, Tryd.ntmps16
  go_wp2_with fail
  with_reducible refine inner.mono ?_
  rintro x' w1 ⟨y, ok, rfl, hT, K⟩
  have HT := hide hT
  clear hT inner
  go_wp2
  go_ret2
  exact ⟨y, ok, rfl, HT.out, K⟩
set_option maxRecDepth 20000 in
set_option maxHeartbeats 4000000 in
theorem iwid_0_3 {w : World} (L : Lays w) (T : Brn w) (u : Int) (u0 : 0 ≤ u) (u1 : u < 256) (hu : u % 4 = 0) (v : Int) (v0 : 0 ≤ v) (v1 : v < 256) (hv : v % 4 = 3) (x : Int) (x0 : 0 ≤ x) (x1 : x < 18446744073709551616) :
    Calls Tryd.prog 4 #[.int .u8 u, .int .u8 v, .int .u64 x] w fun e w' => e = .returned (.bool true) ∧ Below w.heap.size w w' := by
  have K := Below.refl w.heap.size w
  go_enter Tryd.func4, Tryd.ntmps4
  go_wp2_with fail
  with_reducible refine (lfit_3 _ v v0 v1 hv x x0 x1).mono ?_
  rintro x' u64 ⟨rfl, rfl⟩
  obtain ⟨X, hX⟩ : ∃ X, x % 4294967296 = X := ⟨_, rfl⟩
  have X0 : 0 ≤ X := by omega
  have X1 : X < 4294967296 := by omega
  rw [hX]
  clear hX
  obtain ⟨s, hs⟩ : ∃ s, X % 2147483648 = s := ⟨_, rfl⟩
  have s0 : 0 ≤ s := by omega
  obtain ⟨ng, hng⟩ : ∃ b, b = decide (2147483648 ≤ X) := ⟨_, rfl⟩
  have Hs := hide hs
  have Hng := hide hng
  clear hs hng
  go_wp2_with fail
  with_reducible refine (lto_0_3 (L.below K) (T.below K) u u0 u1 hu v v0 v1 hv X s ng X0 X1 Hs.out Hng.out).mono ?_
  rintro x' u65 ⟨y, ok, rfl, hT, kb⟩
  replace K := below_trans K kb; clear kb
  go_wp2_with fail
  with_reducible refine (lwidth_0 _ u u0 u1 hu).mono ?_
  rintro x' u66 ⟨rfl, rfl⟩
  go_wp2_with fail
  with_reducible refine (lwidth_3 _ v v0 v1 hv).mono ?_
  rintro x' u67 ⟨rfl, rfl⟩
  go_wp2_with fail
  with_reducible refine (rTo_h_s _ X s ng X0 X1 Hs.out Hng.out).mono ?_
  rintro x' u68 ⟨y', ok', rfl, hR, kb⟩
  replace K := below_trans K kb; clear kb
  obtain ⟨rfl, rfl⟩ := to_same s0 hT hR
  clear hT hR
  go_wp2
  go_ret
  exact ⟨rfl, K⟩

set_option maxHeartbeats 4000000 in
theorem lto_1_0 {w : World} (L : Lays w) (T : Brn w) (u : Int) (u0 : 0 ≤ u) (u1 : u < 256) (hu : u % 4 = 1) (v : Int) (v0 : 0 ≤ v) (v1 : v < 256) (hv : v % 4 = 0) (x s : Int) (ng : Bool) (h0 : 0 ≤ x) (h1 : x < 65536) (hs : x % 32768 = s) (hng : ng = decide (32768 ≤ x)) :
    Calls Tryd.prog 16 #[.int .u8 u, .int .u8 v, .int .u64 x] w fun e w' => ∃ y ok, e = .returned (.tuple #[.int .u64 y, .bool ok]) ∧ ToP 2147483648 8388608 (-149) 2139095040 1024 (-24) 31744 s ng y ok ∧ Below w.heap.size w w' := by
  have inner : Calls Tryd.prog 50 #[.int .u8 v, .int .u64 x] w fun e w' => ∃ y ok, e = .returned (.tuple #[.int .u64 y, .bool ok]) ∧ ToP 2147483648 8388608 (-149) 2139095040 1024 (-24) 31744 s ng y ok ∧ Below w.heap.size w w' := by
    go_enter Tryd.func50, Tryd.ntmps50
    go_wp2_with fail
    with_reducible refine (to_32_16 L T x s ng h0 h1 hs hng).mono ?_
    rintro x' w1 ⟨y, ok, rfl, y0, y1, hT, K⟩
    have HT := hide hT
    clear hT hs hng
    go_wp2
    go_ret2
    exact ⟨y, ok, rfl, HT.out, K⟩
  clear hs hng
  go_enter Tryd.func16, Tryd.ntmps16
  go_wp2_with fail
  with_reducible refine inner.mono ?_
  rintro x' w1 ⟨y, ok, rfl, hT, K⟩
  have HT := hide hT
  clear hT inner
  go_wp2
  go_ret2
  exact ⟨y, ok, rfl, HT.out, K⟩
set_option maxRecDepth 20000 in
set_option maxHeartbeats 4000000 in
theorem iwid_1_0 {w : World} (L : Lays w) (T : Brn w) (u : Int) (u0 : 0 ≤ u) (u1 : u < 256) (hu : u % 4 = 1) (v : Int) (v0 : 0 ≤ v) (v1 : v < 256) (hv : v % 4 = 0) (x : Int) (x0 : 0 ≤ x) (x1 : x < 18446744073709551616) :
    Calls Tryd.prog 4 #[.int .u8 u, .int .u8 v, .int .u64 x] w fun e w' => e = .returned (.bool true) ∧ Below w.heap.size w w' := by
  have K := Below.refl w.heap.size w
  go_enter Tryd.func4, Tryd.ntmps4
  go_wp2_with fail
  with_reducible refine (lfit_0 _ v v0 v1 hv x x0 x1).mono ?_
  rintro x' u69 ⟨rfl, rfl⟩
  obtain ⟨X, hX⟩ : ∃ X, x % 65536 = X := ⟨_, rfl⟩
  have X0 : 0 ≤ X := by omega
  have X1 : X < 65536 := by omega
  rw [hX]
  clear hX
  obtain ⟨s, hs⟩ : ∃ s, X % 32768 = s := ⟨_, rfl⟩
  have s0 : 0 ≤ s := by omega
  obtain ⟨ng, hng⟩ : ∃ b, b = decide (32768 ≤ X) := ⟨_, rfl⟩
  have Hs := hide hs
  have Hng := hide hng
  clear hs hng
  go_wp2_with fail
  with_reducible refine (lto_1_0 (L.below K) (T.below K) u u0 u1 hu v v0 v1 hv X s ng X0 X1 Hs.out Hng.out).mono ?_
  rintro x' u70 ⟨y, ok, rfl, hT, kb⟩
  replace K := below_trans K kb; clear kb
  go_wp2_with fail
  with_reducible refine (lwidth_1 _ u u0 u1 hu).mono ?_
  rintro x' u71 ⟨rfl, rfl⟩
  go_wp2_with fail
  with_reducible refine (lwidth_0 _ v v0 v1 hv).mono ?_
  rintro x' u72 ⟨rfl, rfl⟩
  go_wp2_with fail
  with_reducible refine (rTo_s_h _ X s ng X0 X1 Hs.out Hng.out).mono ?_
  rintro x' u73 ⟨y', ok', rfl, hR, kb⟩
  replace K := below_trans K kb; clear kb
  obtain ⟨rfl, rfl⟩ := to_same s0 hT hR
  clear hT hR
  go_wp2
  go_ret
  exact ⟨rfl, K⟩

set_option maxHeartbeats 4000000 in
theorem lto_1_1 {w : World} (L : Lays w) (T : Brn w) (u : Int) (u0 : 0 ≤ u) (u1 : u < 256) (hu : u % 4 = 1) (v : Int) (v0 : 0 ≤ v) (v1 : v < 256) (hv : v % 4 = 1) (x s : Int) (ng : Bool) (h0 : 0 ≤ x) (h1 : x < 4294967296) (hs : x % 2147483648 = s) (hng : ng = decide (2147483648 ≤ x)) :
    Calls Tryd.prog 16 #[.int .u8 u, .int .u8 v, .int .u64 x] w fun e w' => ∃ y ok, e = .returned (.tuple #[.int .u64 y, .bool ok]) ∧ ToP 2147483648 8388608 (-149) 2139095040 8388608 (-149) 2139095040 s ng y ok ∧ Below w.heap.size w w' := by
  have inner : Calls Tryd.prog 50 #[.int .u8 v, .int .u64 x] w fun e w' => ∃ y ok, e = .returned (.tuple #[.int .u64 y, .bool ok]) ∧ ToP 2147483648 8388608 (-149) 2139095040 8388608 (-149) 2139095040 s ng y ok ∧ Below w.heap.size w w' := by
    go_enter Tryd.func50, Tryd.ntmps50
    go_wp2_with fail
    with_reducible refine (to_32_32 L T x s ng h0 h1 hs hng).mono ?_
    rintro x' w1 ⟨y, ok, rfl, y0, y1, hT, K⟩
    have HT := hide hT
    clear hT hs hng
    go_wp2
    go_ret2
    exact ⟨y, ok, rfl, HT.out, K⟩
  clear hs hng
  go_enter Tryd.func16, Tryd.ntmps16
  go_wp2_with fail
  with_reducible refine inner.mono ?_
  rintro x' w1 ⟨y, ok, rfl, hT, K⟩
  have HT := hide hT
  clear hT inner
  go_wp2
  go_ret2
  exact ⟨y, ok, rfl, HT.out, K⟩
set_option maxRecDepth 20000 in
set_option maxHeartbeats 4000000 in
theorem iwid_1_1 {w : World} (L : Lays w) (T : Brn w) (u : Int) (u0 : 0 ≤ u) (u1 : u < 256) (hu : u % 4 = 1) (v : Int) (v0 : 0 ≤ v) (v1 : v < 256) (hv : v % 4 = 1) (x : Int) (x0 : 0 ≤ x) (x1 : x < 18446744073709551616) :
    Calls Tryd.prog 4 #[.int .u8 u, .int .u8 v, .int .u64 x] w fun e w' => e = .returned (.bool true) ∧ Below w.heap.size w w' := by
  have K := Below.refl w.heap.size w
  go_enter Tryd.func4, Tryd.ntmps4
  go_wp2_with fail
  with_reducible refine (lfit_1 _ v v0 v1 hv x x0 x1).mono ?_
  rintro x' u74 ⟨rfl, rfl⟩
  obtain ⟨X, hX⟩ : ∃ X, x % 4294967296 = X := ⟨_, rfl⟩
  have X0 : 0 ≤ X := by omega
  have X1 : X < 4294967296 := by omega
  rw [hX]
  clear hX
  obtain ⟨s, hs⟩ : ∃ s, X % 2147483648 = s := ⟨_, rfl⟩
  have s0 : 0 ≤ s := by omega
  obtain ⟨ng, hng⟩ : ∃ b, b = decide (2147483648 ≤ X) := ⟨_, rfl⟩
  have Hs := hide hs
  have Hng := hide hng
  clear hs hng
  go_wp2_with fail
  with_reducible refine (lto_1_1 (L.below K) (T.below K) u u0 u1 hu v v0 v1 hv X s ng X0 X1 Hs.out Hng.out).mono ?_
  rintro x' u75 ⟨y, ok, rfl, hT, kb⟩
  replace K := below_trans K kb; clear kb
  go_wp2_with fail
  with_reducible refine (lwidth_1 _ u u0 u1 hu).mono ?_
  rintro x' u76 ⟨rfl, rfl⟩
  go_wp2_with fail
  with_reducible refine (lwidth_1 _ v v0 v1 hv).mono ?_
  rintro x' u77 ⟨rfl, rfl⟩
  go_wp2_with fail
  with_reducible refine (rTo_s_s _ X s ng X0 X1 Hs.out Hng.out).mono ?_
  rintro x' u78 ⟨y', ok', rfl, hR, kb⟩
  replace K := below_trans K kb; clear kb
  obtain ⟨rfl, rfl⟩ := to_same s0 hT hR
  clear hT hR
  go_wp2
  go_ret
  exact ⟨rfl, K⟩

set_option maxHeartbeats 4000000 in
theorem lto_1_2 {w : World} (L : Lays w) (T : Brn w) (u : Int) (u0 : 0 ≤ u) (u1 : u < 256) (hu : u % 4 = 1) (v : Int) (v0 : 0 ≤ v) (v1 : v < 256) (hv : v % 4 = 2) (x s : Int) (ng : Bool) (h0 : 0 ≤ x) (h1 : x < 18446744073709551616) (hs : x % 9223372036854775808 = s) (hng : ng = decide (9223372036854775808 ≤ x)) :
    Calls Tryd.prog 16 #[.int .u8 u, .int .u8 v, .int .u64 x] w fun e w' => ∃ y ok, e = .returned (.tuple #[.int .u64 y, .bool ok]) ∧ ToP 2147483648 8388608 (-149) 2139095040 4503599627370496 (-1074) 9218868437227405312 s ng y ok ∧ Below w.heap.size w w' := by
  have inner : Calls Tryd.prog 50 #[.int .u8 v, .int .u64 x] w fun e w' => ∃ y ok, e = .returned (.tuple #[.int .u64 y, .bool ok]) ∧ ToP 2147483648 8388608 (-149) 2139095040 4503599627370496 (-1074) 9218868437227405312 s ng y ok ∧ Below w.heap.size w w' := by
    go_enter Tryd.func50, Tryd.ntmps50
    go_wp2_with fail
    with_reducible refine (to_32_64 L T x s ng h0 h1 hs hng).mono ?_
    rintro x' w1 ⟨y, ok, rfl, y0, y1, hT, K⟩
    have HT := hide hT
    clear hT hs hng
    go_wp2
    go_ret2
    exact ⟨y, ok, rfl, HT.out, K⟩
  clear hs hng
  go_enter Tryd.func16, Tryd.ntmps16
  go_wp2_with fail
  with_reducible refine inner.mono ?_
  rintro x' w1 ⟨y, ok, rfl, hT, K⟩
  have HT := hide hT
  clear hT inner
  go_wp2
  go_ret2
  exact ⟨y, ok, rfl, HT.out, K⟩
set_option maxRecDepth 20000 in
set_option maxHeartbeats 4000000 in
theorem iwid_1_2 {w : World} (L : Lays w) (T : Brn w) (u : Int) (u0 : 0 ≤ u) (u1 : u < 256) (hu : u % 4 = 1) (v : Int) (v0 : 0 ≤ v) (v1 : v < 256) (hv : v % 4 = 2) (x : Int) (x0 : 0 ≤ x) (x1 : x < 18446744073709551616) :
    Calls Tryd.prog 4 #[.int .u8 u, .int .u8 v, .int .u64 x] w fun e w' => e = .returned (.bool true) ∧ Below w.heap.size w w' := by
  have K := Below.refl w.heap.size w
  go_enter Tryd.func4, Tryd.ntmps4
  go_wp2_with fail
  with_reducible refine (lfit_2 _ v v0 v1 hv x x0 x1).mono ?_
  rintro x' u79 ⟨rfl, rfl⟩
  obtain ⟨X, hX⟩ : ∃ X, x % 18446744073709551616 = X := ⟨_, rfl⟩
  have X0 : 0 ≤ X := by omega
  have X1 : X < 18446744073709551616 := by omega
  rw [hX]
  clear hX
  obtain ⟨s, hs⟩ : ∃ s, X % 9223372036854775808 = s := ⟨_, rfl⟩
  have s0 : 0 ≤ s := by omega
  obtain ⟨ng, hng⟩ : ∃ b, b = decide (9223372036854775808 ≤ X) := ⟨_, rfl⟩
  have Hs := hide hs
  have Hng := hide hng
  clear hs hng
  go_wp2_with fail
  with_reducible refine (lto_1_2 (L.below K) (T.below K) u u0 u1 hu v v0 v1 hv X s ng X0 X1 Hs.out Hng.out).mono ?_
  rintro x' u80 ⟨y, ok, rfl, hT, kb⟩
  replace K := below_trans K kb; clear kb
  go_wp2_with fail
  with_reducible refine (lwidth_1 _ u u0 u1 hu).mono ?_
  rintro x' u81 ⟨rfl, rfl⟩
  go_wp2_with fail
  with_reducible refine (lwidth_2 _ v v0 v1 hv).mono ?_
  rintro x' u82 ⟨rfl, rfl⟩
  go_wp2_with fail
  with_reducible refine (rTo_s_d _ X s ng X0 X1 Hs.out Hng.out).mono ?_
  rintro x' u83 ⟨y', ok', rfl, hR, kb⟩
  replace K := below_trans K kb; clear kb
  obtain ⟨rfl, rfl⟩ := to_same s0 hT hR
  clear hT hR
  go_wp2
  go_ret
  exact ⟨rfl, K⟩

set_option maxHeartbeats 4000000 in
theorem lto_1_3 {w : World} (L : Lays w) (T : Brn w) (u : Int) (u0 : 0 ≤ u) (u1 : u < 256) (hu : u % 4 = 1) (v : Int) (v0 : 0 ≤ v) (v1 : v < 256) (hv : v % 4 = 3) (x s : Int) (ng : Bool) (h0 : 0 ≤ x) (h1 : x < 4294967296) (hs : x % 2147483648 = s) (hng : ng = decide (2147483648 ≤ x)) :
    Calls Tryd.prog 16 #[.int .u8 u, .int .u8 v, .int .u64 x] w fun e w' => ∃ y ok, e = .returned (.tuple #[.int .u64 y, .bool ok]) ∧ ToP 2147483648 8388608 (-149) 2139095040 8388608 (-149) 2139095040 s ng y ok ∧ Below w.heap.size w w' := by
  have inner : Calls Tryd.prog 50 #[.int .u8 v, .int .u64 x] w fun e w' => ∃ y ok, e = .returned (.tuple #[.int .u64 y, .bool ok]) ∧ ToP 2147483648 8388608 (-149) 2139095040 8388608 (-149) 2139095040 s ng y ok ∧ Below w.heap.size w w' := by
    go_enter Tryd.func50, Tryd.ntmps50
    go_wp2_with fail
    with_reducible refine (to_32_m L T x s ng h0 h1 hs hng).mono ?_
    rintro x' w1 ⟨y, ok, rfl, y0, y1, hT, K⟩
    have HT := hide hT
    clear hT hs hng
    go_wp2
    go_ret2
    exact ⟨y, ok, rfl, HT.out, K⟩
  clear hs hng
  go_enter Tryd.func16, Tryd.ntmps16
  go_wp2_with fail
  with_reducible refine inner.mono ?_
  rintro x' w1 ⟨y, ok, rfl, hT, K⟩
  have HT := hide hT
  clear hT inner
  go_wp2
  go_ret2
  exact ⟨y, ok, rfl, HT.out, K⟩
set_option maxRecDepth 20000 in
set_option maxHeartbeats 4000000 in
theorem iwid_1_3 {w : World} (L : Lays w) (T : Brn w) (u : Int) (u0 : 0 ≤ u) (u1 : u < 256) (hu : u % 4 = 1) (v : Int) (v0 : 0 ≤ v) (v1 : v < 256) (hv : v % 4 = 3) (x : Int) (x0 : 0 ≤ x) (x1 : x < 18446744073709551616) :
    Calls Tryd.prog 4 #[.int .u8 u, .int .u8 v, .int .u64 x] w fun e w' => e = .returned (.bool true) ∧ Below w.heap.size w w' := by
  have K := Below.refl w.heap.size w
  go_enter Tryd.func4, Tryd.ntmps4
  go_wp2_with fail
  with_reducible refine (lfit_3 _ v v0 v1 hv x x0 x1).mono ?_
  rintro x' u84 ⟨rfl, rfl⟩
  obtain ⟨X, hX⟩ : ∃ X, x % 4294967296 = X := ⟨_, rfl⟩
  have X0 : 0 ≤ X := by omega
  have X1 : X < 4294967296 := by omega
  rw [hX]
  clear hX
  obtain ⟨s, hs⟩ : ∃ s, X % 2147483648 = s := ⟨_, rfl⟩
  have s0 : 0 ≤ s := by omega
  obtain ⟨ng, hng⟩ : ∃ b, b = decide (2147483648 ≤ X) := ⟨_, rfl⟩
  have Hs := hide hs
  have Hng := hide hng
  clear hs hng
  go_wp2_with fail
  with_reducible refine (lto_1_3 (L.below K) (T.below K) u u0 u1 hu v v0 v1 hv X s ng X0 X1 Hs.out Hng.out).mono ?_
  rintro x' u85 ⟨y, ok, rfl, hT, kb⟩
  replace K := below_trans K kb; clear kb
  go_wp2_with fail
  with_reducible refine (lwidth_1 _ u u0 u1 hu).mono ?_
  rintro x' u86 ⟨rfl, rfl⟩
  go_wp2_with fail
  with_reducible refine (lwidth_3 _ v v0 v1 hv).mono ?_
  rintro x' u87 ⟨rfl, rfl⟩
  go_wp2_with fail
  with_reducible refine (rTo_s_s _ X s ng X0 X1 Hs.out Hng.out).mono ?_
  rintro x' u88 ⟨y', ok', rfl, hR, kb⟩
  replace K := below_trans K kb; clear kb
  obtain ⟨rfl, rfl⟩ := to_same s0 hT hR
  clear hT hR
  go_wp2
  go_ret
  exact ⟨rfl, K⟩

set_option maxHeartbeats 4000000 in
theorem lto_2_0 {w : World} (L : Lays w) (T : Brn w) (u : Int) (u0 : 0 ≤ u) (u1 : u < 256) (hu : u % 4 = 2) (v : Int) (v0 : 0 ≤ v) (v1 : v < 256) (hv : v % 4 = 0) (x s : Int) (ng : Bool) (h0 : 0 ≤ x) (h1 : x < 65536) (hs : x % 32768 = s) (hng : ng = decide (32768 ≤ x)) :
    Calls Tryd.prog 16 #[.int .u8 u, .int .u8 v, .int .u64 x] w fun e w' => ∃ y ok, e = .returned (.tuple #[.int .u64 y, .bool ok]) ∧ ToP 9223372036854775808 4503599627370496 (-1074) 9218868437227405312 1024 (-24) 31744 s ng y ok ∧ Below w.heap.size w w' := by
  have inner : Calls Tryd.prog 48 #[.int .u8 v, .int .u64 x] w fun e w' => ∃ y ok, e = .returned (.tuple #[.int .u64 y, .bool ok]) ∧ ToP 9223372036854775808 4503599627370496 (-1074) 9218868437227405312 1024 (-24) 31744 s ng y ok ∧ Below w.heap.size w w' := by
    go_enter Tryd.func48, Tryd.ntmps48
    go_wp2_with fail
    with_reducible refine (to_64_16 L T x s ng h0 h1 hs hng).mono ?_
    rintro x' w1 ⟨y, ok, rfl, y0, y1, hT, K⟩
    have HT := hide hT
    clear hT hs hng
    go_wp2
    go_ret2
    exact ⟨y, ok, rfl, HT.out, K⟩
  clear hs hng
  go_enter Tryd.func16, Tryd.ntmps16
  go_wp2_with fail
  with_reducible refine inner.mono ?_
  rintro x' w1 ⟨y, ok, rfl, hT, K⟩
  have HT := hide hT
  clear hT inner
  go_wp2
  go_ret2
  exact ⟨y, ok, rfl, HT.out, K⟩
set_option maxRecDepth 20000 in
set_option maxHeartbeats 4000000 in
theorem iwid_2_0 {w : World} (L : Lays w) (T : Brn w) (u : Int) (u0 : 0 ≤ u) (u1 : u < 256) (hu : u % 4 = 2) (v : Int) (v0 : 0 ≤ v) (v1 : v < 256) (hv : v % 4 = 0) (x : Int) (x0 : 0 ≤ x) (x1 : x < 18446744073709551616) :
    Calls Tryd.prog 4 #[.int .u8 u, .int .u8 v, .int .u64 x] w fun e w' => e = .returned (.bool true) ∧ Below w.heap.size w w' := by
  have K := Below.refl w.heap.size w
  go_enter Tryd.func4, Tryd.ntmps4
  go_wp2_with fail
  with_reducible refine (lfit_0 _ v v0 v1 hv x x0 x1).mono ?_
  rintro x' u89 ⟨rfl, rfl⟩
  obtain ⟨X, hX⟩ : ∃ X, x % 65536 = X := ⟨_, rfl⟩
  have X0 : 0 ≤ X := by omega
  have X1 : X < 65536 := by omega
  rw [hX]
  clear hX
  obtain ⟨s, hs⟩ : ∃ s, X % 32768 = s := ⟨_, rfl⟩
  have s0 : 0 ≤ s := by omega
  obtain ⟨ng, hng⟩ : ∃ b, b = decide (32768 ≤ X) := ⟨_, rfl⟩
  have Hs := hide hs
  have Hng := hide hng
  clear hs hng
  go_wp2_with fail
  with_reducible refine (lto_2_0 (L.below K) (T.below K) u u0 u1 hu v v0 v1 hv X s ng X0 X1 Hs.out Hng.out).mono ?_
  rintro x' u90 ⟨y, ok, rfl, hT, kb⟩
  replace K := below_trans K kb; clear kb
  go_wp2_with fail
  with_reducible refine (lwidth_2 _ u u0 u1 hu).mono ?_
  rintro x' u91 ⟨rfl, rfl⟩
  go_wp2_with fail
  with_reducible refine (lwidth_0 _ v v0 v1 hv).mono ?_
  rintro x' u92 ⟨rfl, rfl⟩
  go_wp2_with fail
  with_reducible refine (rTo_d_h _ X s ng X0 X1 Hs.out Hng.out).mono ?_
  rintro x' u93 ⟨y', ok', rfl, hR, kb⟩
  replace K := below_trans K kb; clear kb
  obtain ⟨rfl, rfl⟩ := to_same s0 hT hR
  clear hT hR
  go_wp2
  go_ret
  exact ⟨rfl, K⟩

set_option maxHeartbeats 4000000 in
theorem lto_2_1 {w : World} (L : Lays w) (T : Brn w) (u : Int) (u0 : 0 ≤ u) (u1 : u < 256) (hu : u % 4 = 2) (v : Int) (v0 : 0 ≤ v) (v1 : v < 256) (hv : v % 4 = 1) (x s : Int) (ng : Bool) (h0 : 0 ≤ x) (h1 : x < 4294967296) (hs : x % 2147483648 = s) (hng : ng = decide (2147483648 ≤ x)) :
    Calls Tryd.prog 16 #[.int .u8 u, .int .u8 v, .int .u64 x] w fun e w' => ∃ y ok, e = .returned (.tuple #[.int .u64 y, .bool ok]) ∧ ToP 9223372036854775808 4503599627370496 (-1074) 9218868437227405312 8388608 (-149) 2139095040 s ng y ok ∧ Below w.heap.size w w' := by
  have inner : Calls Tryd.prog 48 #[.int .u8 v, .int .u64 x] w fun e w' => ∃ y ok, e = .returned (.tuple #[.int .u64 y, .bool ok]) ∧ ToP 9223372036854775808 4503599627370496 (-1074) 9218868437227405312 8388608 (-149) 2139095040 s ng y ok ∧ Below w.heap.size w w' := by
    go_enter Tryd.func48, Tryd.ntmps48
    go_wp2_with fail
    with_reducible refine (to_64_32 L T x s ng h0 h1 hs hng).mono ?_
    rintro x' w1 ⟨y, ok, rfl, y0, y1, hT, K⟩
    have HT := hide hT
    clear hT hs hng
    go_wp2
    go_ret2
    exact ⟨y, ok, rfl, HT.out, K⟩
  clear hs hng
  go_enter Tryd.func16, Tryd.ntmps16
  go_wp2_with fail
  with_reducible refine inner.mono ?_
  rintro x' w1 ⟨y, ok, rfl, hT, K⟩
  have HT := hide hT
  clear hT inner
  go_wp2
  go_ret2
  exact ⟨y, ok, rfl, HT.out, K⟩
set_option maxRecDepth 20000 in
set_option maxHeartbeats 4000000 in
theorem iwid_2_1 {w : World} (L : Lays w) (T : Brn w) (u : Int) (u0 : 0 ≤ u) (u1 : u < 256) (hu : u % 4 = 2) (v : Int) (v0 : 0 ≤ v) (v1 : v < 256) (hv : v % 4 = 1) (x : Int) (x0 : 0 ≤ x) (x1 : x < 18446744073709551616) :
    Calls Tryd.prog 4 #[.int .u8 u, .int .u8 v, .int .u64 x] w fun e w' => e = .returned (.bool true) ∧ Below w.heap.size w w' := by
  have K := Below.refl w.heap.size w
  go_enter Tryd.func4, Tryd.ntmps4
  go_wp2_with fail
  with_reducible refine (lfit_1 _ v v0 v1 hv x x0 x1).mono ?_
  rintro x' u94 ⟨rfl, rfl⟩
  obtain ⟨X, hX⟩ : ∃ X, x % 4294967296 = X := ⟨_, rfl⟩
  have X0 : 0 ≤ X := by omega
  have X1 : X < 4294967296 := by omega
  rw [hX]
  clear hX
  obtain ⟨s, hs⟩ : ∃ s, X % 2147483648 = s := ⟨_, rfl⟩
  have s0 : 0 ≤ s := by omega
  obtain ⟨ng, hng⟩ : ∃ b, b = decide (2147483648 ≤ X) := ⟨_, rfl⟩
  have Hs := hide hs
  have Hng := hide hng
  clear hs hng
  go_wp2_with fail
  with_reducible refine (lto_2_1 (L.below K) (T.below K) u u0 u1 hu v v0 v1 hv X s ng X0 X1 Hs.out Hng.out).mono ?_
  rintro x' u95 ⟨y, ok, rfl, hT, kb⟩
  replace K := below_trans K kb; clear kb
  go_wp2_with fail
  with_reducible refine (lwidth_2 _ u u0 u1 hu).mono ?_
  rintro x' u96 ⟨rfl, rfl⟩
  go_wp2_with fail
  with_reducible refine (lwidth_1 _ v v0 v1 hv).mono ?_
  rintro x' u97 ⟨rfl, rfl⟩
  go_wp2_with fail
  with_reducible refine (rTo_d_s _ X s ng X0 X1 Hs.out Hng.out).mono ?_
  rintro x' u98 ⟨y', ok', rfl, hR, kb⟩
  replace K := below_trans K kb; clear kb
  obtain ⟨rfl, rfl⟩ := to_same s0 hT hR
  clear hT hR
  go_wp2
  go_ret
  exact ⟨rfl, K⟩

set_option maxHeartbeats 4000000 in
theorem lto_2_2 {w : World} (L : Lays w) (T : Brn w) (u : Int) (u0 : 0 ≤ u) (u1 : u < 256) (hu : u % 4 = 2) (v : Int) (v0 : 0 ≤ v) (v1 : v < 256) (hv : v % 4 = 2) (x s : Int) (ng : Bool) (h0 : 0 ≤ x) (h1 : x < 18446744073709551616) (hs : x % 9223372036854775808 = s) (hng : ng = decide (9223372036854775808 ≤ x)) :
    Calls Tryd.prog 16 #[.int .u8 u, .int .u8 v, .int .u64 x] w fun e w' => ∃ y ok, e = .returned (.tuple #[.int .u64 y, .bool ok]) ∧ ToP 9223372036854775808 4503599627370496 (-1074) 9218868437227405312 4503599627370496 (-1074) 9218868437227405312 s ng y ok ∧ Below w.heap.size w w' := by
  have inner : Calls Tryd.prog 48 #[.int .u8 v, .int .u64 x] w fun e w' => ∃ y ok, e = .returned (.tuple #[.int .u64 y, .bool ok]) ∧ ToP 9223372036854775808 4503599627370496 (-1074) 9218868437227405312 4503599627370496 (-1074) 9218868437227405312 s ng y ok ∧ Below w.heap.size w w' := by
    go_enter Tryd.func48, Tryd.ntmps48
    go_wp2_with fail
    with_reducible refine (to_64_64 L T x s ng h0 h1 hs hng).mono ?_
    rintro x' w1 ⟨y, ok, rfl, y0, y1, hT, K⟩
    have HT := hide hT
    clear hT hs hng
    go_wp2
    go_ret2
    exact ⟨y, ok, rfl, HT.out, K⟩
  clear hs hng
  go_enter Tryd.func16, Tryd.ntmps16
  go_wp2_with fail
  with_reducible refine inner.mono ?_
  rintro x' w1 ⟨y, ok, rfl, hT, K⟩
  have HT := hide hT
  clear hT inner
  go_wp2
  go_ret2
  exact ⟨y, ok, rfl, HT.out, K⟩
set_option maxRecDepth 20000 in
set_option maxHeartbeats 4000000 in
theorem iwid_2_2 {w : World} (L : Lays w) (T : Brn w) (u : Int) (u0 : 0 ≤ u) (u1 : u < 256) (hu : u % 4 = 2) (v : Int) (v0 : 0 ≤ v) (v1 : v < 256) (hv : v % 4 = 2) (x : Int) (x0 : 0 ≤ x) (x1 : x < 18446744073709551616) :
    Calls Tryd.prog 4 #[.int .u8 u, .int .u8 v, .int .u64 x] w fun e w' => e = .returned (.bool true) ∧ Below w.heap.size w w' := by
  have K := Below.refl w.heap.size w
  go_enter Tryd.func4, Tryd.ntmps4
  go_wp2_with fail
  with_reducible refine (lfit_2 _ v v0 v1 hv x x0 x1).mono ?_
  rintro x' u99 ⟨rfl, rfl⟩
  obtain ⟨X, hX⟩ : ∃ X, x % 18446744073709551616 = X := ⟨_, rfl⟩
  have X0 : 0 ≤ X := by omega
  have X1 : X < 18446744073709551616 := by omega
  rw [hX]
  clear hX
  obtain ⟨s, hs⟩ : ∃ s, X % 9223372036854775808 = s := ⟨_, rfl⟩
  have s0 : 0 ≤ s := by omega
  obtain ⟨ng, hng⟩ : ∃ b, b = decide (9223372036854775808 ≤ X) := ⟨_, rfl⟩
  have Hs := hide hs
  have Hng := hide hng
  clear hs hng
  go_wp2_with fail
  with_reducible refine (lto_2_2 (L.below K) (T.below K) u u0 u1 hu v v0 v1 hv X s ng X0 X1 Hs.out Hng.out).mono ?_
  rintro x' u100 ⟨y, ok, rfl, hT, kb⟩
  replace K := below_trans K kb; clear kb
  go_wp2_with fail
  with_reducible refine (lwidth_2 _ u u0 u1 hu).mono ?_
  rintro x' u101 ⟨rfl, rfl⟩
  go_wp2_with fail
  with_reducible refine (lwidth_2 _ v v0 v1 hv).mono ?_
  rintro x' u102 ⟨rfl, rfl⟩
  go_wp2_with fail
  with_reducible refine (rTo_d_d _ X s ng X0 X1 Hs.out Hng.out).mono ?_
  rintro x' u103 ⟨y', ok', rfl, hR, kb⟩
  replace K := below_trans K kb; clear kb
  obtain ⟨rfl, rfl⟩ := to_same s0 hT hR
  clear hT hR
  go_wp2
  go_ret
  exact ⟨rfl, K⟩

set_option maxHeartbeats 4000000 in
theorem lto_2_3 {w : World} (L : Lays w) (T : Brn w) (u : Int) (u0 : 0 ≤ u) (u1 : u < 256) (hu : u % 4 = 2) (v : Int) (v0 : 0 ≤ v) (v1 : v < 256) (hv : v % 4 = 3) (x s : Int) (ng : Bool) (h0 : 0 ≤ x) (h1 : x < 4294967296) (hs : x % 2147483648 = s) (hng : ng = decide (2147483648 ≤ x)) :
    Calls Tryd.prog 16 #[.int .u8 u, .int .u8 v, .int .u64 x] w fun e w' => ∃ y ok, e = .returned (.tuple #[.int .u64 y, .bool ok]) ∧ ToP 9223372036854775808 4503599627370496 (-1074) 9218868437227405312 8388608 (-149) 2139095040 s ng y ok ∧ Below w.heap.size w w' := by
  have inner : Calls Tryd.prog 48 #[.int .u8 v, .int .u64 x] w fun e w' => ∃ y ok, e = .returned (.tuple #[.int .u64 y, .bool ok]) ∧ ToP 9223372036854775808 4503599627370496 (-1074) 9218868437227405312 8388608 (-149) 2139095040 s ng y ok ∧ Below w.heap.size w w' := by
    go_enter Tryd.func48, Tryd.ntmps48
    go_wp2_with fail
    with_reducible refine (to_64_m L T x s ng h0 h1 hs hng).mono ?_
    rintro x' w1 ⟨y, ok, rfl, y0, y1, hT, K⟩
    have HT := hide hT
    clear hT hs hng
    go_wp2
    go_ret2
    exact ⟨y, ok, rfl, HT.out, K⟩
  clear hs hng
  go_enter Tryd.func16, Tryd.ntmps16
  go_wp2_with fail
  with_reducible refine inner.mono ?_
  rintro x' w1 ⟨y, ok, rfl, hT, K⟩
  have HT := hide hT
  clear hT inner
  go_wp2
  go_ret2
  exact ⟨y, ok, rfl, HT.out, K⟩
set_option maxRecDepth 20000 in
set_option maxHeartbeats 4000000 in
theorem iwid_2_3 {w : World} (L : Lays w) (T : Brn w) (u : Int) (u0 : 0 ≤ u) (u1 : u < 256) (hu : u % 4 = 2) (v : Int) (v0 : 0 ≤ v) (v1 : v < 256) (hv : v % 4 = 3) (x : Int) (x0 : 0 ≤ x) (x1 : x < 18446744073709551616) :
    Calls Tryd.prog 4 #[.int .u8 u, .int .u8 v, .int .u64 x] w fun e w' => e = .returned (.bool true) ∧ Below w.heap.size w w' := by
  have K := Below.refl w.heap.size w
  go_enter Tryd.func4, Tryd.ntmps4
  go_wp2_with fail
  with_reducible refine (lfit_3 _ v v0 v1 hv x x0 x1).mono ?_
  rintro x' u104 ⟨rfl, rfl⟩
  obtain ⟨X, hX⟩ : ∃ X, x % 4294967296 = X := ⟨_, rfl⟩
  have X0 : 0 ≤ X := by omega
  have X1 : X < 4294967296 := by omega
  rw [hX]
  clear hX
  obtain ⟨s, hs⟩ : ∃ s, X % 2147483648 = s := ⟨_, rfl⟩
  have s0 : 0 ≤ s := by omega
  obtain ⟨ng, hng⟩ : ∃ b, b = decide (2147483648 ≤ X) := ⟨_, rfl⟩
  have Hs := hide hs
  have Hng := hide hng
  clear hs hng
  go_wp2_with fail
  with_reducible refine (lto_2_3 (L.below K) (T.below K) u u0 u1 hu v v0 v1 hv X s ng X0 X1 Hs.out Hng.out).mono ?_
  rintro x' u105 ⟨y, ok, rfl, hT, kb⟩
  replace K := below_trans K kb; clear kb
  go_wp2_with fail
  with_reducible refine (lwidth_2 _ u u0 u1 hu).mono ?_
  rintro x' u106 ⟨rfl, rfl⟩
  go_wp2_with fail
  with_reducible refine (lwidth_3 _ v v0 v1 hv).mono ?_
  rintro x' u107 ⟨rfl, rfl⟩
  go_wp2_with fail
  with_reducible refine (rTo_d_s _ X s ng X0 X1 Hs.out Hng.out).mono ?_
  rintro x' u108 ⟨y', ok', rfl, hR, kb⟩
  replace K := below_trans K kb; clear kb
  obtain ⟨rfl, rfl⟩ := to_same s0 hT hR
  clear hT hR
  go_wp2
  go_ret
  exact ⟨rfl, K⟩

set_option maxHeartbeats 4000000 in
theorem lto_3_0 {w : World} (L : Lays w) (T : Brn w) (u : Int) (u0 : 0 ≤ u) (u1 : u < 256) (hu : u % 4 = 3) (v : Int) (v0 : 0 ≤ v) (v1 : v < 256) (hv : v % 4 = 0) (x s : Int) (ng : Bool) (h0 : 0 ≤ x) (h1 : x < 65536) (hs : x % 32768 = s) (hng : ng = decide (32768 ≤ x)) :
    Calls Tryd.prog 16 #[.int .u8 u, .int .u8 v, .int .u64 x] w fun e w' => ∃ y ok, e = .returned (.tuple #[.int .u64 y, .bool ok]) ∧ ToP 2147483648 8388608 (-149) 2139095040 1024 (-24) 31744 s ng y ok ∧ Below w.heap.size w w' := by
  have inner : Calls Tryd.prog 49 #[.int .u8 v, .int .u64 x] w fun e w' => ∃ y ok, e = .returned (.tuple #[.int .u64 y, .bool ok]) ∧ ToP 2147483648 8388608 (-149) 2139095040 1024 (-24) 31744 s ng y ok ∧ Below w.heap.size w w' := by
    go_enter Tryd.func49, Tryd.ntmps49
    go_wp2_with fail
    with_reducible refine (to_m_16 L T x s ng h0 h1 hs hng).mono ?_
    rintro x' w1 ⟨y, ok, rfl, y0, y1, hT, K⟩
    have HT := hide hT
    clear hT hs hng
    go_wp2
    go_ret2
    exact ⟨y, ok, rfl, HT.out, K⟩
  clear hs hng
  go_enter Tryd.func16, Tryd.ntmps16
  go_wp2_with fail
  with_reducible refine inner.mono ?_
  rintro x' w1 ⟨y, ok, rfl, hT, K⟩
  have HT := hide hT
  clear hT inner
  go_wp2
  go_ret2
  exact ⟨y, ok, rfl, HT.out, K⟩
set_option maxRecDepth 20000 in
set_option maxHeartbeats 4000000 in
theorem iwid_3_0 {w : World} (L : Lays w) (T : Brn w) (u : Int) (u0 : 0 ≤ u) (u1 : u < 256) (hu : u % 4 = 3) (v : Int) (v0 : 0 ≤ v) (v1 : v < 256) (hv : v % 4 = 0) (x : Int) (x0 : 0 ≤ x) (x1 : x < 18446744073709551616) :
    Calls Tryd.prog 4 #[.int .u8 u, .int .u8 v, .int .u64 x] w fun e w' => e = .returned (.bool true) ∧ Below w.heap.size w w' := by
  have K := Below.refl w.heap.size w
  go_enter Tryd.func4, Tryd.ntmps4
  go_wp2_with fail
  with_reducible refine (lfit_0 _ v v0 v1 hv x x0 x1).mono ?_
  rintro x' u109 ⟨rfl, rfl⟩
  obtain ⟨X, hX⟩ : ∃ X, x % 65536 = X := ⟨_, rfl⟩
  have X0 : 0 ≤ X := by omega
  have X1 : X < 65536 := by omega
  rw [hX]
  clear hX
  obtain ⟨s, hs⟩ : ∃ s, X % 32768 = s := ⟨_, rfl⟩
  have s0 : 0 ≤ s := by omega
  obtain ⟨ng, hng⟩ : ∃ b, b = decide (32768 ≤ X) := ⟨_, rfl⟩
  have Hs := hide hs
  have Hng := hide hng
  clear hs hng
  go_wp2_with fail
  with_reducible refine (lto_3_0 (L.below K) (T.below K) u u0 u1 hu v v0 v1 hv X s ng X0 X1 Hs.out Hng.out).mono ?_
  rintro x' u110 ⟨y, ok, rfl, hT, kb⟩
  replace K := below_trans K kb; clear kb
  go_wp2_with fail
  with_reducible refine (lwidth_3 _ u u0 u1 hu).mono ?_
  rintro x' u111 ⟨rfl, rfl⟩
  go_wp2_with fail
  with_reducible refine (lwidth_0 _ v v0 v1 hv).mono ?_
  rintro x' u112 ⟨rfl, rfl⟩
  go_wp2_with fail
  with_reducible refine (rTo_s_h _ X s ng X0 X1 Hs.out Hng.out).mono ?_
  rintro x' u113 ⟨y', ok', rfl, hR, kb⟩
  replace K := below_trans K kb; clear kb
  obtain ⟨rfl, rfl⟩ := to_same s0 hT hR
  clear hT hR
  go_wp2
  go_ret
  exact ⟨rfl, K⟩

set_option maxHeartbeats 4000000 in
theorem lto_3_1 {w : World} (L : Lays w) (T : Brn w) (u : Int) (u0 : 0 ≤ u) (u1 : u < 256) (hu : u % 4 = 3) (v : Int) (v0 : 0 ≤ v) (v1 : v < 256) (hv : v % 4 = 1) (x s : Int) (ng : Bool) (h0 : 0 ≤ x) (h1 : x < 4294967296) (hs : x % 2147483648 = s) (hng : ng = decide (2147483648 ≤ x)) :
    Calls Tryd.prog 16 #[.int .u8 u, .int .u8 v, .int .u64 x] w fun e w' => ∃ y ok, e = .returned (.tuple #[.int .u64 y, .bool ok]) ∧ ToP 2147483648 8388608 (-149) 2139095040 8388608 (-149) 2139095040 s ng y ok ∧ Below w.heap.size w w' := by
  have inner : Calls Tryd.prog 49 #[.int .u8 v, .int .u64 x] w fun e w' => ∃ y ok, e = .returned (.tuple #[.int .u64 y, .bool ok]) ∧ ToP 2147483648 8388608 (-149) 2139095040 8388608 (-149) 2139095040 s ng y ok ∧ Below w.heap.size w w' := by
    go_enter Tryd.func49, Tryd.ntmps49
    go_wp2_with fail
    with_reducible refine (to_m_32 L T x s ng h0 h1 hs hng).mono ?_
    rintro x' w1 ⟨y, ok, rfl, y0, y1, hT, K⟩
    have HT := hide hT
    clear hT hs hng
    go_wp2
    go_ret2
    exact ⟨y, ok, rfl, HT.out, K⟩
  clear hs hng
  go_enter Tryd.func16, Tryd.ntmps16
  go_wp2_with fail
  with_reducible refine inner.mono ?_
  rintro x' w1 ⟨y, ok, rfl, hT, K⟩
  have HT := hide hT
  clear hT inner
  go_wp2
  go_ret2
  exact ⟨y, ok, rfl, HT.out, K⟩
set_option maxRecDepth 20000 in
set_option maxHeartbeats 4000000 in
theorem iwid_3_1 {w : World} (L : Lays w) (T : Brn w) (u : Int) (u0 : 0 ≤ u) (u1 : u < 256) (hu : u % 4 = 3) (v : Int) (v0 : 0 ≤ v) (v1 : v < 256) (hv : v % 4 = 1) (x : Int) (x0 : 0 ≤ x) (x1 : x < 18446744073709551616) :
    Calls Tryd.prog 4 #[.int .u8 u, .int .u8 v, .int .u64 x] w fun e w' => e = .returned (.bool true) ∧ Below w.heap.size w w' := by
  have K := Below.refl w.heap.size w
  go_enter Tryd.func4, Tryd.ntmps4
  go_wp2_with fail
  with_reducible refine (lfit_1 _ v v0 v1 hv x x0 x1).mono ?_
  rintro x' u114 ⟨rfl, rfl⟩
  obtain ⟨X, hX⟩ : ∃ X, x % 4294967296 = X := ⟨_, rfl⟩
  have X0 : 0 ≤ X := by omega
  have X1 : X < 4294967296 := by omega
  rw [hX]
  clear hX
  obtain ⟨s, hs⟩ : ∃ s, X % 2147483648 = s := ⟨_, rfl⟩
  have s0 : 0 ≤ s := by omega
  obtain ⟨ng, hng⟩ : ∃ b, b = decide (2147483648 ≤ X) := ⟨_, rfl⟩
  have Hs := hide hs
  have Hng := hide hng
  clear hs hng
  go_wp2_with fail
  with_reducible refine (lto_3_1 (L.below K) (T.below K) u u0 u1 hu v v0 v1 hv X s ng X0 X1 Hs.out Hng.out).mono ?_
  rintro x' u115 ⟨y, ok, rfl, hT, kb⟩
  replace K := below_trans K kb; clear kb
  go_wp2_with fail
  with_reducible refine (lwidth_3 _ u u0 u1 hu).mono ?_
  rintro x' u116 ⟨rfl, rfl⟩
  go_wp2_with fail
  with_reducible refine (lwidth_1 _ v v0 v1 hv).mono ?_
  rintro x' u117 ⟨rfl, rfl⟩
  go_wp2_with fail
  with_reducible refine (rTo_s_s _ X s ng X0 X1 Hs.out Hng.out).mono ?_
  rintro x' u118 ⟨y', ok', rfl, hR, kb⟩
  replace K := below_trans K kb; clear kb
  obtain ⟨rfl, rfl⟩ := to_same s0 hT hR
  clear hT hR
  go_wp2
  go_ret
  exact ⟨rfl, K⟩

set_option maxHeartbeats 4000000 in
theorem lto_3_2 {w : World} (L : Lays w) (T : Brn w) (u : Int) (u0 : 0 ≤ u) (u1 : u < 256) (hu : u % 4 = 3) (v : Int) (v0 : 0 ≤ v) (v1 : v < 256) (hv : v % 4 = 2) (x s : Int) (ng : Bool) (h0 : 0 ≤ x) (h1 : x < 18446744073709551616) (hs : x % 9223372036854775808 = s) (hng : ng = decide (9223372036854775808 ≤ x)) :
    Calls Tryd.prog 16 #[.int .u8 u, .int .u8 v, .int .u64 x] w fun e w' => ∃ y ok, e = .returned (.tuple #[.int .u64 y, .bool ok]) ∧ ToP 2147483648 8388608 (-149) 2139095040 4503599627370496 (-1074) 9218868437227405312 s ng y ok ∧ Below w.heap.size w w' := by
  have inner : Calls Tryd.prog 49 #[.int .u8 v, .int .u64 x] w fun e w' => ∃ y ok, e = .returned (.tuple #[.int .u64 y, .bool ok]) ∧ ToP 2147483648 8388608 (-149) 2139095040 4503599627370496 (-1074) 9218868437227405312 s ng y ok ∧ Below w.heap.size w w' := by
    go_enter Tryd.func49, Tryd.ntmps49
    go_wp2_with fail
    with_reducible refine (to_m_64 L T x s ng h0 h1 hs hng).mono ?_
    rintro x' w1 ⟨y, ok, rfl, y0, y1, hT, K⟩
    have HT := hide hT
    clear hT hs hng
    go_wp2
    go_ret2
    exact ⟨y, ok, rfl, HT.out, K⟩
  clear hs hng
  go_enter Tryd.func16, Tryd.ntmps16
  go_wp2_with fail
  with_reducible refine inner.mono ?_
  rintro x' w1 ⟨y, ok, rfl, hT, K⟩
  have HT := hide hT
  clear hT inner
  go_wp2
  go_ret2
  exact ⟨y, ok, rfl, HT.out, K⟩
set_option maxRecDepth 20000 in
set_option maxHeartbeats 4000000 in
theorem iwid_3_2 {w : World} (L : Lays w) (T : Brn w) (u : Int) (u0 : 0 ≤ u) (u1 : u < 256) (hu : u % 4 = 3) (v : Int) (v0 : 0 ≤ v) (v1 : v < 256) (hv : v % 4 = 2) (x : Int) (x0 : 0 ≤ x) (x1 : x < 18446744073709551616) :
    Calls Tryd.prog 4 #[.int .u8 u, .int .u8 v, .int .u64 x] w fun e w' => e = .returned (.bool true) ∧ Below w.heap.size w w' := by
  have K := Below.refl w.heap.size w
  go_enter Tryd.func4, Tryd.ntmps4
  go_wp2_with fail
  with_reducible refine (lfit_2 _ v v0 v1 hv x x0 x1).mono ?_
  rintro x' u119 ⟨rfl, rfl⟩
  obtain ⟨X, hX⟩ : ∃ X, x % 18446744073709551616 = X := ⟨_, rfl⟩
  have X0 : 0 ≤ X := by omega
  have X1 : X < 18446744073709551616 := by omega
  rw [hX]
  clear hX
  obtain ⟨s, hs⟩ : ∃ s, X % 9223372036854775808 = s := ⟨_, rfl⟩
  have s0 : 0 ≤ s := by omega
  obtain ⟨ng, hng⟩ : ∃ b, b = decide (9223372036854775808 ≤ X) := ⟨_, rfl⟩
  have Hs := hide hs
  have Hng := hide hng
  clear hs hng
  go_wp2_with fail
  with_reducible refine (lto_3_2 (L.below K) (T.below K) u u0 u1 hu v v0 v1 hv X s ng X0 X1 Hs.out Hng.out).mono ?_
  rintro x' u120 ⟨y, ok, rfl, hT, kb⟩
  replace K := below_trans K kb; clear kb
  go_wp2_with fail
  with_reducible refine (lwidth_3 _ u u0 u1 hu).mono ?_
  rintro x' u121 ⟨rfl, rfl⟩
  go_wp2_with fail
  with_reducible refine (lwidth_2 _ v v0 v1 hv).mono ?_
  rintro x' u122 ⟨rfl, rfl⟩
  go_wp2_with fail
  with_reducible refine (rTo_s_d _ X s ng X0 X1 Hs.out Hng.out).mono ?_
  rintro x' u123 ⟨y', ok', rfl, hR, kb⟩
  replace K := below_trans K kb; clear kb
  obtain ⟨rfl, rfl⟩ := to_same s0 hT hR
  clear hT hR
  go_wp2
  go_ret
  exact ⟨rfl, K⟩

set_option maxHeartbeats 4000000 in
theorem lto_3_3 {w : World} (L : Lays w) (T : Brn w) (u : Int) (u0 : 0 ≤ u) (u1 : u < 256) (hu : u % 4 = 3) (v : Int) (v0 : 0 ≤ v) (v1 : v < 256) (hv : v % 4 = 3) (x s : Int) (ng : Bool) (h0 : 0 ≤ x) (h1 : x < 4294967296) (hs : x % 2147483648 = s) (hng : ng = decide (2147483648 ≤ x)) :
    Calls Tryd.prog 16 #[.int .u8 u, .int .u8 v, .int .u64 x] w fun e w' => ∃ y ok, e = .returned (.tuple #[.int .u64 y, .bool ok]) ∧ ToP 2147483648 8388608 (-149) 2139095040 8388608 (-149) 2139095040 s ng y ok ∧ Below w.heap.size w w' := by
  have inner : Calls Tryd.prog 49 #[.int .u8 v, .int .u64 x] w fun e w' => ∃ y ok, e = .returned (.tuple #[.int .u64 y, .bool ok]) ∧ ToP 2147483648 8388608 (-149) 2139095040 8388608 (-149) 2139095040 s ng y ok ∧ Below w.heap.size w w' := by
    go_enter Tryd.func49, Tryd.ntmps49
    go_wp2_with fail
    with_reducible refine (to_m_m L T x s ng h0 h1 hs hng).mono ?_
    rintro x' w1 ⟨y, ok, rfl, y0, y1, hT, K⟩
    have HT := hide hT
    clear hT hs hng
    go_wp2
    go_ret2
    exact ⟨y, ok, rfl, HT.out, K⟩
  clear hs hng
  go_enter Tryd.func16, Tryd.ntmps16
  go_wp2_with fail
  with_reducible refine inner.mono ?_
  rintro x' w1 ⟨y, ok, rfl, hT, K⟩
  have HT := hide hT
  clear hT inner
  go_wp2
  go_ret2
  exact ⟨y, ok, rfl, HT.out, K⟩
set_option maxRecDepth 20000 in
set_option maxHeartbeats 4000000 in
theorem iwid_3_3 {w : World} (L : Lays w) (T : Brn w) (u : Int) (u0 : 0 ≤ u) (u1 : u < 256) (hu : u % 4 = 3) (v : Int) (v0 : 0 ≤ v) (v1 : v < 256) (hv : v % 4 = 3) (x : Int) (x0 : 0 ≤ x) (x1 : x < 18446744073709551616) :
    Calls Tryd.prog 4 #[.int .u8 u, .int .u8 v, .int .u64 x] w fun e w' => e = .returned (.bool true) ∧ Below w.heap.size w w' := by
  have K := Below.refl w.heap.size w
  go_enter Tryd.func4, Tryd.ntmps4
  go_wp2_with fail
  with_reducible refine (lfit_3 _ v v0 v1 hv x x0 x1).mono ?_
  rintro x' u124 ⟨rfl, rfl⟩
  obtain ⟨X, hX⟩ : ∃ X, x % 4294967296 = X := ⟨_, rfl⟩
  have X0 : 0 ≤ X := by omega
  have X1 : X < 4294967296 := by omega
  rw [hX]
  clear hX
  obtain ⟨s, hs⟩ : ∃ s, X % 2147483648 = s := ⟨_, rfl⟩
  have s0 : 0 ≤ s := by omega
  obtain ⟨ng, hng⟩ : ∃ b, b = decide (2147483648 ≤ X) := ⟨_, rfl⟩
  have Hs := hide hs
  have Hng := hide hng
  clear hs hng
  go_wp2_with fail
  with_reducible refine (lto_3_3 (L.below K) (T.below K) u u0 u1 hu v v0 v1 hv X s ng X0 X1 Hs.out Hng.out).mono ?_
  rintro x' u125 ⟨y, ok, rfl, hT, kb⟩
  replace K := below_trans K kb; clear kb
  go_wp2_with fail
  with_reducible refine (lwidth_3 _ u u0 u1 hu).mono ?_
  rintro x' u126 ⟨rfl, rfl⟩
  go_wp2_with fail
  with_reducible refine (lwidth_3 _ v v0 v1 hv).mono ?_
  rintro x' u127 ⟨rfl, rfl⟩
  go_wp2_with fail
  with_reducible refine (rTo_s_s _ X s ng X0 X1 Hs.out Hng.out).mono ?_
  rintro x' u128 ⟨y', ok', rfl, hR, kb⟩
  replace K := below_trans K kb; clear kb
  obtain ⟨rfl, rfl⟩ := to_same s0 hT hR
  clear hT hR
  go_wp2
  go_ret
  exact ⟨rfl, K⟩

theorem iwid_walk {w : World} (h : Lays w ∧ Brn w) (u : Int) (u0 : 0 ≤ u) (u1 : u < 256) (v : Int) (v0 : 0 ≤ v) (v1 : v < 256) (x : Int) (x0 : 0 ≤ x) (x1 : x < 18446744073709551616) :
    Calls Tryd.prog 4 #[.int .u8 u, .int .u8 v, .int .u64 x] w fun e w' => e = .returned (.bool true) ∧ Below w.heap.size w w' := by
  rcases (by omega : u % 4 = 0 ∨ u % 4 = 1 ∨ u % 4 = 2 ∨ u % 4 = 3) with j | j | j | j <;> rcases (by omega : v % 4 = 0 ∨ v % 4 = 1 ∨ v % 4 = 2 ∨ v % 4 = 3) with k | k | k | k
  · exact iwid_0_0 h.1 h.2 u u0 u1 j v v0 v1 k x x0 x1
  · exact iwid_0_1 h.1 h.2 u u0 u1 j v v0 v1 k x x0 x1
  · exact iwid_0_2 h.1 h.2 u u0 u1 j v v0 v1 k x x0 x1
  · exact iwid_0_3 h.1 h.2 u u0 u1 j v v0 v1 k x x0 x1
  · exact iwid_1_0 h.1 h.2 u u0 u1 j v v0 v1 k x x0 x1
  · exact iwid_1_1 h.1 h.2 u u0 u1 j v v0 v1 k x x0 x1
  · exact iwid_1_2 h.1 h.2 u u0 u1 j v v0 v1 k x x0 x1
  · exact iwid_1_3 h.1 h.2 u u0 u1 j v v0 v1 k x x0 x1
  · exact iwid_2_0 h.1 h.2 u u0 u1 j v v0 v1 k x x0 x1
  · exact iwid_2_1 h.1 h.2 u u0 u1 j v v0 v1 k x x0 x1
  · exact iwid_2_2 h.1 h.2 u u0 u1 j v v0 v1 k x x0 x1
  · exact iwid_2_3 h.1 h.2 u u0 u1 j v v0 v1 k x x0 x1
  · exact iwid_3_0 h.1 h.2 u u0 u1 j v v0 v1 k x x0 x1
  · exact iwid_3_1 h.1 h.2 u u0 u1 j v v0 v1 k x x0 x1
  · exact iwid_3_2 h.1 h.2 u u0 u1 j v v0 v1 k x x0 x1
  · exact iwid_3_3 h.1 h.2 u u0 u1 j v v0 v1 k x x0 x1

end Go.Proofs.YtmmkdihhcmcjjaaDoor
