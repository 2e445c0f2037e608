/- NRef15 -/
import Derived.Test.YtbneipinenglgaaGreatDoorR12
import Derived.Test.YtbneipinenglgaaGreatDoorR18
import Derived.Test.YtbneipinenglgaaGreatDoorR20
import Derived.Test.YtbneipinenglgaaGreatDoorR08
namespace Go.Proofs.YtbneipinenglgaaGreatDoor
open Go.RowKit
set_option linter.unusedVariables false

set_option maxHeartbeats 8000000 in
set_option maxRecDepth 20000 in
theorem rof_16 {w : World} (x : Int) (x0 : 0 ≤ x) (x1 : x < 65536) {z : NZ} (hz : OfIs 9223372036854775808 4503599627370496 (-1074) 9218868437227405312 1024 (-24) 31744 (x % 32768) (decide (32768 ≤ x)) z) (hf : ∀ b, z = .f b → FOk b) : Calls Tryz.prog 17 #[.int .i64 16, .int .u64 x] w fun e' w' => ∃ v, e' = .returned v ∧ NRd w' v 400 z ∧ Below w.heap.size w w' := by
  have HZ := hide hz
  have HF := hide hf
  clear hz hf
  go_enter Tryz.func17, Tryz.ntmps17
  go_upto_region 1 with fail
  have K1 := bel_new w (.cells #[.int .i8 0, .int .u64 0, .bool false, .slice none 0 0, .int .u64 0, .int .i8 0, .string ⟨#[]⟩, .slice none 0 0] 32)
  have G1 : Hid (∀ u, Below (w.alloc (.cells #[.int .i8 0, .int .u64 0, .bool false, .slice none 0 0, .int .u64 0, .int .i8 0, .string ⟨#[]⟩, .slice none 0 0] 32)).heap.size (w.alloc (.cells #[.int .i8 0, .int .u64 0, .bool false, .slice none 0 0, .int .u64 0, .int .i8 0, .string ⟨#[]⟩, .slice none 0 0] 32)) u → u.heap[w.heap.size]? = some (.cells #[.int .i8 0, .int .u64 0, .bool false, .slice none 0 0, .int .u64 0, .int .i8 0, .string ⟨#[]⟩, .slice none 0 0] 32 (0, 0))) := hide fun u hu => (hu.block _ (by simp)).trans (World.alloc_heap_new w _)
  have hs1 : w.heap.size < (w.alloc (.cells #[.int .i8 0, .int .u64 0, .bool false, .slice none 0 0, .int .u64 0, .int .i8 0, .string ⟨#[]⟩, .slice none 0 0] 32)).heap.size := by simp
  generalize w.alloc (.cells #[.int .i8 0, .int .u64 0, .bool false, .slice none 0 0, .int .u64 0, .int .i8 0, .string ⟨#[]⟩, .slice none 0 0] 32) = w1 at *
  have HK1 := hide K1
  clear K1
  go_wp2_with fail
  with_reducible refine (rInt_h w1 x (x % 32768) (decide (32768 ≤ x)) x0 x1 rfl rfl).mono ?_
  rintro e w2 ⟨va, n, ok, rfl, hW, hI, K2⟩
  obtain ⟨g, ao, ml, mc, rfl, -⟩ := wnum_nrd hW
  have HN := hide hW
  have HI := hide hI
  have HK2 := hide K2
  clear hI K2 hW
  cases ok
  · have KK := hide (below_trans HK1.out HK2.out)
    have K3 := bel_new w2 (.cells #[.bool g, .slice ao ml mc] 26)
    have HK3 := hide (below_trans HK2.out K3)
    have HK03 := hide (below_trans KK.out K3)
    clear K3
    go_upto_region 4 with fail
    generalize w2.alloc (.cells #[.bool g, .slice ao ml mc] 26) = w3 at *
    go_wp2_with fail
    with_reducible refine (rTo_d_h w3 x (x % 32768) (decide (32768 ≤ x)) x0 x1 rfl rfl).mono ?_
    rintro e w4 ⟨y, ok, rfl, hT, K4⟩
    have hg := G1.out w4 (below_trans HK3.out K4)
    have HT4 := hide hT
    have HK4 := hide (below_trans HK03.out K4)
    clear hT K4
    obtain ⟨c0, c1, c2, c3, c4, c5, c6, c7, f0, f1, f2, f3, f4, f5, f6, f7⟩ := cells8 hg
    clear hg
    go_wp2
    refine bodyPost_ret (v := nvF y) ?_ rfl ?_
    · rw [results_cellN rfl]
      go_simp
    · rcases HZ.out with ⟨n', h1, h2⟩ | ⟨n', b, ok', h1, h2, h3⟩
      · exact absurd (h1.unique (Int.emod_nonneg _ (by decide)) HI.out).2 (by simp)
      · obtain ⟨rfl, -⟩ := to_same (Int.emod_nonneg _ (by decide)) h2 HT4.out
        exact ⟨_, rfl, by rw [h3]; exact ⟨rfl, HF.out _ h3⟩, set8_below HK4.out (Nat.le_refl _)⟩
  · have KK := hide (below_trans HK1.out HK2.out)
    have K3 := bel_new w2 (.cells #[.bool g, .slice ao ml mc] 26)
    have C2 := cell2_new w2 (.bool g) (.slice ao ml mc) 26
    have HK3 := hide (below_trans HK2.out K3)
    have HK03 := hide (below_trans KK.out K3)
    have HN3 := hide (HN.out.far K3)
    clear K3
    go_upto_region 3 with fail
    generalize w2.alloc (.cells #[.bool g, .slice ao ml mc] 26) = w3 at *
    have hg := G1.out w3 HK3.out
    obtain ⟨c0, c1, c2, c3, c4, c5, c6, c7, f0, f1, f2, f3, f4, f5, f6, f7⟩ := cells8 hg
    have d0 := C2.c0
    have d1 := C2.c1
    clear hg
    go_wp2
    refine bodyPost_ret (v := nvW g (.slice ao ml mc)) ?_ rfl ?_
    · rw [results_cellN rfl]
      go_simp
    · obtain ⟨g', ao', ml', mc', e', hN⟩ := wnum_nrd ((((((((HN3.out.off (o := 0) (u := .int .i8 3) hs1).off (o := 1) (u := .int .u64 0) hs1).off (o := 2) (u := .bool g) hs1).off (o := 3) (u := .slice ao ml mc) hs1).off (o := 4) (u := .int .u64 0) hs1).off (o := 5) (u := .int .i8 0) hs1).off (o := 6) (u := .string ⟨#[]⟩) hs1).off (o := 7) (u := .slice none 0 0) hs1)
      simp only [Value.agg.injEq, Array.mk.injEq, List.cons.injEq, and_true, Value.bool.injEq] at e'
      obtain ⟨rfl, e2⟩ := e'
      rw [← e2] at hN
      rcases HZ.out with ⟨n', h1, h2⟩ | ⟨n', b, ok', h1, h2, h3⟩
      · obtain ⟨rfl, -⟩ := h1.unique (Int.emod_nonneg _ (by decide)) HI.out
        exact ⟨_, rfl, by rw [h2]; exact hN, set8_below HK03.out (Nat.le_refl _)⟩
      · exact absurd (h1.unique (Int.emod_nonneg _ (by decide)) HI.out).2 (by simp)

set_option maxHeartbeats 8000000 in
set_option maxRecDepth 20000 in
theorem rof_32 {w : World} (x : Int) (x0 : 0 ≤ x) (x1 : x < 4294967296) {z : NZ} (hz : OfIs 9223372036854775808 4503599627370496 (-1074) 9218868437227405312 8388608 (-149) 2139095040 (x % 2147483648) (decide (2147483648 ≤ x)) z) (hf : ∀ b, z = .f b → FOk b) : Calls Tryz.prog 17 #[.int .i64 32, .int .u64 x] w fun e' w' => ∃ v, e' = .returned v ∧ NRd w' v 400 z ∧ Below w.heap.size w w' := by
  have HZ := hide hz
  have HF := hide hf
  clear hz hf
  go_enter Tryz.func17, Tryz.ntmps17
  go_upto_region 1 with fail
  have K1 := bel_new w (.cells #[.int .i8 0, .int .u64 0, .bool false, .slice none 0 0, .int .u64 0, .int .i8 0, .string ⟨#[]⟩, .slice none 0 0] 32)
  have G1 : Hid (∀ u, Below (w.alloc (.cells #[.int .i8 0, .int .u64 0, .bool false, .slice none 0 0, .int .u64 0, .int .i8 0, .string ⟨#[]⟩, .slice none 0 0] 32)).heap.size (w.alloc (.cells #[.int .i8 0, .int .u64 0, .bool false, .slice none 0 0, .int .u64 0, .int .i8 0, .string ⟨#[]⟩, .slice none 0 0] 32)) u → u.heap[w.heap.size]? = some (.cells #[.int .i8 0, .int .u64 0, .bool false, .slice none 0 0, .int .u64 0, .int .i8 0, .string ⟨#[]⟩, .slice none 0 0] 32 (0, 0))) := hide fun u hu => (hu.block _ (by simp)).trans (World.alloc_heap_new w _)
  have hs1 : w.heap.size < (w.alloc (.cells #[.int .i8 0, .int .u64 0, .bool false, .slice none 0 0, .int .u64 0, .int .i8 0, .string ⟨#[]⟩, .slice none 0 0] 32)).heap.size := by simp
  generalize w.alloc (.cells #[.int .i8 0, .int .u64 0, .bool false, .slice none 0 0, .int .u64 0, .int .i8 0, .string ⟨#[]⟩, .slice none 0 0] 32) = w1 at *
  have HK1 := hide K1
  clear K1
  go_wp2_with fail
  with_reducible refine (rInt_s w1 x (x % 2147483648) (decide (2147483648 ≤ x)) x0 x1 rfl rfl).mono ?_
  rintro e w2 ⟨va, n, ok, rfl, hW, hI, K2⟩
  obtain ⟨g, ao, ml, mc, rfl, -⟩ := wnum_nrd hW
  have HN := hide hW
  have HI := hide hI
  have HK2 := hide K2
  clear hI K2 hW
  cases ok
  · have KK := hide (below_trans HK1.out HK2.out)
    have K3 := bel_new w2 (.cells #[.bool g, .slice ao ml mc] 26)
    have HK3 := hide (below_trans HK2.out K3)
    have HK03 := hide (below_trans KK.out K3)
    clear K3
    go_upto_region 4 with fail
    generalize w2.alloc (.cells #[.bool g, .slice ao ml mc] 26) = w3 at *
    go_wp2_with fail
    with_reducible refine (rTo_d_s w3 x (x % 2147483648) (decide (2147483648 ≤ x)) x0 x1 rfl rfl).mono ?_
    rintro e w4 ⟨y, ok, rfl, hT, K4⟩
    have hg := G1.out w4 (below_trans HK3.out K4)
    have HT4 := hide hT
    have HK4 := hide (below_trans HK03.out K4)
    clear hT K4
    obtain ⟨c0, c1, c2, c3, c4, c5, c6, c7, f0, f1, f2, f3, f4, f5, f6, f7⟩ := cells8 hg
    clear hg
    go_wp2
    refine bodyPost_ret (v := nvF y) ?_ rfl ?_
    · rw [results_cellN rfl]
      go_simp
    · rcases HZ.out with ⟨n', h1, h2⟩ | ⟨n', b, ok', h1, h2, h3⟩
      · exact absurd (h1.unique (Int.emod_nonneg _ (by decide)) HI.out).2 (by simp)
      · obtain ⟨rfl, -⟩ := to_same (Int.emod_nonneg _ (by decide)) h2 HT4.out
        exact ⟨_, rfl, by rw [h3]; exact ⟨rfl, HF.out _ h3⟩, set8_below HK4.out (Nat.le_refl _)⟩
  · have KK := hide (below_trans HK1.out HK2.out)
    have K3 := bel_new w2 (.cells #[.bool g, .slice ao ml mc] 26)
    have C2 := cell2_new w2 (.bool g) (.slice ao ml mc) 26
    have HK3 := hide (below_trans HK2.out K3)
    have HK03 := hide (below_trans KK.out K3)
    have HN3 := hide (HN.out.far K3)
    clear K3
    go_upto_region 3 with fail
    generalize w2.alloc (.cells #[.bool g, .slice ao ml mc] 26) = w3 at *
    have hg := G1.out w3 HK3.out
    obtain ⟨c0, c1, c2, c3, c4, c5, c6, c7, f0, f1, f2, f3, f4, f5, f6, f7⟩ := cells8 hg
    have d0 := C2.c0
    have d1 := C2.c1
    clear hg
    go_wp2
    refine bodyPost_ret (v := nvW g (.slice ao ml mc)) ?_ rfl ?_
    · rw [results_cellN rfl]
      go_simp
    · obtain ⟨g', ao', ml', mc', e', hN⟩ := wnum_nrd ((((((((HN3.out.off (o := 0) (u := .int .i8 3) hs1).off (o := 1) (u := .int .u64 0) hs1).off (o := 2) (u := .bool g) hs1).off (o := 3) (u := .slice ao ml mc) hs1).off (o := 4) (u := .int .u64 0) hs1).off (o := 5) (u := .int .i8 0) hs1).off (o := 6) (u := .string ⟨#[]⟩) hs1).off (o := 7) (u := .slice none 0 0) hs1)
      simp only [Value.agg.injEq, Array.mk.injEq, List.cons.injEq, and_true, Value.bool.injEq] at e'
      obtain ⟨rfl, e2⟩ := e'
      rw [← e2] at hN
      rcases HZ.out with ⟨n', h1, h2⟩ | ⟨n', b, ok', h1, h2, h3⟩
      · obtain ⟨rfl, -⟩ := h1.unique (Int.emod_nonneg _ (by decide)) HI.out
        exact ⟨_, rfl, by rw [h2]; exact hN, set8_below HK03.out (Nat.le_refl _)⟩
      · exact absurd (h1.unique (Int.emod_nonneg _ (by decide)) HI.out).2 (by simp)

set_option maxHeartbeats 8000000 in
set_option maxRecDepth 20000 in
theorem rof_64 {w : World} (x : Int) (x0 : 0 ≤ x) (x1 : x < 18446744073709551616) {z : NZ} (hz : OfIs 9223372036854775808 4503599627370496 (-1074) 9218868437227405312 4503599627370496 (-1074) 9218868437227405312 (x % 9223372036854775808) (decide (9223372036854775808 ≤ x)) z) (hf : ∀ b, z = .f b → FOk b) : Calls Tryz.prog 17 #[.int .i64 64, .int .u64 x] w fun e' w' => ∃ v, e' = .returned v ∧ NRd w' v 400 z ∧ Below w.heap.size w w' := by
  have HZ := hide hz
  have HF := hide hf
  clear hz hf
  go_enter Tryz.func17, Tryz.ntmps17
  go_upto_region 1 with fail
  have K1 := bel_new w (.cells #[.int .i8 0, .int .u64 0, .bool false, .slice none 0 0, .int .u64 0, .int .i8 0, .string ⟨#[]⟩, .slice none 0 0] 32)
  have G1 : Hid (∀ u, Below (w.alloc (.cells #[.int .i8 0, .int .u64 0, .bool false, .slice none 0 0, .int .u64 0, .int .i8 0, .string ⟨#[]⟩, .slice none 0 0] 32)).heap.size (w.alloc (.cells #[.int .i8 0, .int .u64 0, .bool false, .slice none 0 0, .int .u64 0, .int .i8 0, .string ⟨#[]⟩, .slice none 0 0] 32)) u → u.heap[w.heap.size]? = some (.cells #[.int .i8 0, .int .u64 0, .bool false, .slice none 0 0, .int .u64 0, .int .i8 0, .string ⟨#[]⟩, .slice none 0 0] 32 (0, 0))) := hide fun u hu => (hu.block _ (by simp)).trans (World.alloc_heap_new w _)
  have hs1 : w.heap.size < (w.alloc (.cells #[.int .i8 0, .int .u64 0, .bool false, .slice none 0 0, .int .u64 0, .int .i8 0, .string ⟨#[]⟩, .slice none 0 0] 32)).heap.size := by simp
  generalize w.alloc (.cells #[.int .i8 0, .int .u64 0, .bool false, .slice none 0 0, .int .u64 0, .int .i8 0, .string ⟨#[]⟩, .slice none 0 0] 32) = w1 at *
  have HK1 := hide K1
  clear K1
  go_wp2_with fail
  with_reducible refine (rInt_d w1 x (x % 9223372036854775808) (decide (9223372036854775808 ≤ x)) x0 x1 rfl rfl).mono ?_
  rintro e w2 ⟨va, n, ok, rfl, hW, hI, K2⟩
  obtain ⟨g, ao, ml, mc, rfl, -⟩ := wnum_nrd hW
  have HN := hide hW
  have HI := hide hI
  have HK2 := hide K2
  clear hI K2 hW
  cases ok
  · have KK := hide (below_trans HK1.out HK2.out)
    have K3 := bel_new w2 (.cells #[.bool g, .slice ao ml mc] 26)
    have HK3 := hide (below_trans HK2.out K3)
    have HK03 := hide (below_trans KK.out K3)
    clear K3
    go_upto_region 4 with fail
    generalize w2.alloc (.cells #[.bool g, .slice ao ml mc] 26) = w3 at *
    go_wp2_with fail
    with_reducible refine (rTo_d_d w3 x (x % 9223372036854775808) (decide (9223372036854775808 ≤ x)) x0 x1 rfl rfl).mono ?_
    rintro e w4 ⟨y, ok, rfl, hT, K4⟩
    have hg := G1.out w4 (below_trans HK3.out K4)
    have HT4 := hide hT
    have HK4 := hide (below_trans HK03.out K4)
    clear hT K4
    obtain ⟨c0, c1, c2, c3, c4, c5, c6, c7, f0, f1, f2, f3, f4, f5, f6, f7⟩ := cells8 hg
    clear hg
    go_wp2
    refine bodyPost_ret (v := nvF y) ?_ rfl ?_
    · rw [results_cellN rfl]
      go_simp
    · rcases HZ.out with ⟨n', h1, h2⟩ | ⟨n', b, ok', h1, h2, h3⟩
      · exact absurd (h1.unique (Int.emod_nonneg _ (by decide)) HI.out).2 (by simp)
      · obtain ⟨rfl, -⟩ := to_same (Int.emod_nonneg _ (by decide)) h2 HT4.out
        exact ⟨_, rfl, by rw [h3]; exact ⟨rfl, HF.out _ h3⟩, set8_below HK4.out (Nat.le_refl _)⟩
  · have KK := hide (below_trans HK1.out HK2.out)
    have K3 := bel_new w2 (.cells #[.bool g, .slice ao ml mc] 26)
    have C2 := cell2_new w2 (.bool g) (.slice ao ml mc) 26
    have HK3 := hide (below_trans HK2.out K3)
    have HK03 := hide (below_trans KK.out K3)
    have HN3 := hide (HN.out.far K3)
    clear K3
    go_upto_region 3 with fail
    generalize w2.alloc (.cells #[.bool g, .slice ao ml mc] 26) = w3 at *
    have hg := G1.out w3 HK3.out
    obtain ⟨c0, c1, c2, c3, c4, c5, c6, c7, f0, f1, f2, f3, f4, f5, f6, f7⟩ := cells8 hg
    have d0 := C2.c0
    have d1 := C2.c1
    clear hg
    go_wp2
    refine bodyPost_ret (v := nvW g (.slice ao ml mc)) ?_ rfl ?_
    · rw [results_cellN rfl]
      go_simp
    · obtain ⟨g', ao', ml', mc', e', hN⟩ := wnum_nrd ((((((((HN3.out.off (o := 0) (u := .int .i8 3) hs1).off (o := 1) (u := .int .u64 0) hs1).off (o := 2) (u := .bool g) hs1).off (o := 3) (u := .slice ao ml mc) hs1).off (o := 4) (u := .int .u64 0) hs1).off (o := 5) (u := .int .i8 0) hs1).off (o := 6) (u := .string ⟨#[]⟩) hs1).off (o := 7) (u := .slice none 0 0) hs1)
      simp only [Value.agg.injEq, Array.mk.injEq, List.cons.injEq, and_true, Value.bool.injEq] at e'
      obtain ⟨rfl, e2⟩ := e'
      rw [← e2] at hN
      rcases HZ.out with ⟨n', h1, h2⟩ | ⟨n', b, ok', h1, h2, h3⟩
      · obtain ⟨rfl, -⟩ := h1.unique (Int.emod_nonneg _ (by decide)) HI.out
        exact ⟨_, rfl, by rw [h2]; exact hN, set8_below HK03.out (Nat.le_refl _)⟩
      · exact absurd (h1.unique (Int.emod_nonneg _ (by decide)) HI.out).2 (by simp)

set_option maxHeartbeats 8000000 in
set_option maxRecDepth 20000 in
theorem nofint_any {w : World} {g0 : Bool} {m0 : Value} {n : Int} {k : Nat} (h : WArg w (.agg #[.bool g0, m0]) n k) (hk : k ≤ 1099511627776) : Calls Tryz.prog 14 #[.agg #[.bool g0, m0]] w fun e' w' => ∃ v, e' = .returned v ∧ NRd w' v k (.w n) ∧ Below w.heap.size w w' := by
  have HA := hide h
  obtain ⟨g', m', a', e', ⟨zs, ⟨o0, c0, e2, -⟩, -⟩, -⟩ := h
  simp at e'
  obtain ⟨rfl, rfl⟩ := e'
  subst e2
  generalize zs.length = l0 at *
  go_enter Tryz.func14, Tryz.ntmps14
  go_upto_region 1 with fail
  have K0 := bel_new w (.cells #[.bool g0, .slice o0 l0 c0] 26)
  have C0 := cell2_new w (.bool g0) (.slice o0 l0 c0) 26
  have s0 : (w.alloc (.cells #[.bool g0, .slice o0 l0 c0] 26)).heap.size = w.heap.size + 1 := by simp
  generalize w.alloc (.cells #[.bool g0, .slice o0 l0 c0] 26) = w0 at *
  have K1 := bel_new w0 (.cells #[.int .i8 0, .int .u64 0, .bool false, .slice none 0 0, .int .u64 0, .int .i8 0, .string ⟨#[]⟩, .slice none 0 0] 32)
  have C1 := C0.below K1
  have G1 : Hid (∀ u, Below (w0.alloc (.cells #[.int .i8 0, .int .u64 0, .bool false, .slice none 0 0, .int .u64 0, .int .i8 0, .string ⟨#[]⟩, .slice none 0 0] 32)).heap.size (w0.alloc (.cells #[.int .i8 0, .int .u64 0, .bool false, .slice none 0 0, .int .u64 0, .int .i8 0, .string ⟨#[]⟩, .slice none 0 0] 32)) u → u.heap[w.heap.size + 1]? = some (.cells #[.int .i8 0, .int .u64 0, .bool false, .slice none 0 0, .int .u64 0, .int .i8 0, .string ⟨#[]⟩, .slice none 0 0] 32 (0, 0))) := hide fun u hu => (hu.block _ (by simp [s0])).trans (by rw [← s0]; exact World.alloc_heap_new w0 _)
  have hs1 : w.heap.size + 1 < (w0.alloc (.cells #[.int .i8 0, .int .u64 0, .bool false, .slice none 0 0, .int .u64 0, .int .i8 0, .string ⟨#[]⟩, .slice none 0 0] 32)).heap.size := by simp [s0]
  have HK1 := hide (below_trans K0 K1)
  generalize w0.alloc (.cells #[.int .i8 0, .int .u64 0, .bool false, .slice none 0 0, .int .u64 0, .int .i8 0, .string ⟨#[]⟩, .slice none 0 0] 32) = w1 at *
  have d0 := C1.c0
  have d1 := C1.c1
  clear K0 K1 C0 C1 s0
  go_wp2_with fail
  have hA2 : WArg w1 (.agg #[.bool g0, .slice o0 l0 c0]) n k := by
    obtain ⟨g', m', a', e', h1, h2⟩ := HA.out
    exact ⟨g', m', a', e', h1.below HK1.out, h2⟩
  with_reducible refine (wnorm_any hA2 hk).mono ?_
  rintro e w2 ⟨va, rfl, hW, K2⟩
  obtain ⟨g, ao, ml, mc, rfl, -⟩ := wnum_nrd hW
  have HN3 := hide hW
  have hg := G1.out w2 K2
  have HK03 := hide (below_trans HK1.out K2)
  obtain ⟨c0', c1, c2, c3, c4, c5, c6, c7, f0, f1, f2, f3, f4, f5, f6, f7⟩ := cells8 hg
  clear hg hW K2 hA2 d0 d1 HK1
  go_wp2
  refine bodyPost_ret (v := nvW g (.slice ao ml mc)) ?_ rfl ?_
  · rw [results_cellN rfl]
    go_simp
  · obtain ⟨g', ao', ml', mc', e', hN⟩ := wnum_nrd ((((((((HN3.out.off (o := 0) (u := .int .i8 3) hs1).off (o := 1) (u := .int .u64 0) hs1).off (o := 2) (u := .bool g) hs1).off (o := 3) (u := .slice ao ml mc) hs1).off (o := 4) (u := .int .u64 0) hs1).off (o := 5) (u := .int .i8 0) hs1).off (o := 6) (u := .string ⟨#[]⟩) hs1).off (o := 7) (u := .slice none 0 0) hs1)
    simp only [Value.agg.injEq, Array.mk.injEq, List.cons.injEq, and_true, Value.bool.injEq] at e'
    obtain ⟨rfl, e2⟩ := e'
    rw [← e2] at hN
    exact ⟨_, rfl, hN, set8_below HK03.out (by omega)⟩

set_option maxHeartbeats 8000000 in
set_option maxRecDepth 20000 in
theorem rofint_any {w : World} {g0 : Bool} {m0 : Value} {n : Int} {k : Nat} (h : WArg w (.agg #[.bool g0, m0]) n k) (hk : k ≤ 1099511627776) : Calls Tryz.prog 18 #[.agg #[.bool g0, m0]] w fun e' w' => ∃ v, e' = .returned v ∧ NRd w' v k (.w n) ∧ Below w.heap.size w w' := by
  have HA := hide h
  obtain ⟨g', m', a', e', ⟨zs, ⟨o0, c0, e2, -⟩, -⟩, -⟩ := h
  simp at e'
  obtain ⟨rfl, rfl⟩ := e'
  subst e2
  generalize zs.length = l0 at *
  go_enter Tryz.func18, Tryz.ntmps18
  go_upto_region 1 with fail
  have K0 := bel_new w (.cells #[.bool g0, .slice o0 l0 c0] 26)
  have C0 := cell2_new w (.bool g0) (.slice o0 l0 c0) 26
  have s0 : (w.alloc (.cells #[.bool g0, .slice o0 l0 c0] 26)).heap.size = w.heap.size + 1 := by simp
  generalize w.alloc (.cells #[.bool g0, .slice o0 l0 c0] 26) = w0 at *
  have K1 := bel_new w0 (.cells #[.int .i8 0, .int .u64 0, .bool false, .slice none 0 0, .int .u64 0, .int .i8 0, .string ⟨#[]⟩, .slice none 0 0] 32)
  have C1 := C0.below K1
  have G1 : Hid (∀ u, Below (w0.alloc (.cells #[.int .i8 0, .int .u64 0, .bool false, .slice none 0 0, .int .u64 0, .int .i8 0, .string ⟨#[]⟩, .slice none 0 0] 32)).heap.size (w0.alloc (.cells #[.int .i8 0, .int .u64 0, .bool false, .slice none 0 0, .int .u64 0, .int .i8 0, .string ⟨#[]⟩, .slice none 0 0] 32)) u → u.heap[w.heap.size + 1]? = some (.cells #[.int .i8 0, .int .u64 0, .bool false, .slice none 0 0, .int .u64 0, .int .i8 0, .string ⟨#[]⟩, .slice none 0 0] 32 (0, 0))) := hide fun u hu => (hu.block _ (by simp [s0])).trans (by rw [← s0]; exact World.alloc_heap_new w0 _)
  have hs1 : w.heap.size + 1 < (w0.alloc (.cells #[.int .i8 0, .int .u64 0, .bool false, .slice none 0 0, .int .u64 0, .int .i8 0, .string ⟨#[]⟩, .slice none 0 0] 32)).heap.size := by simp [s0]
  have HK1 := hide (below_trans K0 K1)
  generalize w0.alloc (.cells #[.int .i8 0, .int .u64 0, .bool false, .slice none 0 0, .int .u64 0, .int .i8 0, .string ⟨#[]⟩, .slice none 0 0] 32) = w1 at *
  have d0 := C1.c0
  have d1 := C1.c1
  clear K0 K1 C0 C1 s0
  go_wp2_with fail
  have hA2 : WArg w1 (.agg #[.bool g0, .slice o0 l0 c0]) n k := by
    obtain ⟨g', m', a', e', h1, h2⟩ := HA.out
    exact ⟨g', m', a', e', h1.below HK1.out, h2⟩
  with_reducible refine (r3norm_any hA2 hk).mono ?_
  rintro e w2 ⟨va, rfl, hW, K2⟩
  obtain ⟨g, ao, ml, mc, rfl, -⟩ := wnum_nrd hW
  have HN3 := hide hW
  have hg := G1.out w2 K2
  have HK03 := hide (below_trans HK1.out K2)
  obtain ⟨c0', c1, c2, c3, c4, c5, c6, c7, f0, f1, f2, f3, f4, f5, f6, f7⟩ := cells8 hg
  clear hg hW K2 hA2 d0 d1 HK1
  go_wp2
  refine bodyPost_ret (v := nvW g (.slice ao ml mc)) ?_ rfl ?_
  · rw [results_cellN rfl]
    go_simp
  · obtain ⟨g', ao', ml', mc', e', hN⟩ := wnum_nrd ((((((((HN3.out.off (o := 0) (u := .int .i8 3) hs1).off (o := 1) (u := .int .u64 0) hs1).off (o := 2) (u := .bool g) hs1).off (o := 3) (u := .slice ao ml mc) hs1).off (o := 4) (u := .int .u64 0) hs1).off (o := 5) (u := .int .i8 0) hs1).off (o := 6) (u := .string ⟨#[]⟩) hs1).off (o := 7) (u := .slice none 0 0) hs1)
    simp only [Value.agg.injEq, Array.mk.injEq, List.cons.injEq, and_true, Value.bool.injEq] at e'
    obtain ⟨rfl, e2⟩ := e'
    rw [← e2] at hN
    exact ⟨_, rfl, hN, set8_below HK03.out (by omega)⟩

set_option maxHeartbeats 8000000 in
theorem beyondnat_one {w : World} {b : Nat} {mo : Option Addr} {ml mc : Nat} (hc : w.cell? ⟨b, 0, none⟩ = some (.slice mo ml mc)) (hm : ml ≤ 70368744177664) : Calls Tryz.prog 9 #[.slice (some ⟨b, 0, none⟩) 1 1] w fun e' w' => e' = .returned (.bool (decide (1048576 < 1 + ml))) ∧ w' = w := by
  go_enter Tryz.func9, Tryz.ntmps9
  go_wp2
  go_loopw [3, 4] (fun n i wr => wr = w ∧ ((n = .int .i64 0 ∧ i = .int .i64 0) ∨ (n = .int .i64 ((1 + ml : Nat) : Int) ∧ i = .int .i64 1 ∧ 1 + ml ≤ 1048576))) (fun _ i _ => 1 - (intOf i).toNat)
  case atStart => exact ⟨rfl, .inl ⟨rfl, rfl⟩⟩
  case round =>
    obtain ⟨rfl, ⟨rfl, rfl⟩ | ⟨rfl, rfl, hle⟩⟩ := hrel
    · by_cases hb : 1048576 < 1 + ml
      · have q : (1048576 : Int) < 1 + (ml : Int) := by omega
        have HE := hide (decide_eq_true hb)
        clear hb
        go_wp2
        go_ret
        exact ⟨by rw [HE.out]; rfl, rfl⟩
      · have q : ¬ (1048576 : Int) < 1 + (ml : Int) := by omega
        go_wp2
        go_roundw
        case rel => exact ⟨by trivial, .inr ⟨by simp, rfl, by omega⟩⟩
        case measure => simp [intOf]
    · have hb : ¬ 1048576 < 1 + ml := by omega
      have HE := hide (decide_eq_false hb)
      clear hb
      go_wp2
      go_ret
      exact ⟨by rw [HE.out]; rfl, rfl⟩

end Go.Proofs.YtbneipinenglgaaGreatDoor
