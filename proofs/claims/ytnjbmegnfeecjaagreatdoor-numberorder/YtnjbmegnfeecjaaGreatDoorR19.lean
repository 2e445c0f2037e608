/- NRef15 -/
import Derived.Test.YtnjbmegnfeecjaaGreatDoorR13
import Derived.Test.YtnjbmegnfeecjaaGreatDoorR16
import Derived.Test.YtnjbmegnfeecjaaGreatDoorR18
import Derived.Test.YtnjbmegnfeecjaaGreatDoorR08
namespace Go.Proofs.YtnjbmegnfeecjaaGreatDoor
open Go.RowKit
set_option linter.unusedVariables false

set_option maxHeartbeats 8000000 in
set_option maxRecDepth 20000 in
theorem nofint_any {w : World} {g0 : Bool} {m0 : Value} {n : Int} {k : Nat} (h : WArg w (.agg #[.bool g0, m0]) n k) (hk : k ≤ 1099511627776) : Calls Tryz.prog 5 #[.agg #[.bool g0, m0]] w fun e' w' => ∃ v, e' = .returned v ∧ NRd w' v k (.w n) ∧ Below w.heap.size w w' := by
  have HA := hide h
  obtain ⟨g', m', a', e', ⟨zs, ⟨o0, c0, e2, -⟩, -⟩, -⟩ := h
  simp at e'
  obtain ⟨rfl, rfl⟩ := e'
  subst e2
  generalize zs.length = l0 at *
  go_enter Tryz.func5, Tryz.ntmps5
  go_upto_region 1 with fail
  have K0 := bel_new w (.cells #[.bool g0, .slice o0 l0 c0] 25)
  have C0 := cell2_new w (.bool g0) (.slice o0 l0 c0) 25
  have s0 : (w.alloc (.cells #[.bool g0, .slice o0 l0 c0] 25)).heap.size = w.heap.size + 1 := by simp
  generalize w.alloc (.cells #[.bool g0, .slice o0 l0 c0] 25) = w0 at *
  have K1 := bel_new w0 (.cells #[.int .i8 0, .int .u64 0, .bool false, .slice none 0 0, .int .u64 0, .int .i8 0, .string ⟨#[]⟩, .slice none 0 0] 32)
  have C1 := C0.below K1
  have G1 : Hid (∀ u, Below (w0.alloc (.cells #[.int .i8 0, .int .u64 0, .bool false, .slice none 0 0, .int .u64 0, .int .i8 0, .string ⟨#[]⟩, .slice none 0 0] 32)).heap.size (w0.alloc (.cells #[.int .i8 0, .int .u64 0, .bool false, .slice none 0 0, .int .u64 0, .int .i8 0, .string ⟨#[]⟩, .slice none 0 0] 32)) u → u.heap[w.heap.size + 1]? = some (.cells #[.int .i8 0, .int .u64 0, .bool false, .slice none 0 0, .int .u64 0, .int .i8 0, .string ⟨#[]⟩, .slice none 0 0] 32 (0, 0))) := hide fun u hu => (hu.block _ (by simp [s0])).trans (by rw [← s0]; exact World.alloc_heap_new w0 _)
  have hs1 : w.heap.size + 1 < (w0.alloc (.cells #[.int .i8 0, .int .u64 0, .bool false, .slice none 0 0, .int .u64 0, .int .i8 0, .string ⟨#[]⟩, .slice none 0 0] 32)).heap.size := by simp [s0]
  have HK1 := hide (below_trans K0 K1)
  generalize w0.alloc (.cells #[.int .i8 0, .int .u64 0, .bool false, .slice none 0 0, .int .u64 0, .int .i8 0, .string ⟨#[]⟩, .slice none 0 0] 32) = w1 at *
  have d0 := C1.c0
  have d1 := C1.c1
  clear K0 K1 C0 C1 s0
  go_wp2_with fail
  have hA2 : WArg w1 (.agg #[.bool g0, .slice o0 l0 c0]) n k := by
    obtain ⟨g', m', a', e', h1, h2⟩ := HA.out
    exact ⟨g', m', a', e', h1.below HK1.out, h2⟩
  with_reducible refine (wnorm_any hA2 hk).mono ?_
  rintro e w2 ⟨va, rfl, hW, K2⟩
  obtain ⟨g, ao, ml, mc, rfl, -⟩ := wnum_nrd hW
  have HN3 := hide hW
  have hg := G1.out w2 K2
  have HK03 := hide (below_trans HK1.out K2)
  obtain ⟨c0', c1, c2, c3, c4, c5, c6, c7, f0, f1, f2, f3, f4, f5, f6, f7⟩ := cells8 hg
  clear hg hW K2 hA2 d0 d1 HK1
  go_wp2
  refine bodyPost_ret (v := nvW g (.slice ao ml mc)) ?_ rfl ?_
  · rw [results_cellN rfl]
    go_simp
  · obtain ⟨g', ao', ml', mc', e', hN⟩ := wnum_nrd ((((((((HN3.out.off (o := 0) (u := .int .i8 3) hs1).off (o := 1) (u := .int .u64 0) hs1).off (o := 2) (u := .bool g) hs1).off (o := 3) (u := .slice ao ml mc) hs1).off (o := 4) (u := .int .u64 0) hs1).off (o := 5) (u := .int .i8 0) hs1).off (o := 6) (u := .string ⟨#[]⟩) hs1).off (o := 7) (u := .slice none 0 0) hs1)
    simp only [Value.agg.injEq, Array.mk.injEq, List.cons.injEq, and_true, Value.bool.injEq] at e'
    obtain ⟨rfl, e2⟩ := e'
    rw [← e2] at hN
    exact ⟨_, rfl, hN, set8_below HK03.out (by omega)⟩

set_option maxHeartbeats 8000000 in
theorem beyondnat_one {w : World} {b : Nat} {mo : Option Addr} {ml mc : Nat} (hc : w.cell? ⟨b, 0, none⟩ = some (.slice mo ml mc)) (hm : ml ≤ 70368744177664) : Calls Tryz.prog 4 #[.slice (some ⟨b, 0, none⟩) 1 1] w fun e' w' => e' = .returned (.bool (decide (1048576 < 1 + ml))) ∧ w' = w := by
  go_enter Tryz.func4, Tryz.ntmps4
  go_wp2
  go_loopw [3, 4] (fun n i wr => wr = w ∧ ((n = .int .i64 0 ∧ i = .int .i64 0) ∨ (n = .int .i64 ((1 + ml : Nat) : Int) ∧ i = .int .i64 1 ∧ 1 + ml ≤ 1048576))) (fun _ i _ => 1 - (intOf i).toNat)
  case atStart => exact ⟨rfl, .inl ⟨rfl, rfl⟩⟩
  case round =>
    obtain ⟨rfl, ⟨rfl, rfl⟩ | ⟨rfl, rfl, hle⟩⟩ := hrel
    · by_cases hb : 1048576 < 1 + ml
      · have q : (1048576 : Int) < 1 + (ml : Int) := by omega
        have HE := hide (decide_eq_true hb)
        clear hb
        go_wp2
        go_ret
        exact ⟨by rw [HE.out]; rfl, rfl⟩
      · have q : ¬ (1048576 : Int) < 1 + (ml : Int) := by omega
        go_wp2
        go_roundw
        case rel => exact ⟨by trivial, .inr ⟨by simp, rfl, by omega⟩⟩
        case measure => simp [intOf]
    · have hb : ¬ 1048576 < 1 + ml := by omega
      have HE := hide (decide_eq_false hb)
      clear hb
      go_wp2
      go_ret
      exact ⟨by rw [HE.out]; rfl, rfl⟩

end Go.Proofs.YtnjbmegnfeecjaaGreatDoor
