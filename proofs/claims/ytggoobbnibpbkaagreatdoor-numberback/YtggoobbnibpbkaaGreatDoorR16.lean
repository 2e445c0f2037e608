/- NNon, NRe -/
import Derived.Test.YtggoobbnibpbkaaGreatDoorR12
import Derived.Test.YtggoobbnibpbkaaGreatDoorR14
import Derived.Test.YtggoobbnibpbkaaGreatDoorR15
namespace Go.Proofs.YtggoobbnibpbkaaGreatDoor
open Go.RowKit
set_option linter.unusedVariables false

/-- the value is no number: by its kind, or as it may not be -/
def NoN (w : World) (v : Value) : Prop := ∃ (k n1 b e : Int) (g : Bool) (s : ByteArray) (mo ko : Option Addr) (ml mc kl kc : Nat), v = .agg #[.int .i8 k, .int .u64 n1, .bool g, .slice mo ml mc, .int .u64 b, .int .i8 e, .string s, .slice ko kl kc] ∧
  ((k ≠ 3 ∧ k ≠ 4) ∨ ((k = 3 ∨ k = 4) ∧ ∀ W, Below w.heap.size w W → Calls Tryz.prog 35 #[v] W fun x W' => (∃ p, x = .returned (.iface 119 (.pointer (some p)))) ∧ Below W.heap.size W W'))
theorem NoN.below {w w' : World} {v : Value} (h : NoN w v) (hb : Below w.heap.size w w') : NoN w' v := by
  obtain ⟨k, n1, b, e, g, s, mo, ko, ml, mc, kl, kc, h1, h2⟩ := h
  exact ⟨k, n1, b, e, g, s, mo, ko, ml, mc, kl, kc, h1, h2.imp_right fun h => ⟨h.1, fun W hW => h.2 W (hb.trans (hW.mono hb.size))⟩⟩
abbrev nthg : Value := .iface 155 (.agg #[])

set_option maxHeartbeats 8000000 in
set_option maxRecDepth 20000 in
theorem amount_none {w : World} {v : Value} (h : NoN w v) : Calls Tryz.prog 58 #[v] w fun x w' => x = .returned nthg ∧ Below w.heap.size w w' := by
  obtain ⟨k, n1, b, e, g, s, mo, ko, ml, mc, kl, kc, rfl, h | ⟨hk, h⟩⟩ := h
  · have e3 : (k == 3) = false := by simp [h.1]
    have e4 : (k == 4) = false := by simp [h.2]
    clear h
    go_enter Tryz.func58, Tryz.ntmps58
    go_wp2
    go_ret
    exact ⟨rfl, bel_new _ _⟩
  · have HC := hide h
    clear h
    rcases hk with rfl | rfl
    all_goals
      go_enter Tryz.func58, Tryz.ntmps58
      go_wp2_with fail
      with_reducible refine (HC.out _ (bel_new w _)).mono ?_
      rintro x w2 ⟨⟨p, rfl⟩, K2⟩
      have KK := hide (below_trans (bel_new w _) K2)
      clear K2
      go_wp2
      go_ret
      exact ⟨rfl, KK.out⟩

set_option maxHeartbeats 8000000 in
theorem npattern_any {w : World} : Calls Tryz.prog 312 #[.agg #[]] w fun e' w' => e' = .returned (.tuple #[.int .u64 0, .bool false]) ∧ Below w.heap.size w w' := by
  go_enter Tryz.func312, Tryz.ntmps312
  go_wp2
  go_ret2
  first
    | exact ⟨rfl, Below.refl _ _⟩
    | exact ⟨rfl, bel_new _ _⟩

set_option maxHeartbeats 8000000 in
set_option maxRecDepth 20000 in
theorem bits_none {w : World} {v : Value} (h : NoN w v) : Calls Tryz.prog 23 #[v] w fun x w' => x = .returned (.tuple #[.int .u64 0, .bool false]) ∧ Below w.heap.size w w' := by
  have HA := hide (fun (W : World) (hW : Below w.heap.size w W) => amount_none (h.below hW))
  obtain ⟨k, n1, b, e, g, s, mo, ko, ml, mc, kl, kc, rfl, -⟩ := h
  go_enter Tryz.func23, Tryz.ntmps23
  go_wp2_with fail
  with_reducible refine (HA.out _ (bel_new w _)).mono ?_
  rintro x w2 ⟨rfl, K2⟩
  have KK := hide (below_trans (bel_new w _) K2)
  clear K2
  go_wp2_with fail
  with_reducible refine npattern_any.mono ?_
  rintro x w3 ⟨rfl, K3⟩
  have KZ := hide (below_trans KK.out K3)
  clear K3
  go_wp2
  go_ret2
  exact ⟨rfl, KZ.out⟩

set_option maxHeartbeats 8000000 in
set_option maxRecDepth 20000 in
theorem narrow_none {w : World} {v : Value} (h : NoN w v) : Calls Tryz.prog 25 #[v] w fun x w' => x = .returned (.tuple #[.int .i64 0, .int .u64 0, .bool false]) ∧ Below w.heap.size w w' := by
  have HA := hide (fun (W : World) (hW : Below w.heap.size w W) => bits_none (h.below hW))
  obtain ⟨k, n1, b, e, g, s, mo, ko, ml, mc, kl, kc, rfl, -⟩ := h
  go_enter Tryz.func25, Tryz.ntmps25
  go_wp2_with fail
  with_reducible refine (HA.out _ (bel_new w _)).mono ?_
  rintro x w2 ⟨rfl, K2⟩
  have KK := hide (below_trans (bel_new w _) K2)
  clear K2
  go_wp2
  go_ret3
  exact ⟨rfl, KK.out⟩

theorem asNW (v : Value) (W : World) : (Instr.typeAssert (.iface 155 v) 103 156 true).run Tryz.prog W = .ok (.tuple #[.agg #[.bool false, .slice none 0 0], .bool false]) W := by kernel_rfl
theorem asNF (v : Value) (W : World) : (Instr.typeAssert (.iface 155 v) 103 157 true).run Tryz.prog W = .ok (.tuple #[.int .u64 0, .bool false]) W := by kernel_rfl
attribute [local go_sem] asWW asWF asFW asFF asNW asNF

set_option maxHeartbeats 8000000 in
set_option maxRecDepth 20000 in
theorem compare_nl {w : World} {u : Value} : Calls Tryz.prog 62 #[nthg, u] w fun x w' => x = .returned (.tuple #[.int .i64 0, .bool false]) ∧ Below w.heap.size w w' := by
  go_enter Tryz.func62, Tryz.ntmps62
  go_wp2
  go_ret2
  exact ⟨rfl, Below.refl _ _⟩
set_option maxHeartbeats 8000000 in
set_option maxRecDepth 20000 in
theorem compare_nr {w : World} {u : Value} {k : Nat} {z : NZ} (h : AmtIs w u k z) : Calls Tryz.prog 62 #[u, nthg] w fun x w' => x = .returned (.tuple #[.int .i64 0, .bool false]) ∧ Below w.heap.size w w' := by
  cases z with
  | w n =>
    obtain ⟨g, m, a, rfl, ⟨zs, ⟨ao, cap, rfl, -⟩, -⟩, -⟩ := h
    generalize zs.length = ml at *
    go_enter Tryz.func62, Tryz.ntmps62
    go_wp2
    go_ret2
    exact ⟨rfl, bel_new _ _⟩
  | f b =>
    obtain ⟨rfl, hb⟩ := h
    clear hb
    go_enter Tryz.func62, Tryz.ntmps62
    go_wp2
    go_ret2
    exact ⟨rfl, Below.refl _ _⟩

set_option maxHeartbeats 8000000 in
set_option maxRecDepth 20000 in
theorem cmp_nl {w : World} (L : Lays w) (T : Brn w) (U : Uss w) {v v' : Value} {k : Nat} {z : NZ} (h : NoN w v) (h' : NRd w v' k z) : Calls Tryz.prog 28 #[v, v'] w fun x w' => x = .returned (.tuple #[.int .i64 0, .bool false]) ∧ Below w.heap.size w w' := by
  have H1 := hide (fun (W : World) (hW : Below w.heap.size w W) => amount_none (h.below hW))
  have H2 := hide (fun (W : World) (hW : Below w.heap.size w W) => amount_any (L.below hW) (T.below hW) (U.below hW) (h'.below hW))
  obtain ⟨k1, n1, b1, e1, g1, s1, mo1, ko1, ml1, mc1, kl1, kc1, rfl, -⟩ := h
  obtain ⟨k2, g2, mo2, ml2, mc2, b2, rfl⟩ := nrd_shape h'
  clear L T U
  go_enter Tryz.func28, Tryz.ntmps28
  go_wp2_with fail
  have B1 := bx8_new w (.int .i8 k1) (.int .u64 n1) (.bool g1) (.slice mo1 ml1 mc1) (.int .u64 b1) (.int .i8 e1) (.string s1) (.slice ko1 kl1 kc1) 32
  have K1 := bel_new w (.cells #[.int .i8 k1, .int .u64 n1, .bool g1, .slice mo1 ml1 mc1, .int .u64 b1, .int .i8 e1, .string s1, .slice ko1 kl1 kc1] 32)
  have hz1 : w.heap.size + 1 = (w.alloc (.cells #[.int .i8 k1, .int .u64 n1, .bool g1, .slice mo1 ml1 mc1, .int .u64 b1, .int .i8 e1, .string s1, .slice ko1 kl1 kc1] 32)).heap.size := by simp
  generalize w.alloc (.cells #[.int .i8 k1, .int .u64 n1, .bool g1, .slice mo1 ml1 mc1, .int .u64 b1, .int .i8 e1, .string s1, .slice ko1 kl1 kc1] 32) = w1 at *
  have B2 := bx8_new w1 (.int .i8 k2) (.int .u64 0) (.bool g2) (.slice mo2 ml2 mc2) (.int .u64 b2) (.int .i8 0) (.string ⟨#[]⟩) (.slice none 0 0) 32
  have K2 := bel_new w1 (.cells #[.int .i8 k2, .int .u64 0, .bool g2, .slice mo2 ml2 mc2, .int .u64 b2, .int .i8 0, .string ⟨#[]⟩, .slice none 0 0] 32)
  have B1' := B1.below K2 B1.lt
  rw [← hz1] at B2
  have HK0 := hide (below_trans K1 K2)
  generalize w1.alloc (.cells #[.int .i8 k2, .int .u64 0, .bool g2, .slice mo2 ml2 mc2, .int .u64 b2, .int .i8 0, .string ⟨#[]⟩, .slice none 0 0] 32) = W at *
  have HB1 := hide B1'
  have HB2 := hide B2
  have CC : ∀ u : World, Below W.heap.size W u → u.cell? ⟨w.heap.size, 0, none⟩ = some (.int .i8 k1) ∧ u.cell? ⟨w.heap.size, 1, none⟩ = some (.int .u64 n1) ∧ u.cell? ⟨w.heap.size, 2, none⟩ = some (.bool g1) ∧ u.cell? ⟨w.heap.size, 3, none⟩ = some (.slice mo1 ml1 mc1) ∧ u.cell? ⟨w.heap.size, 4, none⟩ = some (.int .u64 b1) ∧ u.cell? ⟨w.heap.size, 5, none⟩ = some (.int .i8 e1) ∧ u.cell? ⟨w.heap.size, 6, none⟩ = some (.string s1) ∧ u.cell? ⟨w.heap.size, 7, none⟩ = some (.slice ko1 kl1 kc1) ∧ u.cell? ⟨w.heap.size + 1, 0, none⟩ = some (.int .i8 k2) ∧ u.cell? ⟨w.heap.size + 1, 1, none⟩ = some (.int .u64 0) ∧ u.cell? ⟨w.heap.size + 1, 2, none⟩ = some (.bool g2) ∧ u.cell? ⟨w.heap.size + 1, 3, none⟩ = some (.slice mo2 ml2 mc2) ∧ u.cell? ⟨w.heap.size + 1, 4, none⟩ = some (.int .u64 b2) ∧ u.cell? ⟨w.heap.size + 1, 5, none⟩ = some (.int .i8 0) ∧ u.cell? ⟨w.heap.size + 1, 6, none⟩ = some (.string ⟨#[]⟩) ∧ u.cell? ⟨w.heap.size + 1, 7, none⟩ = some (.slice none 0 0) := fun u hu => by
    obtain ⟨x0, x1, x2, x3, x4, x5, x6, x7⟩ := HB1.out.below hu HB1.out.lt
    obtain ⟨y0, y1, y2, y3, y4, y5, y6, y7⟩ := HB2.out.below hu HB2.out.lt
    exact ⟨x0, x1, x2, x3, x4, x5, x6, x7, y0, y1, y2, y3, y4, y5, y6, y7⟩
  have K : Below W.heap.size W W.drew := (Below.refl _ _).drew
  clear B1 B2 K1 K2 hz1 B1'
  go_region_held3 (fun u => u.cell? ⟨w.heap.size, 0, none⟩ = some (.int .i8 k1) ∧ u.cell? ⟨w.heap.size, 1, none⟩ = some (.int .u64 n1) ∧ u.cell? ⟨w.heap.size, 2, none⟩ = some (.bool g1) ∧ u.cell? ⟨w.heap.size, 3, none⟩ = some (.slice mo1 ml1 mc1) ∧ u.cell? ⟨w.heap.size, 4, none⟩ = some (.int .u64 b1) ∧ u.cell? ⟨w.heap.size, 5, none⟩ = some (.int .i8 e1) ∧ u.cell? ⟨w.heap.size, 6, none⟩ = some (.string s1) ∧ u.cell? ⟨w.heap.size, 7, none⟩ = some (.slice ko1 kl1 kc1) ∧ u.cell? ⟨w.heap.size + 1, 0, none⟩ = some (.int .i8 k2) ∧ u.cell? ⟨w.heap.size + 1, 1, none⟩ = some (.int .u64 0) ∧ u.cell? ⟨w.heap.size + 1, 2, none⟩ = some (.bool g2) ∧ u.cell? ⟨w.heap.size + 1, 3, none⟩ = some (.slice mo2 ml2 mc2) ∧ u.cell? ⟨w.heap.size + 1, 4, none⟩ = some (.int .u64 b2) ∧ u.cell? ⟨w.heap.size + 1, 5, none⟩ = some (.int .i8 0) ∧ u.cell? ⟨w.heap.size + 1, 6, none⟩ = some (.string ⟨#[]⟩) ∧ u.cell? ⟨w.heap.size + 1, 7, none⟩ = some (.slice none 0 0)) (first | with_reducible exact CC _ K)
    (first
      | (go_at_call 58; (with_reducible refine (H1.out _ (HK0.out.trans (K.mono HK0.out.size))).mono ?_); rintro x w2 ⟨rfl, hb2⟩; replace K := K.trans (hb2.mono K.size))
      | (go_at_call 58; (with_reducible refine (H2.out _ (HK0.out.trans (K.mono HK0.out.size))).mono ?_); rintro x w3 ⟨u1, rfl, hA, hb3⟩; replace K := K.trans (hb3.mono K.size))
      | (go_at_call 62; (with_reducible refine (compare_nl).mono ?_); rintro x w4 ⟨rfl, hb4⟩; replace K := K.trans (hb4.mono K.size)))
  have KZ := hide (HK0.out.trans (K.mono HK0.out.size))
  clear CC K
  go_wp2
  go_ret2
  exact ⟨rfl, KZ.out⟩

set_option maxHeartbeats 8000000 in
set_option maxRecDepth 20000 in
theorem cmp_nr {w : World} (L : Lays w) (T : Brn w) (U : Uss w) {v v' : Value} {k : Nat} {z : NZ} (h : NRd w v k z) (h' : NoN w v') : Calls Tryz.prog 28 #[v, v'] w fun x w' => x = .returned (.tuple #[.int .i64 0, .bool false]) ∧ Below w.heap.size w w' := by
  have H1 := hide (fun (W : World) (hW : Below w.heap.size w W) => amount_none (h'.below hW))
  have H2 := hide (fun (W : World) (hW : Below w.heap.size w W) => amount_any (L.below hW) (T.below hW) (U.below hW) (h.below hW))
  obtain ⟨k2, n2, b2, e2, g2, s2, mo2, ko2, ml2, mc2, kl2, kc2, rfl, -⟩ := h'
  obtain ⟨k1, g1, mo1, ml1, mc1, b1, rfl⟩ := nrd_shape h
  clear L T U
  go_enter Tryz.func28, Tryz.ntmps28
  go_wp2_with fail
  have B1 := bx8_new w (.int .i8 k1) (.int .u64 0) (.bool g1) (.slice mo1 ml1 mc1) (.int .u64 b1) (.int .i8 0) (.string ⟨#[]⟩) (.slice none 0 0) 32
  have K1 := bel_new w (.cells #[.int .i8 k1, .int .u64 0, .bool g1, .slice mo1 ml1 mc1, .int .u64 b1, .int .i8 0, .string ⟨#[]⟩, .slice none 0 0] 32)
  have hz1 : w.heap.size + 1 = (w.alloc (.cells #[.int .i8 k1, .int .u64 0, .bool g1, .slice mo1 ml1 mc1, .int .u64 b1, .int .i8 0, .string ⟨#[]⟩, .slice none 0 0] 32)).heap.size := by simp
  generalize w.alloc (.cells #[.int .i8 k1, .int .u64 0, .bool g1, .slice mo1 ml1 mc1, .int .u64 b1, .int .i8 0, .string ⟨#[]⟩, .slice none 0 0] 32) = w1 at *
  have B2 := bx8_new w1 (.int .i8 k2) (.int .u64 n2) (.bool g2) (.slice mo2 ml2 mc2) (.int .u64 b2) (.int .i8 e2) (.string s2) (.slice ko2 kl2 kc2) 32
  have K2 := bel_new w1 (.cells #[.int .i8 k2, .int .u64 n2, .bool g2, .slice mo2 ml2 mc2, .int .u64 b2, .int .i8 e2, .string s2, .slice ko2 kl2 kc2] 32)
  have B1' := B1.below K2 B1.lt
  rw [← hz1] at B2
  have HK0 := hide (below_trans K1 K2)
  generalize w1.alloc (.cells #[.int .i8 k2, .int .u64 n2, .bool g2, .slice mo2 ml2 mc2, .int .u64 b2, .int .i8 e2, .string s2, .slice ko2 kl2 kc2] 32) = W at *
  have HB1 := hide B1'
  have HB2 := hide B2
  have CC : ∀ u : World, Below W.heap.size W u → u.cell? ⟨w.heap.size, 0, none⟩ = some (.int .i8 k1) ∧ u.cell? ⟨w.heap.size, 1, none⟩ = some (.int .u64 0) ∧ u.cell? ⟨w.heap.size, 2, none⟩ = some (.bool g1) ∧ u.cell? ⟨w.heap.size, 3, none⟩ = some (.slice mo1 ml1 mc1) ∧ u.cell? ⟨w.heap.size, 4, none⟩ = some (.int .u64 b1) ∧ u.cell? ⟨w.heap.size, 5, none⟩ = some (.int .i8 0) ∧ u.cell? ⟨w.heap.size, 6, none⟩ = some (.string ⟨#[]⟩) ∧ u.cell? ⟨w.heap.size, 7, none⟩ = some (.slice none 0 0) ∧ u.cell? ⟨w.heap.size + 1, 0, none⟩ = some (.int .i8 k2) ∧ u.cell? ⟨w.heap.size + 1, 1, none⟩ = some (.int .u64 n2) ∧ u.cell? ⟨w.heap.size + 1, 2, none⟩ = some (.bool g2) ∧ u.cell? ⟨w.heap.size + 1, 3, none⟩ = some (.slice mo2 ml2 mc2) ∧ u.cell? ⟨w.heap.size + 1, 4, none⟩ = some (.int .u64 b2) ∧ u.cell? ⟨w.heap.size + 1, 5, none⟩ = some (.int .i8 e2) ∧ u.cell? ⟨w.heap.size + 1, 6, none⟩ = some (.string s2) ∧ u.cell? ⟨w.heap.size + 1, 7, none⟩ = some (.slice ko2 kl2 kc2) := fun u hu => by
    obtain ⟨x0, x1, x2, x3, x4, x5, x6, x7⟩ := HB1.out.below hu HB1.out.lt
    obtain ⟨y0, y1, y2, y3, y4, y5, y6, y7⟩ := HB2.out.below hu HB2.out.lt
    exact ⟨x0, x1, x2, x3, x4, x5, x6, x7, y0, y1, y2, y3, y4, y5, y6, y7⟩
  have K : Below W.heap.size W W.drew := (Below.refl _ _).drew
  clear B1 B2 K1 K2 hz1 B1'
  go_region_held3 (fun u => u.cell? ⟨w.heap.size, 0, none⟩ = some (.int .i8 k1) ∧ u.cell? ⟨w.heap.size, 1, none⟩ = some (.int .u64 0) ∧ u.cell? ⟨w.heap.size, 2, none⟩ = some (.bool g1) ∧ u.cell? ⟨w.heap.size, 3, none⟩ = some (.slice mo1 ml1 mc1) ∧ u.cell? ⟨w.heap.size, 4, none⟩ = some (.int .u64 b1) ∧ u.cell? ⟨w.heap.size, 5, none⟩ = some (.int .i8 0) ∧ u.cell? ⟨w.heap.size, 6, none⟩ = some (.string ⟨#[]⟩) ∧ u.cell? ⟨w.heap.size, 7, none⟩ = some (.slice none 0 0) ∧ u.cell? ⟨w.heap.size + 1, 0, none⟩ = some (.int .i8 k2) ∧ u.cell? ⟨w.heap.size + 1, 1, none⟩ = some (.int .u64 n2) ∧ u.cell? ⟨w.heap.size + 1, 2, none⟩ = some (.bool g2) ∧ u.cell? ⟨w.heap.size + 1, 3, none⟩ = some (.slice mo2 ml2 mc2) ∧ u.cell? ⟨w.heap.size + 1, 4, none⟩ = some (.int .u64 b2) ∧ u.cell? ⟨w.heap.size + 1, 5, none⟩ = some (.int .i8 e2) ∧ u.cell? ⟨w.heap.size + 1, 6, none⟩ = some (.string s2) ∧ u.cell? ⟨w.heap.size + 1, 7, none⟩ = some (.slice ko2 kl2 kc2)) (first | with_reducible exact CC _ K)
    (first
      | (go_at_call 58; (with_reducible refine (H2.out _ (HK0.out.trans (K.mono HK0.out.size))).mono ?_); rintro x w2 ⟨u1, rfl, hA, hb2⟩; replace K := K.trans (hb2.mono K.size))
      | (go_at_call 58; (with_reducible refine (H1.out _ (HK0.out.trans (K.mono HK0.out.size))).mono ?_); rintro x w3 ⟨rfl, hb3⟩; replace K := K.trans (hb3.mono K.size))
      | (go_at_call 62; (with_reducible refine (compare_nr (hA.below hb3)).mono ?_); rintro x w4 ⟨rfl, hb4⟩; replace K := K.trans (hb4.mono K.size)))
  have KZ := hide (HK0.out.trans (K.mono HK0.out.size))
  clear CC K
  go_wp2
  go_ret2
  exact ⟨rfl, KZ.out⟩

end Go.Proofs.YtggoobbnibpbkaaGreatDoor

namespace Go.Proofs.YtggoobbnibpbkaaGreatDoor
open Go.RowKit
set_option linter.unusedVariables false

/-- the value is the number z, its empty lists of any make -/
def NRe (w : World) (v : Value) (k : Nat) : NZ → Prop
  | .w n => ∃ g m a ko kc, v = .agg #[.int .i8 3, .int .u64 0, .bool g, m, .int .u64 0, .int .i8 0, .string ⟨#[]⟩, .slice ko 0 kc] ∧ CArg w m a k ∧ n = wn g a ∧ (g = true → 0 < a)
  | .f b => ∃ mo mc ko kc, v = .agg #[.int .i8 4, .int .u64 0, .bool false, .slice mo 0 mc, .int .u64 b, .int .i8 0, .string ⟨#[]⟩, .slice ko 0 kc] ∧ mc ≤ maxLen ∧ FOk b
theorem NRe.below {w w' : World} {v : Value} {k : Nat} {z : NZ} (h : NRe w v k z) (hb : Below w.heap.size w w') : NRe w' v k z := by
  cases z with
  | w n =>
    obtain ⟨g, m, a, ko, kc, h1, h2, h3⟩ := h
    exact ⟨g, m, a, ko, kc, h1, h2.below hb, h3⟩
  | f b => exact h
theorem NRd.re {w : World} {v : Value} {k : Nat} {z : NZ} (h : NRd w v k z) : NRe w v k z := by
  cases z with
  | w n =>
    obtain ⟨g, m, a, h1, h2, h3⟩ := h
    exact ⟨g, m, a, none, 0, h1, h2, h3⟩
  | f b => exact ⟨none, 0, none, 0, h.1, by unfold maxLen; omega, h.2⟩
theorem nre_shape {w : World} {v : Value} {k : Nat} {z : NZ} (h : NRe w v k z) : ∃ (k3 : Int) (g : Bool) (mo : Option Addr) (ml mc : Nat) (b : Int) (ko : Option Addr) (kc : Nat), v = .agg #[.int .i8 k3, .int .u64 0, .bool g, .slice mo ml mc, .int .u64 b, .int .i8 0, .string ⟨#[]⟩, .slice ko 0 kc] := by
  cases z with
  | w n =>
    obtain ⟨g, m, a, ko, kc, rfl, ⟨zs, ⟨ao, cap, rfl, -⟩, -⟩, -⟩ := h
    exact ⟨_, _, _, _, _, _, _, _, rfl⟩
  | f b =>
    obtain ⟨mo, mc, ko, kc, rfl, -, -⟩ := h
    exact ⟨_, _, _, _, _, _, _, _, rfl⟩

theorem filled_w0' {w : World} {mo ko : Option Addr} {mc kc : Nat} : Calls Tryz.prog 191 #[.agg #[.int .i8 3, .int .u64 0, .bool false, .slice mo 0 mc, .int .u64 0, .int .i8 0, .string ⟨#[]⟩, .slice ko 0 kc]] w fun e w' => e = .returned (.int .u8 (flr 0 false 0 0 0 ⟨#[]⟩ 0)) ∧ Below w.heap.size w w' := filled_any

theorem flr_w {g : Bool} {ml : Nat} : (bits .andNot .u8 (flr 0 g ml 0 0 ⟨#[]⟩ 0) 2 == 0) = true := by
  unfold flr
  rw [flB_int]
  simp [ByteArray.toList_eq]
theorem flr_f {b : Int} : (bits .andNot .u8 (flr 0 false 0 b 0 ⟨#[]⟩ 0) 4 == 0) = true := by
  unfold flr
  rw [flB_flt]
  simp [ByteArray.toList_eq]

theorem ncheck_e {w : World} (L : Lays w) (T : Brn w) (U : Uss w) {v : Value} {k : Nat} {z : NZ} (h : NRe w v k z) : Calls Tryz.prog 35 #[v] w fun e' w' => e' = .returned .nilIface ∧ Below w.heap.size w w' := by
  cases z with
  | w n =>
    obtain ⟨g, m, a, ko, kc, rfl, hm, rfl, hg⟩ := h
    have hm' := hm
    obtain ⟨zs, ⟨ao, cap, rfl, -⟩, -⟩ := hm
    refine check_leaf (by decide) (by decide) (by decide) fun W hW => ?_
    refine maybe_b3 (z := true) (fb := true) (U.below hW) flr_w (fun W' hW' => filled_any) (fun W' hW' => fits_b3 fun W'' hW'' => isnormal_any (((hm'.below hW).below hW').below hW'') hg)
  | f b =>
    obtain ⟨mo, mc, ko, kc, rfl, -, hb⟩ := h
    refine check_leaf (by decide) (by decide) (by decide) fun W hW => ?_
    exact maybe_b4 (z := true) (fb := true) (U.below hW) flr_f (fun W' hW' => filled_any) (fun W' hW' => fits_b4 fun W'' hW'' => isfloat_ok (((L.below hW).below hW').below hW'') (((T.below hW).below hW').below hW'') hb)

set_option maxHeartbeats 8000000 in
set_option maxRecDepth 20000 in
theorem amount_e {w : World} (L : Lays w) (T : Brn w) (U : Uss w) {v : Value} {k : Nat} {z : NZ} (h : NRe w v k z) : Calls Tryz.prog 58 #[v] w fun e' w' => ∃ u, e' = .returned u ∧ AmtIs w' u k z ∧ Below w.heap.size w w' := by
  have HC := hide (fun (W : World) (hW : Below w.heap.size w W) => ncheck_e (L.below hW) (T.below hW) (U.below hW) (h.below hW))
  clear L T U
  cases z with
  | w n =>
    obtain ⟨g, m, a, ko, kc, rfl, hm, hn⟩ := h
    have HM := hide hm
    have HN := hide hn
    clear hn
    obtain ⟨zs, ⟨ao, cap, rfl, -⟩, -⟩ := hm
    generalize zs.length = ml at *
    go_enter Tryz.func58, Tryz.ntmps58
    go_wp2_with fail
    have K1 := bel_new w (.cells #[.int .i8 3, .int .u64 0, .bool g, .slice ao ml cap, .int .u64 0, .int .i8 0, .string ⟨#[]⟩, .slice ko 0 kc] 32)
    have B1 := bx8_new w (.int .i8 3) (.int .u64 0) (.bool g) (.slice ao ml cap) (.int .u64 0) (.int .i8 0) (.string ⟨#[]⟩) (.slice ko 0 kc) 32
    with_reducible refine (HC.out _ K1).mono ?_
    rintro e w2 ⟨rfl, K2⟩
    obtain ⟨z0, z1, z2, z3, z4, z5, z6, z7⟩ := B1.below K2 B1.lt
    have KK := hide (below_trans K1 K2)
    clear K1 K2 B1
    go_wp2
    go_ret
    exact ⟨_, rfl, ⟨_, _, _, rfl, HM.out.below KK.out, HN.out⟩, KK.out⟩
  | f b =>
    obtain ⟨mo, mc, ko, kc, rfl, -, hb⟩ := h
    have HB := hide hb
    clear hb
    go_enter Tryz.func58, Tryz.ntmps58
    go_wp2_with fail
    have K1 := bel_new w (.cells #[.int .i8 4, .int .u64 0, .bool false, .slice mo 0 mc, .int .u64 b, .int .i8 0, .string ⟨#[]⟩, .slice ko 0 kc] 32)
    have B1 := bx8_new w (.int .i8 4) (.int .u64 0) (.bool false) (.slice mo 0 mc) (.int .u64 b) (.int .i8 0) (.string ⟨#[]⟩) (.slice ko 0 kc) 32
    with_reducible refine (HC.out _ K1).mono ?_
    rintro e w2 ⟨rfl, K2⟩
    obtain ⟨z0, z1, z2, z3, z4, z5, z6, z7⟩ := B1.below K2 B1.lt
    have KK := hide (below_trans K1 K2)
    clear K1 K2 B1
    go_wp2
    go_ret
    exact ⟨_, rfl, ⟨rfl, HB.out⟩, KK.out⟩

set_option maxHeartbeats 8000000 in
set_option maxRecDepth 20000 in
theorem bits_e {w : World} (L : Lays w) (T : Brn w) (U : Uss w) {v : Value} {k : Nat} {z : NZ} (h : NRe w v k z) (hk : k ≤ 1048577) : Calls Tryz.prog 23 #[v] w fun e' w' => ∃ y ok, e' = .returned (.tuple #[.int .u64 y, .bool ok]) ∧ 0 ≤ y ∧ y < 18446744073709551616 ∧ BitsIs z y ok ∧ Below w.heap.size w w' := by
  have HA := hide (fun (W : World) (hW : Below w.heap.size w W) => amount_e (L.below hW) (T.below hW) (U.below hW) (h.below hW))
  have HL := hide L
  have HT := hide T
  obtain ⟨k3, g, mo, ml, mc, b, ko, kc, rfl⟩ := nre_shape h
  clear L T U h
  go_enter Tryz.func23, Tryz.ntmps23
  go_wp2_with fail
  with_reducible refine (HA.out _ (bel_new w _)).mono ?_
  cases z with
  | w n =>
    rintro e w2 ⟨u, rfl, ⟨g', m', a', rfl, hc, rfl, -⟩, K2⟩
    have KK := hide (below_trans (bel_new w _) K2)
    clear K2
    go_wp2_with fail
    with_reducible refine (ipattern_any (HL.out.below KK.out) (HT.out.below KK.out) hc hk).mono ?_
    rintro e w3 ⟨y, ok, rfl, y0, y1, hP, K3⟩
    have KZ := hide (below_trans KK.out K3)
    have HP := hide hP
    clear K3 hP
    go_wp2
    go_ret2
    exact ⟨y, ok, rfl, y0, y1, HP.out, KZ.out⟩
  | f b =>
    rintro e w2 ⟨u, rfl, ⟨rfl, hb⟩, K2⟩
    have KK := hide (below_trans (bel_new w _) K2)
    have HB := hide hb
    clear K2 hb
    go_wp2_with fail
    with_reducible refine fpattern_any.mono ?_
    rintro e w3 ⟨rfl, rfl⟩
    go_wp2
    go_ret2
    exact ⟨b, true, rfl, HB.out.1, HB.out.2.1, ⟨rfl, rfl⟩, KK.out⟩

end Go.Proofs.YtggoobbnibpbkaaGreatDoor
