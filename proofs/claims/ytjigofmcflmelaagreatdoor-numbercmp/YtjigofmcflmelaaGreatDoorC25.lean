/- NNon, NRe -/
import Derived.Test.YtjigofmcflmelaaGreatDoorC23
import Derived.Test.YtjigofmcflmelaaGreatDoorC13
import Derived.Test.YtjigofmcflmelaaGreatDoorC24
namespace Go.Proofs.YtjigofmcflmelaaGreatDoor
open Go.RowKit
set_option linter.unusedVariables false

/-- the value is no number: by its kind, or as it may not be -/
def NoN (w : World) (v : Value) : Prop := ∃ (k n1 b e : Int) (g : Bool) (s : ByteArray) (mo ko : Option Addr) (ml mc kl kc : Nat), v = .agg #[.int .i8 k, .int .u64 n1, .bool g, .slice mo ml mc, .int .u64 b, .int .i8 e, .string s, .slice ko kl kc] ∧
  ((k ≠ 3 ∧ k ≠ 4) ∨ ((k = 3 ∨ k = 4) ∧ ∀ W, Below w.heap.size w W → Calls Tryz.prog 100 #[v] W fun x W' => (∃ p, x = .returned (.iface 231 (.pointer (some p)))) ∧ Below W.heap.size W W'))
theorem NoN.below {w w' : World} {v : Value} (h : NoN w v) (hb : Below w.heap.size w w') : NoN w' v := by
  obtain ⟨k, n1, b, e, g, s, mo, ko, ml, mc, kl, kc, h1, h2⟩ := h
  exact ⟨k, n1, b, e, g, s, mo, ko, ml, mc, kl, kc, h1, h2.imp_right fun h => ⟨h.1, fun W hW => h.2 W (hb.trans (hW.mono hb.size))⟩⟩
abbrev nthg : Value := .iface 107 (.agg #[])

set_option maxHeartbeats 8000000 in
set_option maxRecDepth 20000 in
theorem amount_none {w : World} {v : Value} (h : NoN w v) : Calls Tryz.prog 30 #[v] w fun x w' => x = .returned nthg ∧ Below w.heap.size w w' := by
  obtain ⟨k, n1, b, e, g, s, mo, ko, ml, mc, kl, kc, rfl, h | ⟨hk, h⟩⟩ := h
  · have e3 : (k == 3) = false := by simp [h.1]
    have e4 : (k == 4) = false := by simp [h.2]
    clear h
    go_enter Tryz.func30, Tryz.ntmps30
    go_wp2
    go_ret
    exact ⟨rfl, bel_new _ _⟩
  · have HC := hide h
    clear h
    rcases hk with rfl | rfl
    all_goals
      go_enter Tryz.func30, Tryz.ntmps30
      go_wp2_with fail
      with_reducible refine (HC.out _ (bel_new w _)).mono ?_
      rintro x w2 ⟨⟨p, rfl⟩, K2⟩
      have KK := hide (below_trans (bel_new w _) K2)
      clear K2
      go_wp2
      go_ret
      exact ⟨rfl, KK.out⟩

theorem asNW (v : Value) (W : World) : (Instr.typeAssert (.iface 107 v) 73 108 true).run Tryz.prog W = .ok (.tuple #[.agg #[.bool false, .slice none 0 0], .bool false]) W := by kernel_rfl
theorem asNF (v : Value) (W : World) : (Instr.typeAssert (.iface 107 v) 73 109 true).run Tryz.prog W = .ok (.tuple #[.int .u64 0, .bool false]) W := by kernel_rfl
attribute [local go_sem] asWW asWF asFW asFF asNW asNF

set_option maxHeartbeats 8000000 in
set_option maxRecDepth 20000 in
theorem compare_nl {w : World} {u : Value} : Calls Tryz.prog 38 #[nthg, u] w fun x w' => x = .returned (.tuple #[.int .i64 0, .bool false]) ∧ Below w.heap.size w w' := by
  go_enter Tryz.func38, Tryz.ntmps38
  go_wp2
  go_ret2
  exact ⟨rfl, Below.refl _ _⟩
set_option maxHeartbeats 8000000 in
set_option maxRecDepth 20000 in
theorem compare_nr {w : World} {u : Value} {k : Nat} {z : NZ} (h : AmtIs w u k z) : Calls Tryz.prog 38 #[u, nthg] w fun x w' => x = .returned (.tuple #[.int .i64 0, .bool false]) ∧ Below w.heap.size w w' := by
  cases z with
  | w n =>
    obtain ⟨g, m, a, rfl, ⟨zs, ⟨ao, cap, rfl, -⟩, -⟩, -⟩ := h
    generalize zs.length = ml at *
    go_enter Tryz.func38, Tryz.ntmps38
    go_wp2
    go_ret2
    exact ⟨rfl, bel_new _ _⟩
  | f b =>
    obtain ⟨rfl, hb⟩ := h
    clear hb
    go_enter Tryz.func38, Tryz.ntmps38
    go_wp2
    go_ret2
    exact ⟨rfl, Below.refl _ _⟩

end Go.Proofs.YtjigofmcflmelaaGreatDoor

namespace Go.Proofs.YtjigofmcflmelaaGreatDoor
open Go.RowKit
set_option linter.unusedVariables false

/-- the value is the number z, its empty lists of any make -/
def NRe (w : World) (v : Value) (k : Nat) : NZ → Prop
  | .w n => ∃ g m a ko kc, v = .agg #[.int .i8 3, .int .u64 0, .bool g, m, .int .u64 0, .int .i8 0, .string ⟨#[]⟩, .slice ko 0 kc] ∧ CArg w m a k ∧ n = wn g a ∧ (g = true → 0 < a)
  | .f b => ∃ mo mc ko kc, v = .agg #[.int .i8 4, .int .u64 0, .bool false, .slice mo 0 mc, .int .u64 b, .int .i8 0, .string ⟨#[]⟩, .slice ko 0 kc] ∧ mc ≤ maxLen ∧ FOk b
theorem NRe.below {w w' : World} {v : Value} {k : Nat} {z : NZ} (h : NRe w v k z) (hb : Below w.heap.size w w') : NRe w' v k z := by
  cases z with
  | w n =>
    obtain ⟨g, m, a, ko, kc, h1, h2, h3⟩ := h
    exact ⟨g, m, a, ko, kc, h1, h2.below hb, h3⟩
  | f b => exact h
theorem nre_shape {w : World} {v : Value} {k : Nat} {z : NZ} (h : NRe w v k z) : ∃ (k3 : Int) (g : Bool) (mo : Option Addr) (ml mc : Nat) (b : Int) (ko : Option Addr) (kc : Nat), v = .agg #[.int .i8 k3, .int .u64 0, .bool g, .slice mo ml mc, .int .u64 b, .int .i8 0, .string ⟨#[]⟩, .slice ko 0 kc] := by
  cases z with
  | w n =>
    obtain ⟨g, m, a, ko, kc, rfl, ⟨zs, ⟨ao, cap, rfl, -⟩, -⟩, -⟩ := h
    exact ⟨_, _, _, _, _, _, _, _, rfl⟩
  | f b =>
    obtain ⟨mo, mc, ko, kc, rfl, -, -⟩ := h
    exact ⟨_, _, _, _, _, _, _, _, rfl⟩

theorem flr_w {g : Bool} {ml : Nat} : (bits .andNot .u8 (flr 0 g ml 0 0 ⟨#[]⟩ 0) 2 == 0) = true := by
  unfold flr
  rw [flB_int]
  simp [ByteArray.toList_eq]
theorem flr_f {b : Int} : (bits .andNot .u8 (flr 0 false 0 b 0 ⟨#[]⟩ 0) 4 == 0) = true := by
  unfold flr
  rw [flB_flt]
  simp [ByteArray.toList_eq]

theorem ncheck_e {w : World} (L : Lays w) (T : Brn w) (U : Uss w) {v : Value} {k : Nat} {z : NZ} (h : NRe w v k z) : Calls Tryz.prog 100 #[v] w fun e' w' => e' = .returned .nilIface ∧ Below w.heap.size w w' := by
  cases z with
  | w n =>
    obtain ⟨g, m, a, ko, kc, rfl, hm, rfl, hg⟩ := h
    have hm' := hm
    obtain ⟨zs, ⟨ao, cap, rfl, -⟩, -⟩ := hm
    refine check_leaf (by decide) (by decide) (by decide) fun W hW => ?_
    refine maybe_b3 (z := true) (fb := true) (U.below hW) flr_w (fun W' hW' => filled_any) (fun W' hW' => fits_b3 fun W'' hW'' => isnormal_any (((hm'.below hW).below hW').below hW'') hg)
  | f b =>
    obtain ⟨mo, mc, ko, kc, rfl, -, hb⟩ := h
    refine check_leaf (by decide) (by decide) (by decide) fun W hW => ?_
    exact maybe_b4 (z := true) (fb := true) (U.below hW) flr_f (fun W' hW' => filled_any) (fun W' hW' => fits_b4 fun W'' hW'' => isfloat_ok (((L.below hW).below hW').below hW'') (((T.below hW).below hW').below hW'') hb)

set_option maxHeartbeats 8000000 in
set_option maxRecDepth 20000 in
theorem amount_e {w : World} (L : Lays w) (T : Brn w) (U : Uss w) {v : Value} {k : Nat} {z : NZ} (h : NRe w v k z) : Calls Tryz.prog 30 #[v] w fun e' w' => ∃ u, e' = .returned u ∧ AmtIs w' u k z ∧ Below w.heap.size w w' := by
  have HC := hide (fun (W : World) (hW : Below w.heap.size w W) => ncheck_e (L.below hW) (T.below hW) (U.below hW) (h.below hW))
  clear L T U
  cases z with
  | w n =>
    obtain ⟨g, m, a, ko, kc, rfl, hm, hn⟩ := h
    have HM := hide hm
    have HN := hide hn
    clear hn
    obtain ⟨zs, ⟨ao, cap, rfl, -⟩, -⟩ := hm
    generalize zs.length = ml at *
    go_enter Tryz.func30, Tryz.ntmps30
    go_wp2_with fail
    have K1 := bel_new w (.cells #[.int .i8 3, .int .u64 0, .bool g, .slice ao ml cap, .int .u64 0, .int .i8 0, .string ⟨#[]⟩, .slice ko 0 kc] 31)
    have B1 := bx8_new w (.int .i8 3) (.int .u64 0) (.bool g) (.slice ao ml cap) (.int .u64 0) (.int .i8 0) (.string ⟨#[]⟩) (.slice ko 0 kc) 31
    with_reducible refine (HC.out _ K1).mono ?_
    rintro e w2 ⟨rfl, K2⟩
    obtain ⟨z0, z1, z2, z3, z4, z5, z6, z7⟩ := B1.below K2 B1.lt
    have KK := hide (below_trans K1 K2)
    clear K1 K2 B1
    go_wp2
    go_ret
    exact ⟨_, rfl, ⟨_, _, _, rfl, HM.out.below KK.out, HN.out⟩, KK.out⟩
  | f b =>
    obtain ⟨mo, mc, ko, kc, rfl, -, hb⟩ := h
    have HB := hide hb
    clear hb
    go_enter Tryz.func30, Tryz.ntmps30
    go_wp2_with fail
    have K1 := bel_new w (.cells #[.int .i8 4, .int .u64 0, .bool false, .slice mo 0 mc, .int .u64 b, .int .i8 0, .string ⟨#[]⟩, .slice ko 0 kc] 31)
    have B1 := bx8_new w (.int .i8 4) (.int .u64 0) (.bool false) (.slice mo 0 mc) (.int .u64 b) (.int .i8 0) (.string ⟨#[]⟩) (.slice ko 0 kc) 31
    with_reducible refine (HC.out _ K1).mono ?_
    rintro e w2 ⟨rfl, K2⟩
    obtain ⟨z0, z1, z2, z3, z4, z5, z6, z7⟩ := B1.below K2 B1.lt
    have KK := hide (below_trans K1 K2)
    clear K1 K2 B1
    go_wp2
    go_ret
    exact ⟨_, rfl, ⟨rfl, HB.out⟩, KK.out⟩

end Go.Proofs.YtjigofmcflmelaaGreatDoor
