/- NFil, NMaG -/
import Derived.Test.YtjigofmcflmelaaGreatDoorC23
import Derived.Deep.CutRange
namespace Go.Proofs.YtjigofmcflmelaaGreatDoor
open Go.RowKit
set_option linter.unusedVariables false

/-- which fields are filled -/
def flB (c1 c2 c3 c4 c5 c6 : Bool) : Int :=
  let q1 : Int := if c1 then bits .or .u8 0 1 else 0
  let q2 := if c2 then bits .or .u8 q1 2 else q1
  let q3 := if c3 then bits .or .u8 q2 4 else q2
  let q4 := if c4 then bits .or .u8 q3 8 else q3
  let q5 := if c5 then bits .or .u8 q4 16 else q4
  if c6 then bits .or .u8 q5 32 else q5
def flr (n1 : Int) (g : Bool) (ml : Nat) (b e : Int) (s : ByteArray) (kl : Nat) : Int :=
  flB (n1 != 0) (g || decide (0 < (ml : Int))) (b != 0) (e != 0) (!s.toList.isEmpty) (decide (0 < (kl : Int)))

set_option maxRecDepth 10000 in
theorem flB_int : ∀ c1 c2 c3 c4 c5 c6, (bits .andNot .u8 (flB c1 c2 c3 c4 c5 c6) 2 == 0) = !(c1 || c3 || c4 || c5 || c6) := by decide
set_option maxRecDepth 10000 in
theorem flB_flt : ∀ c1 c2 c3 c4 c5 c6, (bits .andNot .u8 (flB c1 c2 c3 c4 c5 c6) 4 == 0) = !(c1 || c2 || c4 || c5 || c6) := by decide

set_option maxHeartbeats 4000000 in
theorem filled_any {w : World} {k n1 b e : Int} {g : Bool} {s : ByteArray} {ml mc kl kc : Nat} {mo ko : Option Addr} :
    Calls Tryz.prog 203 #[.agg #[.int .i8 k, .int .u64 n1, .bool g, .slice mo ml mc, .int .u64 b, .int .i8 e, .string s, .slice ko kl kc]] w fun x w' => x = .returned (.int .u8 (flr n1 g ml b e s kl)) ∧ Below w.heap.size w w' := by
  obtain ⟨c1, hc1⟩ : ∃ c, (n1 != 0) = c := ⟨_, rfl⟩
  obtain ⟨c3, hc3⟩ : ∃ c, (b != 0) = c := ⟨_, rfl⟩
  obtain ⟨c4, hc4⟩ : ∃ c, (e != 0) = c := ⟨_, rfl⟩
  obtain ⟨c5, hc5⟩ : ∃ c, (!s.toList.isEmpty) = c := ⟨_, rfl⟩
  obtain ⟨c6, hc6⟩ : ∃ c, decide (0 < (kl : Int)) = c := ⟨_, rfl⟩
  obtain ⟨c2, hc2⟩ : ∃ c, (g || decide (0 < (ml : Int))) = c := ⟨_, rfl⟩
  obtain ⟨q1, h1⟩ : ∃ q : Int, (if c1 then bits .or .u8 0 1 else 0) = q := ⟨_, rfl⟩
  obtain ⟨q2, h2⟩ : ∃ q : Int, (if c2 then bits .or .u8 q1 2 else q1) = q := ⟨_, rfl⟩
  obtain ⟨q3, h3⟩ : ∃ q : Int, (if c3 then bits .or .u8 q2 4 else q2) = q := ⟨_, rfl⟩
  obtain ⟨q4, h4⟩ : ∃ q : Int, (if c4 then bits .or .u8 q3 8 else q3) = q := ⟨_, rfl⟩
  obtain ⟨q5, h5⟩ : ∃ q : Int, (if c5 then bits .or .u8 q4 16 else q4) = q := ⟨_, rfl⟩
  obtain ⟨q6, h6⟩ : ∃ q : Int, (if c6 then bits .or .u8 q5 32 else q5) = q := ⟨_, rfl⟩
  have hq : flr n1 g ml b e s kl = q6 := by
    unfold flr flB
    rw [hc1, hc2, hc3, hc4, hc5, hc6]
    simp only [h1, h2, h3, h4, h5, h6]
  rw [hq]
  clear hq
  replace h1 := hide h1
  replace h2 := hide h2
  replace h3 := hide h3
  replace h4 := hide h4
  replace h5 := hide h5
  replace h6 := hide h6
  replace hc1 := hide hc1
  replace hc2 := hide hc2
  replace hc3 := hide hc3
  replace hc4 := hide hc4
  replace hc5 := hide hc5
  replace hc6 := hide hc6
  cases g
  · go_enter Tryz.func203, Tryz.ntmps203
    go_upto_if 6 with fail
    go_cut [3] from 6 (fun s3 wx => s3 = .int .u8 q1 ∧ wx = w.alloc (.cells #[.int .i8 k, .int .u64 n1, .bool false, .slice mo ml mc, .int .u64 b, .int .i8 e, .string s, .slice ko kl kc] 31))
    case first =>
      have ht := hc1.out
      have hq := h1.out
      cases c1
      all_goals
        go_wp2
        go_meet
        case rel => exact ⟨congrArg _ hq, rfl⟩
    obtain ⟨rfl, rfl⟩ := hcut
    go_upto_if 18 with fail
    go_cut [3] from 17 (fun s3 wx => s3 = .int .u8 q2 ∧ wx = w.alloc (.cells #[.int .i8 k, .int .u64 n1, .bool false, .slice mo ml mc, .int .u64 b, .int .i8 e, .string s, .slice ko kl kc] 31))
    case first =>
      by_cases hv : 0 < (ml : Int)
      · have hd : c2 = true := by rw [← hc2.out]; simp; omega
        have hq := h2.out
        rw [hd] at hq
        go_wp2
        go_meet
        case rel => exact ⟨congrArg _ hq, rfl⟩
      · have hd : c2 = false := by rw [← hc2.out]; simp; omega
        have hq := h2.out
        rw [hd] at hq
        go_wp2
        go_meet
        case rel => exact ⟨congrArg _ hq, rfl⟩
    obtain ⟨rfl, rfl⟩ := hcut
    go_upto_if 23 with fail
    go_cut [3] from 23 (fun s3 wx => s3 = .int .u8 q3 ∧ wx = w.alloc (.cells #[.int .i8 k, .int .u64 n1, .bool false, .slice mo ml mc, .int .u64 b, .int .i8 e, .string s, .slice ko kl kc] 31))
    case first =>
      have ht := hc3.out
      have hq := h3.out
      cases c3
      all_goals
        go_wp2
        go_meet
        case rel => exact ⟨congrArg _ hq, rfl⟩
    obtain ⟨rfl, rfl⟩ := hcut
    go_upto_if 28 with fail
    go_cut [3] from 28 (fun s3 wx => s3 = .int .u8 q4 ∧ wx = w.alloc (.cells #[.int .i8 k, .int .u64 n1, .bool false, .slice mo ml mc, .int .u64 b, .int .i8 e, .string s, .slice ko kl kc] 31))
    case first =>
      have ht := hc4.out
      have hq := h4.out
      cases c4
      all_goals
        go_wp2
        go_meet
        case rel => exact ⟨congrArg _ hq, rfl⟩
    obtain ⟨rfl, rfl⟩ := hcut
    go_upto_if 33 with fail
    go_cut [3] from 33 (fun s3 wx => s3 = .int .u8 q5 ∧ wx = w.alloc (.cells #[.int .i8 k, .int .u64 n1, .bool false, .slice mo ml mc, .int .u64 b, .int .i8 e, .string s, .slice ko kl kc] 31))
    case first =>
      have hq := h5.out
      go_wp2
      all_goals
        first
          | rw [show c5 = true from hc5.out.symm.trans (by assumption)] at hq
          | rw [show c5 = false from hc5.out.symm.trans (by assumption)] at hq
        go_meet
        case rel => exact ⟨congrArg _ hq, rfl⟩
    obtain ⟨rfl, rfl⟩ := hcut
    go_upto_if 39 with fail
    go_cut [3] from 39 (fun s3 wx => s3 = .int .u8 q6 ∧ wx = w.alloc (.cells #[.int .i8 k, .int .u64 n1, .bool false, .slice mo ml mc, .int .u64 b, .int .i8 e, .string s, .slice ko kl kc] 31))
    case first =>
      by_cases hv : 0 < (kl : Int)
      · have hd : c6 = true := by rw [← hc6.out]; simp; omega
        have hq := h6.out
        rw [hd] at hq
        go_wp2
        go_meet
        case rel => exact ⟨congrArg _ hq, rfl⟩
      · have hd : c6 = false := by rw [← hc6.out]; simp; omega
        have hq := h6.out
        rw [hd] at hq
        go_wp2
        go_meet
        case rel => exact ⟨congrArg _ hq, rfl⟩
    obtain ⟨rfl, rfl⟩ := hcut
    go_wp2
    go_ret
    exact ⟨rfl, bel_new _ _⟩
  · go_enter Tryz.func203, Tryz.ntmps203
    go_upto_if 6 with fail
    go_cut [3] from 6 (fun s3 wx => s3 = .int .u8 q1 ∧ wx = w.alloc (.cells #[.int .i8 k, .int .u64 n1, .bool true, .slice mo ml mc, .int .u64 b, .int .i8 e, .string s, .slice ko kl kc] 31))
    case first =>
      have ht := hc1.out
      have hq := h1.out
      cases c1
      all_goals
        go_wp2
        go_meet
        case rel => exact ⟨congrArg _ hq, rfl⟩
    obtain ⟨rfl, rfl⟩ := hcut
    go_upto_if 18 with fail
    go_cut [3] from 17 (fun s3 wx => s3 = .int .u8 q2 ∧ wx = w.alloc (.cells #[.int .i8 k, .int .u64 n1, .bool true, .slice mo ml mc, .int .u64 b, .int .i8 e, .string s, .slice ko kl kc] 31))
    case first =>
      have hq := h2.out
      rw [← hc2.out] at hq
      go_wp2
      go_meet
      case rel => exact ⟨congrArg _ hq, rfl⟩
    obtain ⟨rfl, rfl⟩ := hcut
    go_upto_if 23 with fail
    go_cut [3] from 23 (fun s3 wx => s3 = .int .u8 q3 ∧ wx = w.alloc (.cells #[.int .i8 k, .int .u64 n1, .bool true, .slice mo ml mc, .int .u64 b, .int .i8 e, .string s, .slice ko kl kc] 31))
    case first =>
      have ht := hc3.out
      have hq := h3.out
      cases c3
      all_goals
        go_wp2
        go_meet
        case rel => exact ⟨congrArg _ hq, rfl⟩
    obtain ⟨rfl, rfl⟩ := hcut
    go_upto_if 28 with fail
    go_cut [3] from 28 (fun s3 wx => s3 = .int .u8 q4 ∧ wx = w.alloc (.cells #[.int .i8 k, .int .u64 n1, .bool true, .slice mo ml mc, .int .u64 b, .int .i8 e, .string s, .slice ko kl kc] 31))
    case first =>
      have ht := hc4.out
      have hq := h4.out
      cases c4
      all_goals
        go_wp2
        go_meet
        case rel => exact ⟨congrArg _ hq, rfl⟩
    obtain ⟨rfl, rfl⟩ := hcut
    go_upto_if 33 with fail
    go_cut [3] from 33 (fun s3 wx => s3 = .int .u8 q5 ∧ wx = w.alloc (.cells #[.int .i8 k, .int .u64 n1, .bool true, .slice mo ml mc, .int .u64 b, .int .i8 e, .string s, .slice ko kl kc] 31))
    case first =>
      have hq := h5.out
      go_wp2
      all_goals
        first
          | rw [show c5 = true from hc5.out.symm.trans (by assumption)] at hq
          | rw [show c5 = false from hc5.out.symm.trans (by assumption)] at hq
        go_meet
        case rel => exact ⟨congrArg _ hq, rfl⟩
    obtain ⟨rfl, rfl⟩ := hcut
    go_upto_if 39 with fail
    go_cut [3] from 39 (fun s3 wx => s3 = .int .u8 q6 ∧ wx = w.alloc (.cells #[.int .i8 k, .int .u64 n1, .bool true, .slice mo ml mc, .int .u64 b, .int .i8 e, .string s, .slice ko kl kc] 31))
    case first =>
      by_cases hv : 0 < (kl : Int)
      · have hd : c6 = true := by rw [← hc6.out]; simp; omega
        have hq := h6.out
        rw [hd] at hq
        go_wp2
        go_meet
        case rel => exact ⟨congrArg _ hq, rfl⟩
      · have hd : c6 = false := by rw [← hc6.out]; simp; omega
        have hq := h6.out
        rw [hd] at hq
        go_wp2
        go_meet
        case rel => exact ⟨congrArg _ hq, rfl⟩
    obtain ⟨rfl, rfl⟩ := hcut
    go_wp2
    go_ret
    exact ⟨rfl, bel_new _ _⟩

end Go.Proofs.YtjigofmcflmelaaGreatDoor

namespace Go.Proofs.YtjigofmcflmelaaGreatDoor
open Go.RowKit
set_option linter.unusedVariables false

/-- is a list of limbs with a sign its number's own -/
def nrmB (g : Bool) (zs : List Int) : Bool := if zs.length = 0 then !g else (Nt.lb zs (zs.length - 1) != 0)

set_option maxHeartbeats 4000000 in
theorem isnormal_b {w : World} {g : Bool} {m : Value} {zs : List Int} (hm : Reads .u32 w m zs) : Calls Tryz.prog 227 #[.agg #[.bool g, m]] w fun e w' => e = .returned (.bool (nrmB g zs)) ∧ Below w.heap.size w w' := by
  obtain ⟨ao, cap, rfl, hlc, hcm, hc⟩ := hm
  unfold nrmB
  by_cases hz : zs.length = 0
  · rw [if_pos hz]
    have : zs = [] := List.length_eq_zero_iff.1 hz
    subst this
    clear hc hlc hcm hz
    simp only [List.length_nil]
    cases g <;>
    · go_enter Tryz.func227, Tryz.ntmps227
      go_wp2
      go_ret
      exact ⟨rfl, bel_new _ _⟩
  · rw [if_neg hz]
    obtain ⟨b, off, rfl, hb, hcell⟩ := hc (by omega)
    have h1 := hcell (zs.length - 1) (by omega)
    generalize Nt.lb zs (zs.length - 1) = x at h1
    obtain ⟨n, hn⟩ : ∃ n, zs.length = n + 1 := ⟨zs.length - 1, by omega⟩
    rw [hn] at h1 hlc ⊢
    rw [show n + 1 - 1 = n by omega] at h1
    have hcm2 : cap ≤ 9223372036854775807 := hcm
    have h5 := (bel_new w (.cells #[.bool g, .slice (some ⟨b, off, none⟩) (n + 1) cap] 28)).cell (p := ⟨b, off + n, none⟩) hb
    rw [h1] at h5
    clear hcell hz hn h1 hcm hc
    go_enter Tryz.func227, Tryz.ntmps227
    go_wp2
    go_ret
    exact ⟨rfl, bel_new _ _⟩

set_option maxHeartbeats 8000000 in
set_option maxRecDepth 20000 in
theorem fits_b3 {w : World} {n1 b e : Int} {g fb : Bool} {s : ByteArray} {ml mc kl kc : Nat} {mo ko : Option Addr} (h : ∀ W, Below w.heap.size w W → Calls Tryz.prog 227 #[.agg #[.bool g, .slice mo ml mc]] W fun x w' => x = .returned (.bool fb) ∧ Below W.heap.size W w') :
    Calls Tryz.prog 204 #[.agg #[.int .i8 3, .int .u64 n1, .bool g, .slice mo ml mc, .int .u64 b, .int .i8 e, .string s, .slice ko kl kc]] w fun x w' => x = .returned (.bool fb) ∧ Below w.heap.size w w' := by
  have H := hide h
  clear h
  go_enter Tryz.func204, Tryz.ntmps204
  go_wp2_with fail
  have K1 := bel_new w (.cells #[.int .i8 3, .int .u64 n1, .bool g, .slice mo ml mc, .int .u64 b, .int .i8 e, .string s, .slice ko kl kc] 31)
  with_reducible refine (H.out _ K1).mono ?_
  rintro x w2 ⟨rfl, K2⟩
  have KK := hide (below_trans K1 K2)
  clear K1 K2
  go_wp2
  go_ret
  exact ⟨rfl, KK.out⟩

set_option maxHeartbeats 8000000 in
set_option maxRecDepth 20000 in
theorem fits_b4 {w : World} {n1 b e : Int} {g fb : Bool} {s : ByteArray} {ml mc kl kc : Nat} {mo ko : Option Addr} (h : ∀ W, Below w.heap.size w W → Calls Tryz.prog 228 #[.int .u64 b] W fun x w' => x = .returned (.bool fb) ∧ Below W.heap.size W w') :
    Calls Tryz.prog 204 #[.agg #[.int .i8 4, .int .u64 n1, .bool g, .slice mo ml mc, .int .u64 b, .int .i8 e, .string s, .slice ko kl kc]] w fun x w' => x = .returned (.bool fb) ∧ Below w.heap.size w w' := by
  have H := hide h
  clear h
  go_enter Tryz.func204, Tryz.ntmps204
  go_wp2_with fail
  have K1 := bel_new w (.cells #[.int .i8 4, .int .u64 n1, .bool g, .slice mo ml mc, .int .u64 b, .int .i8 e, .string s, .slice ko kl kc] 31)
  with_reducible refine (H.out _ K1).mono ?_
  rintro x w2 ⟨rfl, K2⟩
  have KK := hide (below_trans K1 K2)
  clear K1 K2
  go_wp2
  go_ret
  exact ⟨rfl, KK.out⟩

set_option maxHeartbeats 8000000 in
set_option maxRecDepth 20000 in
theorem maybe_b3 {w : World} (U : Uss w) {n1 b e r : Int} {g fb z : Bool} {s : ByteArray} {ml mc kl kc : Nat} {mo ko : Option Addr} (hr : (bits .andNot .u8 r 2 == 0) = z)
    (h1 : ∀ W, Below w.heap.size w W → Calls Tryz.prog 203 #[.agg #[.int .i8 3, .int .u64 n1, .bool g, .slice mo ml mc, .int .u64 b, .int .i8 e, .string s, .slice ko kl kc]] W fun x w' => x = .returned (.int .u8 r) ∧ Below W.heap.size W w')
    (h2 : ∀ W, Below w.heap.size w W → Calls Tryz.prog 204 #[.agg #[.int .i8 3, .int .u64 n1, .bool g, .slice mo ml mc, .int .u64 b, .int .i8 e, .string s, .slice ko kl kc]] W fun x w' => x = .returned (.bool fb) ∧ Below W.heap.size W w') :
    Calls Tryz.prog 173 #[.agg #[.int .i8 3, .int .u64 n1, .bool g, .slice mo ml mc, .int .u64 b, .int .i8 e, .string s, .slice ko kl kc]] w fun x w' => x = .returned (.bool (z && fb)) ∧ Below w.heap.size w w' := by
  have H1 := hide h1
  have H2 := hide h2
  have HU := hide U
  clear h1 h2 U
  cases z
  · go_enter Tryz.func173, Tryz.ntmps173
    go_wp2_with fail
    have B := hide (bx8_new w (.int .i8 3) (.int .u64 n1) (.bool g) (.slice mo ml mc) (.int .u64 b) (.int .i8 e) (.string s) (.slice ko kl kc) 31)
    have K0 := hide (bel_new w (.cells #[.int .i8 3, .int .u64 n1, .bool g, .slice mo ml mc, .int .u64 b, .int .i8 e, .string s, .slice ko kl kc] 31))
    have hs : w.heap.size < (w.alloc (.cells #[.int .i8 3, .int .u64 n1, .bool g, .slice mo ml mc, .int .u64 b, .int .i8 e, .string s, .slice ko kl kc] 31)).heap.size := by simp
    generalize w.alloc (.cells #[.int .i8 3, .int .u64 n1, .bool g, .slice mo ml mc, .int .u64 b, .int .i8 e, .string s, .slice ko kl kc] 31) = W at *
    have CC : ∀ u : World, Below W.heap.size W u → u.cell? ⟨w.heap.size, 0, none⟩ = some (.int .i8 3) ∧ u.cell? ⟨w.heap.size, 1, none⟩ = some (.int .u64 n1) ∧ u.cell? ⟨w.heap.size, 2, none⟩ = some (.bool g) ∧ u.cell? ⟨w.heap.size, 3, none⟩ = some (.slice mo ml mc) ∧ u.cell? ⟨w.heap.size, 4, none⟩ = some (.int .u64 b) ∧ u.cell? ⟨w.heap.size, 5, none⟩ = some (.int .i8 e) ∧ u.cell? ⟨w.heap.size, 6, none⟩ = some (.string s) ∧ u.cell? ⟨w.heap.size, 7, none⟩ = some (.slice ko kl kc) ∧ u.cell? ⟨3, 3, none⟩ = some (.int .u8 2) := fun u hu => by
      obtain ⟨h0, h1, h2, h3, h4, h5, h6, h7⟩ := B.out.below hu hs
      exact ⟨h0, h1, h2, h3, h4, h5, h6, h7, ((HU.out.below K0.out).below hu).at_ 3 (by omega)⟩
    have K : Hid (Below W.heap.size W W.drew) := hide (Below.refl _ _).drew
    obtain ⟨g0, g1, g2, g3, g4, g5, g6, g7, g8⟩ := CC _ K.out
    have HC := hide CC
    clear hs CC
    go_region_with (go_at_call 203; (refine (H1.out _ (K0.out.trans (K.out.mono K0.out.size))).mono ?_); rintro x w2 ⟨rfl, hb2⟩; replace K := hide (K.out.trans (hb2.mono K.out.size)); clear hb2; obtain ⟨y0, y1, y2, y3, y4, y5, y6, y7, y8⟩ := HC.out _ K.out)
    all_goals
      have KZ := hide (K0.out.trans (K.out.mono K0.out.size))
      clear K
      go_wp2
      go_ret
      exact ⟨rfl, KZ.out⟩
  · go_enter Tryz.func173, Tryz.ntmps173
    go_wp2_with fail
    have B := hide (bx8_new w (.int .i8 3) (.int .u64 n1) (.bool g) (.slice mo ml mc) (.int .u64 b) (.int .i8 e) (.string s) (.slice ko kl kc) 31)
    have K0 := hide (bel_new w (.cells #[.int .i8 3, .int .u64 n1, .bool g, .slice mo ml mc, .int .u64 b, .int .i8 e, .string s, .slice ko kl kc] 31))
    have hs : w.heap.size < (w.alloc (.cells #[.int .i8 3, .int .u64 n1, .bool g, .slice mo ml mc, .int .u64 b, .int .i8 e, .string s, .slice ko kl kc] 31)).heap.size := by simp
    generalize w.alloc (.cells #[.int .i8 3, .int .u64 n1, .bool g, .slice mo ml mc, .int .u64 b, .int .i8 e, .string s, .slice ko kl kc] 31) = W at *
    have CC : ∀ u : World, Below W.heap.size W u → u.cell? ⟨w.heap.size, 0, none⟩ = some (.int .i8 3) ∧ u.cell? ⟨w.heap.size, 1, none⟩ = some (.int .u64 n1) ∧ u.cell? ⟨w.heap.size, 2, none⟩ = some (.bool g) ∧ u.cell? ⟨w.heap.size, 3, none⟩ = some (.slice mo ml mc) ∧ u.cell? ⟨w.heap.size, 4, none⟩ = some (.int .u64 b) ∧ u.cell? ⟨w.heap.size, 5, none⟩ = some (.int .i8 e) ∧ u.cell? ⟨w.heap.size, 6, none⟩ = some (.string s) ∧ u.cell? ⟨w.heap.size, 7, none⟩ = some (.slice ko kl kc) ∧ u.cell? ⟨3, 3, none⟩ = some (.int .u8 2) := fun u hu => by
      obtain ⟨h0, h1, h2, h3, h4, h5, h6, h7⟩ := B.out.below hu hs
      exact ⟨h0, h1, h2, h3, h4, h5, h6, h7, ((HU.out.below K0.out).below hu).at_ 3 (by omega)⟩
    have K : Below W.heap.size W W.drew := (Below.refl _ _).drew
    clear hs
    go_region_held3 (fun u => u.cell? ⟨w.heap.size, 0, none⟩ = some (.int .i8 3) ∧ u.cell? ⟨w.heap.size, 1, none⟩ = some (.int .u64 n1) ∧ u.cell? ⟨w.heap.size, 2, none⟩ = some (.bool g) ∧ u.cell? ⟨w.heap.size, 3, none⟩ = some (.slice mo ml mc) ∧ u.cell? ⟨w.heap.size, 4, none⟩ = some (.int .u64 b) ∧ u.cell? ⟨w.heap.size, 5, none⟩ = some (.int .i8 e) ∧ u.cell? ⟨w.heap.size, 6, none⟩ = some (.string s) ∧ u.cell? ⟨w.heap.size, 7, none⟩ = some (.slice ko kl kc) ∧ u.cell? ⟨3, 3, none⟩ = some (.int .u8 2)) (first | with_reducible exact CC _ K)
      (first
        | (go_at_call 203; (refine (H1.out _ (K0.out.trans (K.mono K0.out.size))).mono ?_); rintro x w2 ⟨rfl, hb2⟩; replace K := K.trans (hb2.mono K.size))
        | (go_at_call 204; (refine (H2.out _ (K0.out.trans (K.mono K0.out.size))).mono ?_); rintro x w3 ⟨rfl, hb3⟩; replace K := K.trans (hb3.mono K.size)))
    have KZ := hide (K0.out.trans (K.mono K0.out.size))
    clear CC K
    go_wp2
    go_ret
    exact ⟨rfl, KZ.out⟩

set_option maxHeartbeats 8000000 in
set_option maxRecDepth 20000 in
theorem maybe_b4 {w : World} (U : Uss w) {n1 b e r : Int} {g fb z : Bool} {s : ByteArray} {ml mc kl kc : Nat} {mo ko : Option Addr} (hr : (bits .andNot .u8 r 4 == 0) = z)
    (h1 : ∀ W, Below w.heap.size w W → Calls Tryz.prog 203 #[.agg #[.int .i8 4, .int .u64 n1, .bool g, .slice mo ml mc, .int .u64 b, .int .i8 e, .string s, .slice ko kl kc]] W fun x w' => x = .returned (.int .u8 r) ∧ Below W.heap.size W w')
    (h2 : ∀ W, Below w.heap.size w W → Calls Tryz.prog 204 #[.agg #[.int .i8 4, .int .u64 n1, .bool g, .slice mo ml mc, .int .u64 b, .int .i8 e, .string s, .slice ko kl kc]] W fun x w' => x = .returned (.bool fb) ∧ Below W.heap.size W w') :
    Calls Tryz.prog 173 #[.agg #[.int .i8 4, .int .u64 n1, .bool g, .slice mo ml mc, .int .u64 b, .int .i8 e, .string s, .slice ko kl kc]] w fun x w' => x = .returned (.bool (z && fb)) ∧ Below w.heap.size w w' := by
  have H1 := hide h1
  have H2 := hide h2
  have HU := hide U
  clear h1 h2 U
  cases z
  · go_enter Tryz.func173, Tryz.ntmps173
    go_wp2_with fail
    have B := hide (bx8_new w (.int .i8 4) (.int .u64 n1) (.bool g) (.slice mo ml mc) (.int .u64 b) (.int .i8 e) (.string s) (.slice ko kl kc) 31)
    have K0 := hide (bel_new w (.cells #[.int .i8 4, .int .u64 n1, .bool g, .slice mo ml mc, .int .u64 b, .int .i8 e, .string s, .slice ko kl kc] 31))
    have hs : w.heap.size < (w.alloc (.cells #[.int .i8 4, .int .u64 n1, .bool g, .slice mo ml mc, .int .u64 b, .int .i8 e, .string s, .slice ko kl kc] 31)).heap.size := by simp
    generalize w.alloc (.cells #[.int .i8 4, .int .u64 n1, .bool g, .slice mo ml mc, .int .u64 b, .int .i8 e, .string s, .slice ko kl kc] 31) = W at *
    have CC : ∀ u : World, Below W.heap.size W u → u.cell? ⟨w.heap.size, 0, none⟩ = some (.int .i8 4) ∧ u.cell? ⟨w.heap.size, 1, none⟩ = some (.int .u64 n1) ∧ u.cell? ⟨w.heap.size, 2, none⟩ = some (.bool g) ∧ u.cell? ⟨w.heap.size, 3, none⟩ = some (.slice mo ml mc) ∧ u.cell? ⟨w.heap.size, 4, none⟩ = some (.int .u64 b) ∧ u.cell? ⟨w.heap.size, 5, none⟩ = some (.int .i8 e) ∧ u.cell? ⟨w.heap.size, 6, none⟩ = some (.string s) ∧ u.cell? ⟨w.heap.size, 7, none⟩ = some (.slice ko kl kc) ∧ u.cell? ⟨3, 4, none⟩ = some (.int .u8 4) := fun u hu => by
      obtain ⟨h0, h1, h2, h3, h4, h5, h6, h7⟩ := B.out.below hu hs
      exact ⟨h0, h1, h2, h3, h4, h5, h6, h7, ((HU.out.below K0.out).below hu).at_ 4 (by omega)⟩
    have K : Hid (Below W.heap.size W W.drew) := hide (Below.refl _ _).drew
    obtain ⟨g0, g1, g2, g3, g4, g5, g6, g7, g8⟩ := CC _ K.out
    have HC := hide CC
    clear hs CC
    go_region_with (go_at_call 203; (refine (H1.out _ (K0.out.trans (K.out.mono K0.out.size))).mono ?_); rintro x w2 ⟨rfl, hb2⟩; replace K := hide (K.out.trans (hb2.mono K.out.size)); clear hb2; obtain ⟨y0, y1, y2, y3, y4, y5, y6, y7, y8⟩ := HC.out _ K.out)
    all_goals
      have KZ := hide (K0.out.trans (K.out.mono K0.out.size))
      clear K
      go_wp2
      go_ret
      exact ⟨rfl, KZ.out⟩
  · go_enter Tryz.func173, Tryz.ntmps173
    go_wp2_with fail
    have B := hide (bx8_new w (.int .i8 4) (.int .u64 n1) (.bool g) (.slice mo ml mc) (.int .u64 b) (.int .i8 e) (.string s) (.slice ko kl kc) 31)
    have K0 := hide (bel_new w (.cells #[.int .i8 4, .int .u64 n1, .bool g, .slice mo ml mc, .int .u64 b, .int .i8 e, .string s, .slice ko kl kc] 31))
    have hs : w.heap.size < (w.alloc (.cells #[.int .i8 4, .int .u64 n1, .bool g, .slice mo ml mc, .int .u64 b, .int .i8 e, .string s, .slice ko kl kc] 31)).heap.size := by simp
    generalize w.alloc (.cells #[.int .i8 4, .int .u64 n1, .bool g, .slice mo ml mc, .int .u64 b, .int .i8 e, .string s, .slice ko kl kc] 31) = W at *
    have CC : ∀ u : World, Below W.heap.size W u → u.cell? ⟨w.heap.size, 0, none⟩ = some (.int .i8 4) ∧ u.cell? ⟨w.heap.size, 1, none⟩ = some (.int .u64 n1) ∧ u.cell? ⟨w.heap.size, 2, none⟩ = some (.bool g) ∧ u.cell? ⟨w.heap.size, 3, none⟩ = some (.slice mo ml mc) ∧ u.cell? ⟨w.heap.size, 4, none⟩ = some (.int .u64 b) ∧ u.cell? ⟨w.heap.size, 5, none⟩ = some (.int .i8 e) ∧ u.cell? ⟨w.heap.size, 6, none⟩ = some (.string s) ∧ u.cell? ⟨w.heap.size, 7, none⟩ = some (.slice ko kl kc) ∧ u.cell? ⟨3, 4, none⟩ = some (.int .u8 4) := fun u hu => by
      obtain ⟨h0, h1, h2, h3, h4, h5, h6, h7⟩ := B.out.below hu hs
      exact ⟨h0, h1, h2, h3, h4, h5, h6, h7, ((HU.out.below K0.out).below hu).at_ 4 (by omega)⟩
    have K : Below W.heap.size W W.drew := (Below.refl _ _).drew
    clear hs
    go_region_held3 (fun u => u.cell? ⟨w.heap.size, 0, none⟩ = some (.int .i8 4) ∧ u.cell? ⟨w.heap.size, 1, none⟩ = some (.int .u64 n1) ∧ u.cell? ⟨w.heap.size, 2, none⟩ = some (.bool g) ∧ u.cell? ⟨w.heap.size, 3, none⟩ = some (.slice mo ml mc) ∧ u.cell? ⟨w.heap.size, 4, none⟩ = some (.int .u64 b) ∧ u.cell? ⟨w.heap.size, 5, none⟩ = some (.int .i8 e) ∧ u.cell? ⟨w.heap.size, 6, none⟩ = some (.string s) ∧ u.cell? ⟨w.heap.size, 7, none⟩ = some (.slice ko kl kc) ∧ u.cell? ⟨3, 4, none⟩ = some (.int .u8 4)) (first | with_reducible exact CC _ K)
      (first
        | (go_at_call 203; (refine (H1.out _ (K0.out.trans (K.mono K0.out.size))).mono ?_); rintro x w2 ⟨rfl, hb2⟩; replace K := K.trans (hb2.mono K.size))
        | (go_at_call 204; (refine (H2.out _ (K0.out.trans (K.mono K0.out.size))).mono ?_); rintro x w3 ⟨rfl, hb3⟩; replace K := K.trans (hb3.mono K.size)))
    have KZ := hide (K0.out.trans (K.mono K0.out.size))
    clear CC K
    go_wp2
    go_ret
    exact ⟨rfl, KZ.out⟩

end Go.Proofs.YtjigofmcflmelaaGreatDoor
