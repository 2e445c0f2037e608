import Derived.Test.YticmlelalbaalaaGreatDoorB12
import Derived.Deep.CutRange
import Derived.Test.YticmlelalbaalaaGreatDoorB01
import Derived.Test.YticmlelalbaalaaGreatDoorB42
namespace Go.Proofs.YticmlelalbaalaaGreatDoor
open Go.RowKit
set_option linter.unusedVariables false
def flB (c1 c2 c3 c4 c5 c6 : Bool) : Int :=
  let q1 : Int := if c1 then bits .or .u8 0 1 else 0
  let q2 := if c2 then bits .or .u8 q1 2 else q1
  let q3 := if c3 then bits .or .u8 q2 4 else q2
  let q4 := if c4 then bits .or .u8 q3 8 else q3
  let q5 := if c5 then bits .or .u8 q4 16 else q4
  if c6 then bits .or .u8 q5 32 else q5
def flr (n1 : Int) (g : Bool) (ml : Nat) (b e : Int) (s : ByteArray) (kl : Nat) : Int :=
  flB (n1 != 0) (g || decide (0 < (ml : Int))) (b != 0) (e != 0) (!s.toList.isEmpty) (decide (0 < (kl : Int)))
set_option maxHeartbeats 4000000 in
theorem filled_any {w : World} {k n1 b e : Int} {g : Bool} {s : ByteArray} {ml mc kl kc : Nat} {mo ko : Option Addr} :
    Calls Tryz.prog 66 #[.agg #[.int .i8 k, .int .u64 n1, .bool g, .slice mo ml mc, .int .u64 b, .int .i8 e, .string s, .slice ko kl kc]] w fun x w' => x = .returned (.int .u8 (flr n1 g ml b e s kl)) ∧ Below w.heap.size w w' := by
  obtain ⟨c1, hc1⟩ : ∃ c, (n1 != 0) = c := ⟨_, rfl⟩
  obtain ⟨c3, hc3⟩ : ∃ c, (b != 0) = c := ⟨_, rfl⟩
  obtain ⟨c4, hc4⟩ : ∃ c, (e != 0) = c := ⟨_, rfl⟩
  obtain ⟨c5, hc5⟩ : ∃ c, (!s.toList.isEmpty) = c := ⟨_, rfl⟩
  obtain ⟨c6, hc6⟩ : ∃ c, decide (0 < (kl : Int)) = c := ⟨_, rfl⟩
  obtain ⟨c2, hc2⟩ : ∃ c, (g || decide (0 < (ml : Int))) = c := ⟨_, rfl⟩
  obtain ⟨q1, h1⟩ : ∃ q : Int, (if c1 then bits .or .u8 0 1 else 0) = q := ⟨_, rfl⟩
  obtain ⟨q2, h2⟩ : ∃ q : Int, (if c2 then bits .or .u8 q1 2 else q1) = q := ⟨_, rfl⟩
  obtain ⟨q3, h3⟩ : ∃ q : Int, (if c3 then bits .or .u8 q2 4 else q2) = q := ⟨_, rfl⟩
  obtain ⟨q4, h4⟩ : ∃ q : Int, (if c4 then bits .or .u8 q3 8 else q3) = q := ⟨_, rfl⟩
  obtain ⟨q5, h5⟩ : ∃ q : Int, (if c5 then bits .or .u8 q4 16 else q4) = q := ⟨_, rfl⟩
  obtain ⟨q6, h6⟩ : ∃ q : Int, (if c6 then bits .or .u8 q5 32 else q5) = q := ⟨_, rfl⟩
  have hq : flr n1 g ml b e s kl = q6 := by
    unfold flr flB
    rw [hc1, hc2, hc3, hc4, hc5, hc6]
    simp only [h1, h2, h3, h4, h5, h6]
  rw [hq]
  clear hq
  replace h1 := hide h1
  replace h2 := hide h2
  replace h3 := hide h3
  replace h4 := hide h4
  replace h5 := hide h5
  replace h6 := hide h6
  replace hc1 := hide hc1
  replace hc2 := hide hc2
  replace hc3 := hide hc3
  replace hc4 := hide hc4
  replace hc5 := hide hc5
  replace hc6 := hide hc6
  cases g
  · go_enter Tryz.func66, Tryz.ntmps66
    go_upto_if 6 with fail
    go_cut [3] from 6 (fun s3 wx => s3 = .int .u8 q1 ∧ wx = w.alloc (.cells #[.int .i8 k, .int .u64 n1, .bool false, .slice mo ml mc, .int .u64 b, .int .i8 e, .string s, .slice ko kl kc] 31))
    case first =>
      have ht := hc1.out
      have hq := h1.out
      cases c1
      all_goals
        go_wp2
        go_meet
        case rel => exact ⟨congrArg _ hq, rfl⟩
    obtain ⟨rfl, rfl⟩ := hcut
    go_upto_if 18 with fail
    go_cut [3] from 17 (fun s3 wx => s3 = .int .u8 q2 ∧ wx = w.alloc (.cells #[.int .i8 k, .int .u64 n1, .bool false, .slice mo ml mc, .int .u64 b, .int .i8 e, .string s, .slice ko kl kc] 31))
    case first =>
      by_cases hv : 0 < (ml : Int)
      · have hd : c2 = true := by rw [← hc2.out]; simp; omega
        have hq := h2.out
        rw [hd] at hq
        go_wp2
        go_meet
        case rel => exact ⟨congrArg _ hq, rfl⟩
      · have hd : c2 = false := by rw [← hc2.out]; simp; omega
        have hq := h2.out
        rw [hd] at hq
        go_wp2
        go_meet
        case rel => exact ⟨congrArg _ hq, rfl⟩
    obtain ⟨rfl, rfl⟩ := hcut
    go_upto_if 23 with fail
    go_cut [3] from 23 (fun s3 wx => s3 = .int .u8 q3 ∧ wx = w.alloc (.cells #[.int .i8 k, .int .u64 n1, .bool false, .slice mo ml mc, .int .u64 b, .int .i8 e, .string s, .slice ko kl kc] 31))
    case first =>
      have ht := hc3.out
      have hq := h3.out
      cases c3
      all_goals
        go_wp2
        go_meet
        case rel => exact ⟨congrArg _ hq, rfl⟩
    obtain ⟨rfl, rfl⟩ := hcut
    go_upto_if 28 with fail
    go_cut [3] from 28 (fun s3 wx => s3 = .int .u8 q4 ∧ wx = w.alloc (.cells #[.int .i8 k, .int .u64 n1, .bool false, .slice mo ml mc, .int .u64 b, .int .i8 e, .string s, .slice ko kl kc] 31))
    case first =>
      have ht := hc4.out
      have hq := h4.out
      cases c4
      all_goals
        go_wp2
        go_meet
        case rel => exact ⟨congrArg _ hq, rfl⟩
    obtain ⟨rfl, rfl⟩ := hcut
    go_upto_if 33 with fail
    go_cut [3] from 33 (fun s3 wx => s3 = .int .u8 q5 ∧ wx = w.alloc (.cells #[.int .i8 k, .int .u64 n1, .bool false, .slice mo ml mc, .int .u64 b, .int .i8 e, .string s, .slice ko kl kc] 31))
    case first =>
      have hq := h5.out
      go_wp2
      all_goals
        first
          | rw [show c5 = true from hc5.out.symm.trans (by assumption)] at hq
          | rw [show c5 = false from hc5.out.symm.trans (by assumption)] at hq
        go_meet
        case rel => exact ⟨congrArg _ hq, rfl⟩
    obtain ⟨rfl, rfl⟩ := hcut
    go_upto_if 39 with fail
    go_cut [3] from 39 (fun s3 wx => s3 = .int .u8 q6 ∧ wx = w.alloc (.cells #[.int .i8 k, .int .u64 n1, .bool false, .slice mo ml mc, .int .u64 b, .int .i8 e, .string s, .slice ko kl kc] 31))
    case first =>
      by_cases hv : 0 < (kl : Int)
      · have hd : c6 = true := by rw [← hc6.out]; simp; omega
        have hq := h6.out
        rw [hd] at hq
        go_wp2
        go_meet
        case rel => exact ⟨congrArg _ hq, rfl⟩
      · have hd : c6 = false := by rw [← hc6.out]; simp; omega
        have hq := h6.out
        rw [hd] at hq
        go_wp2
        go_meet
        case rel => exact ⟨congrArg _ hq, rfl⟩
    obtain ⟨rfl, rfl⟩ := hcut
    go_wp2
    go_ret
    exact ⟨rfl, bel_new _ _⟩
  · go_enter Tryz.func66, Tryz.ntmps66
    go_upto_if 6 with fail
    go_cut [3] from 6 (fun s3 wx => s3 = .int .u8 q1 ∧ wx = w.alloc (.cells #[.int .i8 k, .int .u64 n1, .bool true, .slice mo ml mc, .int .u64 b, .int .i8 e, .string s, .slice ko kl kc] 31))
    case first =>
      have ht := hc1.out
      have hq := h1.out
      cases c1
      all_goals
        go_wp2
        go_meet
        case rel => exact ⟨congrArg _ hq, rfl⟩
    obtain ⟨rfl, rfl⟩ := hcut
    go_upto_if 18 with fail
    go_cut [3] from 17 (fun s3 wx => s3 = .int .u8 q2 ∧ wx = w.alloc (.cells #[.int .i8 k, .int .u64 n1, .bool true, .slice mo ml mc, .int .u64 b, .int .i8 e, .string s, .slice ko kl kc] 31))
    case first =>
      have hq := h2.out
      rw [← hc2.out] at hq
      go_wp2
      go_meet
      case rel => exact ⟨congrArg _ hq, rfl⟩
    obtain ⟨rfl, rfl⟩ := hcut
    go_upto_if 23 with fail
    go_cut [3] from 23 (fun s3 wx => s3 = .int .u8 q3 ∧ wx = w.alloc (.cells #[.int .i8 k, .int .u64 n1, .bool true, .slice mo ml mc, .int .u64 b, .int .i8 e, .string s, .slice ko kl kc] 31))
    case first =>
      have ht := hc3.out
      have hq := h3.out
      cases c3
      all_goals
        go_wp2
        go_meet
        case rel => exact ⟨congrArg _ hq, rfl⟩
    obtain ⟨rfl, rfl⟩ := hcut
    go_upto_if 28 with fail
    go_cut [3] from 28 (fun s3 wx => s3 = .int .u8 q4 ∧ wx = w.alloc (.cells #[.int .i8 k, .int .u64 n1, .bool true, .slice mo ml mc, .int .u64 b, .int .i8 e, .string s, .slice ko kl kc] 31))
    case first =>
      have ht := hc4.out
      have hq := h4.out
      cases c4
      all_goals
        go_wp2
        go_meet
        case rel => exact ⟨congrArg _ hq, rfl⟩
    obtain ⟨rfl, rfl⟩ := hcut
    go_upto_if 33 with fail
    go_cut [3] from 33 (fun s3 wx => s3 = .int .u8 q5 ∧ wx = w.alloc (.cells #[.int .i8 k, .int .u64 n1, .bool true, .slice mo ml mc, .int .u64 b, .int .i8 e, .string s, .slice ko kl kc] 31))
    case first =>
      have hq := h5.out
      go_wp2
      all_goals
        first
          | rw [show c5 = true from hc5.out.symm.trans (by assumption)] at hq
          | rw [show c5 = false from hc5.out.symm.trans (by assumption)] at hq
        go_meet
        case rel => exact ⟨congrArg _ hq, rfl⟩
    obtain ⟨rfl, rfl⟩ := hcut
    go_upto_if 39 with fail
    go_cut [3] from 39 (fun s3 wx => s3 = .int .u8 q6 ∧ wx = w.alloc (.cells #[.int .i8 k, .int .u64 n1, .bool true, .slice mo ml mc, .int .u64 b, .int .i8 e, .string s, .slice ko kl kc] 31))
    case first =>
      by_cases hv : 0 < (kl : Int)
      · have hd : c6 = true := by rw [← hc6.out]; simp; omega
        have hq := h6.out
        rw [hd] at hq
        go_wp2
        go_meet
        case rel => exact ⟨congrArg _ hq, rfl⟩
      · have hd : c6 = false := by rw [← hc6.out]; simp; omega
        have hq := h6.out
        rw [hd] at hq
        go_wp2
        go_meet
        case rel => exact ⟨congrArg _ hq, rfl⟩
    obtain ⟨rfl, rfl⟩ := hcut
    go_wp2
    go_ret
    exact ⟨rfl, bel_new _ _⟩
def nrmB (g : Bool) (zs : List Int) : Bool := if zs.length = 0 then !g else (Nt.lb zs (zs.length - 1) != 0)
set_option maxHeartbeats 4000000 in
theorem isnormal_b {w : World} {g : Bool} {m : Value} {zs : List Int} (hm : Reads .u32 w m zs) : Calls Tryz.prog 107 #[.agg #[.bool g, m]] w fun e w' => e = .returned (.bool (nrmB g zs)) ∧ Below w.heap.size w w' := by
  obtain ⟨ao, cap, rfl, hlc, hcm, hc⟩ := hm
  unfold nrmB
  by_cases hz : zs.length = 0
  · rw [if_pos hz]
    have : zs = [] := List.length_eq_zero_iff.1 hz
    subst this
    clear hc hlc hcm hz
    simp only [List.length_nil]
    cases g <;>
    · go_enter Tryz.func107, Tryz.ntmps107
      go_wp2
      go_ret
      exact ⟨rfl, bel_new _ _⟩
  · rw [if_neg hz]
    obtain ⟨b, off, rfl, hb, hcell⟩ := hc (by omega)
    have h1 := hcell (zs.length - 1) (by omega)
    generalize Nt.lb zs (zs.length - 1) = x at h1
    obtain ⟨n, hn⟩ : ∃ n, zs.length = n + 1 := ⟨zs.length - 1, by omega⟩
    rw [hn] at h1 hlc ⊢
    rw [show n + 1 - 1 = n by omega] at h1
    have hcm2 : cap ≤ 9223372036854775807 := hcm
    have h5 := (bel_new w (.cells #[.bool g, .slice (some ⟨b, off, none⟩) (n + 1) cap] 28)).cell (p := ⟨b, off + n, none⟩) hb
    rw [h1] at h5
    clear hcell hz hn h1 hcm hc
    go_enter Tryz.func107, Tryz.ntmps107
    go_wp2
    go_ret
    exact ⟨rfl, bel_new _ _⟩
set_option maxHeartbeats 8000000 in
set_option maxRecDepth 20000 in
theorem fits_b3 {w : World} {n1 b e : Int} {g fb : Bool} {s : ByteArray} {ml mc kl kc : Nat} {mo ko : Option Addr} (h : ∀ W, Below w.heap.size w W → Calls Tryz.prog 107 #[.agg #[.bool g, .slice mo ml mc]] W fun x w' => x = .returned (.bool fb) ∧ Below W.heap.size W w') :
    Calls Tryz.prog 67 #[.agg #[.int .i8 3, .int .u64 n1, .bool g, .slice mo ml mc, .int .u64 b, .int .i8 e, .string s, .slice ko kl kc]] w fun x w' => x = .returned (.bool fb) ∧ Below w.heap.size w w' := by
  have H := hide h
  clear h
  go_enter Tryz.func67, Tryz.ntmps67
  go_wp2_with fail
  have K1 := bel_new w (.cells #[.int .i8 3, .int .u64 n1, .bool g, .slice mo ml mc, .int .u64 b, .int .i8 e, .string s, .slice ko kl kc] 31)
  with_reducible refine (H.out _ K1).mono ?_
  rintro x w2 ⟨rfl, K2⟩
  have KK := hide (below_trans K1 K2)
  clear K1 K2
  go_wp2
  go_ret
  exact ⟨rfl, KK.out⟩
set_option maxHeartbeats 8000000 in
set_option maxRecDepth 20000 in
theorem fits_b4 {w : World} {n1 b e : Int} {g fb : Bool} {s : ByteArray} {ml mc kl kc : Nat} {mo ko : Option Addr} (h : ∀ W, Below w.heap.size w W → Calls Tryz.prog 108 #[.int .u64 b] W fun x w' => x = .returned (.bool fb) ∧ Below W.heap.size W w') :
    Calls Tryz.prog 67 #[.agg #[.int .i8 4, .int .u64 n1, .bool g, .slice mo ml mc, .int .u64 b, .int .i8 e, .string s, .slice ko kl kc]] w fun x w' => x = .returned (.bool fb) ∧ Below w.heap.size w w' := by
  have H := hide h
  clear h
  go_enter Tryz.func67, Tryz.ntmps67
  go_wp2_with fail
  have K1 := bel_new w (.cells #[.int .i8 4, .int .u64 n1, .bool g, .slice mo ml mc, .int .u64 b, .int .i8 e, .string s, .slice ko kl kc] 31)
  with_reducible refine (H.out _ K1).mono ?_
  rintro x w2 ⟨rfl, K2⟩
  have KK := hide (below_trans K1 K2)
  clear K1 K2
  go_wp2
  go_ret
  exact ⟨rfl, KK.out⟩
structure WthV (S F L I lim : Int) (fr : Nat) : Prop where
  f : F = p2 fr
  f0 : 0 < F
  l0 : L ≤ 0
  l1 : -1100 ≤ L
  i : I = (lim + 1 - fr - L) * F
  lm : L ≤ lim - 1 - fr
  s : S = I + F
  i0 : 0 < I
  s2 : 2 * F ≤ S
  e : ∀ s, s < S → est F L s ≤ 2100
  sm : S ≤ 9223372036854775808
  fe : F / 2 < F ∧ 0 < F / 2
theorem wth64V : WthV 9223372036854775808 4503599627370496 (-1074) 9218868437227405312 1024 52 := ⟨by decide, by decide, by decide, by decide, by decide, by decide, by decide, by decide, by decide, fun s h => by unfold est; split <;> omega, by decide, by decide⟩
theorem part_litV {F L I s m E : Int} {ng : Bool} (k : Nat) (s0 : 0 < s) (s1 : s < I) (k1 : k < 64) (mo : m % 2 = 1) (hm : mst F s = m * p2 k) (hE : E = est F L s + k) : PartIs F L I s ng ng m E true :=
  ⟨fun h => absurd h (by omega), fun _ => ⟨rfl, rfl, fun h => absurd h (by omega), fun _ => ⟨mo, k, k1, hm, hE⟩⟩⟩
theorem int_litV {F L I s m E : Int} {ng : Bool} (h : PartIs F L I s ng ng m E true) (hE : 0 ≤ E) : IntIs F L I s ng (wn ng (m * p2 E.toNat)) true := ⟨ng, m, E, true, h, .inl ⟨rfl, hE, rfl, rfl⟩⟩
theorem int_lit_noV {F L I s m E : Int} {ng : Bool} (h : PartIs F L I s ng ng m E true) (hE : E < 0) : IntIs F L I s ng 0 false := ⟨ng, m, E, true, h, .inr ⟨by omega, rfl, rfl⟩⟩
theorem part_zeroV {F L I : Int} {ng : Bool} (hI : 0 < I) : PartIs F L I 0 ng ng 0 0 true := ⟨fun h => absurd h (by omega), fun _ => ⟨rfl, rfl, fun _ => ⟨rfl, rfl⟩, fun h => absurd h (by omega)⟩⟩
theorem p2nV : p2 0 = 1 := rfl
theorem p2sV (k : Nat) : p2 (k + 1) = 2 * p2 k := rfl
theorem odd_splitV : ∀ (j : Nat) (n : Int), 0 < n → n < p2 j → ∃ (m : Int) (k : Nat), m % 2 = 1 ∧ k < j ∧ n = m * p2 k := by
  intro j
  induction j with
  | zero =>
    intro n h1 h2
    rw [p2nV] at h2
    omega
  | succ j ih =>
    intro n h1 h2
    rw [p2sV] at h2
    rcases Int.emod_two_eq n with h | h
    · obtain ⟨m, k, h3, h4, h5⟩ := ih (n / 2) (by omega) (by omega)
      refine ⟨m, k + 1, h3, by omega, ?_⟩
      rw [p2sV, show m * (2 * p2 k) = 2 * (m * p2 k) by rw [Int.mul_left_comm], ← h5]
      omega
    · exact ⟨n, 0, h, by omega, by rw [p2nV, Int.mul_one]⟩
theorem part_exV {S F L I lim s : Int} {fr : Nat} {ng : Bool} (W : WthV S F L I lim fr) (hp : S ≤ p2 64) (s0 : 0 ≤ s) (s1 : s < I) : ∃ m E, PartIs F L I s ng ng m E true := by
  rcases Int.lt_or_eq_of_le s0 with g | g
  · have hI : I < S := by have := W.s; have := W.f0; omega
    obtain ⟨m0, m1⟩ := mst_range (F := F) (s := s) (S := S) W.f0 g W.s2 (by omega)
    obtain ⟨m, k, h1, h2, h3⟩ := odd_splitV 64 (mst F s) (by omega) (by omega)
    exact ⟨m, est F L s + k, part_litV k g s1 h2 h1 h3 rfl⟩
  · subst g
    exact ⟨0, 0, part_zeroV s1⟩
theorem int_exV {S F L I lim s : Int} {fr : Nat} {ng : Bool} (W : WthV S F L I lim fr) (hp : S ≤ p2 64) (s0 : 0 ≤ s) (s1 : s < I) : ∃ n ok, IntIs F L I s ng n ok := by
  obtain ⟨m, E, h⟩ := part_exV (ng := ng) W hp s0 s1
  by_cases hE : 0 ≤ E
  · exact ⟨_, _, int_litV h hE⟩
  · exact ⟨_, _, int_lit_noV h (by omega)⟩
theorem frac_uV {F L I s n : Int} {ng : Bool} (s0 : 0 ≤ s) (s1 : s < I) (h : IntIs F L I s ng n false) : 0 < s := by
  obtain ⟨a, m, E, k, hP, ⟨-, -, h, -⟩ | ⟨hn, -, -⟩⟩ := h
  · cases h
  · obtain ⟨rfl, rfl, h0, hp⟩ := hP.2 s1
    have e0 : E < 0 := by rcases Int.lt_or_le E 0 with c | c; exact c; exact absurd ⟨rfl, c⟩ hn
    rcases Int.lt_or_eq_of_le s0 with c | c
    · exact c
    · have := (h0 c.symm).2; omega
set_option maxHeartbeats 8000000 in
set_option maxRecDepth 20000 in
theorem isfloat_dV (b : Int) (b0 : 0 ≤ b) (b1 : b < 18446744073709551616) : ∃ fb : Bool, (fb = true → FOk b) ∧ ∀ w : World, Lays w → Brn w → Calls Tryz.prog 108 #[.int .u64 b] w fun e w' => e = .returned (.bool fb) ∧ Below w.heap.size w w' := by
  obtain ⟨c, hc⟩ : ∃ c, cls 9223372036854775808 4503599627370496 (b % 9223372036854775808) = c := ⟨_, rfl⟩
  by_cases c5 : c = 5
  · subst c5
    refine ⟨b == 9221120237041090560, fun h => by
      obtain rfl : b = 9221120237041090560 := by simpa using h
      exact ⟨by decide, by decide, by decide, .inl rfl⟩, fun w L T => ?_⟩
    have HC := hide hc
    clear hc
    obtain ⟨q, hq⟩ : ∃ q, (b == 9221120237041090560) = q := ⟨_, rfl⟩
    rw [hq]
    go_enter Tryz.func108, Tryz.ntmps108
    go_wp2_with fail
    with_reducible refine (class_64 L b (b % 9223372036854775808) b0 b1 rfl).mono ?_
    rintro e w1 ⟨rfl, K1⟩
    have HK := hide K1
    clear K1
    rw [HC.out]
    have hq2 := hide hq
    clear hq
    go_wp2
    go_ret
    exact ⟨congrArg (fun q => Ending.returned (.bool q)) hq2.out, HK.out⟩
  by_cases c4 : c = 4
  · subst c4
    have hs : b % 9223372036854775808 = 9218868437227405312 := by
      unfold cls at hc
      split at hc
      · omega
      · split at hc
        · omega
        · split at hc
          · omega
          · split at hc <;> omega
    refine ⟨true, fun _ => ⟨b0, b1, by rintro rfl; omega, .inr (.inl hs)⟩, fun w L T => ?_⟩
    have HC := hide hc
    clear hc c5
    go_enter Tryz.func108, Tryz.ntmps108
    go_wp2_with fail
    with_reducible refine (class_64 L b (b % 9223372036854775808) b0 b1 rfl).mono ?_
    rintro e w1 ⟨rfl, K1⟩
    have HK := hide K1
    clear K1
    rw [HC.out]
    go_wp2
    go_ret
    exact ⟨rfl, HK.out⟩
  · have s0 : 0 ≤ b % 9223372036854775808 := Int.emod_nonneg _ (by decide)
    have s1 : b % 9223372036854775808 < 9218868437227405312 := by
      rcases Int.lt_or_le (b % 9223372036854775808) 9218868437227405312 with g | g
      · exact g
      · exfalso
        unfold cls at hc
        split at hc
        · omega
        · split at hc <;> omega
    obtain ⟨n0, ok0, hI0⟩ := int_exV (ng := decide (9223372036854775808 ≤ b)) wth64V (by decide) s0 s1
    obtain ⟨fb, hfo, hfb⟩ : ∃ fb : Bool, (fb = true → FOk b) ∧ ∀ n ok, IntIs 4503599627370496 (-1074) 9218868437227405312 (b % 9223372036854775808) (decide (9223372036854775808 ≤ b)) n ok → ok = !fb := by
      refine ⟨!ok0, fun h => ?_, fun n ok h => by rw [Bool.not_not]; exact (IntIs.unique s0 h hI0).2⟩
      obtain rfl : ok0 = false := by simpa using h
      have hp := frac_uV s0 s1 hI0
      exact ⟨b0, b1, by rintro rfl; omega, .inr (.inr ⟨s1, n0, hI0⟩)⟩
    clear hI0
    refine ⟨fb, hfo, fun w L T => ?_⟩
    clear hfo s0 s1
    have HC := hide hc
    have HF := hide hfb
    have e5 : (c == 5) = false := by simp [c5]
    have e4 : (c == 4) = false := by simp [c4]
    clear hc hfb c4 c5
    go_enter Tryz.func108, Tryz.ntmps108
    go_wp2_with fail
    with_reducible refine (class_64 L b (b % 9223372036854775808) b0 b1 rfl).mono ?_
    rintro e w1 ⟨rfl, K1⟩
    have HK := hide K1
    have L1 := hide (L.below K1)
    have T1 := hide (T.below K1)
    clear K1
    rw [HC.out]
    go_wp2_with fail
    with_reducible refine (int_64 L1.out T1.out b (b % 9223372036854775808) (decide (9223372036854775808 ≤ b)) b0 b1 rfl rfl).mono ?_
    rintro e w2 ⟨va, n2, ok, rfl, hW, hI, K2⟩
    have hok := hide (HF.out _ _ hI)
    obtain ⟨ng2, m2, a2, rfl, ⟨zs2, ⟨ao2, rfl, -⟩, -⟩, -, -⟩ := hW
    clear hI
    have KK := hide (below_trans HK.out K2)
    clear K2
    go_wp2
    go_ret
    refine ⟨?_, KK.out.alloc (by have := KK.out.size; omega) _⟩
    rw [hok.out]
    simp
open Classical in
noncomputable def fltB (b : Int) : Bool := decide (FOk b)
theorem isfloat_any {w : World} (L : Lays w) (T : Brn w) {b : Int} (b0 : 0 ≤ b) (b1 : b < 18446744073709551616) : Calls Tryz.prog 108 #[.int .u64 b] w fun e w' => e = .returned (.bool (fltB b)) ∧ Below w.heap.size w w' := by
  by_cases h : FOk b
  · rw [show fltB b = true by simp [fltB, h]]
    exact isfloat_ok L T h
  · rw [show fltB b = false by simp [fltB, h]]
    obtain ⟨fb, h1, h2⟩ := isfloat_dV b b0 b1
    cases fb
    · exact h2 w L T
    · exact absurd (h1 rfl) h
open Classical in
noncomputable def txB (t : List Int) : Bool := decide (∃ ps, USplit t ps [])
theorem txB_eq {es ps t : List Int} (hb : uByt es) (h : USplit es ps t) : txB es = t.isEmpty := by
  unfold txB
  cases t with
  | nil => simpa using ⟨ps, h⟩
  | cons c t =>
    simp only [List.isEmpty_cons, decide_eq_false_iff_not]
    rintro ⟨qs, hq⟩
    have := USplit.unique hq h
    simp at this
def risK : List Va → Bool
  | a :: _ :: c :: t => decide (vcmp a c < 0) && risK (c :: t)
  | _ => true
theorem risK_at {xs : List Va} {i : Nat} (h : i + 2 < xs.length) : risK (xs.drop i) = (decide (vcmp xs[i] xs[i + 2] < 0) && risK (xs.drop (i + 2))) := by
  rw [List.drop_eq_getElem_cons (show i < xs.length by omega), List.drop_eq_getElem_cons (show i + 1 < xs.length by omega), List.drop_eq_getElem_cons (show i + 1 + 1 < xs.length by omega), risK]
theorem risK_end {xs : List Va} {i : Nat} (h : xs.length ≤ i + 2) : risK (xs.drop i) = true := by
  have hl : (xs.drop i).length ≤ 2 := by simp; omega
  match hx : xs.drop i with
  | [] => rfl
  | [_] => rfl
  | [_, _] => rfl
  | a :: b :: c :: t => rw [hx] at hl; simp at hl
noncomputable def fitB (x : Va) : Bool :=
  if x.kind = 2 then decide (x.n ≤ 1)
  else if x.kind = 3 then nrmB x.neg x.mag
  else if x.kind = 4 then fltB x.bits
  else if x.kind = 5 then txB x.text
  else if x.kind = 8 then decide (x.kids.length % 2 = 0) && risK x.kids
  else if x.kind = 9 then (x.n != 2 && x.n != 3) && decide (x.kids.length = 1)
  else if x.kind = 10 then decide (x.n ≤ 19) || x.n == 23 || (decide (32 ≤ x.n) && decide (x.n ≤ 255))
  else true
def flV (x : Va) : Int := flr x.n x.neg x.mag.length x.bits x.ext (strOfNums x.text) x.kids.length
noncomputable def aloB (x : Va) : Bool := (decide (1 ≤ x.kind) && decide (x.kind ≤ 11)) && ((bits .andNot .u8 (flV x) (usTab.getD x.kind.toNat 0 : Nat) == 0) && fitB x)
end Go.Proofs.YticmlelalbaalaaGreatDoor
namespace Go.Proofs.YticmlelalbaalaaGreatDoor
set_option linter.unusedVariables false
theorem kpts_in : ∀ {xs : List Va} {x : Va}, x ∈ xs → vpts x ≤ kpts xs
  | [], _, h => by cases h
  | y :: ys, x, h => by
    rw [kpts]
    rcases List.mem_cons.1 h with rfl | h
    · omega
    · have := kpts_in h; omega
theorem knod_pts : ∀ (xs : List Va), (∀ x ∈ xs, vnod x ≤ vpts x) → knod xs ≤ kpts xs
  | [], _ => by simp [knod, kpts]
  | x :: xs, h => by
    rw [knod, kpts]
    have := h x List.mem_cons_self
    have := knod_pts xs fun y hy => h y (List.mem_cons_of_mem _ hy)
    omega
theorem vnod_pts' : ∀ (N : Nat) (x : Va), SizeOf.sizeOf x ≤ N → vnod x ≤ vpts x := by
  intro N
  induction N with
  | zero => intro x h; cases x; simp at h
  | succ N ih =>
    intro x h
    rw [vnod_eq, vpts_eq]
    have := knod_pts x.kids fun y hy => ih y (by have := Va.kid_lt hy; omega)
    omega
theorem vnod_pts (x : Va) : vnod x ≤ vpts x := vnod_pts' _ x (Nat.le_refl _)
theorem pre_pts : ∀ (N : Nat) (x : Va), SizeOf.sizeOf x ≤ N → ∀ (p : List Int) (q : List Int × Va), q ∈ preV p x → vpts q.2 ≤ vpts x := by
  intro N
  induction N with
  | zero => intro x h; cases x; simp at h
  | succ N ih =>
    intro x h p q hq
    have key : ∀ (ks : List Va) (i : Nat), (∀ y ∈ ks, y ∈ x.kids) → q ∈ preK p i ks → vpts q.2 ≤ vpts x := by
      intro ks
      induction ks with
      | nil => intro i _ hq; simp [preK] at hq
      | cons y ys ihk =>
        intro i hm hq
        rw [preK, List.mem_append] at hq
        rcases hq with hq | hq
        · have hy := hm y List.mem_cons_self
          have := ih y (by have := Va.kid_lt hy; omega) _ q hq
          have := kpts_in hy
          have := vpts_eq x
          omega
        · exact ihk (i + 1) (fun z hz => hm z (List.mem_cons_of_mem _ hz)) hq
    rw [preV_eq] at hq
    rcases List.mem_cons.1 hq with rfl | hq
    · exact Nat.le_refl _
    · exact key x.kids 0 (fun y hy => hy) hq
def tooD (q : List Int × Va) : Bool := vcont q.2 && decide (128 ≤ q.1.length)
noncomputable def chkV (x : Va) : Option (Nat × List Int) :=
  match (preV [] x).find? (fun q => !aloB q.2) with
  | some q => some (0, q.1)
  | none => ((preV [] x).find? tooD).map fun q => (4, q.1)
theorem find_at {α : Type} {P : α → Bool} {l pre : List α} {a : α} (h : pre ++ [a] <+: l) (h0 : ∀ b ∈ pre, P b = false) (h1 : P a = true) : l.find? P = some a := by
  obtain ⟨s, rfl⟩ := h
  rw [List.append_assoc, List.find?_append, List.find?_eq_none.2 (fun b hb => by rw [h0 b hb]; simp)]
  simp [h1]
theorem find_all {α : Type} {P : α → Bool} {l : List α} (h0 : ∀ b ∈ l, P b = false) : l.find? P = none := List.find?_eq_none.2 (fun b hb => by rw [h0 b hb]; simp)
end Go.Proofs.YticmlelalbaalaaGreatDoor
namespace Go.Proofs.YticmlelalbaalaaGreatDoor
open Go.RowKit
set_option linter.unusedVariables false
set_option linter.unusedSimpArgs false
theorem rtwo1_d (w : World) : Calls Tryz.prog 179 #[.int .i64 51] w fun e w' => e = .returned (.int .u64 2251799813685248) ∧ w' = w := by
  have := rtwo_any w 51 (by decide)
  rwa [show p2 51 = 2251799813685248 from by decide] at this
theorem rNaN_d (w : World) : Calls Tryz.prog 149 #[.int .i64 64] w fun e w' => e = .returned (.int .u64 9221120237041090560) ∧ Below w.heap.size w w' := by
  have hf := shape_field0_d
  go_enter Tryz.func149, Tryz.ntmps149
  go_wp2_with fail
  with_reducible refine (rInf_d _).mono ?_
  rintro x w1 ⟨rfl, K⟩
  go_wp2_with fail
  with_reducible refine (rOf_d _).mono ?_
  rintro x w2 ⟨rfl, kb⟩
  go_wp2_with fail
  with_reducible refine (rtwo1_d _).mono ?_
  rintro x w3 ⟨rfl, rfl⟩
  go_wp2
  go_ret
  exact ⟨rfl, below_trans K kb⟩
set_option maxHeartbeats 4000000 in
theorem rnormal_b {w : World} {g : Bool} {m : Value} {zs : List Int} (hm : Reads .u32 w m zs) : Calls Tryz.prog 118 #[.agg #[.bool g, m]] w fun e w' => e = .returned (.bool (nrmB g zs)) ∧ Below w.heap.size w w' := by
  obtain ⟨ao, cap, rfl, hlc, hcm, hc⟩ := hm
  unfold nrmB
  by_cases hz : zs.length = 0
  · rw [if_pos hz]
    have : zs = [] := List.length_eq_zero_iff.1 hz
    subst this
    clear hc hlc hcm hz
    simp only [List.length_nil]
    cases g <;>
    · go_enter Tryz.func118, Tryz.ntmps118
      go_wp2
      go_ret
      exact ⟨rfl, bel_new _ _⟩
  · rw [if_neg hz]
    obtain ⟨b, off, rfl, hb, hcell⟩ := hc (by omega)
    have h1 := hcell (zs.length - 1) (by omega)
    generalize Nt.lb zs (zs.length - 1) = x at h1
    obtain ⟨n, hn⟩ : ∃ n, zs.length = n + 1 := ⟨zs.length - 1, by omega⟩
    rw [hn] at h1 hlc ⊢
    rw [show n + 1 - 1 = n by omega] at h1
    have hcm2 : cap ≤ 9223372036854775807 := hcm
    have h5 := (bel_new w (.cells #[.bool g, .slice (some ⟨b, off, none⟩) (n + 1) cap] 28)).cell (p := ⟨b, off + n, none⟩) hb
    rw [h1] at h5
    clear hcell hz hn h1 hcm hc
    have e0 : ((n : Int) + 1 == 0) = false := beq_eq_false_iff_ne.2 (by omega)
    have e1 : (0 : Int) < (n : Int) + 1 := by omega
    go_enter Tryz.func118, Tryz.ntmps118
    go_wp2
    go_ret
    exact ⟨rfl, bel_new _ _⟩
set_option maxHeartbeats 8000000 in
set_option maxRecDepth 20000 in
theorem rfloat_any {w : World} {b : Int} {fb : Bool} (b0 : 0 ≤ b) (b1 : b < 18446744073709551616) (hf : fb = true ↔ FOk b) : Calls Tryz.prog 119 #[.int .u64 b] w fun e w' => e = .returned (.bool fb) ∧ Below w.heap.size w w' := by
  have s0 : 0 ≤ b % 9223372036854775808 := Int.emod_nonneg _ (by decide)
  obtain ⟨c, hc⟩ : ∃ c, cls 9223372036854775808 4503599627370496 (b % 9223372036854775808) = c := ⟨_, rfl⟩
  have HC := hide hc
  by_cases c5 : c = 5
  · subst c5
    have hn : 9218868437227405312 < b % 9223372036854775808 := by
      have := (cls_nan 9223372036854775808 4503599627370496 (b % 9223372036854775808)).1 hc
      omega
    have hq : Hid ((b == 9221120237041090560) = fb) := hide (by
      cases fb with
      | true =>
        obtain ⟨-, -, -, h | h | ⟨h, -⟩⟩ := hf.1 rfl
        · rw [h]; rfl
        · omega
        · omega
      | false =>
        refine beq_eq_false_iff_ne.2 fun h => ?_
        have : false = true := hf.2 ⟨b0, b1, by rintro rfl; omega, .inl h⟩
        cases this)
    clear hc hn hf
    go_enter Tryz.func119, Tryz.ntmps119
    go_wp2_with fail
    with_reducible refine (rClass_d _ b (b % 9223372036854775808) b0 b1 rfl).mono ?_
    rintro e w1 ⟨rfl, K1⟩
    have HK := hide K1
    clear K1
    rw [HC.out]
    go_wp2_with fail
    with_reducible refine (rNaN_d _).mono ?_
    rintro e w2 ⟨rfl, K2⟩
    have HK2 := hide (below_trans HK.out K2)
    clear K2
    obtain ⟨q, hqq⟩ : ∃ q, (b == 9221120237041090560) = q := ⟨_, rfl⟩
    have HQQ := hide hqq
    go_wp2
    go_ret
    exact ⟨congrArg (fun q => Ending.returned (.bool q)) (HQQ.out.symm.trans hq.out), HK2.out⟩
  have hs1 : b % 9223372036854775808 ≤ 9218868437227405312 := by
    rcases Int.lt_or_le 9218868437227405312 (b % 9223372036854775808) with g | g
    · exact absurd (hc.symm.trans ((cls_nan 9223372036854775808 4503599627370496 (b % 9223372036854775808)).2 (by omega))) c5
    · exact g
  by_cases c4 : b % 9223372036854775808 = 9218868437227405312
  · have h4 : c = 4 := by rw [← hc, c4]; decide
    subst h4
    have hft : fb = true := hf.2 ⟨b0, b1, by rintro rfl; omega, .inr (.inl c4)⟩
    subst hft
    clear hc hf c4 hs1 c5
    go_enter Tryz.func119, Tryz.ntmps119
    go_wp2_with fail
    with_reducible refine (rClass_d _ b (b % 9223372036854775808) b0 b1 rfl).mono ?_
    rintro e w1 ⟨rfl, K1⟩
    have HK := hide K1
    clear K1
    rw [HC.out]
    go_wp2
    go_ret
    exact ⟨rfl, HK.out⟩
  · have s1 : b % 9223372036854775808 < 9218868437227405312 := by omega
    have n4 : c ≠ 4 := by
      rw [← hc]; unfold cls; intro hx
      rw [if_neg (by omega), if_neg (by omega)] at hx
      split at hx
      · omega
      · split at hx <;> omega
    have e5 : (c == 5) = false := by simp [c5]
    have e4 : (c == 4) = false := by simp [n4]
    have HF := hide (fun (n : Int) (ok : Bool) (h : IntIs 4503599627370496 (-1074) 9218868437227405312 (b % 9223372036854775808) (decide (9223372036854775808 ≤ b)) n ok) => (show (!ok) = fb from by
      cases ok with
      | false =>
        have hp := frac_uV s0 s1 h
        exact (hf.2 ⟨b0, b1, by rintro rfl; omega, .inr (.inr ⟨s1, n, h⟩)⟩).symm
      | true =>
        cases fb with
        | false => rfl
        | true =>
          obtain ⟨-, -, -, h2 | h2 | ⟨-, n2, h2⟩⟩ := hf.1 rfl
          · exfalso; rw [h2] at s1; revert s1; decide
          · exact absurd h2 c4
          · have := (IntIs.unique s0 h h2).2; cases this))
    clear hc hf c4 hs1 n4 c5
    go_enter Tryz.func119, Tryz.ntmps119
    go_wp2_with fail
    with_reducible refine (rClass_d _ b (b % 9223372036854775808) b0 b1 rfl).mono ?_
    rintro e w1 ⟨rfl, K1⟩
    have HK := hide K1
    clear K1
    rw [HC.out]
    go_wp2_with fail
    with_reducible refine (rInt_d _ b (b % 9223372036854775808) (decide (9223372036854775808 ≤ b)) b0 b1 rfl rfl).mono ?_
    rintro e w2 ⟨va, n, ok, rfl, hW, hI, K2⟩
    obtain ⟨ng2, ao2, l2, rfl⟩ := hW.told
    have HK2 := hide (below_trans HK.out K2)
    have HR := hide (HF.out n ok hI)
    clear K2 hW hI HF
    go_wp2
    go_ret
    exact ⟨congrArg (fun q => Ending.returned (.bool q)) HR.out, HK2.out.alloc (by have := HK2.out.size; omega) _⟩
end Go.Proofs.YticmlelalbaalaaGreatDoor
