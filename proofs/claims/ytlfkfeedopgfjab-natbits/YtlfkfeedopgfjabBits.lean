/- NatBits -/
import Derived.Test.YtlfkfeedopgfjabLives
import Derived.Test.YtlfkfeedopgfjabSub
import Derived.Test.YtlfkfeedopgfjabNorm
import Derived.Test.YtlfkfeedopgfjabShr
namespace Go.Proofs.Ytlfkfeedopgfjab
open Go.RowKit

theorem num_none (B : Nat) (w : World) (k : Nat) : Num B w (.slice none 0 0) 0 k := ⟨[], ⟨none, rfl, by unfold maxLen; simp, fun h => absurd h (by simp)⟩, Nt.canon_nil, rfl, Nat.zero_le _⟩
theorem p2_one_le (n : Nat) : 1 ≤ p2 n := by have := p2_pos n; omega

/-- every number has a length -/
theorem len_exists {xs : List Int} {ka : Nat} (ho : Nt.Ok xs) (hl : xs.length ≤ ka) : ∃ k, IsLen (Nt.val xs) k ∧ k ≤ 32 * ka := by
  have hv := Nt.val_nonneg ho
  have hb := Nt.val_lt ho
  rw [← p2_32] at hb
  have : ∀ m : Nat, ∀ x : Int, 0 ≤ x → x < p2 m → ∃ k, IsLen x k ∧ k ≤ m := by
    intro m
    induction m with
    | zero => intro x h0 h1; exact ⟨0, ⟨h1, fun h => by omega⟩, Nat.le_refl _⟩
    | succ m ih =>
      intro x h0 h1
      by_cases h : x < p2 m
      · obtain ⟨k, hk, hkm⟩ := ih x h0 h; exact ⟨k, hk, by omega⟩
      · exact ⟨m + 1, ⟨h1, fun _ => by rw [Nat.add_sub_cancel]; omega⟩, Nat.le_refl _⟩
  obtain ⟨k, hk, hk2⟩ := this _ _ hv hb
  exact ⟨k, hk, by omega⟩

/-- shifted left where there is room -/
theorem shl_fits {w : World} {va : Value} {A i : Int} {ka N : Nat} (ha : Arg w va A ka) (hi : i = (N : Int)) (hfit : N + 32 * ka ≤ 8388608) :
    Calls Try.prog 15 #[va, .int .i64 i] w fun e w' => ∃ v, e = .returned (.tuple #[v, .bool true]) ∧ Num w.heap.size w' v (A * p2 N) (N / 32 + ka + 1) ∧ Below w.heap.size w w' := by
  subst hi
  have hn := ha.nonneg
  by_cases h0 : A = 0
  · subst h0
    refine (shl_zero ha (by omega)).mono ?_
    rintro e w' ⟨rfl, rfl⟩
    exact ⟨_, rfl, by rw [Int.zero_mul]; exact num_none _ _ _, Below.refl _ _⟩
  · obtain ⟨k, hk, hk2⟩ : ∃ k, IsLen A k ∧ k ≤ 32 * ka := by
      obtain ⟨xs, hr, ho, hv, hl⟩ := ha
      subst hv
      exact len_exists ho hl
    exact shl_ok ha (by omega) (by omega) hk hk2 (by omega) (W := N / 32) (s := N % 32) (by omega) (by omega)

/-- shifted right -/
theorem shr_all {w : World} {va : Value} {A i : Int} {ka N : Nat} {b : Bool} (ha : Arg w va A ka) (hka : ka ≤ 1099511627776) (hi : i = (N : Int)) (hN : N ≤ 9223372036854775807) (hb : decide (0 < A % p2 N) = b) :
    Calls Try.prog 16 #[va, .int .i64 i] w fun e w' => ∃ v, e = .returned (.tuple #[v, .bool b, .bool true]) ∧ Num w.heap.size w' v (A / p2 N) ka ∧ Below w.heap.size w w' := by
  subst hi
  subst hb
  have hn := ha.nonneg
  by_cases hf : Nt.pw (N / 32) ≤ A
  · exact shr_near ha hka (W := N / 32) (s := N % 32) (by omega) (by omega) hf
  · have hlt : A < p2 N := by
      have h := p2_mono (m := 32 * (N / 32)) (n := N) (by omega)
      rw [p2_32] at h
      omega
    refine (shr_far ha (by omega) (by omega) (by rw [show ((N : Int) / 32).toNat = N / 32 by omega]; omega)).mono ?_
    rintro e w' ⟨rfl, rfl⟩
    rw [Int.emod_eq_of_lt hn hlt, Int.ediv_eq_zero_of_lt hn hlt]
    exact ⟨_, rfl, num_none _ _ _, Below.refl _ _⟩

/-- an answer's shape -/
theorem Num.shape {B : Nat} {w : World} {v : Value} {n : Int} {k : Nat} (h : Num B w v n k) : ∃ ao L, v = .slice ao L L ∧ decide (0 < L) = decide (0 < n) ∧ L ≤ k := by
  obtain ⟨zs, ⟨ao, h1, _⟩, h2, h3, h4⟩ := h
  refine ⟨ao, zs.length, h1, ?_, h4⟩
  subst h3
  by_cases h0 : zs.length = 0
  · have e := List.eq_nil_of_length_eq_zero h0
    subst e; rfl
  · have hne : zs ≠ [] := by intro e; subst e; simp at h0
    have a := Nt.canon_low h2 hne
    have b := Nt.pw_pos (zs.length - 1)
    rw [decide_eq_true (by omega), decide_eq_true (by omega)]
theorem cmp_is {w : World} {va vb : Value} {n m s : Int} {ka kb : Nat} (ha : Arg w va n ka) (hb : Arg w vb m kb) (hka : ka ≤ 1099511627776) (hkb : kb ≤ 1099511627776) (hs : sgn n m = s) :
    Calls Try.prog 8 #[va, vb] w fun e w' => e = .returned (.int .i64 s) ∧ Below w.heap.size w w' := by
  subst hs
  exact cmp_any ha hb hka hkb

theorem num_base {B : Nat} {w : World} {v : Value} {n : Int} {k : Nat} (h : Num B w v n k) : Num 0 w v n k := by
  obtain ⟨zs, ⟨ao, h1, h2, h3⟩, h4⟩ := h
  refine ⟨zs, ⟨ao, h1, h2, fun hp => ?_⟩, h4⟩
  obtain ⟨g, rest, a, _, c⟩ := h3 hp
  exact ⟨g, rest, a, Nat.zero_le _, c⟩
theorem num_double {B : Nat} {w : World} {v : Value} {j : Nat} (h : Num B w v (p2 j + p2 j) (max (j + 2) (j + 2) + 1)) : Num B w v (p2 (j + 1)) (j + 1 + 2) := by
  have e : p2 (j + 1) = p2 j + p2 j := by simp only [p2]; omega
  rw [e]
  exact h.mono (by omega)

set_option maxRecDepth 100000 in
set_option maxHeartbeats 8000000 in
theorem bits_0 {w : World} {va : Value} {xs : List Int} {M N k : Nat} (ha : Reads .u32 w va xs) (oa : Nt.Ok xs) (la : xs.length ≤ 131072) (hM : M ≤ 255) (hN : N ≤ 255) (hk : IsLen (Nt.val xs) k) (hkb : k ≤ 4194304) (hk0 : k = 0) :
    Calls Try.prog 4 #[va, .int .u8 M, .int .u8 N] w fun e w' => e = .returned (.bool true) ∧ Below w.heap.size w w' := by
  obtain ⟨ao, ca, rfl, ha1, ha2, ha3⟩ := ha
  have h_a : Arg w (.slice ao xs.length ca) (Nt.val xs) 131072 := ⟨xs, ⟨ao, ca, rfl, ha1, ha2, ha3⟩, oa, rfl, la⟩
  have nA := h_a.nonneg
  have la' : ¬ (131072 : Int) < (xs.length : Int) := by omega
  clear ha1 ha2 ha3 oa
  generalize Nt.val xs = A at *
  have HK := hide hk
  have hpN := p2_pos N
  obtain ⟨b, hb⟩ : ∃ b, decide (0 < A % p2 N) = b := ⟨_, rfl⟩
  have HB := hide hb
  have hR0 := hide (Int.emod_nonneg A (b := p2 N) (by omega))
  have hR1 := hide (Int.emod_lt_of_pos A hpN)
  have hRE := hide (Int.mul_ediv_add_emod A (p2 N))
  clear hk hb
  subst hk0
  have hW : Below w.heap.size w w := Below.refl _ _
  go_enter Try.func4, Try.ntmps4
  go_wp2_with fail
  refine (lives_any).mono ?_
  rintro e w2 ⟨rfl, hB⟩
  replace hW := below_trans hW hB
  replace h_a := h_a.below hB
  clear hB
  go_wp2_with fail
  refine (from_any 1 (by omega) (by omega)).mono ?_
  rintro e w3 ⟨v_o, rfl, h_o, hB⟩
  replace hW := below_trans hW hB
  replace h_a := h_a.below hB
  clear hB
  go_wp2
  go_loopw [7, 8] (fun p i wr => ∃ (j : Nat), j ≤ N ∧ i = .int .i64 j ∧ Num 0 wr p (p2 j) (j + 2) ∧ Below w.heap.size w wr ∧ Arg wr (.slice ao xs.length ca) A 131072) (fun _ i _ => N - (intOf i).toNat)
  case atStart => exact ⟨0, Nat.zero_le _, rfl, num_base h_o, hW, h_a⟩
  case round =>
  obtain ⟨j, hj, rfl, h_p, hW, h_a⟩ := hrel
  by_cases hjl : j < N
  · go_wp2_with fail
    refine (add_any h_p.arg h_p.arg (by omega) (by omega)).mono ?_
    rintro e w9 ⟨v, rfl, h_v, hB⟩
    replace hW := below_trans hW hB
    replace h_a := h_a.below hB
    go_wp2
    go_roundw
    case rel => exact ⟨j + 1, by omega, by go_num, num_base (num_double h_v), hW, h_a⟩
    case measure => simp [intOf]; omega
  have hje : j = N := by omega
  subst hje
  clear h_o
  go_wp2_with fail
  refine (shl_fits h_a.arg rfl (by omega)).mono ?_
  rintro e w20 ⟨v_s, rfl, h_s, hB⟩
  replace hW := below_trans hW hB
  replace h_a := h_a.below hB
  replace h_p := h_p.below hB
  clear hB
  go_wp2_with fail
  refine (shr_all (b := false) h_s.arg (by omega) rfl (by omega) (by rw [Int.mul_emod_left]; rfl)).mono ?_
  rintro e w21 ⟨v_k, rfl, h_k, hB⟩
  replace hW := below_trans hW hB
  replace h_a := h_a.below hB
  replace h_p := h_p.below hB
  replace h_s := h_s.below hB
  clear hB
  go_wp2_with fail
  refine (shr_all h_a.arg (by omega) rfl (by omega) HB.out).mono ?_
  rintro e w22 ⟨v_q, rfl, h_q, hB⟩
  replace hW := below_trans hW hB
  replace h_a := h_a.below hB
  replace h_p := h_p.below hB
  replace h_s := h_s.below hB
  replace h_k := h_k.below hB
  clear hB
  go_wp2_with fail
  refine (mul_any h_a.arg h_p.arg (by omega) (by omega)).mono ?_
  rintro e w23 ⟨v_m, rfl, h_m, hB⟩
  replace hW := below_trans hW hB
  replace h_a := h_a.below hB
  replace h_p := h_p.below hB
  replace h_s := h_s.below hB
  replace h_k := h_k.below hB
  replace h_q := h_q.below hB
  clear hB
  go_wp2_with fail
  refine (same_num h_s h_m (rfl)).mono ?_
  rintro e w24 ⟨rfl, hB⟩
  replace hW := below_trans hW hB
  replace h_a := h_a.below hB
  replace h_p := h_p.below hB
  replace h_s := h_s.below hB
  replace h_k := h_k.below hB
  replace h_q := h_q.below hB
  clear hB h_m
  go_wp2_with fail
  refine (norm_any h_a.arg (by omega)).mono ?_
  rintro e w25 ⟨v_n, rfl, h_n, hB⟩
  replace hW := below_trans hW hB
  replace h_a := h_a.below hB
  replace h_p := h_p.below hB
  replace h_s := h_s.below hB
  replace h_k := h_k.below hB
  replace h_q := h_q.below hB
  clear hB
  go_wp2_with fail
  refine (same_num h_k h_n (Int.mul_ediv_cancel _ (by omega))).mono ?_
  rintro e w26 ⟨rfl, hB⟩
  replace hW := below_trans hW hB
  replace h_a := h_a.below hB
  replace h_p := h_p.below hB
  replace h_s := h_s.below hB
  replace h_q := h_q.below hB
  clear hB h_k h_n
  go_wp2_with fail
  refine (mul_any h_q.arg h_p.arg (by omega) (by omega)).mono ?_
  rintro e w27 ⟨v_t, rfl, h_t, hB⟩
  replace hW := below_trans hW hB
  replace h_a := h_a.below hB
  replace h_p := h_p.below hB
  replace h_s := h_s.below hB
  clear hB h_q
  go_wp2_with fail
  refine (sub_yes h_a.arg h_t.arg (by omega) (by omega) (by have h1 := hRE.out; have h2 := hR0.out; rw [Int.mul_comm] at h1; omega)).mono ?_
  rintro e w28 ⟨v_r, rfl, h_r, hB⟩
  replace hW := below_trans hW hB
  replace h_a := h_a.below hB
  replace h_p := h_p.below hB
  replace h_s := h_s.below hB
  clear hB h_t
  have hre : A - A / p2 j * p2 j = A % p2 j := by have h1 := hRE.out; rw [Int.mul_comm] at h1; omega
  rw [hre] at h_r
  clear hre
  obtain ⟨ro, RL, rfl, hRL, hRb⟩ := h_r.shape
  rw [HB.out] at hRL
  have hRL' : decide ((0 : Int) < (RL : Int)) = b := by rw [← hRL]; congr 1; exact propext (by omega)
  go_wp2_with fail
  refine (cmp_is h_r.arg h_p.arg (by omega) (by omega) (sgn_lt hR1.out)).mono ?_
  rintro e w29 ⟨rfl, hB⟩
  replace hW := below_trans hW hB
  replace h_a := h_a.below hB
  replace h_s := h_s.below hB
  clear hB h_p h_r
  go_wp2_with fail
  refine (shl_fits (N := M + j) h_a.arg (by omega) (by omega)).mono ?_
  rintro e w30 ⟨v_b, rfl, h_b, hB⟩
  replace hW := below_trans hW hB
  replace h_a := h_a.below hB
  replace h_s := h_s.below hB
  clear hB
  go_wp2_with fail
  refine (shl_fits h_s.arg rfl (by omega)).mono ?_
  rintro e w31 ⟨v_w, rfl, h_w, hB⟩
  replace hW := below_trans hW hB
  replace h_a := h_a.below hB
  replace h_b := h_b.below hB
  clear hB h_s
  go_wp2_with fail
  refine (same_num h_b h_w (by rw [p2_add, Int.mul_assoc, Int.mul_comm (p2 M)])).mono ?_
  rintro e w32 ⟨rfl, hB⟩
  replace hW := below_trans hW hB
  replace h_a := h_a.below hB
  clear hB h_b h_w
  go_wp2_with fail
  refine (len_is h_a.arg (by omega) HK.out).mono ?_
  rintro e w33 ⟨rfl, rfl⟩
  go_wp2_with fail
  refine (norm_any h_a.arg (by omega)).mono ?_
  rintro e w34 ⟨v_z, rfl, h_z, hB⟩
  replace hW := below_trans hW hB
  clear hB h_a
  obtain ⟨zo, rfl⟩ := h_z.zero (by have h1 := HK.out.1; simp only [p2] at h1; omega)
  go_wp2
  go_ret
  exact ⟨rfl, hW⟩

set_option maxRecDepth 100000 in
set_option maxHeartbeats 8000000 in
theorem bits_1 {w : World} {va : Value} {xs : List Int} {M N k : Nat} (ha : Reads .u32 w va xs) (oa : Nt.Ok xs) (la : xs.length ≤ 131072) (hM : M ≤ 255) (hN : N ≤ 255) (hk : IsLen (Nt.val xs) k) (hkb : k ≤ 4194304) (hk0 : 0 < k) :
    Calls Try.prog 4 #[va, .int .u8 M, .int .u8 N] w fun e w' => e = .returned (.bool true) ∧ Below w.heap.size w w' := by
  obtain ⟨ao, ca, rfl, ha1, ha2, ha3⟩ := ha
  have h_a : Arg w (.slice ao xs.length ca) (Nt.val xs) 131072 := ⟨xs, ⟨ao, ca, rfl, ha1, ha2, ha3⟩, oa, rfl, la⟩
  have nA := h_a.nonneg
  have la' : ¬ (131072 : Int) < (xs.length : Int) := by omega
  clear ha1 ha2 ha3 oa
  generalize Nt.val xs = A at *
  have HK := hide hk
  have hpN := p2_pos N
  obtain ⟨b, hb⟩ : ∃ b, decide (0 < A % p2 N) = b := ⟨_, rfl⟩
  have HB := hide hb
  have hR0 := hide (Int.emod_nonneg A (b := p2 N) (by omega))
  have hR1 := hide (Int.emod_lt_of_pos A hpN)
  have hRE := hide (Int.mul_ediv_add_emod A (p2 N))
  clear hk hb
  have hW : Below w.heap.size w w := Below.refl _ _
  go_enter Try.func4, Try.ntmps4
  go_wp2_with fail
  refine (lives_any).mono ?_
  rintro e w2 ⟨rfl, hB⟩
  replace hW := below_trans hW hB
  replace h_a := h_a.below hB
  clear hB
  go_wp2_with fail
  refine (from_any 1 (by omega) (by omega)).mono ?_
  rintro e w3 ⟨v_o, rfl, h_o, hB⟩
  replace hW := below_trans hW hB
  replace h_a := h_a.below hB
  clear hB
  go_wp2
  go_loopw [7, 8] (fun p i wr => ∃ (j : Nat), j ≤ N ∧ i = .int .i64 j ∧ Num 0 wr p (p2 j) (j + 2) ∧ Below w.heap.size w wr ∧ Arg wr (.slice ao xs.length ca) A 131072) (fun _ i _ => N - (intOf i).toNat)
  case atStart => exact ⟨0, Nat.zero_le _, rfl, num_base h_o, hW, h_a⟩
  case round =>
  obtain ⟨j, hj, rfl, h_p, hW, h_a⟩ := hrel
  by_cases hjl : j < N
  · go_wp2_with fail
    refine (add_any h_p.arg h_p.arg (by omega) (by omega)).mono ?_
    rintro e w9 ⟨v, rfl, h_v, hB⟩
    replace hW := below_trans hW hB
    replace h_a := h_a.below hB
    go_wp2
    go_roundw
    case rel => exact ⟨j + 1, by omega, by go_num, num_base (num_double h_v), hW, h_a⟩
    case measure => simp [intOf]; omega
  have hje : j = N := by omega
  subst hje
  clear h_o
  go_wp2_with fail
  refine (shl_fits h_a.arg rfl (by omega)).mono ?_
  rintro e w20 ⟨v_s, rfl, h_s, hB⟩
  replace hW := below_trans hW hB
  replace h_a := h_a.below hB
  replace h_p := h_p.below hB
  clear hB
  go_wp2_with fail
  refine (shr_all (b := false) h_s.arg (by omega) rfl (by omega) (by rw [Int.mul_emod_left]; rfl)).mono ?_
  rintro e w21 ⟨v_k, rfl, h_k, hB⟩
  replace hW := below_trans hW hB
  replace h_a := h_a.below hB
  replace h_p := h_p.below hB
  replace h_s := h_s.below hB
  clear hB
  go_wp2_with fail
  refine (shr_all h_a.arg (by omega) rfl (by omega) HB.out).mono ?_
  rintro e w22 ⟨v_q, rfl, h_q, hB⟩
  replace hW := below_trans hW hB
  replace h_a := h_a.below hB
  replace h_p := h_p.below hB
  replace h_s := h_s.below hB
  replace h_k := h_k.below hB
  clear hB
  go_wp2_with fail
  refine (mul_any h_a.arg h_p.arg (by omega) (by omega)).mono ?_
  rintro e w23 ⟨v_m, rfl, h_m, hB⟩
  replace hW := below_trans hW hB
  replace h_a := h_a.below hB
  replace h_p := h_p.below hB
  replace h_s := h_s.below hB
  replace h_k := h_k.below hB
  replace h_q := h_q.below hB
  clear hB
  go_wp2_with fail
  refine (same_num h_s h_m (rfl)).mono ?_
  rintro e w24 ⟨rfl, hB⟩
  replace hW := below_trans hW hB
  replace h_a := h_a.below hB
  replace h_p := h_p.below hB
  replace h_s := h_s.below hB
  replace h_k := h_k.below hB
  replace h_q := h_q.below hB
  clear hB h_m
  go_wp2_with fail
  refine (norm_any h_a.arg (by omega)).mono ?_
  rintro e w25 ⟨v_n, rfl, h_n, hB⟩
  replace hW := below_trans hW hB
  replace h_a := h_a.below hB
  replace h_p := h_p.below hB
  replace h_s := h_s.below hB
  replace h_k := h_k.below hB
  replace h_q := h_q.below hB
  clear hB
  go_wp2_with fail
  refine (same_num h_k h_n (Int.mul_ediv_cancel _ (by omega))).mono ?_
  rintro e w26 ⟨rfl, hB⟩
  replace hW := below_trans hW hB
  replace h_a := h_a.below hB
  replace h_p := h_p.below hB
  replace h_s := h_s.below hB
  replace h_q := h_q.below hB
  clear hB h_k h_n
  go_wp2_with fail
  refine (mul_any h_q.arg h_p.arg (by omega) (by omega)).mono ?_
  rintro e w27 ⟨v_t, rfl, h_t, hB⟩
  replace hW := below_trans hW hB
  replace h_a := h_a.below hB
  replace h_p := h_p.below hB
  replace h_s := h_s.below hB
  clear hB h_q
  go_wp2_with fail
  refine (sub_yes h_a.arg h_t.arg (by omega) (by omega) (by have h1 := hRE.out; have h2 := hR0.out; rw [Int.mul_comm] at h1; omega)).mono ?_
  rintro e w28 ⟨v_r, rfl, h_r, hB⟩
  replace hW := below_trans hW hB
  replace h_a := h_a.below hB
  replace h_p := h_p.below hB
  replace h_s := h_s.below hB
  clear hB h_t
  have hre : A - A / p2 j * p2 j = A % p2 j := by have h1 := hRE.out; rw [Int.mul_comm] at h1; omega
  rw [hre] at h_r
  clear hre
  obtain ⟨ro, RL, rfl, hRL, hRb⟩ := h_r.shape
  rw [HB.out] at hRL
  have hRL' : decide ((0 : Int) < (RL : Int)) = b := by rw [← hRL]; congr 1; exact propext (by omega)
  go_wp2_with fail
  refine (cmp_is h_r.arg h_p.arg (by omega) (by omega) (sgn_lt hR1.out)).mono ?_
  rintro e w29 ⟨rfl, hB⟩
  replace hW := below_trans hW hB
  replace h_a := h_a.below hB
  replace h_s := h_s.below hB
  clear hB h_p h_r
  go_wp2_with fail
  refine (shl_fits (N := M + j) h_a.arg (by omega) (by omega)).mono ?_
  rintro e w30 ⟨v_b, rfl, h_b, hB⟩
  replace hW := below_trans hW hB
  replace h_a := h_a.below hB
  replace h_s := h_s.below hB
  clear hB
  go_wp2_with fail
  refine (shl_fits h_s.arg rfl (by omega)).mono ?_
  rintro e w31 ⟨v_w, rfl, h_w, hB⟩
  replace hW := below_trans hW hB
  replace h_a := h_a.below hB
  replace h_b := h_b.below hB
  clear hB h_s
  go_wp2_with fail
  refine (same_num h_b h_w (by rw [p2_add, Int.mul_assoc, Int.mul_comm (p2 M)])).mono ?_
  rintro e w32 ⟨rfl, hB⟩
  replace hW := below_trans hW hB
  replace h_a := h_a.below hB
  clear hB h_b h_w
  go_wp2_with fail
  refine (len_is h_a.arg (by omega) HK.out).mono ?_
  rintro e w33 ⟨rfl, rfl⟩
  have hk1 : ((k : Int) == 0) = false := by simp; omega
  go_wp2_with fail
  refine (from_any 1 (by omega) (by omega)).mono ?_
  rintro e w34 ⟨v_o, rfl, h_o, hB⟩
  replace hW := below_trans hW hB
  replace h_a := h_a.below hB
  clear hB
  go_wp2_with fail
  refine (shl_fits (N := k - 1) h_o.arg (by omega) (by omega)).mono ?_
  rintro e w35 ⟨v_l, rfl, h_l, hB⟩
  replace hW := below_trans hW hB
  replace h_a := h_a.below hB
  clear hB h_o
  rw [Int.one_mul] at h_l
  obtain ⟨S, hS⟩ : ∃ S, sgn A (p2 (k - 1)) = S := ⟨_, rfl⟩
  have hS0 : 0 ≤ S := by rw [← hS]; have := HK.out.2 hk0; unfold sgn; rw [if_neg (by omega)]; split <;> omega
  have HS := hide hS
  clear hS
  go_wp2_with fail
  refine (cmp_is h_a.arg h_l.arg (by omega) (by omega) HS.out).mono ?_
  rintro e w36 ⟨rfl, hB⟩
  replace hW := below_trans hW hB
  replace h_a := h_a.below hB
  replace h_l := h_l.below hB
  clear hB
  go_wp2_with fail
  refine (add_any h_l.arg h_l.arg (by omega) (by omega)).mono ?_
  rintro e w37 ⟨v_d, rfl, h_d, hB⟩
  replace hW := below_trans hW hB
  replace h_a := h_a.below hB
  clear hB h_l
  go_wp2_with fail
  refine (cmp_is h_a.arg h_d.arg (by omega) (by omega) (sgn_lt (by have h1 := HK.out.1; have h2 : p2 (k - 1 + 1) = 2 * p2 (k - 1) := rfl; rw [show k - 1 + 1 = k by omega] at h2; omega))).mono ?_
  rintro e w38 ⟨rfl, hB⟩
  replace hW := below_trans hW hB
  clear hB h_a h_d
  go_wp2
  go_ret
  exact ⟨rfl, hW⟩


set_option maxRecDepth 100000 in
set_option maxHeartbeats 1000000 in
theorem bits_big {w : World} {va : Value} {xs : List Int} {M N : Int} (ha : Reads .u32 w va xs) (la : 131072 < xs.length) :
    Calls Try.prog 4 #[va, .int .u8 M, .int .u8 N] w fun e w' => e = .returned (.bool true) ∧ Below w.heap.size w w' := by
  obtain ⟨ao, ca, rfl, ha1, ha2, ha3⟩ := ha
  have la' : (131072 : Int) < (xs.length : Int) := by omega
  go_enter Try.func4, Try.ntmps4
  go_wp2
  go_ret
  exact ⟨rfl, Below.refl _ _⟩

theorem wf_byte {n : Int} (h : (Lit.int .u8 n).wf = true) : ∃ m : Nat, n = (m : Int) ∧ m ≤ 255 := by
  have : 0 ≤ n ∧ n ≤ 255 := by simpa [Lit.wf, IntKind.min, IntKind.max, IntKind.signed, IntKind.bits] using h
  exact ⟨n.toNat, by omega, by omega⟩

theorem bits_walk {w : World} {va : Value} {xs : List Int} {M N : Int} (ha : Reads .u32 w va xs) (wM : (Lit.int .u8 M).wf = true) (wN : (Lit.int .u8 N).wf = true) (oa : Nt.Ok xs) (_la : xs.length ≤ 70368744177664) :
    Calls Try.prog 4 #[va, .int .u8 M, .int .u8 N] w fun e w' => e = .returned (.bool true) ∧ Below w.heap.size w w' := by
  obtain ⟨m, rfl, hm⟩ := wf_byte wM
  obtain ⟨n, rfl, hn⟩ := wf_byte wN
  by_cases hl : xs.length ≤ 131072
  · obtain ⟨k, hk, hk2⟩ := len_exists oa hl
    by_cases h0 : k = 0
    · exact bits_0 ha oa hl hm hn hk (by omega) h0
    · exact bits_1 ha oa hl hm hn hk (by omega) (by omega)
  · exact bits_big ha (by omega)

end Go.Proofs.Ytlfkfeedopgfjab
