/- quot.Pow -/
import Derived.Test.YtmpdkeafbjibpaaDoorMul
import Derived.Test.YtmpdkeafbjibpaaDoorDiv
import Derived.Deep.LoopGhost
namespace Go.Proofs.YtmpdkeafbjibpaaDoor
open Go.RowKit

theorem pow_p2 {b : Int} {k : Nat} (hb0 : 0 ≤ b) (hb : b < p2 k) (n : Nat) (hn : 0 < n) : b ^ n < p2 (k * n) := by
  induction n with
  | zero => omega
  | succ n ih =>
    by_cases h : n = 0
    · subst h; simpa [Int.pow_succ] using hb
    · rw [Int.pow_succ, Nat.mul_succ, p2_add]
      have h1 := ih (by omega)
      have h2 : b ^ n * b ≤ b ^ n * p2 k := Int.mul_le_mul_of_nonneg_left (by omega) (Int.pow_nonneg hb0)
      have h3 : b ^ n * p2 k < p2 (k * n) * p2 k := Int.mul_lt_mul_of_pos_right h1 (p2_pos k)
      omega
theorem pow_le_one {b : Int} (hb0 : 0 ≤ b) (hb : b < 2) (n : Nat) : b ^ n ≤ 1 := by
  induction n with
  | zero => simp
  | succ n ih =>
    rw [Int.pow_succ]
    have h1 : b ^ n * b ≤ 1 * b := Int.mul_le_mul_of_nonneg_right ih hb0
    omega
theorem pw_2048 : p2 65536 = Nt.pw 2048 := p2_32 2048
/-- a power in reach has at most 2048 limbs -/
theorem pow_lt {b : Int} {n k : Nat} (hb0 : 0 ≤ b) (hk : IsLen b k) (h : b < 2 ∨ k * n ≤ 65536) : b ^ n < Nt.pw 2048 := by
  have h1 : (1 : Int) < Nt.pw 2048 := by
    have := Nt.pw_mono (m := 1) (n := 2048) (by omega)
    have e : Nt.pw 1 = 4294967296 := by simp [Nt.pw]
    omega
  rcases h with h | h
  · have := pow_le_one hb0 h n; omega
  · by_cases hn : n = 0
    · subst hn; simpa using h1
    · have h2 := pow_p2 hb0 hk.1 n (by omega)
      have h3 := p2_mono h
      rw [pw_2048] at h3
      omega

theorem pow_half {s : Int} (n : Nat) : s ^ n = (s * s) ^ (n / 2) * (if n % 2 = 1 then s else 1) := by
  have e : n = 2 * (n / 2) + n % 2 := by omega
  generalize n / 2 = q at *
  rcases Nat.mod_two_eq_zero_or_one n with h | h
  · rw [h] at e ⊢
    subst e
    rw [Nat.add_zero, Int.pow_mul, Int.pow_succ, Int.pow_one]
    simp
  · rw [h] at e ⊢
    subst e
    rw [Int.pow_succ, Int.pow_mul, Int.pow_succ, Int.pow_one]
    simp

theorem le_of_prod {a b c : Int} (ha : 0 ≤ a) (hb : 1 ≤ b) (h : a * b = c) : a ≤ c := by
  have : a * 1 ≤ a * b := Int.mul_le_mul_of_nonneg_left hb ha
  omega
theorem pow_ge_one {s : Int} (hs : 1 ≤ s) (n : Nat) : 1 ≤ s ^ n := by
  induction n with
  | zero => simp
  | succ n ih =>
    rw [Int.pow_succ]
    have : 1 * s ≤ s ^ n * s := Int.mul_le_mul_of_nonneg_right ih (by omega)
    omega

set_option maxHeartbeats 1000000 in
theorem pow_neg {w : World} {b n : Int} (hn : n < 0) :
    Calls Tryd.prog 77 #[.int .u32 b, .int .i64 n] w fun e w' => e = .returned (.tuple #[.slice none 0 0, .bool false]) ∧ w' = w := by
  go_enter Tryd.func77, Tryd.ntmps77
  go_wp2
  go_ret2
  exact ⟨rfl, rfl⟩

set_option maxHeartbeats 1000000 in
theorem pow_big {w : World} {b n : Int} {k : Nat} (hn : 0 ≤ n) (hb2 : 2 ≤ b) (hb1 : b < 4294967296) (hk : IsLen b k) (hk0 : 0 < k) (hbig : 65536 / (k : Int) < n) :
    Calls Tryd.prog 77 #[.int .u32 b, .int .i64 n] w fun e w' => e = .returned (.tuple #[.slice none 0 0, .bool false]) ∧ w' = w := by
  have hn' : ¬ n < 0 := by omega
  have hkz : ¬ (k : Int) = 0 := by omega
  have Hk := hide hk
  clear hk
  go_enter Tryd.func77, Tryd.ntmps77
  go_wp2_with fail
  refine (len32_any b w (by omega) hb1).mono ?_
  rintro e w' ⟨k', rfl, hk', _, rfl⟩
  have hkk : k' = k := isLen_unique hk' Hk.out
  subst hkk
  clear hk'
  go_wp2
  go_ret2
  exact ⟨rfl, rfl⟩

/-- what a round leaves -/
theorem pow_round {p s b : Int} {n N : Nat} (heq : p * s ^ n = b ^ N) (hc : (1 ≤ p ∧ 1 ≤ s) ∨ (s = 0 ∧ 0 ≤ p ∧ p ≤ 1)) (hlt : b ^ N < Nt.pw 2048) (hn : 0 < n) :
    s < Nt.pw 2048 ∧ (if n % 2 = 1 then p * s else p) < Nt.pw 2048 ∧ (if n % 2 = 1 then p * s else p) * (s * s) ^ (n / 2) = b ^ N ∧
      ((1 ≤ (if n % 2 = 1 then p * s else p) ∧ 1 ≤ s * s) ∨ (s * s = 0 ∧ 0 ≤ (if n % 2 = 1 then p * s else p) ∧ (if n % 2 = 1 then p * s else p) ≤ 1)) := by
  have e3 : (if n % 2 = 1 then p * s else p) * (s * s) ^ (n / 2) = b ^ N := by
    rw [← heq, pow_half n]
    split <;> grind
  have h1 : (1 : Int) < Nt.pw 2048 := by
    have := Nt.pw_mono (m := 1) (n := 2048) (by omega)
    have e : Nt.pw 1 = 4294967296 := by simp [Nt.pw]
    omega
  rcases hc with ⟨hp, hs⟩ | ⟨hs, hp0, hp1⟩
  · have hss : 1 ≤ s * s := by have : 1 * s ≤ s * s := Int.mul_le_mul_of_nonneg_right hs (by omega); omega
    have hps : 1 ≤ (if n % 2 = 1 then p * s else p) := by
      split
      · have : 1 * s ≤ p * s := Int.mul_le_mul_of_nonneg_right hp (by omega); omega
      · exact hp
    have hle := le_of_prod (by omega) (pow_ge_one hss (n / 2)) e3
    have hsn : s ≤ s ^ n := by
      obtain ⟨k, rfl⟩ : ∃ k, n = k + 1 := ⟨n - 1, by omega⟩
      rw [Int.pow_succ]
      have h3 : 1 * s ≤ s ^ k * s := Int.mul_le_mul_of_nonneg_right (pow_ge_one hs k) (by omega)
      omega
    have hle2 : s ^ n ≤ b ^ N := le_of_prod (b := p) (by omega) hp (by rw [Int.mul_comm]; exact heq)
    exact ⟨by omega, by omega, e3, Or.inl ⟨hps, hss⟩⟩
  · subst hs
    refine ⟨by omega, ?_, e3, Or.inr ⟨by simp, ?_, ?_⟩⟩
    · split
      · simp; omega
      · omega
    · split
      · simp
      · omega
    · split
      · simp
      · omega

set_option maxRecDepth 20000 in
set_option maxHeartbeats 4000000 in
theorem pow_ok {w : World} {b : Int} {N k : Nat} (hb0 : 0 ≤ b) (hb1 : b < 4294967296) (hk : IsLen b k) (hN : (N : Int) ≤ 9223372036854775807) (hin : b < 2 ∨ (N : Int) ≤ 65536 / (k : Int)) :
    Calls Tryd.prog 77 #[.int .u32 b, .int .i64 N] w fun e w' => ∃ v, e = .returned (.tuple #[v, .bool true]) ∧ Num w.heap.size w' v (b ^ N) 2048 ∧ Below w.heap.size w w' := by
  have hlt : b ^ N < Nt.pw 2048 := pow_lt hb0 hk (by
    rcases hin with h | h
    · exact Or.inl h
    · by_cases hk0 : k = 0
      · subst hk0; right; omega
      · right
        have h2 : (N : Int) * (k : Int) ≤ 65536 := Int.le_trans (Int.mul_le_mul_of_nonneg_right h (by omega)) (Int.ediv_mul_le _ (by omega))
        have h3 : ((k * N : Nat) : Int) = (N : Int) * (k : Int) := by rw [Int.natCast_mul, Int.mul_comm]
        omega)
  have HLt := hide hlt
  have Hk := hide hk
  have hn' : ¬ (N : Int) < 0 := by omega
  clear hlt hk
  go_enter Tryd.func77, Tryd.ntmps77
  by_cases h2 : 2 ≤ b
  · go_wp2_with fail
    refine (len32_any b w hb0 hb1).mono ?_
    rintro e w' ⟨k', rfl, hk', _, rfl⟩
    have hkk : k' = k := isLen_unique hk' Hk.out
    subst hkk
    have hkz : ¬ (k' : Int) = 0 := by
      intro h
      have h3 : k' = 0 := by omega
      have h4 := hk'.1
      rw [h3] at h4
      simp only [p2] at h4
      omega
    have hin2 : ¬ 65536 / (k' : Int) < (N : Int) := by omega
    have hin3 : decide (65536 / (k' : Int) < (N : Int)) = false := decide_eq_false hin2
    obtain ⟨Q, hQ⟩ : ∃ Q, 65536 / (k' : Int) = Q := ⟨_, rfl⟩
    rw [hQ] at hin2 hin3
    clear hk' hin
    go_wp2_with fail
    with_reducible refine (from_any (w := w') 1 (by omega) (by omega)).mono ?_
    rintro e w1 ⟨vp, rfl, hn1, hb1w⟩
    go_wp2_with fail
    with_reducible refine (from_any b hb0 (by omega)).mono ?_
    rintro e w2 ⟨vs, rfl, hn2, hb2w⟩
    have hp0 : Num w'.heap.size w2 vp 1 2048 := (hn1.below hb2w).mono (by omega)
    have hs0 : Num w'.heap.size w2 vs b 4096 := (hn2.low hb1w.size).mono (by omega)
    have hbb := below_trans hb1w hb2w
    clear hn1 hn2 hb1w hb2w
    go_wp2
    go_loopg [6, 7, 1] N (fun c sp ss sn wr => ∃ (p s : Int), sn = .int .i64 c ∧ (c : Int) ≤ 9223372036854775807 ∧ Num w'.heap.size wr sp p 2048 ∧ Num w'.heap.size wr ss s 4096 ∧ p * s ^ c = b ^ N ∧ ((1 ≤ p ∧ 1 ≤ s) ∨ (s = 0 ∧ 0 ≤ p ∧ p ≤ 1)) ∧ Below w'.heap.size w' wr)
    case atStart => exact ⟨1, b, rfl, hN, hp0, hs0, by simp, by omega, hbb⟩
    case round =>
      clear hp0 hs0 hbb
      obtain ⟨p, s, rfl, hc, hnp, hns, heq, hcase, hbw⟩ := hrel
      by_cases hz : gk = 0
      · subst hz
        have hfin : p = b ^ N := by simpa using heq
        have HF := hide hfin
        clear hfin heq
        go_wp2
        go_ret2
        exact ⟨_, rfl, by rw [← HF.out]; exact hnp, hbw⟩
      · have hpos : (0 : Int) < (gk : Int) := by omega
        obtain ⟨q1, q2, q3, q4⟩ := pow_round heq hcase HLt.out (by omega : 0 < gk)
        have hns2 := hns.tight q1
        have hcase2 := q4
        have Q2 := hide q2
        have Q3 := hide q3
        have Heq := hide heq
        have HC := hide hcase
        clear q1 q2 q3 q4 heq hcase
        obtain ⟨hk2, hh2⟩ : ∃ h, h = gk / 2 := ⟨_, rfl⟩
        have j1 : (gk : Int) / 2 = (hk2 : Int) := by omega
        rw [← hh2] at Q3
        have hk2lt : hk2 < gk := by omega
        clear hh2
        by_cases hodd : gk % 2 = 1
        · have j2 : (gk : Int) % 2 = 1 := by omega
          have j3 : ((gk : Int) % 2 == 1) = true := by simp [j2]
          go_wp2_with fail
          with_reducible refine (mul_any hnp.arg hns2.arg (by omega) (by omega)).mono ?_
          rintro e w3 ⟨v3, rfl, hn3, hb3⟩
          go_wp2_with fail
          with_reducible refine (mul_any (hns2.below hb3).arg (hns2.below hb3).arg (by omega) (by omega)).mono ?_
          rintro e w4 ⟨v4, rfl, hn4, hb4⟩
          have hp4 : Num w'.heap.size w4 v3 (p * s) 2048 := ((hn3.below hb4).low hbw.size).tight (by have h := Q2.out; rw [if_pos hodd] at h; exact h)
          have hs4 : Num w'.heap.size w4 v4 (s * s) 4096 := (hn4.low (Nat.le_trans hbw.size hb3.size)).mono (by omega)
          have hbb4 := below_trans (below_trans hbw hb3) hb4
          have hq3 : p * s * (s * s) ^ hk2 = b ^ N := by have h := Q3.out; rw [if_pos hodd] at h; exact h
          have hq4 : (1 ≤ p * s ∧ 1 ≤ s * s) ∨ (s * s = 0 ∧ 0 ≤ p * s ∧ p * s ≤ 1) := by rw [if_pos hodd] at hcase2; exact hcase2
          have HQ3 := hide hq3
          have HQ4 := hide hq4
          clear hn3 hn4 hb3 hb4 hq3 hq4 hcase2
          go_wp2
          go_roundg hk2
          case measure => omega
          case rel => exact ⟨p * s, s * s, by first | rfl | (rw [← j1]; rfl) | simp [j1], by omega, hp4, hs4, HQ3.out, HQ4.out, hbb4⟩
        · have j2 : (gk : Int) % 2 = 0 := by omega
          have j3 : ((gk : Int) % 2 == 1) = false := by simp [j2]
          go_wp2_with fail
          with_reducible refine (mul_any hns2.arg hns2.arg (by omega) (by omega)).mono ?_
          rintro e w4 ⟨v4, rfl, hn4, hb4⟩
          have hp4 : Num w'.heap.size w4 _ p 2048 := hnp.below hb4
          have hs4 : Num w'.heap.size w4 v4 (s * s) 4096 := (hn4.low hbw.size).mono (by omega)
          have hbb4 := below_trans hbw hb4
          have hq3 : p * (s * s) ^ hk2 = b ^ N := by have h := Q3.out; rw [if_neg hodd] at h; exact h
          have hq4 : (1 ≤ p ∧ 1 ≤ s * s) ∨ (s * s = 0 ∧ 0 ≤ p ∧ p ≤ 1) := by rw [if_neg hodd] at hcase2; exact hcase2
          have HQ3 := hide hq3
          have HQ4 := hide hq4
          clear hn4 hb4 hq3 hq4 hcase2
          go_wp2
          go_roundg hk2
          case measure => omega
          case rel => exact ⟨p, s * s, by first | rfl | (rw [← j1]; rfl) | simp [j1], by omega, hp4, hs4, HQ3.out, HQ4.out, hbb4⟩
  · have hb2 : ¬ 2 ≤ b := h2
    clear hin
    go_wp2_with fail
    with_reducible refine (from_any (w := w) 1 (by omega) (by omega)).mono ?_
    rintro e w1 ⟨vp, rfl, hn1, hb1w⟩
    go_wp2_with fail
    with_reducible refine (from_any b hb0 (by omega)).mono ?_
    rintro e w2 ⟨vs, rfl, hn2, hb2w⟩
    have hp0 : Num w.heap.size w2 vp 1 2048 := (hn1.below hb2w).mono (by omega)
    have hs0 : Num w.heap.size w2 vs b 4096 := (hn2.low hb1w.size).mono (by omega)
    have hbb := below_trans hb1w hb2w
    clear hn1 hn2 hb1w hb2w
    go_wp2
    go_loopg [6, 7, 1] N (fun c sp ss sn wr => ∃ (p s : Int), sn = .int .i64 c ∧ (c : Int) ≤ 9223372036854775807 ∧ Num w.heap.size wr sp p 2048 ∧ Num w.heap.size wr ss s 4096 ∧ p * s ^ c = b ^ N ∧ ((1 ≤ p ∧ 1 ≤ s) ∨ (s = 0 ∧ 0 ≤ p ∧ p ≤ 1)) ∧ Below w.heap.size w wr)
    case atStart => exact ⟨1, b, rfl, hN, hp0, hs0, by simp, by omega, hbb⟩
    case round =>
      clear hp0 hs0 hbb
      obtain ⟨p, s, rfl, hc, hnp, hns, heq, hcase, hbw⟩ := hrel
      by_cases hz : gk = 0
      · subst hz
        have hfin : p = b ^ N := by simpa using heq
        have HF := hide hfin
        clear hfin heq
        go_wp2
        go_ret2
        exact ⟨_, rfl, by rw [← HF.out]; exact hnp, hbw⟩
      · have hpos : (0 : Int) < (gk : Int) := by omega
        obtain ⟨q1, q2, q3, q4⟩ := pow_round heq hcase HLt.out (by omega : 0 < gk)
        have hns2 := hns.tight q1
        have hcase2 := q4
        have Q2 := hide q2
        have Q3 := hide q3
        have Heq := hide heq
        have HC := hide hcase
        clear q1 q2 q3 q4 heq hcase
        obtain ⟨hk2, hh2⟩ : ∃ h, h = gk / 2 := ⟨_, rfl⟩
        have j1 : (gk : Int) / 2 = (hk2 : Int) := by omega
        rw [← hh2] at Q3
        have hk2lt : hk2 < gk := by omega
        clear hh2
        by_cases hodd : gk % 2 = 1
        · have j2 : (gk : Int) % 2 = 1 := by omega
          have j3 : ((gk : Int) % 2 == 1) = true := by simp [j2]
          go_wp2_with fail
          with_reducible refine (mul_any hnp.arg hns2.arg (by omega) (by omega)).mono ?_
          rintro e w3 ⟨v3, rfl, hn3, hb3⟩
          go_wp2_with fail
          with_reducible refine (mul_any (hns2.below hb3).arg (hns2.below hb3).arg (by omega) (by omega)).mono ?_
          rintro e w4 ⟨v4, rfl, hn4, hb4⟩
          have hp4 : Num w.heap.size w4 v3 (p * s) 2048 := ((hn3.below hb4).low hbw.size).tight (by have h := Q2.out; rw [if_pos hodd] at h; exact h)
          have hs4 : Num w.heap.size w4 v4 (s * s) 4096 := (hn4.low (Nat.le_trans hbw.size hb3.size)).mono (by omega)
          have hbb4 := below_trans (below_trans hbw hb3) hb4
          have hq3 : p * s * (s * s) ^ hk2 = b ^ N := by have h := Q3.out; rw [if_pos hodd] at h; exact h
          have hq4 : (1 ≤ p * s ∧ 1 ≤ s * s) ∨ (s * s = 0 ∧ 0 ≤ p * s ∧ p * s ≤ 1) := by rw [if_pos hodd] at hcase2; exact hcase2
          have HQ3 := hide hq3
          have HQ4 := hide hq4
          clear hn3 hn4 hb3 hb4 hq3 hq4 hcase2
          go_wp2
          go_roundg hk2
          case measure => omega
          case rel => exact ⟨p * s, s * s, by first | rfl | (rw [← j1]; rfl) | simp [j1], by omega, hp4, hs4, HQ3.out, HQ4.out, hbb4⟩
        · have j2 : (gk : Int) % 2 = 0 := by omega
          have j3 : ((gk : Int) % 2 == 1) = false := by simp [j2]
          go_wp2_with fail
          with_reducible refine (mul_any hns2.arg hns2.arg (by omega) (by omega)).mono ?_
          rintro e w4 ⟨v4, rfl, hn4, hb4⟩
          have hp4 : Num w.heap.size w4 _ p 2048 := hnp.below hb4
          have hs4 : Num w.heap.size w4 v4 (s * s) 4096 := (hn4.low hbw.size).mono (by omega)
          have hbb4 := below_trans hbw hb4
          have hq3 : p * (s * s) ^ hk2 = b ^ N := by have h := Q3.out; rw [if_neg hodd] at h; exact h
          have hq4 : (1 ≤ p ∧ 1 ≤ s * s) ∨ (s * s = 0 ∧ 0 ≤ p ∧ p ≤ 1) := by rw [if_neg hodd] at hcase2; exact hcase2
          have HQ3 := hide hq3
          have HQ4 := hide hq4
          clear hn4 hb4 hq3 hq4 hcase2
          go_wp2
          go_roundg hk2
          case measure => omega
          case rel => exact ⟨p, s * s, by first | rfl | (rw [← j1]; rfl) | simp [j1], by omega, hp4, hs4, HQ3.out, HQ4.out, hbb4⟩

end Go.Proofs.YtmpdkeafbjibpaaDoor
