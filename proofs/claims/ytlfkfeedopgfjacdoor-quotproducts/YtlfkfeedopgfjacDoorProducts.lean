/- QuotProducts: the walk -/
import Derived.Test.YtlfkfeedopgfjacDoorQKit
namespace Go.Proofs.YtlfkfeedopgfjacDoor
open Go.RowKit

theorem isLen_exists {b : Int} (h1 : b < 4294967296) : ∃ k, IsLen b k ∧ k ≤ 32 := by
  have key : ∀ m : Nat, b < p2 m → ∃ k, IsLen b k ∧ k ≤ m := by
    intro m
    induction m with
    | zero => intro h; exact ⟨0, ⟨h, fun h => by omega⟩, Nat.le_refl _⟩
    | succ m ih =>
      intro h
      rcases Int.lt_or_le b (p2 m) with h2 | h2
      · obtain ⟨k, hk, hm⟩ := ih h2
        exact ⟨k, hk, by omega⟩
      · exact ⟨m + 1, ⟨h, fun _ => by rw [Nat.add_sub_cancel]; exact h2⟩, Nat.le_refl _⟩
  exact key 32 (by have e : p2 32 = 4294967296 := by decide
                   rw [e]; exact h1)

/-- is a power in reach? -/
def Reach (b : Int) (k n : Nat) : Prop := b < 2 ∨ n * k ≤ 65536
instance (b : Int) (k n : Nat) : Decidable (Reach b k n) := by unfold Reach; exact inferInstance

theorem reach_div {k n : Nat} (hk : 0 < k) : ((n : Int) ≤ 65536 / (k : Int) ↔ n * k ≤ 65536) := by
  have h1 : (65536 : Int) / (k : Int) = ((65536 / k : Nat) : Int) := by rw [Int.natCast_ediv]; rfl
  rw [h1]
  have h2 := Nat.le_div_iff_mul_le (x := n) (y := 65536) hk
  omega

theorem pow_told {w : World} {b : Int} {N k : Nat} (hb0 : 0 ≤ b) (hb1 : b < 4294967296) (hk : IsLen b k) (hN : (N : Int) ≤ 9223372036854775807) :
    Calls Tryd.prog 15 #[.int .u32 b, .int .i64 N] w fun e w' => ∃ v, e = .returned (.tuple #[v, .bool (decide (Reach b k N))]) ∧ (Reach b k N → Num w.heap.size w' v (b ^ N) 2048) ∧ Below w.heap.size w w' := by
  by_cases h : Reach b k N
  · rw [decide_eq_true h]
    refine (pow_ok (N := N) hb0 hb1 hk hN ?_).mono ?_
    · by_cases h2 : b < 2
      · exact Or.inl h2
      · have h3 : N * k ≤ 65536 := h.resolve_left h2
        have hk0 := isLen_pos hk (by omega)
        exact Or.inr ((reach_div hk0).2 h3)
    · rintro e w' ⟨v, rfl, hn, hb⟩
      exact ⟨v, rfl, fun _ => hn, hb⟩
  · rw [decide_eq_false h]
    have h2 : 2 ≤ b := by
      rcases Int.lt_or_le b 2 with h2 | h2
      · exact absurd (Or.inl h2) h
      · exact h2
    have hk0 := isLen_pos hk (by omega)
    refine (pow_big (n := (N : Int)) (k := k) (by omega) h2 hb1 hk hk0 ?_).mono ?_
    · rcases Int.lt_or_le (65536 / (k : Int)) (N : Int) with h3 | h3
      · exact h3
      · exact absurd (Or.inr ((reach_div hk0).1 h3)) h
    · rintro e w' ⟨rfl, rfl⟩
      exact ⟨_, rfl, fun h3 => absurd h3 h, Below.refl _ _⟩

set_option maxRecDepth 20000 in
set_option maxHeartbeats 2000000 in
theorem may_any {w : World} {b : Int} {N k : Nat} (hb0 : 0 ≤ b) (hb1 : b < 4294967296) (hk : IsLen b k) (hk2 : k ≤ 32) (hN : N ≤ 131072) :
    Calls Tryd.prog 16 #[.int .u32 b, .int .i64 N] w fun e w' => e = .returned (.bool (decide (Reach b k N))) ∧ Below w.heap.size w w' := by
  by_cases h2 : b < 2
  · rw [decide_eq_true (show Reach b k N from Or.inl h2)]
    go_enter Tryd.func16, Tryd.ntmps16
    go_wp2
    go_ret
    exact ⟨rfl, Below.refl _ _⟩
  · have hnk : N * k ≤ 131072 * 32 := Nat.mul_le_mul hN hk2
    have hP : ((N : Int) * (k : Int)) = ((N * k : Nat) : Int) := by rw [Int.natCast_mul]
    obtain ⟨P, hPe⟩ : ∃ P, P = N * k := ⟨_, rfl⟩
    rw [← hPe] at hP hnk
    have hdec : decide (Reach b k N) = decide ((P : Int) ≤ 65536) := by
      by_cases h3 : (P : Int) ≤ 65536
      · rw [decide_eq_true h3, decide_eq_true (show Reach b k N from Or.inr (by omega))]
      · rw [decide_eq_false h3, decide_eq_false (fun h4 : Reach b k N => by have := h4.resolve_left h2; omega)]
    rw [hdec]
    have Hk := hide hk
    clear hk hdec hPe
    go_enter Tryd.func16, Tryd.ntmps16
    go_wp2_with fail
    with_reducible refine (len_is (arg_one w ⟨hb0, hb1⟩) (by omega) Hk.out).mono ?_
    rintro e w1 ⟨rfl, rfl⟩
    go_wp2
    go_ret
    exact ⟨rfl, below_alloc _ _⟩

set_option maxRecDepth 20000 in
set_option maxHeartbeats 8000000 in
theorem products_walk {w : World} {B : Int} {M N : Nat} (b0 : 0 ≤ B) (b1 : B < 4294967296) (m1 : M < 65536) (n1 : N < 65536) :
    Calls Tryd.prog 5 #[.int .u32 B, .int .u16 M, .int .u16 N] w fun e w' => e = .returned (.bool true) ∧ Below w.heap.size w w' := by
  obtain ⟨k, hk, hk2⟩ := isLen_exists b1
  have Hk := hide hk
  clear hk
  have j1 : (M : Int) + (N : Int) = ((M + N : Nat) : Int) := by omega
  obtain ⟨S, hS⟩ : ∃ S, S = M + N := ⟨_, rfl⟩
  rw [← hS] at j1
  have rM : Hid (Reach B k S → Reach B k M) := hide (fun h => by
    rcases h with h | h
    · exact Or.inl h
    · exact Or.inr (Nat.le_trans (Nat.mul_le_mul_right k (by omega)) h))
  have rN : Hid (Reach B k S → Reach B k N) := hide (fun h => by
    rcases h with h | h
    · exact Or.inl h
    · exact Or.inr (Nat.le_trans (Nat.mul_le_mul_right k (by omega)) h))
  have r0 : Hid (Reach B k 0) := hide (Or.inr (by omega))
  have eP : Hid (B ^ M * B ^ N = B ^ S) := hide (by rw [hS, Int.pow_add])
  clear hS
  go_enter Tryd.func5, Tryd.ntmps5
  go_wp2_with fail
  with_reducible refine (pow_told (N := M) b0 b1 Hk.out (by omega)).mono ?_
  rintro e w1 ⟨vx, rfl, hx, hB1⟩
  go_wp2_with fail
  with_reducible refine (pow_told (N := N) b0 b1 Hk.out (by omega)).mono ?_
  rintro e w2 ⟨vy, rfl, hy, hB2⟩
  go_wp2_with fail
  with_reducible refine (pow_told (N := S) b0 b1 Hk.out (by omega)).mono ?_
  rintro e w3 ⟨vz, rfl, hz, hB3⟩
  have c4 : Calls Tryd.prog 15 #[.int .u32 B, .int .i64 0] w3 fun e w' => ∃ v, e = .returned (.tuple #[v, .bool (decide (Reach B k 0))]) ∧ (Reach B k 0 → Num w3.heap.size w' v (B ^ 0) 2048) ∧ Below w3.heap.size w3 w' := pow_told (N := 0) b0 b1 Hk.out (by omega)
  rw [decide_eq_true r0.out] at c4
  go_wp2_with fail
  with_reducible refine c4.mono ?_
  clear c4
  rintro e w4 ⟨v1, rfl, h1, hB4⟩
  have h_o : Num w3.heap.size w4 v1 1 2048 := by have h := h1 r0.out; rw [Int.pow_zero] at h; exact h
  have hW : Below w.heap.size w w4 := below_trans (below_trans (below_trans hB1 hB2) hB3) hB4
  have h_x : Hid (Reach B k M → Num w.heap.size w4 vx (B ^ M) 2048) := hide (fun h => (((hx h).below hB2).below hB3).below hB4)
  have h_y : Hid (Reach B k N → Num w.heap.size w4 vy (B ^ N) 2048) := hide (fun h => (((hy h).below hB3).below hB4).low hB1.size)
  have h_z : Hid (Reach B k S → Num w.heap.size w4 vz (B ^ S) 2048) := hide (fun h => ((hz h).below hB4).low (Nat.le_trans hB1.size hB2.size))
  clear hx hy hz h1 hB1 hB2 hB3 hB4
  go_wp2_with fail
  with_reducible refine (may_any (N := M) b0 b1 Hk.out hk2 (by omega)).mono ?_
  rintro e w5 ⟨rfl, hB5⟩
  go_wp2_with fail
  with_reducible refine (may_any (N := N) b0 b1 Hk.out hk2 (by omega)).mono ?_
  rintro e w6 ⟨rfl, hB6⟩
  go_wp2_with fail
  with_reducible refine (may_any (N := S) b0 b1 Hk.out hk2 (by omega)).mono ?_
  rintro e w7 ⟨rfl, hB7⟩
  have hB47 := below_trans (below_trans hB5 hB6) hB7
  replace hW := below_trans hW hB47
  replace h_o := h_o.below hB47
  replace h_x : Hid (Reach B k M → Num w.heap.size w7 vx (B ^ M) 2048) := hide (fun h => (h_x.out h).below hB47)
  replace h_y : Hid (Reach B k N → Num w.heap.size w7 vy (B ^ N) 2048) := hide (fun h => (h_y.out h).below hB47)
  replace h_z : Hid (Reach B k S → Num w.heap.size w7 vz (B ^ S) 2048) := hide (fun h => (h_z.out h).below hB47)
  clear hB5 hB6 hB7 hB47
  have s1 : sgn 1 1 = 0 := sgn_self 1
  go_wp2_with fail
  with_reducible refine (cmp_any (h_o.arg.below (below_alloc _ _)) (arg_one w7 (x := 1) (by omega)) (by omega) (by omega)).mono ?_
  rintro e w8 ⟨rfl, hB8⟩
  have hB78 := below_trans (below_alloc w7 _) hB8
  replace hW := below_trans hW hB78
  by_cases hS : Reach B k S
  · have hx := (h_x.out (rM.out hS)).below hB78
    have hy := (h_y.out (rN.out hS)).below hB78
    have hz := (h_z.out hS).below hB78
    have hd : decide (Reach B k S) = true := decide_eq_true hS
    clear hB8 hB78 h_x h_y h_z h_o hS
    go_wp2_with fail
    with_reducible refine (mul_any hx.arg hy.arg (by omega) (by omega)).mono ?_
    rintro e w9 ⟨vm, rfl, hm, hB9⟩
    replace hW := below_trans hW hB9
    replace hz := hz.below hB9
    rw [eP.out] at hm
    have s2 := sgn_self (B ^ S)
    clear hB9 hx hy
    go_wp2_with fail
    with_reducible refine (cmp_any hm.arg hz.arg (by omega) (by omega)).mono ?_
    rintro e w10 ⟨rfl, hB10⟩
    replace hW := below_trans hW hB10
    replace hz := hz.below hB10
    clear hB10 hm
    go_wp2_with fail
    with_reducible refine (tight_num hz).mono ?_
    rintro e w11 ⟨rfl, rfl⟩
    go_wp2_with fail
    with_reducible refine qlives_any.mono ?_
    rintro e w12 ⟨rfl, hB12⟩
    replace hW := below_trans hW hB12
    clear hB12
    go_wp2
    go_ret
    exact ⟨rfl, hW⟩
  · have hd : decide (Reach B k S) = false := decide_eq_false hS
    clear hB8 hB78 h_x h_y h_z h_o hS
    go_wp2
    go_ret
    exact ⟨rfl, hW⟩

/-- of numbers as the row's reading hands them over -/
theorem products_wf {w : World} {B M N : Int} (hb : (Lit.int .u32 B).wf = true) (hm : (Lit.int .u16 M).wf = true) (hn : (Lit.int .u16 N).wf = true) :
    Calls Tryd.prog 5 #[.int .u32 B, .int .u16 M, .int .u16 N] w fun e w' => e = .returned (.bool true) ∧ Below w.heap.size w w' := by
  have h1 : 0 ≤ B ∧ B ≤ 4294967295 := by simpa [Lit.wf, IntKind.min, IntKind.max, IntKind.signed, IntKind.bits] using hb
  have h2 : 0 ≤ M ∧ M ≤ 65535 := by simpa [Lit.wf, IntKind.min, IntKind.max, IntKind.signed, IntKind.bits] using hm
  have h3 : 0 ≤ N ∧ N ≤ 65535 := by simpa [Lit.wf, IntKind.min, IntKind.max, IntKind.signed, IntKind.bits] using hn
  obtain ⟨m, rfl⟩ := Int.eq_ofNat_of_zero_le h2.1
  obtain ⟨n, rfl⟩ := Int.eq_ofNat_of_zero_le h3.1
  exact products_walk h1.1 (by omega) (by omega) (by omega)

end Go.Proofs.YtlfkfeedopgfjacDoor
