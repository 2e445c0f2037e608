/- NatShifts -/
import Derived.Test.YtlfkfeedopgfjaaForms
import Derived.Test.YtlfkfeedopgfjaaShr
import Derived.Test.YtlfkfeedopgfjaaRefF
namespace Go.Proofs.Ytlfkfeedopgfjaa
open Go.RowKit

theorem num_void (B : Nat) (w : World) (k : Nat) : Num B w (.slice none 0 0) 0 k := ⟨[], ⟨none, rfl, by unfold maxLen; simp, fun h => absurd h (by simp)⟩, Nt.canon_nil, rfl, Nat.zero_le _⟩

/-- what a shift to the left answers -/
def ShlIs (A n : Int) (b : Bool) (L : Int) : Prop :=
  (n < 0 ∧ b = false ∧ L = 0) ∨ (0 ≤ n ∧ A = 0 ∧ b = true ∧ L = 0) ∨
  (0 ≤ n ∧ 0 < A ∧ ∃ k : Nat, IsLen A k ∧ k ≤ 33554432 ∧ ((8388608 < n + k ∧ b = false ∧ L = 0) ∨ (n + k ≤ 8388608 ∧ b = true ∧ L = A * p2 n.toNat)))
/-- what a shift to the right answers -/
def ShrIs (A n : Int) (m c : Bool) (Q : Int) : Prop :=
  (n < 0 ∧ m = false ∧ c = false ∧ Q = 0) ∨ (0 ≤ n ∧ m = decide (0 < A % p2 n.toNat) ∧ c = true ∧ Q = A / p2 n.toNat)

theorem shlIs_has {xs : List Int} (n : Int) (ho : Nt.Ok xs) (hl : xs.length ≤ 1048576) : ∃ b L, ShlIs (Nt.val xs) n b L := by
  by_cases hn : n < 0
  · exact ⟨_, _, Or.inl ⟨hn, rfl, rfl⟩⟩
  by_cases h0 : Nt.val xs = 0
  · exact ⟨_, _, Or.inr (Or.inl ⟨by omega, h0, rfl, rfl⟩)⟩
  have hp := Nt.val_nonneg ho
  obtain ⟨k, hk, hk2⟩ := len_has ho
  by_cases hb : 8388608 < n + k
  · exact ⟨_, _, Or.inr (Or.inr ⟨by omega, by omega, k, hk, by omega, Or.inl ⟨hb, rfl, rfl⟩⟩)⟩
  · exact ⟨_, _, Or.inr (Or.inr ⟨by omega, by omega, k, hk, by omega, Or.inr ⟨by omega, rfl, rfl⟩⟩)⟩
theorem shrIs_has (A n : Int) : ∃ m c Q, ShrIs A n m c Q := by
  by_cases hn : n < 0
  · exact ⟨_, _, _, Or.inl ⟨hn, rfl, rfl, rfl⟩⟩
  · exact ⟨_, _, _, Or.inr ⟨by omega, rfl, rfl, rfl⟩⟩

theorem shl_told {w : World} {va : Value} {A n L : Int} {b : Bool} (ha : Arg w va A 1048576) (h : ShlIs A n b L) :
    Calls Try.prog 29 #[va, .int .i64 n] w fun e w' => ∃ v, e = .returned (.tuple #[v, .bool b]) ∧ Num w.heap.size w' v L 4000000 ∧ Below w.heap.size w w' := by
  rcases h with ⟨hn, rfl, rfl⟩ | ⟨hn, rfl, rfl, rfl⟩ | ⟨hn, hA, k, hk, hk2, ⟨hb, rfl, rfl⟩ | ⟨hb, rfl, rfl⟩⟩
  · refine (shl_neg ha hn).mono ?_
    rintro e w' ⟨rfl, rfl⟩
    exact ⟨_, rfl, num_void _ _ _, Below.refl _ _⟩
  · refine (shl_zero ha hn).mono ?_
    rintro e w' ⟨rfl, rfl⟩
    exact ⟨_, rfl, num_void _ _ _, Below.refl _ _⟩
  · refine (shl_big ha (by omega) hn hA hk (by omega) hb).mono ?_
    rintro e w' ⟨rfl, rfl⟩
    exact ⟨_, rfl, num_void _ _ _, Below.refl _ _⟩
  · obtain ⟨N, rfl⟩ : ∃ N : Nat, n = N := ⟨n.toNat, by omega⟩
    rw [Int.toNat_natCast]
    refine (shl_ok ha (by omega) hA hk (by omega) (by omega) (W := N / 32) (s := N % 32) (by omega) (by omega)).mono ?_
    rintro e w' ⟨v, rfl, hv, hb'⟩
    exact ⟨v, rfl, hv.mono (by omega), hb'⟩

theorem rshl_told {w : World} {va : Value} {A n L : Int} {b : Bool} (ha : Arg w va A 1048576) (hn2 : n ≤ 9223372036854775807) (h : ShlIs A n b L) :
    Calls Try.prog 30 #[va, .int .i64 n] w fun e w' => ∃ v, e = .returned (.tuple #[v, .bool b]) ∧ Num w.heap.size w' v L 4000000 ∧ Below w.heap.size w w' := by
  rcases h with ⟨hn, rfl, rfl⟩ | ⟨hn, rfl, rfl, rfl⟩ | ⟨hn, hA, k, hk, hk2, ⟨hb, rfl, rfl⟩ | ⟨hb, rfl, rfl⟩⟩
  · refine (rshl_neg hn).mono ?_
    rintro e w' ⟨rfl, rfl⟩
    exact ⟨_, rfl, num_void _ _ _, Below.refl _ _⟩
  · refine (rshl_zero ha (by omega) hn).mono ?_
    rintro e w' ⟨rfl, hb'⟩
    exact ⟨_, rfl, num_void _ _ _, hb'⟩
  · refine (rshl_big ha (by omega) hn hn2 hA hk (by omega) hb).mono ?_
    rintro e w' ⟨rfl, hb'⟩
    exact ⟨_, rfl, num_void _ _ _, hb'⟩
  · obtain ⟨N, rfl⟩ : ∃ N : Nat, n = N := ⟨n.toNat, by omega⟩
    rw [Int.toNat_natCast]
    refine (rshl_ok ha (by omega) hA hk (by omega) (by omega) (W := N / 8) (s := N % 8) (by omega) (by omega)).mono ?_
    rintro e w' ⟨v, rfl, hv, hb'⟩
    exact ⟨v, rfl, hv.mono (by omega), hb'⟩

theorem shr_told {w : World} {va : Value} {A n Q : Int} {m c : Bool} (ha : Arg w va A 1048576) (hn2 : n ≤ 9223372036854775807) (h : ShrIs A n m c Q) :
    Calls Try.prog 31 #[va, .int .i64 n] w fun e w' => ∃ v, e = .returned (.tuple #[v, .bool m, .bool c]) ∧ Num w.heap.size w' v Q 4000000 ∧ Below w.heap.size w w' := by
  rcases h with ⟨hn, rfl, rfl, rfl⟩ | ⟨hn, rfl, rfl, rfl⟩
  · refine (shr_neg ha hn).mono ?_
    rintro e w' ⟨rfl, rfl⟩
    exact ⟨_, rfl, num_void _ _ _, Below.refl _ _⟩
  · obtain ⟨N, rfl⟩ : ∃ N : Nat, n = N := ⟨n.toNat, by omega⟩
    rw [Int.toNat_natCast]
    have hA := ha.nonneg
    by_cases hf : Nt.pw (N / 32) ≤ A
    · refine (shr_near ha (by omega) (W := N / 32) (s := N % 32) (by omega) (by omega) hf).mono ?_
      rintro e w' ⟨v, rfl, hv, hb'⟩
      exact ⟨v, rfl, hv.mono (by omega), hb'⟩
    · have hlt : A < p2 N := by
        have h := p2_mono (m := 32 * (N / 32)) (n := N) (by omega)
        rw [p2_32] at h
        omega
      refine (shr_far ha (by omega) (by omega) (by rw [show ((N : Int) / 32).toNat = N / 32 by omega]; omega)).mono ?_
      rintro e w' ⟨rfl, rfl⟩
      rw [Int.emod_eq_of_lt hA hlt, Int.ediv_eq_zero_of_lt hA hlt]
      exact ⟨_, rfl, num_void _ _ _, Below.refl _ _⟩

theorem rshr_told {w : World} {va : Value} {A n Q : Int} {m c : Bool} (ha : Arg w va A 1048576) (hn2 : n ≤ 9223372036854775807) (h : ShrIs A n m c Q) :
    Calls Try.prog 32 #[va, .int .i64 n] w fun e w' => ∃ v, e = .returned (.tuple #[v, .bool m, .bool c]) ∧ Num w.heap.size w' v Q 4000000 ∧ Below w.heap.size w w' := by
  rcases h with ⟨hn, rfl, rfl, rfl⟩ | ⟨hn, rfl, rfl, rfl⟩
  · refine (rshr_neg hn).mono ?_
    rintro e w' ⟨rfl, rfl⟩
    exact ⟨_, rfl, num_void _ _ _, Below.refl _ _⟩
  · obtain ⟨N, rfl⟩ : ∃ N : Nat, n = N := ⟨n.toNat, by omega⟩
    rw [Int.toNat_natCast]
    have hA := ha.nonneg
    by_cases hf : Nb.pw (N / 8) ≤ A
    · refine (rshr_near ha (by omega) (W := N / 8) (s := N % 8) (by omega) (by omega) hf).mono ?_
      rintro e w' ⟨v, rfl, hv, hb'⟩
      exact ⟨v, rfl, hv.mono (by omega), hb'⟩
    · have hlt : A < p2 N := by
        have h := p2_mono (m := 8 * (N / 8)) (n := N) (by omega)
        rw [p2_8] at h
        omega
      refine (rshr_far ha (by omega) (by omega) (by omega) (by rw [show ((N : Int) / 8).toNat = N / 8 by omega]; omega)).mono ?_
      rintro e w' ⟨rfl, hb'⟩
      rw [Int.emod_eq_of_lt hA hlt, Int.ediv_eq_zero_of_lt hA hlt]
      exact ⟨_, rfl, num_void _ _ _, hb'⟩

set_option maxRecDepth 100000 in
set_option maxHeartbeats 4000000 in
theorem shifts_0 {w : World} {va : Value} {xs : List Int} {n L Q : Int} {b m c : Bool} (ha : Reads .u32 w va xs) (oa : Nt.Ok xs) (la : xs.length ≤ 70368744177664) (hsml : ¬ 1048576 < tot [xs.length]) (hn2 : n ≤ 9223372036854775807) (hL : ShlIs (Nt.val xs) n b L) (hR : ShrIs (Nt.val xs) n m c Q) :
    Calls Try.prog 6 #[va, .int .i64 n] w fun e w' => e = .returned (.bool true) ∧ Below w.heap.size w w' := by
  obtain ⟨ao, ca, rfl, ha1, ha2, ha3⟩ := ha
  have hbey := fun (W : World) => beyond_one (w := W) (g := w.heap.size) (ao := ao) (ca := ca) la
  rw [decide_eq_false hsml] at hbey
  have Hbey := hide hbey
  simp only [tot] at hsml
  have hlx : xs.length ≤ 1048576 := by omega
  have h_r : Reads .u32 w (.slice ao xs.length ca) xs := ⟨ao, ca, rfl, ha1, ha2, ha3⟩
  have h_a : Arg w (.slice ao xs.length ca) (Nt.val xs) 1048576 := ⟨xs, h_r, oa, rfl, hlx⟩
  have nA := h_a.nonneg
  clear hbey hsml ha1 ha2 ha3
  have HL := hide hL
  have HR := hide hR
  clear hL hR
  go_enter Try.func6, Try.ntmps6
  go_wp2_with fail
  refine Calls.mono (Hbey.out _ (by simp)) ?_
  rintro e w1 ⟨rfl, rfl⟩
  clear Hbey
  have hW : Below w.heap.size w (w.alloc (.cells #[.slice ao xs.length ca] 23)) := below_alloc _ _
  replace h_a := h_a.below hW
  replace h_r := h_r.below hW
  go_wp2_with fail
  refine (twin_any h_r (by omega)).mono ?_
  rintro e w2 ⟨v_t, rfl, h_t, hB⟩
  replace hW := below_trans hW hB
  replace h_a := h_a.below hB
  replace h_r := h_r.below hB
  clear hB
  go_wp2_with fail
  refine (shl_told (h_t.argOf oa hlx) HL.out).mono ?_
  rintro e w3 ⟨v_l, rfl, h_l, hB⟩
  replace hW := below_trans hW hB
  replace h_a := h_a.below hB
  replace h_r := h_r.below hB
  replace h_t := h_t.below hB
  clear hB
  go_wp2_with fail
  refine (rshl_told h_a hn2 HL.out).mono ?_
  rintro e w4 ⟨v_w, rfl, h_w, hB⟩
  replace hW := below_trans hW hB
  replace h_a := h_a.below hB
  replace h_r := h_r.below hB
  replace h_t := h_t.below hB
  replace h_l := h_l.below hB
  clear hB
  go_wp2_with fail
  refine (shr_told (h_t.argOf oa hlx) hn2 HR.out).mono ?_
  rintro e w5 ⟨v_q, rfl, h_q, hB⟩
  replace hW := below_trans hW hB
  replace h_a := h_a.below hB
  replace h_r := h_r.below hB
  replace h_t := h_t.below hB
  replace h_l := h_l.below hB
  replace h_w := h_w.below hB
  clear hB
  go_wp2_with fail
  refine (rshr_told h_a hn2 HR.out).mono ?_
  rintro e w6 ⟨v_p, rfl, h_p, hB⟩
  replace hW := below_trans hW hB
  replace h_r := h_r.below hB
  replace h_t := h_t.below hB
  replace h_l := h_l.below hB
  replace h_w := h_w.below hB
  replace h_q := h_q.below hB
  clear hB h_a
  go_wp2_with fail
  refine (same_num h_l h_w (rfl)).mono ?_
  rintro e w7 ⟨rfl, hB⟩
  replace hW := below_trans hW hB
  replace h_r := h_r.below hB
  replace h_t := h_t.below hB
  replace h_q := h_q.below hB
  replace h_p := h_p.below hB
  clear hB h_l h_w
  go_wp2_with fail
  refine (same_num h_q h_p (rfl)).mono ?_
  rintro e w8 ⟨rfl, hB⟩
  replace hW := below_trans hW hB
  replace h_r := h_r.below hB
  replace h_t := h_t.below hB
  clear hB h_q h_p
  go_wp2_with fail
  refine (left_any h_t h_r).mono ?_
  rintro e w9 ⟨rfl, hB⟩
  replace hW := below_trans hW hB
  clear hB h_r h_t
  go_wp2
  go_ret
  exact ⟨rfl, hW⟩

set_option maxRecDepth 100000 in
set_option maxHeartbeats 1000000 in
theorem shifts_big {w : World} {va : Value} {xs : List Int} {n : Int} (ha : Reads .u32 w va xs) (la : xs.length ≤ 70368744177664) (hbig : 1048576 < tot [xs.length]) :
    Calls Try.prog 6 #[va, .int .i64 n] w fun e w' => e = .returned (.bool true) ∧ Below w.heap.size w w' := by
  obtain ⟨ao, ca, rfl, ha1, ha2, ha3⟩ := ha
  have hbey := fun (W : World) => beyond_one (w := W) (g := w.heap.size) (ao := ao) (ca := ca) la
  rw [decide_eq_true hbig] at hbey
  have Hbey := hide hbey
  clear hbey hbig
  go_enter Try.func6, Try.ntmps6
  go_wp2_with fail
  refine Calls.mono (Hbey.out _ (by simp)) ?_
  rintro e w1 ⟨rfl, rfl⟩
  go_wp2
  go_ret
  exact ⟨rfl, below_alloc _ _⟩

theorem wf_i64 {n : Int} (h : (Lit.int .i64 n).wf = true) : -9223372036854775808 ≤ n ∧ n ≤ 9223372036854775807 := by
  simpa [Lit.wf, IntKind.min, IntKind.max, IntKind.signed, IntKind.bits] using h
theorem shifts_walk {w : World} {va : Value} {xs : List Int} {n : Int} (ha : Reads .u32 w va xs) (wn : (Lit.int .i64 n).wf = true) (oa : Nt.Ok xs) (la : xs.length ≤ 70368744177664) :
    Calls Try.prog 6 #[va, .int .i64 n] w fun e w' => e = .returned (.bool true) ∧ Below w.heap.size w w' := by
  have hn := wf_i64 wn
  by_cases hbig : 1048576 < tot [xs.length]
  · exact shifts_big ha la hbig
  obtain ⟨b, L, hL⟩ := shlIs_has n oa (by simp only [tot] at hbig; omega)
  obtain ⟨m, c, Q, hR⟩ := shrIs_has (Nt.val xs) n
  exact shifts_0 ha oa la hbig hn.2 hL hR

end Go.Proofs.Ytlfkfeedopgfjaa
