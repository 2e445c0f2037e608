/- crucibleref05: parts, Shape, halved, Nearest (mk_rnearest.py) -/
import Derived.Test.YtkaakhmncmpliaaRealB
import Derived.Test.YtkaakhmncmpliaaRefF
import Derived.Test.YtkaakhmncmpliaaRefC
namespace Go.Proofs.Ytkaakhmncmpliaa
open Go.RowKit
set_option linter.unusedVariables false

theorem bel_alloc (w : World) (o : Obj) : Below w.heap.size w (w.alloc o) := (Below.refl _ _).alloc (Nat.le_refl _) _
/-- three cells of a new block -/
structure Tri3 (w : World) (b : Nat) (x y z : Value) : Prop where
  c0 : w.cell? ⟨b, 0, none⟩ = some x
  c1 : w.cell? ⟨b, 1, none⟩ = some y
  c2 : w.cell? ⟨b, 2, none⟩ = some z
  lt : b < w.heap.size
theorem Tri3.below {w w' : World} {b : Nat} {x y z : Value} (h : Tri3 w b x y z) (hb : Below w.heap.size w w') : Tri3 w' b x y z :=
  ⟨(hb.cell (p := ⟨b, 0, none⟩) h.lt).trans h.c0, (hb.cell (p := ⟨b, 1, none⟩) h.lt).trans h.c1, (hb.cell (p := ⟨b, 2, none⟩) h.lt).trans h.c2, Nat.lt_of_lt_of_le h.lt hb.size⟩
theorem tri3_new (w : World) (x y z : Value) (t : TypeId) : Tri3 (w.alloc (.cells #[x, y, z] t)) w.heap.size x y z := by
  refine ⟨?_, ?_, ?_, by simp⟩
  · rw [World.cell?_alloc_at _ _ _ _ rfl]; rfl
  · rw [World.cell?_alloc_at _ _ _ _ rfl]; rfl
  · rw [World.cell?_alloc_at _ _ _ _ rfl]; rfl
theorem len_ex : ∀ (m : Nat) (x : Int), 0 ≤ x → x < p2 m → ∃ k, IsLen x k ∧ k ≤ m := by
  intro m
  induction m with
  | zero => intro x h0 h1; exact ⟨0, ⟨h1, fun h => by omega⟩, Nat.le_refl _⟩
  | succ m ih =>
    intro x h0 h1
    rcases Int.lt_or_le x (p2 m) with c | c
    · obtain ⟨k, h, hk⟩ := ih x h0 c
      exact ⟨k, h, by omega⟩
    · exact ⟨m + 1, ⟨h1, fun _ => c⟩, Nat.le_refl _⟩
theorem arg_len {w : World} {va : Value} {A : Int} {ka : Nat} (ha : Arg w va A ka) : ∃ k, IsLen A k ∧ k ≤ 32 * ka := by
  have hA := ha.nonneg
  obtain ⟨zs, _, ho, hv, hl⟩ := ha
  have hb := Nt.val_lt ho
  rw [hv, ← p2_32] at hb
  have hb2 := p2_mono (m := 32 * zs.length) (n := 32 * ka) (by omega)
  exact len_ex _ _ hA (by omega)
theorem isLen_le {A : Int} {k m : Nat} (h : IsLen A k) (hA : A < p2 m) : k ≤ m := by
  rcases Nat.lt_or_ge m k with c | c
  · have h1 := h.2 (by omega)
    have h2 := p2_mono (m := m) (n := k - 1) (by omega)
    omega
  · exact c
theorem num_zero (B : Nat) (w : World) (k : Nat) : Num B w (.slice none 0 0) 0 k :=
  ⟨[], ⟨none, rfl, by simp [maxLen], fun h => by simp at h⟩, Nt.canon_nil, by simp [Nt.val, Nt.vt], by simp⟩
theorem shl_told {w : World} {va : Value} {A n : Int} {ka M : Nat} (ha : Arg w va A ka) (hka : ka ≤ 3000000) (hA : A < p2 M) (hM : M ≤ 10000) (h0 : 0 ≤ n) (hN : n ≤ 10000) :
    Calls Try.prog 58 #[va, .int .i64 n] w fun e w' => ∃ v, e = .returned (.tuple #[v, .bool true]) ∧ Num w.heap.size w' v (A * p2 n.toNat) (ka + 2000) ∧ Below w.heap.size w w' := by
  obtain ⟨N, rfl⟩ := Int.eq_ofNat_of_zero_le h0
  rw [Int.toNat_natCast]
  rcases Int.lt_or_eq_of_le ha.nonneg with c | c
  · obtain ⟨k, hk, hk2⟩ := arg_len ha
    have hk3 := isLen_le hk hA
    refine (rshl_ok (W := N / 8) (s := N % 8) ha (by omega) c hk hk2 (by omega) (by omega) (by omega)).mono ?_
    rintro x w1 ⟨vs, rfl, hv, K⟩
    exact ⟨vs, rfl, hv.mono (by omega), K⟩
  · subst c
    refine (rshl_zero ha (by omega) (n := (N : Int)) (by omega)).mono ?_
    rintro e w' ⟨rfl, K⟩
    refine ⟨.slice none 0 0, rfl, ?_, K⟩
    rw [Int.zero_mul]
    exact num_zero _ _ _
theorem pw_p2 (n : Nat) : Nb.pw n = p2 (8 * n) := by
  induction n with
  | zero => rfl
  | succ n ih => rw [Nat.mul_succ, p2_add, ← ih, Nb.pw_succ, show p2 8 = 256 from by decide, Int.mul_comm]
theorem shr_told {w : World} {va : Value} {A n : Int} {ka : Nat} (ha : Arg w va A ka) (hka : ka ≤ 3000000) (h0 : 0 ≤ n) (hN : n ≤ 10000) :
    Calls Try.prog 73 #[va, .int .i64 n] w fun e w' => ∃ v b, e = .returned (.tuple #[v, .bool b, .bool true]) ∧ Num w.heap.size w' v (A / p2 n.toNat) (ka + 1) ∧ Below w.heap.size w w' := by
  obtain ⟨N, rfl⟩ := Int.eq_ofNat_of_zero_le h0
  rw [Int.toNat_natCast]
  rcases Int.lt_or_le A (Nb.pw (N / 8)) with c | c
  · refine (rshr_far ha (by omega) h0 (by omega) (by rw [show ((N : Int) / 8).toNat = N / 8 by omega]; exact c)).mono ?_
    rintro e w' ⟨rfl, K⟩
    refine ⟨_, _, rfl, ?_, K⟩
    have h1 := p2_mono (m := 8 * (N / 8)) (n := N) (by omega)
    rw [pw_p2] at c
    rw [Int.ediv_eq_zero_of_lt ha.nonneg (by omega)]
    exact num_zero _ _ _
  · refine (rshr_near (W := N / 8) (s := N % 8) ha (by omega) (by omega) (by omega) c).mono ?_
    rintro e w' ⟨v, rfl, hv, K⟩
    exact ⟨v, _, rfl, hv, K⟩
theorem arg_one (w : World) : Arg (w.alloc (.cells #[.int .u32 1] 23)) (.slice (some ⟨w.heap.size, 0, none⟩) 1 1) 1 1 := by
  have hr : Row .u32 23 (w.alloc (.cells #[.int .u32 1] 23)) w.heap.size [1] := by
    unfold Row
    rw [heap_alloc_new]
    rfl
  refine ⟨[1], ⟨some ⟨w.heap.size, 0, none⟩, 1, rfl, Nat.le_refl _, by unfold maxLen; omega, fun _ => ⟨w.heap.size, 0, rfl, hr.lt, fun i hi => ?_⟩⟩, ?_, by decide, Nat.le_refl _⟩
  · rw [Nat.zero_add]
    exact hr.cell hi
  · intro i
    match i with
    | 0 => simp [Nt.lb]
    | i + 1 => simp [Nt.lb]

theorem half_up {A q r h : Int} (hA : A = q * (2 * h) + r) (r1 : r < 2 * h) (hh : 0 < h) (c : h < r ∨ (r = h ∧ q % 2 = 1)) : Half (q + 1) (2 * h) (2 * A) := by
  have e : 2 * (q + 1) * (2 * h) = 2 * (q * (2 * h)) + 4 * h := by rw [Int.mul_assoc, Int.add_mul]; omega
  unfold Half
  rw [e, hA]
  exact ⟨by omega, by omega, fun h => by omega, fun h => by omega⟩
theorem half_down {A q r h : Int} (hA : A = q * (2 * h) + r) (r0 : 0 ≤ r) (hh : 0 < h) (c : r < h ∨ (r = h ∧ q % 2 = 0)) : Half q (2 * h) (2 * A) := by
  have e : 2 * q * (2 * h) = 2 * (q * (2 * h)) := Int.mul_assoc _ _ _
  unfold Half
  rw [e, hA]
  exact ⟨by omega, by omega, fun h => by omega, fun h => by omega⟩

set_option maxHeartbeats 4000000 in
theorem halved_any {w : World} {va : Value} {A n : Int} {ka M : Nat} (ha : Arg w va A ka) (hka : ka ≤ 1000000) (hA : A < p2 M) (hM : M ≤ 9000) (n1 : 1 ≤ n) (n2 : n ≤ 9000) (hq : A / p2 n.toNat < 18446744073709551615) :
    Calls Try.prog 66 #[va, .int .i64 n] w fun e w' => ∃ x, e = .returned (.int .u64 x) ∧ 0 ≤ x ∧ Half x (p2 n.toNat) (2 * A) ∧ Below w.heap.size w w' := by
  have A0 := ha.nonneg
  have hP : p2 n.toNat = 2 * p2 (n - 1).toNat := by rw [show n.toNat = (n - 1).toNat + 1 by omega, p2]
  have hh := p2_pos (n - 1).toNat
  have q0 : 0 ≤ A / p2 n.toNat := Int.ediv_nonneg A0 (by omega)
  have hd := Int.mul_ediv_add_emod A (p2 n.toNat)
  have r0 := Int.emod_nonneg A (b := p2 n.toNat) (by omega)
  have r1 := Int.emod_lt_of_pos A (b := p2 n.toNat) (by omega)
  have hqA : A / p2 n.toNat ≤ A := Int.ediv_le_self _ A0
  have hqp : A / p2 n.toNat < p2 M := by omega
  have one10 : (1 : Int) < p2 1 := by decide
  have hrest : A - A / p2 n.toNat * p2 n.toNat = A % p2 n.toNat := by rw [Int.mul_comm]; omega
  have hback : A / p2 n.toNat * p2 n.toNat ≤ A := by rw [Int.mul_comm]; omega
  have hAq : A = A / p2 n.toNat * (2 * p2 (n - 1).toNat) + A % p2 n.toNat := by rw [← hP, Int.mul_comm]; omega
  generalize hQ : A / p2 n.toNat = q at *
  generalize A % p2 n.toNat = r at *
  have HQ := hide hQ
  clear hQ
  have HP := hide hP
  have Hh := hide hh
  have Hd := hide hd
  have HAq := hide hAq
  have Hqp := hide hqp
  have H10 := hide one10
  have Hrest := hide hrest
  have Hback := hide hback
  have r1' : r < 2 * p2 (n - 1).toNat := by omega
  have Hr1 := hide r1'
  clear hP hh hd hAq hqp one10 hrest hback r1 hA hqA r1'
  have m0 : 0 ≤ n := by omega
  have m1 : 0 ≤ n - 1 := by omega
  go_enter Try.func66, Try.ntmps66
  go_wp2_with fail
  with_reducible refine (shr_told ha (by omega) m0 (by omega)).mono ?_
  rintro x w1 ⟨v1, b1, rfl, g1, K1⟩
  rw [HQ.out] at g1
  replace ha := ha.below K1
  have z1 : w.heap.size ≤ w1.heap.size := K1.size
  go_wp2_with fail
  with_reducible refine (shl_told g1.arg (by omega) Hqp.out (by omega) m0 (by omega)).mono ?_
  rintro x w2 ⟨v2, rfl, g2, b2⟩
  replace ha := ha.below b2
  replace g1 := g1.below b2
  replace K1 := below_trans K1 b2
  clear b2 z1
  go_wp2_with fail
  with_reducible refine (rsub_yes ha g2.arg (by omega) (by omega) Hback.out).mono ?_
  rintro x w3 ⟨v3, rfl, g3, b3⟩
  replace g1 := g1.below b3
  replace K1 := below_trans K1 b3
  clear b3 g2 ha
  rw [Hrest.out] at g3
  have a1 := arg_one w3
  have b4 := bel_alloc w3 (.cells #[.int .u32 1] 23)
  replace g1 := g1.below b4
  replace g3 := g3.below b4
  replace K1 := below_trans K1 b4
  have HA1 := hide a1
  clear b4 a1
  go_wp2_with fail
  with_reducible refine (shl_told HA1.out (by omega) H10.out (by omega) m1 (by omega)).mono ?_
  rintro x w4 ⟨v4, rfl, g4, b4⟩
  replace g1 := g1.below b4
  replace g3 := g3.below b4
  replace K1 := below_trans K1 b4
  clear b4 HA1
  rw [Int.one_mul] at g4
  go_wp2_with fail
  with_reducible refine (ruint_yes g1.arg (by omega) (by omega)).mono ?_
  rintro x w5 ⟨rfl, b5⟩
  replace g3 := g3.below b5
  replace g4 := g4.below b5
  replace K1 := below_trans K1 b5
  clear b5 g1
  go_wp2_with fail
  with_reducible refine (rcmp_any g3.arg g4.arg (by omega) (by omega)).mono ?_
  rintro x w6 ⟨rfl, b6⟩
  replace K1 := below_trans K1 b6
  clear b6 g3 g4
  have HU : (p2 (n - 1).toNat < r ∨ (r = p2 (n - 1).toNat ∧ q % 2 = 1)) → Half (q + 1) (p2 n.toNat) (2 * A) := fun c => by
    rw [HP.out]; exact half_up HAq.out Hr1.out Hh.out c
  have HD : (r < p2 (n - 1).toNat ∨ (r = p2 (n - 1).toNat ∧ q % 2 = 0)) → Half q (p2 n.toNat) (2 * A) := fun c => by
    rw [HP.out]; exact half_down HAq.out r0 Hh.out c
  have HU' := hide HU
  have HD' := hide HD
  clear HU HD HP Hh Hd HAq Hqp H10 Hrest Hback Hr1
  generalize p2 (n - 1).toNat = h at *
  rcases Int.lt_trichotomy r h with c | c | c
  · rw [sgn_lt c]
    have X := hide (HD'.out (Or.inl c))
    clear c HU' HD' r0
    go_wp2
    go_ret
    exact ⟨q, rfl, q0, X.out, K1⟩
  · rw [sgn_eq c]
    by_cases o : q % 2 = 1
    · have o' : (q % 2 == 1) = true := by simp [o]
      have X := hide (HU'.out (Or.inr ⟨c, o⟩))
      clear c HU' HD' r0 o
      go_wp2
      go_ret
      exact ⟨q + 1, rfl, by omega, X.out, K1⟩
    · have o' : (q % 2 == 1) = false := by simp [o]
      have X := hide (HD'.out (Or.inr ⟨c, by omega⟩))
      clear c HU' HD' r0 o
      go_wp2
      go_ret
      exact ⟨q, rfl, q0, X.out, K1⟩
  · rw [sgn_gt c]
    have X := hide (HU'.out (Or.inl c))
    clear c HU' HD' r0
    go_wp2
    go_ret
    exact ⟨q + 1, rfl, by omega, X.out, K1⟩

theorem shape_64 (w : World) : Calls Try.prog 45 #[.int .i64 64] w fun e w' => e = .returned (.agg #[.int .i64 52, .int .i64 (-1074), .int .i64 2047]) ∧ Below w.heap.size w w' := by
  go_enter Try.func45, Try.ntmps45
  go_wp2
  go_returns
  exact ⟨rfl, bel_alloc _ _⟩

end Go.Proofs.Ytkaakhmncmpliaa
