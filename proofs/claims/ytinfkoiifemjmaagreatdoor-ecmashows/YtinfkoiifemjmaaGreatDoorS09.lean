/- EnN -/
import Derived.Test.YtinfkoiifemjmaaGreatDoorS08
import Derived.Test.YtinfkoiifemjmaaGreatDoorS03
import Derived.Deep.RegionHeld3
import Derived.Deep.Cut
import Derived.Deep.LoopGhost
import Derived.BigQuiet
import Derived.Handy
namespace Go.Proofs.YtinfkoiifemjmaaGreatDoor
open Go.RowKit
set_option linter.unusedVariables false

theorem near_round9 {F L I N E q t K : Int} {fr len : Nat} (hfr : F = p2 fr) (fr1 : 1 ≤ fr) (hI : I = K * F) (hK : 2 ≤ K) (hN : 0 < N) (hlen : IsLen N len) (ht : t = max (E + len - 1 - fr) L)
    (hq1 : t ≤ E → q = N * p2 (E - t).toNat) (hq2 : E < t → Half q (p2 (t - E).toNat) (2 * N)) (q0 : 0 ≤ q) :
    q ≤ 2 * F ∧ (t = L ∨ F ≤ q) ∧ (q + (t - L) * F ≤ I → Near F L I N E (q + (t - L) * F)) ∧ (I ≤ q + (t - L) * F → Near F L I N E I) := by
  have hF0 : 0 < F := by rw [hfr]; exact p2_pos fr
  have hF2 : F % 2 = 0 := by
    rw [hfr]
    obtain ⟨n, rfl⟩ : ∃ n, fr = n + 1 := ⟨fr - 1, by omega⟩
    rw [p2]
    omega
  have tL : L ≤ t := by omega
  have len0 : 0 < len := by
    rcases Nat.eq_zero_or_pos len with c | c
    · subst c; have := hlen.1; simp only [p2] at this; omega
    · exact c
  have hhalf : ∀ B, B ≤ E → B ≤ L → Half q (p2 (t - B).toNat) (2 * sc N E B) := by
    intro B hB hBL
    unfold sc
    have hu := p2_pos (E - B).toNat
    rcases Int.lt_or_le E t with c | c
    · have h := half_scale hu (hq2 c)
      rw [← p2_toNat_add (by omega) (by omega), show t - E + (E - B) = t - B by omega, Int.mul_assoc] at h
      exact h
    · have hT := p2_pos (t - B).toNat
      have h := half_exact (q := q) hT
      rw [show 2 * q * p2 (t - B).toNat = 2 * (N * p2 (E - B).toNat) by
        rw [hq1 c, show E - B = (E - t) + (t - B) by omega, p2_toNat_add (by omega) (by omega), Int.mul_assoc, Int.mul_assoc]] at h
      exact h
  have hlow : L < t → ∀ B, B ≤ E → B ≤ L → 2 * F * p2 (t - B).toNat ≤ 2 * sc N E B := by
    intro hl B hB hBL
    have ht' : t = E + len - 1 - fr := by omega
    unfold sc
    have h1 : 2 * F * p2 (t - B).toNat = 2 * (p2 (len - 1) * p2 (E - B).toNat) := by
      rw [hfr, Int.mul_assoc, show p2 fr = p2 ((fr : Int)).toNat by rw [Int.toNat_natCast], ← p2_toNat_add (by omega) (by omega), show p2 (len - 1) = p2 (((len - 1 : Nat) : Int)).toNat by rw [Int.toNat_natCast], ← p2_toNat_add (by omega) (by omega)]
      congr 3
      omega
    rw [h1]
    have := Int.mul_le_mul_of_nonneg_right (hlen.2 len0) (c := p2 (E - B).toNat) (by have := p2_pos (E - B).toNat; omega)
    omega
  have hB1 : min E L ≤ E := by omega
  have hB2 : min E L ≤ L := by omega
  have hh := hhalf (min E L) hB1 hB2
  have hT := p2_pos (t - min E L).toNat
  have hup : 2 * sc N E (min E L) < 4 * F * p2 (t - min E L).toNat := by
    unfold sc
    have hu := p2_pos (E - min E L).toNat
    have h1 : N * p2 (E - min E L).toNat < p2 len * p2 (E - min E L).toNat := Int.mul_lt_mul_of_pos_right hlen.1 hu
    have h2 : p2 len * p2 (E - min E L).toNat = p2 (len + (E - min E L)).toNat := by
      rw [p2_toNat_add (by omega) (by omega), Int.toNat_natCast]
    have h3 : 4 * F * p2 (t - min E L).toNat = 2 * p2 (fr + 1 + (t - min E L)).toNat := by
      rw [show ((fr : Int) + 1 + (t - min E L)) = ((fr + 1 : Nat) : Int) + (t - min E L) by omega, p2_toNat_add (by omega) (by omega), Int.toNat_natCast, p2, hfr, show (4 : Int) * p2 fr = 2 * (2 * p2 fr) by omega, Int.mul_assoc 2]
    have h4 := p2_mono (m := (len + (E - min E L)).toNat) (n := (fr + 1 + (t - min E L)).toNat) (by omega)
    rw [h3]
    rw [h2] at h1
    omega
  have hq2F : q ≤ 2 * F := by
    rcases Int.lt_or_le (2 * F) q with c | c
    · have h1 := hh.1
      have h2 : (2 * F + 1) * (2 * p2 (t - min E L).toNat) ≤ q * (2 * p2 (t - min E L).toNat) := Int.mul_le_mul_of_nonneg_right (by omega) (by omega)
      generalize p2 (t - min E L).toNat = T at *
      have e1 : q * (2 * T) = 2 * q * T := by grind
      have e2 : (2 * F + 1) * (2 * T) = 4 * F * T + 2 * T := by grind
      omega
    · exact c
  have hqF : t = L ∨ F ≤ q := by
    rcases Int.lt_or_eq_of_le tL with c | c
    · right
      have h1 := hlow c _ hB1 hB2
      have h2 := hh.2.1
      rcases Int.lt_or_le q F with c2 | c2
      · have h3 : q * (2 * p2 (t - min E L).toNat) ≤ (F - 1) * (2 * p2 (t - min E L).toNat) := Int.mul_le_mul_of_nonneg_right (by omega) (by omega)
        generalize p2 (t - min E L).toNat = T at *
        have e1 : q * (2 * T) = 2 * q * T := by grind
        have e2 : (F - 1) * (2 * T) = 2 * F * T - 2 * T := by grind
        omega
      · exact c2
    · left; exact c.symm
  refine ⟨hq2F, hqF, fun hrI => near_pattern hF0 hF2 tL q0 hq2F hqF hrI hhalf hlow, fun hge => ?_⟩
  rcases Int.lt_or_eq_of_le hge with hgt | heq
  · have hI0 : 2 * F ≤ I := by
      rw [hI]; exact Int.mul_le_mul_of_nonneg_right hK (by omega)
    refine ⟨by omega, by omega, fun B hB hBL => ⟨fun h => by omega, fun _ => ?_⟩⟩
    have hIq : I = F * K := by rw [hI, Int.mul_comm]
    have eI : um F L B I = F * p2 (L - 1 + K - B).toNat := by
      unfold um sc mst est
      rw [if_neg (by omega), if_neg (by omega), hIq, Int.mul_emod_right, Int.mul_ediv_cancel_left _ (by omega), Int.zero_add]
    have hs := um_lt (F := F) (L := L) (B := B) (s := I - 1) hF0 (by omega) hBL
    rw [Int.sub_add_cancel] at hs
    have hbig : um F L B I ≤ sc N E B := by
      rw [eI]
      have ht1 : K - 1 ≤ t - L := by
        rcases Int.lt_or_le (t - L) (K - 1) with c | c
        · have : (t - L) * F ≤ (K - 2) * F := Int.mul_le_mul_of_nonneg_right (by omega) (by omega)
          rw [Int.sub_mul K 2 F] at this
          omega
        · exact c
      rcases Int.lt_or_eq_of_le ht1 with c | c
      · have h1 := hlow (by omega) B hB hBL
        have h2 := p2_mono (m := (L - 1 + K - B).toNat) (n := (t - B).toNat) (by omega)
        have h3 : F * p2 (L - 1 + K - B).toNat ≤ F * p2 (t - B).toNat := Int.mul_le_mul_of_nonneg_left h2 (by omega)
        have h4 : 2 * F * p2 (t - B).toNat = 2 * (F * p2 (t - B).toNat) := Int.mul_assoc _ _ _
        omega
      · have hq1 : F + 1 ≤ q := by
          have : (t - L) * F = (K - 1) * F := by rw [c]
          rw [Int.sub_mul K 1 F, Int.one_mul] at this
          omega
        have h1 := (hhalf B hB hBL).1
        rw [show L - 1 + K - B = t - B by omega]
        have hT := p2_pos (t - B).toNat
        generalize p2 (t - B).toNat = T at *
        have h2 : (F + 1) * T ≤ q * T := Int.mul_le_mul_of_nonneg_right hq1 (by omega)
        have h3 : 2 * q * T = 2 * (q * T) := Int.mul_assoc _ _ _
        have h4 : (F + 1) * T = F * T + T := by rw [Int.add_mul, Int.one_mul]
        omega
    exact ⟨by omega, fun e => by omega⟩
  · have := near_pattern (I := I) hF0 hF2 tL q0 hq2F hqF (by omega) hhalf hlow
    rw [← heq] at this
    exact this

theorem um_zero9 {F L B : Int} (hF : 0 < F) : um F L B 0 = 0 := by unfold um sc mst; rw [if_pos hF, Int.zero_mul]



theorem bel_alloc (w : World) (o : Obj) : Below w.heap.size w (w.alloc o) := (Below.refl _ _).alloc (Nat.le_refl _) _
/-- three cells of a new block -/
structure Tri3 (w : World) (b : Nat) (x y z : Value) : Prop where
  c0 : w.cell? ⟨b, 0, none⟩ = some x
  c1 : w.cell? ⟨b, 1, none⟩ = some y
  c2 : w.cell? ⟨b, 2, none⟩ = some z
  lt : b < w.heap.size
theorem Tri3.below {w w' : World} {b : Nat} {x y z : Value} (h : Tri3 w b x y z) (hb : Below w.heap.size w w') : Tri3 w' b x y z :=
  ⟨(hb.cell (p := ⟨b, 0, none⟩) h.lt).trans h.c0, (hb.cell (p := ⟨b, 1, none⟩) h.lt).trans h.c1, (hb.cell (p := ⟨b, 2, none⟩) h.lt).trans h.c2, Nat.lt_of_lt_of_le h.lt hb.size⟩
theorem tri3_new (w : World) (x y z : Value) (t : TypeId) : Tri3 (w.alloc (.cells #[x, y, z] t)) w.heap.size x y z := by
  refine ⟨?_, ?_, ?_, by simp⟩
  · rw [World.cell?_alloc_at _ _ _ _ rfl]; rfl
  · rw [World.cell?_alloc_at _ _ _ _ rfl]; rfl
  · rw [World.cell?_alloc_at _ _ _ _ rfl]; rfl
theorem len_ex : ∀ (m : Nat) (x : Int), 0 ≤ x → x < p2 m → ∃ k, IsLen x k ∧ k ≤ m := by
  intro m
  induction m with
  | zero => intro x h0 h1; exact ⟨0, ⟨h1, fun h => by omega⟩, Nat.le_refl _⟩
  | succ m ih =>
    intro x h0 h1
    rcases Int.lt_or_le x (p2 m) with c | c
    · obtain ⟨k, h, hk⟩ := ih x h0 c
      exact ⟨k, h, by omega⟩
    · exact ⟨m + 1, ⟨h1, fun _ => c⟩, Nat.le_refl _⟩
theorem arg_len {w : World} {va : Value} {A : Int} {ka : Nat} (ha : Arg w va A ka) : ∃ k, IsLen A k ∧ k ≤ 32 * ka := by
  have hA := ha.nonneg
  obtain ⟨zs, _, ho, hv, hl⟩ := ha
  have hb := Nt.val_lt ho
  rw [hv, ← p2_32] at hb
  have hb2 := p2_mono (m := 32 * zs.length) (n := 32 * ka) (by omega)
  exact len_ex _ _ hA (by omega)
theorem isLen_le9 {A : Int} {k m : Nat} (h : IsLen A k) (hA : A < p2 m) : k ≤ m := by
  rcases Nat.lt_or_ge m k with c | c
  · have h1 := h.2 (by omega)
    have h2 := p2_mono (m := m) (n := k - 1) (by omega)
    omega
  · exact c
theorem num_zero (B : Nat) (w : World) (k : Nat) : Num B w (.slice none 0 0) 0 k :=
  ⟨[], ⟨none, rfl, by simp [maxLen], fun h => by simp at h⟩, Nt.canon_nil, by simp [Nt.val, Nt.vt], by simp⟩
theorem shl_told {w : World} {va : Value} {A n : Int} {ka M : Nat} (ha : Arg w va A ka) (hka : ka ≤ 3000000) (hA : A < p2 M) (hM : M ≤ 10000) (h0 : 0 ≤ n) (hN : n ≤ 10000) :
    Calls Tryz.prog 80 #[va, .int .i64 n] w fun e w' => ∃ v, e = .returned (.tuple #[v, .bool true]) ∧ Num w.heap.size w' v (A * p2 n.toNat) (ka + 2000) ∧ Below w.heap.size w w' := by
  obtain ⟨N, rfl⟩ := Int.eq_ofNat_of_zero_le h0
  rw [Int.toNat_natCast]
  rcases Int.lt_or_eq_of_le ha.nonneg with c | c
  · obtain ⟨k, hk, hk2⟩ := arg_len ha
    have hk3 := isLen_le9 hk hA
    refine (rshl_ok (W := N / 8) (s := N % 8) ha (by omega) c hk hk2 (by omega) (by omega) (by omega)).mono ?_
    rintro x w1 ⟨vs, rfl, hv, K⟩
    exact ⟨vs, rfl, hv.mono (by omega), K⟩
  · subst c
    refine (rshl_zero ha (by omega) (n := (N : Int)) (by omega)).mono ?_
    rintro e w' ⟨rfl, K⟩
    refine ⟨.slice none 0 0, rfl, ?_, K⟩
    rw [Int.zero_mul]
    exact num_zero _ _ _
theorem pw_p2 (n : Nat) : Nb.pw n = p2 (8 * n) := by
  induction n with
  | zero => rfl
  | succ n ih => rw [Nat.mul_succ, p2_add, ← ih, Nb.pw_succ, show p2 8 = 256 from by decide, Int.mul_comm]
theorem shr_told {w : World} {va : Value} {A n : Int} {ka : Nat} (ha : Arg w va A ka) (hka : ka ≤ 3000000) (h0 : 0 ≤ n) (hN : n ≤ 10000) :
    Calls Tryz.prog 179 #[va, .int .i64 n] w fun e w' => ∃ v b, e = .returned (.tuple #[v, .bool b, .bool true]) ∧ Num w.heap.size w' v (A / p2 n.toNat) (ka + 1) ∧ Below w.heap.size w w' := by
  obtain ⟨N, rfl⟩ := Int.eq_ofNat_of_zero_le h0
  rw [Int.toNat_natCast]
  rcases Int.lt_or_le A (Nb.pw (N / 8)) with c | c
  · refine (rshr_far ha (by omega) h0 (by omega) (by rw [show ((N : Int) / 8).toNat = N / 8 by omega]; exact c)).mono ?_
    rintro e w' ⟨rfl, K⟩
    refine ⟨_, _, rfl, ?_, K⟩
    have h1 := p2_mono (m := 8 * (N / 8)) (n := N) (by omega)
    rw [pw_p2] at c
    rw [Int.ediv_eq_zero_of_lt ha.nonneg (by omega)]
    exact num_zero _ _ _
  · refine (rshr_near (W := N / 8) (s := N % 8) ha (by omega) (by omega) (by omega) c).mono ?_
    rintro e w' ⟨v, rfl, hv, K⟩
    exact ⟨v, _, rfl, hv, K⟩
theorem arg_one9 (w : World) : Arg (w.alloc (.cells #[.int .u32 1] 96)) (.slice (some ⟨w.heap.size, 0, none⟩) 1 1) 1 1 := by
  have hr : Row .u32 96 (w.alloc (.cells #[.int .u32 1] 96)) w.heap.size [1] := by
    unfold Row
    rw [heap_alloc_new]
    rfl
  refine ⟨[1], ⟨some ⟨w.heap.size, 0, none⟩, 1, rfl, Nat.le_refl _, by unfold maxLen; omega, fun _ => ⟨w.heap.size, 0, rfl, hr.lt, fun i hi => ?_⟩⟩, ?_, by decide, Nat.le_refl _⟩
  · rw [Nat.zero_add]
    exact hr.cell hi
  · intro i
    match i with
    | 0 => simp [Nt.lb]
    | i + 1 => simp [Nt.lb]

theorem half_up9 {A q r h : Int} (hA : A = q * (2 * h) + r) (r1 : r < 2 * h) (hh : 0 < h) (c : h < r ∨ (r = h ∧ q % 2 = 1)) : Half (q + 1) (2 * h) (2 * A) := by
  have e : 2 * (q + 1) * (2 * h) = 2 * (q * (2 * h)) + 4 * h := by rw [Int.mul_assoc, Int.add_mul]; omega
  unfold Half
  rw [e, hA]
  exact ⟨by omega, by omega, fun h => by omega, fun h => by omega⟩
theorem half_down9 {A q r h : Int} (hA : A = q * (2 * h) + r) (r0 : 0 ≤ r) (hh : 0 < h) (c : r < h ∨ (r = h ∧ q % 2 = 0)) : Half q (2 * h) (2 * A) := by
  have e : 2 * q * (2 * h) = 2 * (q * (2 * h)) := Int.mul_assoc _ _ _
  unfold Half
  rw [e, hA]
  exact ⟨by omega, by omega, fun h => by omega, fun h => by omega⟩

set_option maxHeartbeats 4000000 in
theorem halved_any {w : World} {va : Value} {A n : Int} {ka M : Nat} (ha : Arg w va A ka) (hka : ka ≤ 1000000) (hA : A < p2 M) (hM : M ≤ 9000) (n1 : 1 ≤ n) (n2 : n ≤ 9000) (hq : A / p2 n.toNat < 18446744073709551615) :
    Calls Tryz.prog 156 #[va, .int .i64 n] w fun e w' => ∃ x, e = .returned (.int .u64 x) ∧ 0 ≤ x ∧ Half x (p2 n.toNat) (2 * A) ∧ Below w.heap.size w w' := by
  have A0 := ha.nonneg
  have hP : p2 n.toNat = 2 * p2 (n - 1).toNat := by rw [show n.toNat = (n - 1).toNat + 1 by omega, p2]
  have hh := p2_pos (n - 1).toNat
  have q0 : 0 ≤ A / p2 n.toNat := Int.ediv_nonneg A0 (by omega)
  have hd := Int.mul_ediv_add_emod A (p2 n.toNat)
  have r0 := Int.emod_nonneg A (b := p2 n.toNat) (by omega)
  have r1 := Int.emod_lt_of_pos A (b := p2 n.toNat) (by omega)
  have hqA : A / p2 n.toNat ≤ A := Int.ediv_le_self _ A0
  have hqp : A / p2 n.toNat < p2 M := by omega
  have one10 : (1 : Int) < p2 1 := by decide
  have hrest : A - A / p2 n.toNat * p2 n.toNat = A % p2 n.toNat := by rw [Int.mul_comm]; omega
  have hback : A / p2 n.toNat * p2 n.toNat ≤ A := by rw [Int.mul_comm]; omega
  have hAq : A = A / p2 n.toNat * (2 * p2 (n - 1).toNat) + A % p2 n.toNat := by rw [← hP, Int.mul_comm]; omega
  generalize hQ : A / p2 n.toNat = q at *
  generalize A % p2 n.toNat = r at *
  have HQ := hide hQ
  clear hQ
  have HP := hide hP
  have Hh := hide hh
  have Hd := hide hd
  have HAq := hide hAq
  have Hqp := hide hqp
  have H10 := hide one10
  have Hrest := hide hrest
  have Hback := hide hback
  have r1' : r < 2 * p2 (n - 1).toNat := by omega
  have Hr1 := hide r1'
  clear hP hh hd hAq hqp one10 hrest hback r1 hA hqA r1'
  have m0 : 0 ≤ n := by omega
  have m1 : 0 ≤ n - 1 := by omega
  go_enter Tryz.func156, Tryz.ntmps156
  go_wp2_with fail
  with_reducible refine (shr_told ha (by omega) m0 (by omega)).mono ?_
  rintro x w1 ⟨v1, b1, rfl, g1, K1⟩
  rw [HQ.out] at g1
  replace ha := ha.below K1
  have z1 : w.heap.size ≤ w1.heap.size := K1.size
  go_wp2_with fail
  with_reducible refine (shl_told g1.arg (by omega) Hqp.out (by omega) m0 (by omega)).mono ?_
  rintro x w2 ⟨v2, rfl, g2, b2⟩
  replace ha := ha.below b2
  replace g1 := g1.below b2
  replace K1 := below_trans K1 b2
  clear b2 z1
  go_wp2_with fail
  with_reducible refine (rsub_yes ha g2.arg (by omega) (by omega) Hback.out).mono ?_
  rintro x w3 ⟨v3, rfl, g3, b3⟩
  replace g1 := g1.below b3
  replace K1 := below_trans K1 b3
  clear b3 g2 ha
  rw [Hrest.out] at g3
  have a1 := arg_one9 w3
  have b4 := bel_alloc w3 (.cells #[.int .u32 1] 96)
  replace g1 := g1.below b4
  replace g3 := g3.below b4
  replace K1 := below_trans K1 b4
  have HA1 := hide a1
  clear b4 a1
  go_wp2_with fail
  with_reducible refine (shl_told HA1.out (by omega) H10.out (by omega) m1 (by omega)).mono ?_
  rintro x w4 ⟨v4, rfl, g4, b4⟩
  replace g1 := g1.below b4
  replace g3 := g3.below b4
  replace K1 := below_trans K1 b4
  clear b4 HA1
  rw [Int.one_mul] at g4
  go_wp2_with fail
  with_reducible refine (ruint_yes g1.arg (by omega) (by omega)).mono ?_
  rintro x w5 ⟨rfl, b5⟩
  replace g3 := g3.below b5
  replace g4 := g4.below b5
  replace K1 := below_trans K1 b5
  clear b5 g1
  go_wp2_with fail
  with_reducible refine (rcmp_any g3.arg g4.arg (by omega) (by omega)).mono ?_
  rintro x w6 ⟨rfl, b6⟩
  replace K1 := below_trans K1 b6
  clear b6 g3 g4
  have HU : (p2 (n - 1).toNat < r ∨ (r = p2 (n - 1).toNat ∧ q % 2 = 1)) → Half (q + 1) (p2 n.toNat) (2 * A) := fun c => by
    rw [HP.out]; exact half_up9 HAq.out Hr1.out Hh.out c
  have HD : (r < p2 (n - 1).toNat ∨ (r = p2 (n - 1).toNat ∧ q % 2 = 0)) → Half q (p2 n.toNat) (2 * A) := fun c => by
    rw [HP.out]; exact half_down9 HAq.out r0 Hh.out c
  have HU' := hide HU
  have HD' := hide HD
  clear HU HD HP Hh Hd HAq Hqp H10 Hrest Hback Hr1
  generalize p2 (n - 1).toNat = h at *
  rcases Int.lt_trichotomy r h with c | c | c
  · rw [sgn_lt c]
    have X := hide (HD'.out (Or.inl c))
    clear c HU' HD' r0
    go_wp2
    go_ret
    exact ⟨q, rfl, q0, X.out, K1⟩
  · rw [sgn_eq c]
    by_cases o : q % 2 = 1
    · have o' : (q % 2 == 1) = true := by simp [o]
      have X := hide (HU'.out (Or.inr ⟨c, o⟩))
      clear c HU' HD' r0 o
      go_wp2
      go_ret
      exact ⟨q + 1, rfl, by omega, X.out, K1⟩
    · have o' : (q % 2 == 1) = false := by simp [o]
      have X := hide (HD'.out (Or.inr ⟨c, by omega⟩))
      clear c HU' HD' r0 o
      go_wp2
      go_ret
      exact ⟨q, rfl, q0, X.out, K1⟩
  · rw [sgn_gt c]
    have X := hide (HU'.out (Or.inl c))
    clear c HU' HD' r0
    go_wp2
    go_ret
    exact ⟨q + 1, rfl, by omega, X.out, K1⟩

theorem shape_64 (w : World) : Calls Tryz.prog 154 #[.int .i64 64] w fun e w' => e = .returned (.agg #[.int .i64 52, .int .i64 (-1074), .int .i64 2047]) ∧ Below w.heap.size w w' := by
  go_enter Tryz.func154, Tryz.ntmps154
  go_wp2
  go_returns
  exact ⟨rfl, bel_alloc _ _⟩




theorem p2_52 : (4503599627370496 : Int) = p2 52 := by decide
theorem near_cast {F L I N E r r' : Int} (h : r = r') (g : Near F L I N E r) : Near F L I N E r' := h ▸ g
set_option maxRecDepth 100000 in
set_option maxHeartbeats 8000000 in
theorem nearest_64 {w : World} {va : Value} {A e : Int} {ka M : Nat} (ha : Arg w va A ka) (hka : ka ≤ 1000000) (hA : A < p2 M) (hM : M ≤ 4000) (e0 : -4000 ≤ e) (e1 : e ≤ 4000) :
    Calls Tryz.prog 123 #[.int .i64 64, va, .int .i64 e] w fun x w' => ∃ r, x = .returned (.int .u64 r) ∧ Near 4503599627370496 (-1074) 9218868437227405312 A e r ∧ Below w.heap.size w w' := by
  have A0 := ha.nonneg
  obtain ⟨k, hlen, hk⟩ := len_ex M A A0 hA
  have HA := hide hA
  have HL := hide hlen
  clear hA hlen
  go_enter Tryz.func123, Tryz.ntmps123
  go_wp2_with fail
  with_reducible refine (shape_64 _).mono ?_
  rintro x w1 ⟨rfl, K⟩
  go_upto_region 2 with fail
  have C := tri3_new w1 (.int .i64 52) (.int .i64 (-1074)) (.int .i64 2047) 212
  replace K := below_trans K (bel_alloc w1 (.cells #[.int .i64 52, .int .i64 (-1074), .int .i64 2047] 212))
  generalize w1.heap.size = bb at *
  generalize w1.alloc (.cells #[.int .i64 52, .int .i64 (-1074), .int .i64 2047] 212) = w2 at *
  replace ha := ha.below K
  have c0 := C.c0; have c1 := C.c1; have c2 := C.c2
  go_wp2_with fail
  with_reducible refine (rlen_any ha (by omega) HL.out).mono ?_
  rintro x w3 ⟨rfl, b3⟩
  clear c0 c1 c2
  replace C := C.below b3
  replace ha := ha.below b3
  replace K := below_trans K b3
  clear b3
  by_cases hk0 : k = 0
  · subst hk0
    have hz : A = 0 := by have := HL.out.1; simp only [p2] at this; omega
    have c0 := C.c0; have c1 := C.c1; have c2 := C.c2
    go_wp2
    go_ret
    refine ⟨0, rfl, ?_, K⟩
    rw [hz]
    refine ⟨by omega, by omega, fun B hB hBL => ⟨fun _ => ?_, fun h => by omega⟩⟩
    have u1 := um_lt (F := 4503599627370496) (L := -1074) (B := B) (s := 0) (by decide) (by omega) hBL
    have u0 := um_zero9 (F := 4503599627370496) (L := -1074) (B := B) (by decide)
    unfold sc
    rw [u0, Int.zero_mul]
    rw [u0] at u1
    exact ⟨by omega, fun e => by omega⟩
  have Apos : 0 < A := by
    have h1 := HL.out.2 (by omega)
    have h2 := p2_pos (k - 1)
    omega
  obtain ⟨t, ht⟩ : ∃ t : Int, max (e + k - 1 - 52) (-1074) = t := ⟨_, rfl⟩
  have t0 : -1074 ≤ t := by omega
  have t1 : t ≤ 8000 := by omega
  go_upto_region 5 with fail
  go_cut [9] from 15 (fun s wx => s = .int .i64 t ∧ w3 = wx)
  case first =>
    have c0 := C.c0; have c1 := C.c1; have c2 := C.c2
    have T1 : (k : Int) + e - 52 - 1 ≤ -1074 → t = -1074 := fun _ => by omega
    have T2 : -1074 ≤ (k : Int) + e - 52 - 1 → t = (k : Int) + e - 52 - 1 := fun _ => by omega
    have H1 := hide T1
    have H2 := hide T2
    clear T1 T2 ht
    rcases Int.lt_trichotomy ((k : Int) + e - 52 - 1) (-1074) with d | d | d
    · obtain rfl := H1.out (by omega)
      go_wp2
      go_meet
      case rel => exact ⟨rfl, rfl⟩
    · obtain rfl := H1.out (by omega)
      go_wp2
      all_goals go_meet
      all_goals exact ⟨by first | rfl | (rw [d]), rfl⟩
    · obtain rfl := H2.out (by omega)
      go_wp2
      go_meet
      case rel => exact ⟨rfl, rfl⟩
  case rest =>
    obtain ⟨rfl, rfl⟩ := hcut
    go_upto_if 33 with fail
    go_cut [10, 11, 12] from 15 (fun s s1 s2 wx => ∃ q : Int, s = .int .u64 q ∧ 0 ≤ q ∧ q ≤ 9007199254740992 ∧ (t = -1074 ∨ 4503599627370496 ≤ q) ∧ Hid ((q + (t - -1074) * 4503599627370496 ≤ 9218868437227405312 → Near 4503599627370496 (-1074) 9218868437227405312 A e (q + (t - -1074) * 4503599627370496)) ∧ (9218868437227405312 ≤ q + (t - -1074) * 4503599627370496 → Near 4503599627370496 (-1074) 9218868437227405312 A e 9218868437227405312)) ∧ Tri3 wx bb (.int .i64 52) (.int .i64 (-1074)) (.int .i64 2047) ∧ Below w.heap.size w wx)
    case first =>
      by_cases c : t ≤ e
      · obtain ⟨q, hq⟩ : ∃ q, A * p2 (e - t).toNat = q := ⟨_, rfl⟩
        have q0 : 0 ≤ q := by rw [← hq]; exact Int.mul_nonneg A0 (Int.le_of_lt (p2_pos _))
        obtain ⟨q1, q2, hN⟩ := near_round9 (F := 4503599627370496) (L := -1074) (I := 9218868437227405312) (N := A) (E := e) (q := q) (t := t) (K := 2047) (fr := 52) (len := k) p2_52 (by decide) (by decide) (by decide) Apos HL.out ht.symm (fun _ => hq.symm) (fun h => by omega) q0
        have HN := hide hN
        have Hq := hide hq
        have d0 : 0 ≤ e - t := by omega
        clear hq hN ht
        have c0 := C.c0; have c1 := C.c1; have c2 := C.c2
        go_wp2_with fail
        with_reducible refine (shl_told ha (by omega) HA.out (by omega) d0 (by omega)).mono ?_
        rintro x w4 ⟨v4, rfl, g4, b4⟩
        rw [Hq.out] at g4
        clear c0 c1 c2
        replace C := C.below b4
        replace K := below_trans K b4
        have c0 := C.c0; have c1 := C.c1; have c2 := C.c2
        go_wp2_with fail
        with_reducible refine (ruint_yes g4.arg (by omega) (by omega)).mono ?_
        rintro x w5 ⟨rfl, b5⟩
        clear c0 c1 c2
        replace C := C.below b5
        replace K := below_trans K b5
        go_wp2
        go_meet
        case rel => exact ⟨q, rfl, q0, by omega, q2, HN, C, K⟩
      · have n1 : 1 ≤ t - e := by omega
        have n2 : t - e ≤ 9000 := by omega
        have hb : A / p2 (t - e).toNat < 18446744073709551615 := by
          rw [Int.ediv_lt_iff_lt_mul (p2_pos _)]
          have h1 := HL.out.1
          have h2 := p2_mono (m := k) (n := 53 + (t - e).toNat) (by omega)
          rw [p2_add, show p2 53 = 9007199254740992 by decide] at h2
          have h3 := p2_pos (t - e).toNat
          omega
        have Hb := hide hb
        have Ht := hide ht
        clear hb ht
        have c0 := C.c0; have c1 := C.c1; have c2 := C.c2
        go_wp2_with fail
        with_reducible refine (halved_any ha hka HA.out (by omega) n1 n2 Hb.out).mono ?_
        rintro x w4 ⟨q, rfl, q0, hq, b4⟩
        obtain ⟨q1, q2, hN⟩ := near_round9 (F := 4503599627370496) (L := -1074) (I := 9218868437227405312) (N := A) (E := e) (q := q) (t := t) (K := 2047) (fr := 52) (len := k) p2_52 (by decide) (by decide) (by decide) Apos HL.out Ht.out.symm (fun h => by omega) (fun _ => hq) q0
        have HN := hide hN
        clear hq hN c0 c1 c2
        replace C := C.below b4
        replace K := below_trans K b4
        go_wp2
        go_meet
        case rel => exact ⟨q, rfl, q0, by omega, q2, HN, C, K⟩
    case rest =>
      obtain ⟨q, rfl, q0, q1, q2, hNN, C, K⟩ := hcut
      have hN := hNN.out
      clear hNN ht HL HA
      have c0 := C.c0; have c1 := C.c1; have c2 := C.c2
      rcases Int.lt_or_le q 4503599627370496 with cq | cq
      · have tl : t = -1074 := by omega
        have HN := hide (hN.1 (by omega))
        clear hN
        go_wp2
        go_ret
        exact ⟨_, rfl, near_cast (by omega) HN.out, K⟩
      · rcases Int.lt_or_le q 9007199254740992 with cq2 | cq2
        · rcases Int.lt_or_le t 972 with ct | ct
          · have HN := hide (hN.1 (by omega))
            clear hN
            go_wp2
            go_ret
            exact ⟨_, rfl, near_cast (by omega) HN.out, K⟩
          · have HN := hide (hN.2 (by omega))
            clear hN
            go_wp2
            go_ret
            exact ⟨_, rfl, HN.out, K⟩
        · obtain rfl : q = 9007199254740992 := by omega
          rcases Int.lt_or_le t 971 with ct | ct
          · have HN := hide (hN.1 (by omega))
            clear hN
            go_wp2
            go_ret
            exact ⟨_, rfl, near_cast (by omega) HN.out, K⟩
          · have HN := hide (hN.2 (by omega))
            clear hN
            go_wp2
            go_ret
            exact ⟨_, rfl, HN.out, K⟩

end Go.Proofs.YtinfkoiifemjmaaGreatDoor
