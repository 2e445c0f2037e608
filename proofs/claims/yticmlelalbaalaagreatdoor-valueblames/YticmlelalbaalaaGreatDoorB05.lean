import Derived.Test.YticmlelalbaalaaGreatDoorB04
import Derived.Test.YticmlelalbaalaaGreatDoorB03
import Derived.Lib.TrailingZeros
import Derived.Laws.Bits64b
import Derived.Laws.Shifts
namespace Go.Proofs.YticmlelalbaalaaGreatDoor
open Go.RowKit
set_option linter.unusedVariables false
structure Brn (w : World) : Prop where
  at_ : ∀ j, j < 64 → w.cell? ⟨16, j, none⟩ = some (.int .u8 (Lib.deBruijn64tab.getD j 0))
  lt : 16 < w.heap.size
theorem Brn.below {w w' : World} (h : Brn w) (hb : Below w.heap.size w w') : Brn w' := ⟨fun j hj => (hb.cell (p := ⟨16, j, none⟩) h.lt).trans (h.at_ j hj), Nat.lt_of_lt_of_le h.lt hb.size⟩
theorem ret_tup2 {a : Value} {k : IntKind} {x y : Int} (h : x = y) : Ending.returned (.tuple #[a, .int k x]) = .returned (.tuple #[a, .int k y]) := by rw [h]
theorem p2_two (n : Nat) : p2 n = ((2 ^ n : Nat) : Int) := by
  induction n with
  | zero => rfl
  | succ n ih => rw [p2, ih, Nat.pow_succ]; omega
theorem tz_key (x a : Nat) (hx : x < 18446744073709551616) (hx0 : x ≠ 0) (hlow : x &&& (18446744073709551616 - x) = a) :
    IntKind.u64.wrap (bits BinOp.and IntKind.u64 (x : Int) (IntKind.u64.wrap (-(x : Int))) * 285870213051353865) / 288230376151711744 = ((a * 285870213051353865 % 18446744073709551616 / 288230376151711744 : Nat) : Int) := by
  have e1 : IntKind.u64.wrap (-(x : Int)) = ((18446744073709551616 - x : Nat) : Int) := by rw [IntKind.wrap_u64]; omega
  rw [e1, bits_and_u64_nat x _ hx (by omega), hlow, IntKind.wrap_u64]
  omega
set_option maxHeartbeats 1000000 in
theorem tz_core (x k idx : Nat) (w : World) (hx0 : ((x : Int) == 0) = false)
    (key : IntKind.u64.wrap (bits BinOp.and IntKind.u64 (x : Int) (IntKind.u64.wrap (-(x : Int))) * 285870213051353865) / 288230376151711744 = (idx : Int))
    (hi : idx < 64) (hk : k < 64) (hcell : w.cell? ⟨16, idx, none⟩ = some (.int .u8 k)) :
    Calls Tryz.prog 185 #[.int .u64 x] w fun e w' => e = .returned (.int .i64 k) ∧ w' = w := by
  go_enter Tryz.func185, Tryz.ntmps185
  go_wp2_with (simp only [key])
  go_ret
  exact ⟨rfl, rfl⟩
theorem tz_any {w : World} (T : Brn w) (x : Int) (h0 : 0 < x) (h1 : x < 18446744073709551616) : Calls Tryz.prog 185 #[.int .u64 x] w fun e w' => ∃ (k : Nat) (m : Int), e = .returned (.int .i64 k) ∧ k < 64 ∧ x = m * p2 k ∧ m % 2 = 1 ∧ w' = w := by
  obtain ⟨n, rfl⟩ := Int.eq_ofNat_of_zero_le (Int.le_of_lt h0)
  have hn : n < 18446744073709551616 := by omega
  obtain ⟨hlow, hk⟩ := Lib.lowest_bit 64 n (by omega) hn
  obtain ⟨hi, htab⟩ := Lib.deBruijn64_at _ hk
  have hcell := T.at_ _ hi
  rw [htab] at hcell
  obtain ⟨m, hm, _⟩ := Lib.ctzFrom_spec 64 n (by omega) hn
  have hc : Lib.ctz 64 n = Lib.ctzFrom 64 n := by unfold Lib.ctz; rw [if_neg (by omega)]
  refine (tz_core n _ _ w (by simp; omega) (tz_key n _ hn (by omega) hlow) hi hk hcell).mono ?_
  rintro e w' ⟨rfl, rfl⟩
  refine ⟨Lib.ctz 64 n, ((2 * m + 1 : Nat) : Int), rfl, hk, ?_, by omega, rfl⟩
  rw [p2_two, hc, ← Int.natCast_mul, Nat.mul_comm, ← hm]
theorem mask_d (x : Int) (h0 : 0 ≤ x) (h1 : x < 18446744073709551616) : bits .and .u64 x 4503599627370495 = x % 4503599627370496 := by
  rw [u64_and x 4503599627370495 h0 h1 (by decide) (by decide), show (4503599627370495 : Int).toNat = 2 ^ 52 - 1 from rfl, Nat.and_two_pow_sub_one_eq_mod]
  omega
theorem join_d (x : Int) (h0 : 0 ≤ x) (h1 : x < 4503599627370496) : bits .or .u64 x 4503599627370496 = x + 4503599627370496 := by
  rw [u64_or x 4503599627370496 h0 (by omega) (by decide) (by decide), show (4503599627370496 : Int).toNat = 2 ^ 52 from rfl, nat_or (n := 52) (x := x.toNat) (by omega)]
  omega
set_option maxHeartbeats 4000000 in
theorem steps_d (w : World) (s : Int) (h0 : 0 ≤ s) (h1 : s < 9223372036854775808) : Calls Tryz.prog 184 #[.agg #[.int .i64 64, .int .i64 52, .int .i64 (-1074)], .int .u64 s] w fun e w' => e = .returned (.tuple #[.int .u64 (mst 4503599627370496 s), .int .i64 (est 4503599627370496 (-1074) s)]) ∧ Below w.heap.size w w' := by
  have hm := mask_d s h0 (by omega)
  have ho := join_d (s % 4503599627370496) (by omega) (by omega)
  obtain ⟨f, hf⟩ : ∃ f, s % 4503599627370496 = f := ⟨_, rfl⟩
  have f0 : 0 ≤ f := by omega
  have f1 : f < 4503599627370496 := by omega
  rw [hf] at hm ho
  go_enter Tryz.func184, Tryz.ntmps184
  go_upto_region 1 with fail
  have C := cell3_new w (.int .i64 64) (.int .i64 52) (.int .i64 (-1074)) 180
  have K1 := bel_new w (.cells #[.int .i64 64, .int .i64 52, .int .i64 (-1074)] 180)
  generalize w.alloc (.cells #[.int .i64 64, .int .i64 52, .int .i64 (-1074)] 180) = w1 at *
  have K : Below w1.heap.size w1 w1.drew := (Below.refl _ _).drew
  go_region_held3 (fun w' => w'.cell? ⟨w.heap.size, 0, none⟩ = some (.int .i64 64) ∧ w'.cell? ⟨w.heap.size, 1, none⟩ = some (.int .i64 52) ∧ w'.cell? ⟨w.heap.size, 2, none⟩ = some (.int .i64 (-1074)))
    (first
      | with_reducible exact ⟨(C.below K).c0, (C.below K).c1, (C.below K).c2⟩
      | go_keep)
    (first
      | (go_at_call 161; (with_reducible refine (leastNormal_d _).mono ?_); rintro e w2 ⟨rfl, hb⟩; replace K := below_trans K hb; clear hb))
  all_goals (
    simp only [show IntKind.u64.wrap 4503599627370495 = 4503599627370495 from rfl, hm]
    replace C := C.below K
    replace K1 := below_trans K1 K
    clear K
    by_cases a : s < 4503599627370496
    · have q : (s / 4503599627370496 == 0) = true := by simp; omega
      have Hm := hide (show mst 4503599627370496 s = f by unfold mst; rw [if_pos a]; omega)
      have He := hide (show est 4503599627370496 (-1074) s = (-1074) by unfold est; rw [if_pos a])
      clear hf
      have c0 := C.c0
      have c1 := C.c1
      have c2 := C.c2
      go_upto_region 3 with fail
      have K : Below w2.heap.size w2 w2.drew := (Below.refl _ _).drew
      go_region_held3 (fun w' => w'.cell? ⟨w.heap.size, 0, none⟩ = some (.int .i64 64) ∧ w'.cell? ⟨w.heap.size, 1, none⟩ = some (.int .i64 52) ∧ w'.cell? ⟨w.heap.size, 2, none⟩ = some (.int .i64 (-1074)))
        (first
      | with_reducible exact ⟨(C.below K).c0, (C.below K).c1, (C.below K).c2⟩
      | go_keep)
        (fail)
      all_goals go_wp2
      all_goals go_ret2
      all_goals exact ⟨by rw [Hm.out, He.out]; rfl, below_trans K1 K⟩
    · have q : (s / 4503599627370496 == 0) = false := by simp; omega
      have Hm := hide (show mst 4503599627370496 s = f + 4503599627370496 by unfold mst; rw [if_neg a, hf])
      have He := hide (show est 4503599627370496 (-1074) s = (-1074) - 1 + s / 4503599627370496 by unfold est; rw [if_neg a])
      obtain ⟨p, hp⟩ : ∃ p, s / 4503599627370496 = p := ⟨_, rfl⟩
      have p0 : 0 ≤ p := by omega
      have p1 : p < 65536 := by omega
      rw [hp] at q He
      clear hf
      have c0 := C.c0
      have c1 := C.c1
      have c2 := C.c2
      go_upto_region 4 with fail
      have K : Below w2.heap.size w2 w2.drew := (Below.refl _ _).drew
      go_region_held3 (fun w' => w'.cell? ⟨w.heap.size, 0, none⟩ = some (.int .i64 64) ∧ w'.cell? ⟨w.heap.size, 1, none⟩ = some (.int .i64 52) ∧ w'.cell? ⟨w.heap.size, 2, none⟩ = some (.int .i64 (-1074)))
        (first
      | with_reducible exact ⟨(C.below K).c0, (C.below K).c1, (C.below K).c2⟩
      | go_keep)
        (first
          | (go_at_call 161; (with_reducible refine (leastNormal_d _).mono ?_); rintro e w3 ⟨rfl, hb⟩; replace K := below_trans K hb; clear hb))
      all_goals go_wp2
      all_goals go_ret2
      all_goals exact ⟨by rw [Hm.out, He.out]; exact ret_tup2 (by simp only [IntKind.wrap_i64]; omega), below_trans K1 K⟩)
def PartIs (F L I s : Int) (ng a : Bool) (m e : Int) (ok : Bool) : Prop :=
  (I ≤ s → a = false ∧ m = 0 ∧ e = 0 ∧ ok = false) ∧ (s < I → ok = true ∧ a = ng ∧ (s = 0 → m = 0 ∧ e = 0) ∧ (0 < s → m % 2 = 1 ∧ ∃ k : Nat, k < 64 ∧ mst F s = m * p2 k ∧ e = est F L s + k))
theorem odd_unique {m m' : Int} {k k' : Nat} (h : m % 2 = 1) (h' : m' % 2 = 1) (e : m * p2 k = m' * p2 k') : m = m' ∧ k = k' := by
  have key : ∀ {m m' : Int} {k k' : Nat}, m % 2 = 1 → k < k' → m * p2 k = m' * p2 k' → False := by
    intro m m' k k' h hk e
    obtain ⟨d, rfl⟩ := Nat.exists_eq_add_of_lt hk
    rw [show k + d + 1 = (d + 1) + k by omega, p2_add, ← Int.mul_assoc] at e
    have hp := p2_pos k
    have e2 := Int.eq_of_mul_eq_mul_right (by omega) e
    rw [e2, p2, ← Int.mul_assoc, Int.mul_comm m' 2, Int.mul_assoc] at h
    omega
  rcases Nat.lt_trichotomy k k' with c | c | c
  · exact (key h c e).elim
  · subst c
    exact ⟨Int.eq_of_mul_eq_mul_right (by have := p2_pos k; omega) e, rfl⟩
  · exact (key h' c e.symm).elim
theorem PartIs.unique {F L I s : Int} {ng a a' : Bool} {m m' e e' : Int} {ok ok' : Bool} (s0 : 0 ≤ s) (h : PartIs F L I s ng a m e ok) (h' : PartIs F L I s ng a' m' e' ok') : a = a' ∧ m = m' ∧ e = e' ∧ ok = ok' := by
  obtain ⟨h1, h2⟩ := h
  obtain ⟨g1, g2⟩ := h'
  rcases Int.lt_or_le s I with c | c
  · obtain ⟨rfl, rfl, p, q⟩ := h2 c
    obtain ⟨rfl, rfl, p', q'⟩ := g2 c
    rcases Int.lt_or_eq_of_le s0 with d | d
    · obtain ⟨o, k, _, em, ee⟩ := q d
      obtain ⟨o', k', _, em', ee'⟩ := q' d
      obtain ⟨rfl, rfl⟩ := odd_unique o o' (em.symm.trans em')
      exact ⟨rfl, rfl, by omega, rfl⟩
    · obtain ⟨rfl, rfl⟩ := p d.symm
      obtain ⟨rfl, rfl⟩ := p' d.symm
      exact ⟨rfl, rfl, rfl, rfl⟩
  · obtain ⟨rfl, rfl, rfl, rfl⟩ := h1 c
    obtain ⟨rfl, rfl, rfl, rfl⟩ := g1 c
    exact ⟨rfl, rfl, rfl, rfl⟩
theorem mst_range {F s S : Int} (hF : 0 < F) (h0 : 0 < s) (h2 : 2 * F ≤ S) (h1 : s < S) : 0 < mst F s ∧ mst F s < S := by
  unfold mst
  split
  · exact ⟨h0, h1⟩
  · have a := Int.emod_nonneg s (b := F) (by omega)
    have b := Int.emod_lt_of_pos s hF
    omega
theorem quot_p2 {m x : Int} {k : Nat} (h : x = m * p2 k) : x / 2 ^ k = m := by
  rw [h, p2_two]
  simp only [Int.natCast_pow]
  exact Int.mul_ediv_cancel _ (Int.ne_of_gt (Int.pow_pos (by decide)))
set_option maxHeartbeats 4000000 in
theorem parts_64 {w : World} (L : Lays w) (T : Brn w) (x s : Int) (ng : Bool) (h0 : 0 ≤ x) (h1 : x < 18446744073709551616) (hs : x % 9223372036854775808 = s) (hng : ng = decide (9223372036854775808 ≤ x)) : Calls Tryz.prog 162 #[.int .u64 x] w fun e w' => ∃ a m E ok, e = .returned (.tuple #[.bool a, .int .u64 m, .int .i64 E, .bool ok]) ∧ PartIs 4503599627370496 (-1074) 9218868437227405312 s ng a m E ok ∧ Below w.heap.size w w' := by
  have s0 : 0 ≤ s := by omega
  have s1 : s < 9223372036854775808 := by omega
  have hx : (s == x) = !ng := by
    subst hng
    by_cases c : 9223372036854775808 ≤ x
    · rw [decide_eq_true c]; simp; omega
    · rw [decide_eq_false c]; simp; omega
  have hx2 : (s != x) = ng := by rw [bne, hx]; simp
  go_enter Tryz.func162, Tryz.ntmps162
  go_wp2_with fail
  with_reducible refine (layoutOf_64 L).mono ?_
  rintro e w1 ⟨rfl, K1⟩
  go_upto_region 2 with fail
  have C := cell3_new w1 (.int .i64 64) (.int .i64 52) (.int .i64 (-1074)) 180
  have K2 := below_trans K1 (bel_new w1 (.cells #[.int .i64 64, .int .i64 52, .int .i64 (-1074)] 180))
  generalize w1.alloc (.cells #[.int .i64 64, .int .i64 52, .int .i64 (-1074)] 180) = w2 at *
  have c0 := C.c0; have c1 := C.c1; have c2 := C.c2
  go_wp2_with fail
  with_reducible refine (size_d _ x s h0 h1 hs).mono ?_
  rintro e w3 ⟨rfl, b3⟩
  clear c0 c1 c2
  replace C := C.below b3
  replace K2 := below_trans K2 b3
  clear b3
  clear hs hng
  have c0 := C.c0; have c1 := C.c1; have c2 := C.c2
  go_wp2_with fail
  with_reducible refine (infinite_d _).mono ?_
  rintro e w4 ⟨rfl, b4⟩
  clear c0 c1 c2
  replace C := C.below b4
  replace K2 := below_trans K2 b4
  clear b4
  by_cases a1 : 9218868437227405312 ≤ s
  · have HP : PartIs 4503599627370496 (-1074) 9218868437227405312 s ng false 0 0 false := ⟨fun _ => ⟨rfl, rfl, rfl, rfl⟩, fun h => by omega⟩
    clear hx hx2
    go_wp2
    (try simp only [Exit.inBlock, Exit.then])
    exact bodyPost_ret (v := .tuple #[.bool false, .int .u64 0, .int .i64 0, .bool false]) (by simp [results, Tryz.results162, go_sem]) rfl ⟨_, _, _, _, rfl, HP, K2⟩
  by_cases a2 : s = 0
  · have HP : PartIs 4503599627370496 (-1074) 9218868437227405312 s ng ng 0 0 true := ⟨fun h => by omega, fun _ => ⟨rfl, rfl, fun _ => ⟨rfl, rfl⟩, fun h => by omega⟩⟩
    have a2' : (s == 0) = true := by simp [a2]
    have HPP := hide HP
    clear a2 HP
    go_wp2
    (try simp only [Exit.inBlock, Exit.then])
    exact bodyPost_ret (v := .tuple #[.bool ng, .int .u64 0, .int .i64 0, .bool true]) (by simp [results, Tryz.results162, go_sem]) rfl ⟨_, _, _, _, rfl, HPP.out, K2⟩
  have a2' : (s == 0) = false := by simp [a2]
  have c0 := C.c0; have c1 := C.c1; have c2 := C.c2
  go_wp2_with fail
  with_reducible refine (steps_d _ s s0 s1).mono ?_
  rintro e w5 ⟨rfl, b5⟩
  clear c0 c1 c2
  replace C := C.below b5
  replace K2 := below_trans K2 b5
  clear b5
  obtain ⟨m0, m1⟩ := mst_range (F := 4503599627370496) (s := s) (S := 9223372036854775808) (by decide) (by omega) (by decide) s1
  obtain ⟨g0, g1⟩ : -1074 ≤ est 4503599627370496 (-1074) s ∧ est 4503599627370496 (-1074) s < 65536 := by unfold est; split <;> omega
  generalize hM : mst 4503599627370496 s = mm at *
  generalize hE : est 4503599627370496 (-1074) s = ee at *
  have HM := hide hM
  have HE := hide hE
  clear hM hE
  go_wp2_with fail
  with_reducible refine (tz_any (T.below K2) mm (by omega) (by omega)).mono ?_
  rintro e w6 ⟨k, m, rfl, k64, hmk, modd, rfl⟩
  have HP : PartIs 4503599627370496 (-1074) 9218868437227405312 s ng ng m (ee + k) true := ⟨fun h => by omega, fun _ => ⟨rfl, rfl, fun h => by omega, fun _ => ⟨modd, k, k64, by rw [HM.out]; exact hmk, by rw [HE.out]⟩⟩⟩
  have hq := quot_p2 hmk
  have hmin : min k 64 = k := by omega
  have Hmk := hide hmk
  have Hodd := hide modd
  have HPP := hide HP
  have kk : (0 : Int) ≤ (k : Int) := by omega
  have hwr : IntKind.i64.wrap (ee + k) = ee + k := by rw [IntKind.wrap_i64]; omega
  clear hmk HP modd HM HE
  go_upto_region 10 with fail
  have K : Below w6.heap.size w6 w6.drew := (Below.refl _ _).drew
  go_region_held3 (fun _ => True)
    (trivial)
    (fail)
  all_goals (
    replace K2 := below_trans K2 K
    clear K)
  all_goals go_wp2
  all_goals (try simp only [Exit.inBlock, Exit.then])
  all_goals exact bodyPost_ret (v := .tuple #[.bool ng, .int .u64 m, .int .i64 (ee + k), .bool true]) (by simp [results, Tryz.results162, go_sem]) rfl ⟨_, _, _, _, rfl, HPP.out, K2⟩
end Go.Proofs.YticmlelalbaalaaGreatDoor
