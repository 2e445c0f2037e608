/- IeeeP, SB, SRisesM -/
import Derived.Test.YtinfkoiifemjmaaGreatDoorS10
import Derived.Test.YtinfkoiifemjmaaGreatDoorS03
import Derived.Lib.TrailingZeros
import Derived.Laws.Bits64b
import Derived.Laws.Shifts
import Derived.Test.YtinfkoiifemjmaaGreatDoorS02
import Derived.Laws.BytesArg
namespace Go.Proofs.YtinfkoiifemjmaaGreatDoor
open Go.RowKit
set_option linter.unusedVariables false

/-- the table of the trailing noughts, as its text lays it -/
structure Brn (w : World) : Prop where
  at_ : ∀ j, j < 64 → w.cell? ⟨13, j, none⟩ = some (.int .u8 (Lib.deBruijn64tab.getD j 0))
  lt : 13 < w.heap.size
theorem Brn.below {w w' : World} (h : Brn w) (hb : Below w.heap.size w w') : Brn w' := ⟨fun j hj => (hb.cell (p := ⟨13, j, none⟩) h.lt).trans (h.at_ j hj), Nat.lt_of_lt_of_le h.lt hb.size⟩
theorem ret_tup2 {a : Value} {k : IntKind} {x y : Int} (h : x = y) : Ending.returned (.tuple #[a, .int k x]) = .returned (.tuple #[a, .int k y]) := by rw [h]
theorem p2_two (n : Nat) : p2 n = ((2 ^ n : Nat) : Int) := by
  induction n with
  | zero => rfl
  | succ n ih => rw [p2, ih, Nat.pow_succ]; omega
theorem tz_key (x a : Nat) (hx : x < 18446744073709551616) (hx0 : x ≠ 0) (hlow : x &&& (18446744073709551616 - x) = a) :
    IntKind.u64.wrap (bits BinOp.and IntKind.u64 (x : Int) (IntKind.u64.wrap (-(x : Int))) * 285870213051353865) / 288230376151711744 = ((a * 285870213051353865 % 18446744073709551616 / 288230376151711744 : Nat) : Int) := by
  have e1 : IntKind.u64.wrap (-(x : Int)) = ((18446744073709551616 - x : Nat) : Int) := by rw [IntKind.wrap_u64]; omega
  rw [e1, bits_and_u64_nat x _ hx (by omega), hlow, IntKind.wrap_u64]
  omega
set_option maxHeartbeats 1000000 in
theorem tz_core (x k idx : Nat) (w : World) (hx0 : ((x : Int) == 0) = false)
    (key : IntKind.u64.wrap (bits BinOp.and IntKind.u64 (x : Int) (IntKind.u64.wrap (-(x : Int))) * 285870213051353865) / 288230376151711744 = (idx : Int))
    (hi : idx < 64) (hk : k < 64) (hcell : w.cell? ⟨13, idx, none⟩ = some (.int .u8 k)) :
    Calls Tryz.prog 107 #[.int .u64 x] w fun e w' => e = .returned (.int .i64 k) ∧ w' = w := by
  go_enter Tryz.func107, Tryz.ntmps107
  go_wp2_with (simp only [key])
  go_ret
  exact ⟨rfl, rfl⟩
theorem tz_any {w : World} (T : Brn w) (x : Int) (h0 : 0 < x) (h1 : x < 18446744073709551616) : Calls Tryz.prog 107 #[.int .u64 x] w fun e w' => ∃ (k : Nat) (m : Int), e = .returned (.int .i64 k) ∧ k < 64 ∧ x = m * p2 k ∧ m % 2 = 1 ∧ w' = w := by
  obtain ⟨n, rfl⟩ := Int.eq_ofNat_of_zero_le (Int.le_of_lt h0)
  have hn : n < 18446744073709551616 := by omega
  obtain ⟨hlow, hk⟩ := Lib.lowest_bit 64 n (by omega) hn
  obtain ⟨hi, htab⟩ := Lib.deBruijn64_at _ hk
  have hcell := T.at_ _ hi
  rw [htab] at hcell
  obtain ⟨m, hm, _⟩ := Lib.ctzFrom_spec 64 n (by omega) hn
  have hc : Lib.ctz 64 n = Lib.ctzFrom 64 n := by unfold Lib.ctz; rw [if_neg (by omega)]
  refine (tz_core n _ _ w (by simp; omega) (tz_key n _ hn (by omega) hlow) hi hk hcell).mono ?_
  rintro e w' ⟨rfl, rfl⟩
  refine ⟨Lib.ctz 64 n, ((2 * m + 1 : Nat) : Int), rfl, hk, ?_, by omega, rfl⟩
  rw [p2_two, hc, ← Int.natCast_mul, Nat.mul_comm, ← hm]

theorem mask_d (x : Int) (h0 : 0 ≤ x) (h1 : x < 18446744073709551616) : bits .and .u64 x 4503599627370495 = x % 4503599627370496 := by
  rw [u64_and x 4503599627370495 h0 h1 (by decide) (by decide), show (4503599627370495 : Int).toNat = 2 ^ 52 - 1 from rfl, Nat.and_two_pow_sub_one_eq_mod]
  omega
theorem join_d (x : Int) (h0 : 0 ≤ x) (h1 : x < 4503599627370496) : bits .or .u64 x 4503599627370496 = x + 4503599627370496 := by
  rw [u64_or x 4503599627370496 h0 (by omega) (by decide) (by decide), show (4503599627370496 : Int).toNat = 2 ^ 52 from rfl, nat_or (n := 52) (x := x.toNat) (by omega)]
  omega

set_option maxHeartbeats 4000000 in
theorem steps_d (w : World) (s : Int) (h0 : 0 ≤ s) (h1 : s < 9223372036854775808) : Calls Tryz.prog 106 #[.agg #[.int .i64 64, .int .i64 52, .int .i64 (-1074)], .int .u64 s] w fun e w' => e = .returned (.tuple #[.int .u64 (mst 4503599627370496 s), .int .i64 (est 4503599627370496 (-1074) s)]) ∧ Below w.heap.size w w' := by
  have hm := mask_d s h0 (by omega)
  have ho := join_d (s % 4503599627370496) (by omega) (by omega)
  obtain ⟨f, hf⟩ : ∃ f, s % 4503599627370496 = f := ⟨_, rfl⟩
  have f0 : 0 ≤ f := by omega
  have f1 : f < 4503599627370496 := by omega
  rw [hf] at hm ho
  go_enter Tryz.func106, Tryz.ntmps106
  go_upto_region 1 with fail
  have C := cell3_new w (.int .i64 64) (.int .i64 52) (.int .i64 (-1074)) 80
  have K1 := bel_new w (.cells #[.int .i64 64, .int .i64 52, .int .i64 (-1074)] 80)
  generalize w.alloc (.cells #[.int .i64 64, .int .i64 52, .int .i64 (-1074)] 80) = w1 at *
  have K : Below w1.heap.size w1 w1.drew := (Below.refl _ _).drew
  go_region_held3 (fun w' => w'.cell? ⟨w.heap.size, 0, none⟩ = some (.int .i64 64) ∧ w'.cell? ⟨w.heap.size, 1, none⟩ = some (.int .i64 52) ∧ w'.cell? ⟨w.heap.size, 2, none⟩ = some (.int .i64 (-1074)))
    (first
      | with_reducible exact ⟨(C.below K).c0, (C.below K).c1, (C.below K).c2⟩
      | go_keep)
    (first
      | (go_at_call 44; (with_reducible refine (leastNormal_d _).mono ?_); rintro e w2 ⟨rfl, hb⟩; replace K := below_trans K hb; clear hb))
  all_goals (
    simp only [show IntKind.u64.wrap 4503599627370495 = 4503599627370495 from rfl, hm]
    replace C := C.below K
    replace K1 := below_trans K1 K
    clear K
    by_cases a : s < 4503599627370496
    · have q : (s / 4503599627370496 == 0) = true := by simp; omega
      have Hm := hide (show mst 4503599627370496 s = f by unfold mst; rw [if_pos a]; omega)
      have He := hide (show est 4503599627370496 (-1074) s = (-1074) by unfold est; rw [if_pos a])
      clear hf
      have c0 := C.c0
      have c1 := C.c1
      have c2 := C.c2
      go_upto_region 3 with fail
      have K : Below w2.heap.size w2 w2.drew := (Below.refl _ _).drew
      go_region_held3 (fun w' => w'.cell? ⟨w.heap.size, 0, none⟩ = some (.int .i64 64) ∧ w'.cell? ⟨w.heap.size, 1, none⟩ = some (.int .i64 52) ∧ w'.cell? ⟨w.heap.size, 2, none⟩ = some (.int .i64 (-1074)))
        (first
      | with_reducible exact ⟨(C.below K).c0, (C.below K).c1, (C.below K).c2⟩
      | go_keep)
        (fail)
      all_goals go_wp2
      all_goals go_ret2
      all_goals exact ⟨by rw [Hm.out, He.out]; rfl, below_trans K1 K⟩
    · have q : (s / 4503599627370496 == 0) = false := by simp; omega
      have Hm := hide (show mst 4503599627370496 s = f + 4503599627370496 by unfold mst; rw [if_neg a, hf])
      have He := hide (show est 4503599627370496 (-1074) s = (-1074) - 1 + s / 4503599627370496 by unfold est; rw [if_neg a])
      obtain ⟨p, hp⟩ : ∃ p, s / 4503599627370496 = p := ⟨_, rfl⟩
      have p0 : 0 ≤ p := by omega
      have p1 : p < 65536 := by omega
      rw [hp] at q He
      clear hf
      have c0 := C.c0
      have c1 := C.c1
      have c2 := C.c2
      go_upto_region 4 with fail
      have K : Below w2.heap.size w2 w2.drew := (Below.refl _ _).drew
      go_region_held3 (fun w' => w'.cell? ⟨w.heap.size, 0, none⟩ = some (.int .i64 64) ∧ w'.cell? ⟨w.heap.size, 1, none⟩ = some (.int .i64 52) ∧ w'.cell? ⟨w.heap.size, 2, none⟩ = some (.int .i64 (-1074)))
        (first
      | with_reducible exact ⟨(C.below K).c0, (C.below K).c1, (C.below K).c2⟩
      | go_keep)
        (first
          | (go_at_call 44; (with_reducible refine (leastNormal_d _).mono ?_); rintro e w3 ⟨rfl, hb⟩; replace K := below_trans K hb; clear hb))
      all_goals go_wp2
      all_goals go_ret2
      all_goals exact ⟨by rw [Hm.out, He.out]; exact ret_tup2 (by simp only [IntKind.wrap_i64]; omega), below_trans K1 K⟩)

/-- what Parts tells of a pattern: of its size s, and whether it has the sign bit -/
def PartIs (F L I s : Int) (ng a : Bool) (m e : Int) (ok : Bool) : Prop :=
  (I ≤ s → a = false ∧ m = 0 ∧ e = 0 ∧ ok = false) ∧ (s < I → ok = true ∧ a = ng ∧ (s = 0 → m = 0 ∧ e = 0) ∧ (0 < s → m % 2 = 1 ∧ ∃ k : Nat, k < 64 ∧ mst F s = m * p2 k ∧ e = est F L s + k))
theorem odd_unique {m m' : Int} {k k' : Nat} (h : m % 2 = 1) (h' : m' % 2 = 1) (e : m * p2 k = m' * p2 k') : m = m' ∧ k = k' := by
  have key : ∀ {m m' : Int} {k k' : Nat}, m % 2 = 1 → k < k' → m * p2 k = m' * p2 k' → False := by
    intro m m' k k' h hk e
    obtain ⟨d, rfl⟩ := Nat.exists_eq_add_of_lt hk
    rw [show k + d + 1 = (d + 1) + k by omega, p2_add, ← Int.mul_assoc] at e
    have hp := p2_pos k
    have e2 := Int.eq_of_mul_eq_mul_right (by omega) e
    rw [e2, p2, ← Int.mul_assoc, Int.mul_comm m' 2, Int.mul_assoc] at h
    omega
  rcases Nat.lt_trichotomy k k' with c | c | c
  · exact (key h c e).elim
  · subst c
    exact ⟨Int.eq_of_mul_eq_mul_right (by have := p2_pos k; omega) e, rfl⟩
  · exact (key h' c e.symm).elim
theorem PartIs.unique {F L I s : Int} {ng a a' : Bool} {m m' e e' : Int} {ok ok' : Bool} (s0 : 0 ≤ s) (h : PartIs F L I s ng a m e ok) (h' : PartIs F L I s ng a' m' e' ok') : a = a' ∧ m = m' ∧ e = e' ∧ ok = ok' := by
  obtain ⟨h1, h2⟩ := h
  obtain ⟨g1, g2⟩ := h'
  rcases Int.lt_or_le s I with c | c
  · obtain ⟨rfl, rfl, p, q⟩ := h2 c
    obtain ⟨rfl, rfl, p', q'⟩ := g2 c
    rcases Int.lt_or_eq_of_le s0 with d | d
    · obtain ⟨o, k, _, em, ee⟩ := q d
      obtain ⟨o', k', _, em', ee'⟩ := q' d
      obtain ⟨rfl, rfl⟩ := odd_unique o o' (em.symm.trans em')
      exact ⟨rfl, rfl, by omega, rfl⟩
    · obtain ⟨rfl, rfl⟩ := p d.symm
      obtain ⟨rfl, rfl⟩ := p' d.symm
      exact ⟨rfl, rfl, rfl, rfl⟩
  · obtain ⟨rfl, rfl, rfl, rfl⟩ := h1 c
    obtain ⟨rfl, rfl, rfl, rfl⟩ := g1 c
    exact ⟨rfl, rfl, rfl, rfl⟩
theorem mst_range {F s S : Int} (hF : 0 < F) (h0 : 0 < s) (h2 : 2 * F ≤ S) (h1 : s < S) : 0 < mst F s ∧ mst F s < S := by
  unfold mst
  split
  · exact ⟨h0, h1⟩
  · have a := Int.emod_nonneg s (b := F) (by omega)
    have b := Int.emod_lt_of_pos s hF
    omega
theorem quot_p2 {m x : Int} {k : Nat} (h : x = m * p2 k) : x / 2 ^ k = m := by
  rw [h, p2_two]
  simp only [Int.natCast_pow]
  exact Int.mul_ediv_cancel _ (Int.ne_of_gt (Int.pow_pos (by decide)))

set_option maxHeartbeats 4000000 in
theorem parts_64 {w : World} (L : Lays w) (T : Brn w) (x s : Int) (ng : Bool) (h0 : 0 ≤ x) (h1 : x < 18446744073709551616) (hs : x % 9223372036854775808 = s) (hng : ng = decide (9223372036854775808 ≤ x)) : Calls Tryz.prog 68 #[.int .u64 x] w fun e w' => ∃ a m E ok, e = .returned (.tuple #[.bool a, .int .u64 m, .int .i64 E, .bool ok]) ∧ PartIs 4503599627370496 (-1074) 9218868437227405312 s ng a m E ok ∧ Below w.heap.size w w' := by
  have s0 : 0 ≤ s := by omega
  have s1 : s < 9223372036854775808 := by omega
  have hx : (s == x) = !ng := by
    subst hng
    by_cases c : 9223372036854775808 ≤ x
    · rw [decide_eq_true c]; simp; omega
    · rw [decide_eq_false c]; simp; omega
  have hx2 : (s != x) = ng := by rw [bne, hx]; simp
  go_enter Tryz.func68, Tryz.ntmps68
  go_wp2_with fail
  with_reducible refine (layoutOf_64 L).mono ?_
  rintro e w1 ⟨rfl, K1⟩
  go_upto_region 2 with fail
  have C := cell3_new w1 (.int .i64 64) (.int .i64 52) (.int .i64 (-1074)) 80
  have K2 := below_trans K1 (bel_new w1 (.cells #[.int .i64 64, .int .i64 52, .int .i64 (-1074)] 80))
  generalize w1.alloc (.cells #[.int .i64 64, .int .i64 52, .int .i64 (-1074)] 80) = w2 at *
  have c0 := C.c0; have c1 := C.c1; have c2 := C.c2
  go_wp2_with fail
  with_reducible refine (size_d _ x s h0 h1 hs).mono ?_
  rintro e w3 ⟨rfl, b3⟩
  clear c0 c1 c2
  replace C := C.below b3
  replace K2 := below_trans K2 b3
  clear b3
  clear hs hng
  have c0 := C.c0; have c1 := C.c1; have c2 := C.c2
  go_wp2_with fail
  with_reducible refine (infinite_d _).mono ?_
  rintro e w4 ⟨rfl, b4⟩
  clear c0 c1 c2
  replace C := C.below b4
  replace K2 := below_trans K2 b4
  clear b4
  by_cases a1 : 9218868437227405312 ≤ s
  · have HP : PartIs 4503599627370496 (-1074) 9218868437227405312 s ng false 0 0 false := ⟨fun _ => ⟨rfl, rfl, rfl, rfl⟩, fun h => by omega⟩
    clear hx hx2
    go_wp2
    (try simp only [Exit.inBlock, Exit.then])
    exact bodyPost_ret (v := .tuple #[.bool false, .int .u64 0, .int .i64 0, .bool false]) (by simp [results, Tryz.results68, go_sem]) rfl ⟨_, _, _, _, rfl, HP, K2⟩
  by_cases a2 : s = 0
  · have HP : PartIs 4503599627370496 (-1074) 9218868437227405312 s ng ng 0 0 true := ⟨fun h => by omega, fun _ => ⟨rfl, rfl, fun _ => ⟨rfl, rfl⟩, fun h => by omega⟩⟩
    have a2' : (s == 0) = true := by simp [a2]
    have HPP := hide HP
    clear a2 HP
    go_wp2
    (try simp only [Exit.inBlock, Exit.then])
    exact bodyPost_ret (v := .tuple #[.bool ng, .int .u64 0, .int .i64 0, .bool true]) (by simp [results, Tryz.results68, go_sem]) rfl ⟨_, _, _, _, rfl, HPP.out, K2⟩
  have a2' : (s == 0) = false := by simp [a2]
  have c0 := C.c0; have c1 := C.c1; have c2 := C.c2
  go_wp2_with fail
  with_reducible refine (steps_d _ s s0 s1).mono ?_
  rintro e w5 ⟨rfl, b5⟩
  clear c0 c1 c2
  replace C := C.below b5
  replace K2 := below_trans K2 b5
  clear b5
  obtain ⟨m0, m1⟩ := mst_range (F := 4503599627370496) (s := s) (S := 9223372036854775808) (by decide) (by omega) (by decide) s1
  obtain ⟨g0, g1⟩ : -1074 ≤ est 4503599627370496 (-1074) s ∧ est 4503599627370496 (-1074) s < 65536 := by unfold est; split <;> omega
  generalize hM : mst 4503599627370496 s = mm at *
  generalize hE : est 4503599627370496 (-1074) s = ee at *
  have HM := hide hM
  have HE := hide hE
  clear hM hE
  go_wp2_with fail
  with_reducible refine (tz_any (T.below K2) mm (by omega) (by omega)).mono ?_
  rintro e w6 ⟨k, m, rfl, k64, hmk, modd, rfl⟩
  have HP : PartIs 4503599627370496 (-1074) 9218868437227405312 s ng ng m (ee + k) true := ⟨fun h => by omega, fun _ => ⟨rfl, rfl, fun h => by omega, fun _ => ⟨modd, k, k64, by rw [HM.out]; exact hmk, by rw [HE.out]⟩⟩⟩
  have hq := quot_p2 hmk
  have hmin : min k 64 = k := by omega
  have Hmk := hide hmk
  have Hodd := hide modd
  have HPP := hide HP
  have kk : (0 : Int) ≤ (k : Int) := by omega
  have hwr : IntKind.i64.wrap (ee + k) = ee + k := by rw [IntKind.wrap_i64]; omega
  clear hmk HP modd HM HE
  go_upto_region 10 with fail
  have K : Below w6.heap.size w6 w6.drew := (Below.refl _ _).drew
  go_region_held3 (fun _ => True)
    (trivial)
    (fail)
  all_goals (
    replace K2 := below_trans K2 K
    clear K)
  all_goals go_wp2
  all_goals (try simp only [Exit.inBlock, Exit.then])
  all_goals exact bodyPost_ret (v := .tuple #[.bool ng, .int .u64 m, .int .i64 (ee + k), .bool true]) (by simp [results, Tryz.results68, go_sem]) rfl ⟨_, _, _, _, rfl, HPP.out, K2⟩

end Go.Proofs.YtinfkoiifemjmaaGreatDoor

namespace Go.Proofs.YtinfkoiifemjmaaGreatDoor
set_option linter.unusedVariables false

/-- within reach: between the ends, and the ends themselves of an even one -/
def Inn (Lo Hi : Int) (ends : Prop) (x : Int) : Prop := (Lo < x ∧ x < Hi) ∨ (ends ∧ (x = Lo ∨ x = Hi))
/-- one more is closer, or as close and even -/
def Cls (V t C : Int) : Prop := (2 * C + 1) * t < 2 * V ∨ ((2 * C + 1) * t = 2 * V ∧ C % 2 = 1)
/-- with steps of t neither is within reach -/
def Out (V Lo Hi : Int) (ends : Prop) (t : Int) : Prop := ¬ Inn Lo Hi ends (V / t * t) ∧ ¬ Inn Lo Hi ends ((V / t + 1) * t)
/-- with steps of t this one is taken -/
def Pick (V Lo Hi : Int) (ends : Prop) (t c : Int) : Prop :=
  (c = V / t ∧ Inn Lo Hi ends (V / t * t) ∧ ¬ (Inn Lo Hi ends ((V / t + 1) * t) ∧ Cls V t (V / t))) ∨
  (c = V / t + 1 ∧ Inn Lo Hi ends ((V / t + 1) * t) ∧ (¬ Inn Lo Hi ends (V / t * t) ∨ Cls V t (V / t)))

/-- 10 to the power of q, in units -/
def TT (G q : Int) : Int := 10 ^ (q + 500).toNat * G

theorem ten_pos (n : Nat) : (0 : Int) < 10 ^ n := Int.pow_pos (by decide)
theorem TT_pos {G : Int} (hG : 0 < G) (q : Int) : 0 < TT G q := Int.mul_pos (ten_pos _) hG
theorem TT_succ {G q : Int} (h : -500 ≤ q) : TT G (q + 1) = 10 * TT G q := by
  unfold TT
  rw [show (q + 1 + 500).toNat = (q + 500).toNat + 1 by omega, Int.pow_succ, Int.mul_comm _ 10, Int.mul_assoc]
theorem TT_add {G q : Int} (h : -500 ≤ q) (n : Nat) : TT G (q + n) = 10 ^ n * TT G q := by
  unfold TT
  rw [show (q + n + 500).toNat = n + (q + 500).toNat by omega, Int.pow_add, Int.mul_assoc]
theorem TT_mono {G a b : Int} (hG : 0 < G) (h : a ≤ b) : TT G a ≤ TT G b := by
  unfold TT
  refine Int.mul_le_mul_of_nonneg_right ?_ (Int.le_of_lt hG)
  obtain ⟨d, hd⟩ : ∃ d, (b + 500).toNat = (a + 500).toNat + d := ⟨(b + 500).toNat - (a + 500).toNat, by omega⟩
  rw [hd, Int.pow_add]
  have := ten_pos d
  have h2 := ten_pos (a + 500).toNat
  have h3 : (10 : Int) ^ (a + 500).toNat * 1 ≤ 10 ^ (a + 500).toNat * 10 ^ d := Int.mul_le_mul_of_nonneg_left (by omega) (by omega)
  omega
theorem TT_lt {G a b : Int} (hG : 0 < G) (h : TT G a < TT G b) : a < b := by
  rcases Int.lt_or_le a b with g | g
  · exact g
  · have := TT_mono hG g; omega

/-- the answer: the least number of digits, and the digits as one number -/
structure Sh (V Lo Hi : Int) (ends : Prop) (G p : Int) (k : Nat) (c : Int) : Prop where
  lo : TT G (p - 1) ≤ V
  hi : V < TT G p
  k1 : 1 ≤ k
  out : ∀ j : Nat, 1 ≤ j → j < k → Out V Lo Hi ends (TT G (p - j))
  pick : Pick V Lo Hi ends (TT G (p - k)) c

theorem Pick.not_out {V Lo Hi t c : Int} {ends : Prop} (h : Pick V Lo Hi ends t c) : ¬ Out V Lo Hi ends t := by
  rintro ⟨a, b⟩
  rcases h with ⟨_, h, _⟩ | ⟨_, h, _⟩
  · exact a h
  · exact b h
theorem Pick.unique {V Lo Hi t c c' : Int} {ends : Prop} (h : Pick V Lo Hi ends t c) (h' : Pick V Lo Hi ends t c') : c = c' := by
  rcases h with ⟨e, h1, h2⟩ | ⟨e, h1, h2⟩ <;> rcases h' with ⟨e', g1, g2⟩ | ⟨e', g1, g2⟩
  · omega
  · exfalso
    rcases g2 with g2 | g2
    · exact g2 h1
    · exact h2 ⟨g1, g2⟩
  · exfalso
    rcases h2 with h2 | h2
    · exact h2 g1
    · exact g2 ⟨h1, h2⟩
  · omega
theorem Sh.p_unique {V Lo Hi Lo' Hi' G p p' c c' : Int} {ends ends' : Prop} {k k' : Nat} (hG : 0 < G) (h : Sh V Lo Hi ends G p k c) (h' : Sh V Lo' Hi' ends' G p' k' c') : p = p' := by
  have a := TT_lt hG (Int.lt_of_le_of_lt h.lo h'.hi)
  have b := TT_lt hG (Int.lt_of_le_of_lt h'.lo h.hi)
  omega
theorem Sh.unique {V Lo Hi G p p' c c' : Int} {ends : Prop} {k k' : Nat} (hG : 0 < G) (h : Sh V Lo Hi ends G p k c) (h' : Sh V Lo Hi ends G p' k' c') : p = p' ∧ k = k' ∧ c = c' := by
  obtain rfl := h.p_unique hG h'
  have hk : k = k' := by
    rcases Nat.lt_trichotomy k k' with g | g | g
    · exact absurd (h'.out k h.k1 g) h.pick.not_out
    · exact g
    · exact absurd (h.out k' h'.k1 g) h'.pick.not_out
  subst hk
  exact ⟨rfl, rfl, h.pick.unique h'.pick⟩

/-- what the making of digits keeps: n is left of the number, b and a the reach, told in parts of which O make up a step of t -/
structure St (V Lo Hi t O n b a : Int) : Prop where
  hn : n * t = (V - V / t * t) * O
  hb : b * t = (V - Lo) * O
  ha : a * t = (Hi - V) * O
theorem lt_scale {x y t : Int} (ht : 0 < t) : x * t < y * t ↔ x < y := by
  constructor
  · exact fun h => Int.lt_of_mul_lt_mul_right h (Int.le_of_lt ht)
  · exact fun h => Int.mul_lt_mul_of_pos_right h ht
theorem eq_scale {x y t : Int} (ht : 0 < t) : x * t = y * t ↔ x = y := by
  constructor
  · exact fun h => Int.eq_of_mul_eq_mul_right (by omega) h
  · rintro rfl; rfl
theorem St.rem {V Lo Hi t O n b a : Int} (h : St V Lo Hi t O n b a) (ht : 0 < t) (hO : 0 < O) : 0 ≤ n ∧ n < O := by
  have h1 := Int.emod_nonneg V (b := t) (by omega)
  have h2 := Int.emod_lt_of_pos V ht
  have h3 := Int.mul_ediv_add_emod V t
  rw [Int.mul_comm] at h3
  have e : V - V / t * t = V % t := by omega
  have hn := h.hn
  rw [e] at hn
  constructor
  · have : 0 * t ≤ n * t := by rw [hn, Int.zero_mul]; exact Int.mul_nonneg h1 (by omega)
    exact Int.le_of_mul_le_mul_right this ht
  · rw [← lt_scale ht, hn, Int.mul_comm O t]
    exact Int.mul_lt_mul_of_pos_right h2 hO
theorem St.down {V Lo Hi t O n b a : Int} (h : St V Lo Hi t O n b a) (ht : 0 < t) (hO : 0 < O) : (n < b ↔ Lo < V / t * t) ∧ (n = b ↔ V / t * t = Lo) := by
  constructor
  · rw [← lt_scale ht, h.hn, h.hb, lt_scale hO]; omega
  · rw [← eq_scale ht, h.hn, h.hb, eq_scale hO]; omega
theorem St.up {V Lo Hi t O n b a : Int} (h : St V Lo Hi t O n b a) (ht : 0 < t) (hO : 0 < O) : (O < n + a ↔ (V / t + 1) * t < Hi) ∧ (n + a = O ↔ (V / t + 1) * t = Hi) := by
  have e : (n + a) * t = (Hi - V / t * t) * O := by rw [Int.add_mul, h.hn, h.ha, ← Int.add_mul]; congr 1; omega
  have f : O * t = t * O := Int.mul_comm _ _
  have g : (V / t + 1) * t = V / t * t + t := by rw [Int.add_mul, Int.one_mul]
  rw [g]
  constructor
  · rw [← lt_scale ht, e, f, lt_scale hO]; omega
  · rw [← eq_scale ht, e, f, eq_scale hO]; omega
theorem St.closer {V Lo Hi t O n b a : Int} (h : St V Lo Hi t O n b a) (ht : 0 < t) (hO : 0 < O) : (O < n + n ↔ (2 * (V / t) + 1) * t < 2 * V) ∧ (n + n = O ↔ (2 * (V / t) + 1) * t = 2 * V) := by
  have e : (n + n) * t = (2 * V - 2 * (V / t * t)) * O := by rw [Int.add_mul, h.hn, ← Int.add_mul]; congr 1; omega
  have f : O * t = t * O := Int.mul_comm _ _
  have g : (2 * (V / t) + 1) * t = 2 * (V / t * t) + t := by rw [Int.add_mul, Int.one_mul, Int.mul_assoc]
  rw [g]
  constructor
  · rw [← lt_scale ht, e, f, lt_scale hO]; omega
  · rw [← eq_scale ht, e, f, eq_scale hO]; omega
/-- a digit more -/
theorem St.next {V Lo Hi t u O n b a : Int} (h : St V Lo Hi t O n b a) (hu : 0 < u) (htu : t = 10 * u) (hO : 0 < O) :
    St V Lo Hi u O (10 * n % O) (10 * b) (10 * a) ∧ V / u = 10 * (V / t) + 10 * n / O ∧ 0 ≤ 10 * n / O ∧ 10 * n / O ≤ 9 := by
  obtain ⟨r0, r1⟩ := h.rem (by omega) hO
  have q0 : 0 ≤ 10 * n / O := Int.ediv_nonneg (by omega) (by omega)
  have q1 : 10 * n / O ≤ 9 := by
    have : 10 * n / O < 10 := by rw [Int.ediv_lt_iff_lt_mul hO]; omega
    omega
  have hd := Int.mul_ediv_add_emod (10 * n) O
  have m0 := Int.emod_nonneg (10 * n) (b := O) (by omega)
  have m1 := Int.emod_lt_of_pos (10 * n) hO
  generalize 10 * n / O = d at *
  generalize 10 * n % O = m at *
  have hn := h.hn
  generalize hC : V / t = C at *
  have k1 : m * u = (V - (10 * C + d) * u) * O := by
    have e1 : m = 10 * n - O * d := by omega
    have e2 : 10 * n * u = n * t := by rw [htu, Int.mul_comm 10 n, Int.mul_assoc]
    have e3 : C * t = 10 * C * u := by rw [htu, Int.mul_comm 10 C, Int.mul_assoc]
    rw [e1, Int.sub_mul, e2, hn, e3]
    rw [Int.add_mul, show V - (10 * C * u + d * u) = (V - 10 * C * u) - d * u by omega, Int.sub_mul (V - 10 * C * u)]
    congr 1
    rw [Int.mul_comm O d, Int.mul_assoc, Int.mul_comm O u, ← Int.mul_assoc]
  have k2 : V / u = 10 * C + d := by
    have g1 : 0 ≤ V - (10 * C + d) * u := by
      have : 0 * O ≤ (V - (10 * C + d) * u) * O := by rw [← k1, Int.zero_mul]; exact Int.mul_nonneg m0 (by omega)
      exact Int.le_of_mul_le_mul_right this hO
    have g2 : V - (10 * C + d) * u < u := by
      rw [← lt_scale hO, ← k1, Int.mul_comm u O]; exact Int.mul_lt_mul_of_pos_right m1 hu
    have := Int.ediv_emod_unique hu (a := V) (r := V - (10 * C + d) * u) (q := 10 * C + d)
    exact (this.2 ⟨by rw [Int.mul_comm u]; omega, g1, g2⟩).1
  refine ⟨⟨by rw [k2]; exact k1, ?_, ?_⟩, k2, q0, q1⟩
  · rw [← h.hb, htu, Int.mul_comm 10 b, Int.mul_assoc]
  · rw [← h.ha, htu, Int.mul_comm 10 a, Int.mul_assoc]

/-- a step that is less than the reach: one of both is within it -/
theorem not_out {V Lo Hi t : Int} {ends : Prop} (h1 : Lo < V) (h2 : V < Hi) (ht : 0 < t) (h : t < Hi - Lo) : ¬ Out V Lo Hi ends t := by
  rintro ⟨a, b⟩
  have r0 := Int.emod_nonneg V (b := t) (by omega)
  have r1 := Int.emod_lt_of_pos V ht
  have r2 := Int.mul_ediv_add_emod V t
  rw [Int.mul_comm] at r2
  have e : (V / t + 1) * t = V / t * t + t := by rw [Int.add_mul, Int.one_mul]
  unfold Inn at a b
  rw [e] at b
  generalize V / t * t = x at *
  by_cases g : Lo < x
  · exact a (Or.inl ⟨g, by omega⟩)
  · exact b (Or.inl ⟨by omega, by omega⟩)

end Go.Proofs.YtinfkoiifemjmaaGreatDoor

namespace Go.Proofs.YtinfkoiifemjmaaGreatDoor
set_option linter.unusedVariables false

/-- the scale's other half: so many units are told apart -/
def E5 : Int := 10 ^ 500
theorem E5_pos : 0 < E5 := ten_pos 500
def vV (F L s : Int) : Int := 2 * um F L L s * E5
def vLo (F L s : Int) : Int := (um F L L (s - 1) + um F L L s) * E5
def vHi (F L s : Int) : Int := (um F L L s + um F L L (s + 1)) * E5
def gG (L : Int) : Int := p2 (1 - L).toNat
theorem gG_pos (L : Int) : 0 < gG L := p2_pos _

theorem um_at (F L s : Int) : um F L L s = mst F s * p2 (est F L s - L).toNat := rfl
/-- the step below s -/
theorem um_pred {F L s : Int} (hF : 0 < F) (h : 0 < s) : um F L L s = um F L L (s - 1) + p2 (est F L (s - 1) - L).toNat := by
  have := um_succ (L := L) (B := L) (s := s - 1) hF (by omega) (by omega)
  rwa [show s - 1 + 1 = s by omega] at this
theorem vLo_lt {F L s : Int} (hF : 0 < F) (h : 0 < s) : vLo F L s < vV F L s := by
  unfold vLo vV
  have := um_lt (L := L) (B := L) (s := s - 1) hF (by omega) (by omega)
  rw [show s - 1 + 1 = s by omega] at this
  exact Int.mul_lt_mul_of_pos_right (by omega) E5_pos
theorem vHi_gt {F L s : Int} (hF : 0 < F) (h : 0 ≤ s) : vV F L s < vHi F L s := by
  unfold vHi vV
  have := um_lt (L := L) (B := L) (s := s) hF h (by omega)
  exact Int.mul_lt_mul_of_pos_right (by omega) E5_pos
theorem mst_lt {F s : Int} (hF : 0 < F) (h : 0 ≤ s) : 0 ≤ mst F s ∧ mst F s < 2 * F := by
  unfold mst
  have := Int.emod_nonneg s (b := F) (by omega)
  have := Int.emod_lt_of_pos s hF
  split <;> omega
theorem mst_pos {F s : Int} (hF : 0 < F) (h : 0 < s) : 0 < mst F s := by
  unfold mst
  have := Int.emod_nonneg s (b := F) (by omega)
  split <;> omega
/-- the step below is that above, or half of it, where a power of 2 is -/
theorem est_pred {F L s : Int} (hF : 0 < F) (h : 0 < s) : est F L (s - 1) = est F L s ∨ (est F L (s - 1) = est F L s - 1 ∧ mst F s = F) := by
  by_cases a : s < F
  · left; unfold est; rw [if_pos a, if_pos (by omega)]
  · have hd := Int.mul_ediv_add_emod s F
    have m0 := Int.emod_nonneg s (b := F) (by omega)
    have m1 := Int.emod_lt_of_pos s hF
    have q1 : 1 ≤ s / F := by rw [Int.le_ediv_iff_mul_le hF]; omega
    by_cases b : s % F = 0
    · have e : (s - 1) / F = s / F - 1 := by
        have := Int.ediv_emod_unique hF (a := s - 1) (r := F - 1) (q := s / F - 1)
        exact (this.2 ⟨by rw [Int.mul_sub, Int.mul_one]; omega, by omega, by omega⟩).1
      by_cases c : s - 1 < F
      · left
        have : s = F := by
          have : s < F + 1 := by omega
          omega
        unfold est; rw [if_pos c, if_neg a, this, Int.ediv_self (by omega)]; omega
      · right
        unfold est mst
        rw [if_neg c, if_neg a, if_neg a, e, b]
        omega
    · left
      have e : (s - 1) / F = s / F := by
        have := Int.ediv_emod_unique hF (a := s - 1) (r := s % F - 1) (q := s / F)
        exact (this.2 ⟨by omega, by omega, by omega⟩).1
      have c : ¬ s - 1 < F := by
        intro c
        have : s = F := by omega
        rw [this, Int.emod_self] at b
        exact b rfl
      unfold est
      rw [if_neg c, if_neg a, e]
/-- the number is less than so many times the reach -/
theorem v_reach {F L s : Int} (hF : 0 < F) (h : 0 < s) : vV F L s < 2 * F * (vHi F L s - vLo F L s) := by
  obtain ⟨m0, m1⟩ := mst_lt (F := F) (s := s) hF (by omega)
  have e1 := um_succ (L := L) (B := L) (s := s) hF (by omega) (by omega)
  have e2 := um_pred (L := L) hF h
  have key : 2 * um F L L s < 2 * F * (um F L L (s + 1) - um F L L (s - 1)) := by
    have l1 := est_ge (F := F) (L := L) (s := s) hF
    have l2 := est_ge (F := F) (L := L) (s := s - 1) hF
    have pa := p2_pos (est F L s - L).toNat
    have pb := p2_pos (est F L (s - 1) - L).toNat
    have e3 : um F L L (s + 1) - um F L L (s - 1) = p2 (est F L s - L).toNat + p2 (est F L (s - 1) - L).toNat := by omega
    rw [e3, um_at]
    rcases est_pred (L := L) hF h with g | ⟨g, gm⟩
    · rw [g]
      generalize p2 (est F L s - L).toNat = a at *
      have : mst F s * a < 2 * F * a := Int.mul_lt_mul_of_pos_right m1 pa
      have f : 2 * F * (a + a) = 2 * (2 * F * a) := by rw [Int.mul_add]; omega
      rw [f]; omega
    · rw [gm]
      generalize p2 (est F L s - L).toNat = a at *
      generalize p2 (est F L (s - 1) - L).toNat = b at *
      have : 0 < F * b := Int.mul_pos hF pb
      have f : 2 * F * (a + b) = 2 * (F * a + F * b) := by rw [Int.mul_add, Int.mul_assoc, Int.mul_assoc]; omega
      rw [f]; omega
  unfold vV vHi vLo
  have f : 2 * F * ((um F L L s + um F L L (s + 1)) * E5 - (um F L L (s - 1) + um F L L s) * E5) = 2 * F * (um F L L (s + 1) - um F L L (s - 1)) * E5 := by
    rw [← Int.sub_mul, ← Int.mul_assoc]; congr 2; omega
  rw [f]
  exact Int.mul_lt_mul_of_pos_right key E5_pos
/-- with so many digits there is always one -/
theorem v_most {F L s p : Int} {M : Nat} (hF : 0 < F) (h : 0 < s) (hM : 2 * F ≤ 10 ^ M) (hp : -500 ≤ p - 1 - M) (hlo : TT (gG L) (p - 1) ≤ vV F L s) {ends : Prop} : ¬ Out (vV F L s) (vLo F L s) (vHi F L s) ends (TT (gG L) (p - (M + 1 : Nat))) := by
  refine not_out (vLo_lt hF h) (vHi_gt hF (by omega)) (TT_pos (gG_pos L) _) ?_
  have e : TT (gG L) (p - 1) = 10 ^ M * TT (gG L) (p - (M + 1 : Nat)) := by
    rw [← TT_add (by omega)]; congr 1; omega
  have r := v_reach (L := L) hF h
  have t0 := TT_pos (gG_pos L) (p - (M + 1 : Nat))
  rw [e] at hlo
  have d0 : 0 < vHi F L s - vLo F L s := by
    have := vLo_lt (L := L) hF h
    have := vHi_gt (L := L) (s := s) hF (by omega)
    omega
  generalize vHi F L s - vLo F L s = D at *
  generalize TT (gG L) (p - (M + 1 : Nat)) = t at *
  generalize vV F L s = V at *
  have g : 2 * F * D ≤ 10 ^ M * D := Int.mul_le_mul_of_nonneg_right hM (by omega)
  have : (10 : Int) ^ M * t < 10 ^ M * D := by omega
  exact Int.lt_of_mul_lt_mul_left this (by have := ten_pos M; omega)

/-- number, reach below and above, in parts of which O make up 10 to the power of p -/
structure Rel (V Lo Hi G p N B A O : Int) : Prop where
  hN : N * TT G p = V * O
  hB : B * TT G p = (V - Lo) * O
  hA : A * TT G p = (Hi - V) * O
theorem scale_eq {x y X t O d : Int} (h : x * t = X * O) (g : t = y * d) : x * y * d = X * O := by rw [Int.mul_assoc, ← g, h]
theorem Rel.times {V Lo Hi G p N B A O : Int} (h : Rel V Lo Hi G p N B A O) {n : Nat} (hp : -500 ≤ p - n) : Rel V Lo Hi G (p - n) (N * 10 ^ n) (B * 10 ^ n) (A * 10 ^ n) O := by
  have e : TT G p = 10 ^ n * TT G (p - n) := by rw [← TT_add hp]; congr 1; omega
  exact ⟨scale_eq h.hN e, scale_eq h.hB e, scale_eq h.hA e⟩
theorem Rel.one {V Lo Hi G p N B A O : Int} (h : Rel V Lo Hi G p N B A O) (hp : -500 ≤ p) (n : Nat) : Rel V Lo Hi G (p + n) N B A (O * 10 ^ n) := by
  have e : TT G (p + n) = 10 ^ n * TT G p := TT_add hp n
  have k : ∀ x X, x * TT G p = X * O → x * TT G (p + n) = X * (O * 10 ^ n) := by
    intro x X h
    rw [e, Int.mul_comm (10 ^ n), ← Int.mul_assoc, h, Int.mul_assoc]
  exact ⟨k _ _ h.hN, k _ _ h.hB, k _ _ h.hA⟩
theorem Rel.lt {V Lo Hi G p N B A O : Int} (h : Rel V Lo Hi G p N B A O) (hG : 0 < G) (hO : 0 < O) : N < O ↔ V < TT G p := by
  have t0 := TT_pos hG p
  rw [← lt_scale t0, h.hN, Int.mul_comm O, lt_scale hO]
theorem Rel.st {V Lo Hi G p N B A O : Int} (h : Rel V Lo Hi G p N B A O) (h0 : 0 ≤ V) (h1 : V < TT G p) : St V Lo Hi (TT G p) O N B A := by
  refine ⟨?_, h.hB, h.hA⟩
  rw [Int.ediv_eq_zero_of_lt h0 h1, Int.zero_mul, Int.sub_zero]
  exact h.hN
/-- how great the parts are against one another -/
theorem Rel.le {V Lo Hi G p N B A O : Int} (h : Rel V Lo Hi G p N B A O) (hG : 0 < G) (hO : 0 < O) (h0 : 0 ≤ Lo) (h1 : Lo < V) (h2 : V < Hi) (h3 : Hi - V ≤ V) : 0 < N ∧ 0 < B ∧ 0 < A ∧ B ≤ N ∧ A ≤ N := by
  have t0 := TT_pos hG p
  have pos : ∀ {x X : Int}, x * TT G p = X * O → 0 < X → 0 < x := by
    intro x X e hX
    rw [← lt_scale t0, e, Int.zero_mul]; exact Int.mul_pos hX hO
  have le : ∀ {x y X Y : Int}, x * TT G p = X * O → y * TT G p = Y * O → X ≤ Y → x ≤ y := by
    intro x y X Y e f g
    have : x * TT G p ≤ y * TT G p := by rw [e, f]; exact Int.mul_le_mul_of_nonneg_right g (by omega)
    exact Int.le_of_mul_le_mul_right this t0
  exact ⟨pos h.hN (by omega), pos h.hB (by omega), pos h.hA (by omega), le h.hB h.hN (by omega), le h.hA h.hN (by omega)⟩
theorem Rel.one_le {V Lo Hi G p N B A O : Int} (h : Rel V Lo Hi G p N B A O) (hG : 0 < G) (hO : 0 < O) (hp : -500 ≤ p - 1) (hV : TT G (p - 1) ≤ V) : O ≤ 10 * N := by
  have t0 := TT_pos hG p
  have e : TT G p = 10 * TT G (p - 1) := by rw [← TT_succ hp]; congr 1; omega
  have : O * TT G p ≤ 10 * N * TT G p := by
    rw [Int.mul_assoc, h.hN, e, Int.mul_comm O, Int.mul_assoc]
    refine Int.mul_le_mul_of_nonneg_left ?_ (by decide)
    exact Int.mul_le_mul_of_nonneg_right hV (by omega)
  exact Int.le_of_mul_le_mul_right this t0

/-- the sizes of the parts of a pattern -/
theorem v_half {F L s : Int} (hF : 0 < F) (h : 0 < s) : 0 ≤ vLo F L s ∧ vHi F L s - vV F L s ≤ vV F L s := by
  have e1 := um_succ (L := L) (B := L) (s := s) hF (by omega) (by omega)
  have m := mst_pos hF h
  have pa := p2_pos (est F L s - L).toNat
  have e0 : p2 (est F L s - L).toNat ≤ um F L L s := by
    rw [um_at]
    have : 1 * p2 (est F L s - L).toNat ≤ mst F s * p2 (est F L s - L).toNat := Int.mul_le_mul_of_nonneg_right (by omega) (by omega)
    omega
  have z0 : 0 ≤ um F L L (s - 1) := by
    rw [um_at]
    exact Int.mul_nonneg (mst_lt hF (by omega)).1 (Int.le_of_lt (p2_pos _))
  have E0 := E5_pos
  constructor
  · exact Int.mul_nonneg (by omega) (by omega)
  · unfold vHi vV
    rw [← Int.sub_mul]
    exact Int.mul_le_mul_of_nonneg_right (by omega) (by omega)

/-- what is told first: halves of the step below -/
theorem rel_first {F L s dl part : Int} {up dn : Nat} (hF : 0 < F) (h : 0 < s) (hL : L ≤ 0) (hdl : dl = est F L s - est F L (s - 1)) (hpart : part = est F L (s - 1) - 1) (hud : (up : Int) - dn = part) :
    Rel (vV F L s) (vLo F L s) (vHi F L s) (gG L) 0 (2 * mst F s * p2 dl.toNat * p2 up) (1 * p2 up) (p2 dl.toNat * p2 up) (p2 dn) := by
  have l1 := est_ge (F := F) (L := L) (s := s) hF
  have l2 := est_ge (F := F) (L := L) (s := s - 1) hF
  have d0 : 0 ≤ dl := by rcases est_pred (L := L) hF h with g | ⟨g, _⟩ <;> omega
  have e0 : TT (gG L) 0 = E5 * p2 (1 - L).toNat := rfl
  have k1 : p2 up * p2 (1 - L).toNat = p2 (est F L (s - 1) - L).toNat * p2 dn := by
    rw [← p2_add, ← p2_add]; congr 1; omega
  have k2 : p2 dl.toNat * p2 up * p2 (1 - L).toNat = p2 (est F L s - L).toNat * p2 dn := by
    rw [← p2_add, ← p2_add, ← p2_add]; congr 1; omega
  have u1 := um_succ (L := L) (B := L) (s := s) hF (by omega) (by omega)
  have u2 := um_pred (L := L) hF h
  have v1 : vV F L s - vLo F L s = p2 (est F L (s - 1) - L).toNat * E5 := by
    unfold vV vLo; rw [← Int.sub_mul]; congr 1; omega
  have v2 : vHi F L s - vV F L s = p2 (est F L s - L).toNat * E5 := by
    unfold vV vHi; rw [← Int.sub_mul]; congr 1; omega
  refine ⟨?_, ?_, ?_⟩
  · rw [e0, vV, um_at]
    generalize E5 = E
    rw [show 2 * mst F s * p2 dl.toNat * p2 up * (E * p2 (1 - L).toNat) = 2 * mst F s * E * (p2 dl.toNat * p2 up * p2 (1 - L).toNat) by ac_rfl, k2]
    ac_rfl
  · rw [v1, e0, Int.one_mul]
    generalize E5 = E
    rw [show p2 up * (E * p2 (1 - L).toNat) = E * (p2 up * p2 (1 - L).toNat) by ac_rfl, k1]
    ac_rfl
  · rw [v2, e0]
    generalize E5 = E
    rw [show p2 dl.toNat * p2 up * (E * p2 (1 - L).toNat) = E * (p2 dl.toNat * p2 up * p2 (1 - L).toNat) by ac_rfl, k2]
    ac_rfl

end Go.Proofs.YtinfkoiifemjmaaGreatDoor

namespace Go.Proofs.YtinfkoiifemjmaaGreatDoor
set_option linter.unusedVariables false

set_option maxRecDepth 100000 in
theorem tab_up : ∀ t : Fin 1200, 10 ^ (t.val * 30103 / 100000 - 1) ≤ 2 ^ t.val := by decide +kernel
set_option maxRecDepth 100000 in
theorem tab_dn : ∀ t : Fin 1200, 2 ^ t.val ≤ 10 ^ (t.val * 30103 / 100000 + 1) := by decide +kernel
theorem p2_is (n : Nat) : p2 n = ((2 ^ n : Nat) : Int) := by
  induction n with
  | zero => rfl
  | succ n ih => rw [p2, ih, Nat.pow_succ]; omega
theorem ten_is (n : Nat) : (10 : Int) ^ n = ((10 ^ n : Nat) : Int) := by simp
theorem guess {N O t p0 : Int} {a b : Nat} (hN : p2 (a - 1) ≤ N) (ha : 1 ≤ a) (hO : O < p2 b) (hO0 : 0 < O) (ht : t = a - b - 1) (t0 : -1200 < t) (t1 : t < 1200) (hp : p0 = (t * 30103).tdiv 100000 - 1) :
    -400 ≤ p0 ∧ p0 ≤ 400 ∧ (0 ≤ p0 → O * 10 ^ p0.toNat ≤ N) ∧ (p0 < 0 → O ≤ N * 10 ^ (-p0).toNat) := by
  rcases Int.lt_or_le t 0 with c | c
  · obtain ⟨u, rfl⟩ : ∃ u : Nat, t = -(u : Int) := ⟨(-t).toNat, by omega⟩
    have e : (-(u : Int) * 30103).tdiv 100000 = -((u * 30103 / 100000 : Nat) : Int) := by
      rw [show -(u : Int) * 30103 = -((u * 30103 : Nat) : Int) by omega, Int.neg_tdiv]
      rfl
    rw [e] at hp
    have tb := tab_dn ⟨u, by omega⟩
    simp only at tb
    refine ⟨by omega, by omega, fun h => by omega, fun _ => ?_⟩
    have e2 : (-p0).toNat = u * 30103 / 100000 + 1 := by omega
    rw [e2]
    have k1 : p2 u ≤ 10 ^ (u * 30103 / 100000 + 1) := by rw [p2_is, ten_is]; exact_mod_cast tb
    have k2 : p2 b = p2 (a - 1) * p2 u := by rw [← p2_add]; congr 1; omega
    have k3 : p2 (a - 1) * p2 u ≤ N * 10 ^ (u * 30103 / 100000 + 1) := Int.mul_le_mul hN k1 (Int.le_of_lt (p2_pos _)) (by have := p2_pos (a - 1); omega)
    omega
  · obtain ⟨u, rfl⟩ : ∃ u : Nat, t = u := ⟨t.toNat, by omega⟩
    have e : ((u : Int) * 30103).tdiv 100000 = ((u * 30103 / 100000 : Nat) : Int) := by
      rw [show (u : Int) * 30103 = ((u * 30103 : Nat) : Int) by omega]
      rfl
    rw [e] at hp
    have tb := tab_up ⟨u, by omega⟩
    simp only at tb
    have k2 : p2 (a - 1) = p2 b * p2 u := by rw [← p2_add]; congr 1; omega
    refine ⟨by omega, by omega, fun h => ?_, fun h => ?_⟩
    · have e2 : p0.toNat = u * 30103 / 100000 - 1 := by omega
      rw [e2]
      have k1 : 10 ^ (u * 30103 / 100000 - 1) ≤ p2 u := by rw [p2_is, ten_is]; exact_mod_cast tb
      have k3 : O * 10 ^ (u * 30103 / 100000 - 1) ≤ p2 b * p2 u := Int.mul_le_mul (Int.le_of_lt hO) k1 (Int.le_of_lt (ten_pos _)) (Int.le_of_lt (p2_pos _))
      omega
    · have k3 : p2 b * 1 ≤ p2 b * p2 u := Int.mul_le_mul_of_nonneg_left (by have := p2_pos u; omega) (Int.le_of_lt (p2_pos _))
      have := ten_pos (-p0).toNat
      have k4 : N * 1 ≤ N * 10 ^ (-p0).toNat := Int.mul_le_mul_of_nonneg_left (by omega) (by have := p2_pos (a - 1); omega)
      omega

/-- the point lies within these -/
theorem point_low {F L s p : Int} (hF : 0 < F) (h : 0 < s) (hL : -1074 ≤ L) (hi : vV F L s < TT (gG L) p) : -324 < p := by
  have u0 : 1 ≤ um F L L s := by
    rw [um_at]
    have a := mst_pos hF h
    have b := p2_pos (est F L s - L).toNat
    have := Int.mul_pos a b
    omega
  have g : gG L ≤ p2 1075 := p2_mono (by omega)
  have n : (10 ^ 176 : Nat) * 2 ^ 1075 ≤ 2 * 10 ^ 500 := by decide +kernel
  have k : TT (gG L) (-324) ≤ vV F L s := by
    have a : TT (gG L) (-324) ≤ 10 ^ 176 * p2 1075 := Int.mul_le_mul_of_nonneg_left g (Int.le_of_lt (ten_pos 176))
    have b : (10 : Int) ^ 176 * p2 1075 ≤ 2 * E5 := by
      unfold E5
      rw [p2_is, ten_is, ten_is]
      generalize (10 ^ 176 : Nat) = x at *
      generalize (10 ^ 500 : Nat) = y at *
      generalize (2 ^ 1075 : Nat) = z at *
      exact_mod_cast n
    have c : 2 * 1 * E5 ≤ vV F L s := by
      unfold vV
      exact Int.mul_le_mul_of_nonneg_right (by omega) (Int.le_of_lt E5_pos)
    omega
  exact TT_lt (gG_pos L) (Int.lt_of_le_of_lt k hi)
theorem point_high {F L s p : Int} {fr : Nat} (hfr : F = p2 fr) (h0 : 0 ≤ s) (hL : L ≤ 0) (he : est F L s ≤ 1023 - fr) (hlo : TT (gG L) (p - 1) ≤ vV F L s) : p ≤ 310 := by
  have hF : 0 < F := by rw [hfr]; exact p2_pos fr
  obtain ⟨m0, m1⟩ := mst_lt hF h0
  have l1 := est_ge (F := F) (L := L) (s := s) hF
  have n : (2 ^ 1024 : Nat) ≤ 10 ^ 309 := by decide +kernel
  have k : vV F L s < TT (gG L) 310 := by
    have a : 2 * um F L L s ≤ p2 1024 * gG L := by
      rw [um_at]
      have b : mst F s * p2 (est F L s - L).toNat ≤ 2 * F * p2 (est F L s - L).toNat := Int.mul_le_mul_of_nonneg_right (by omega) (Int.le_of_lt (p2_pos _))
      have c : 2 * (2 * F * p2 (est F L s - L).toNat) = p2 (fr + 2 + (est F L s - L).toNat) := by
        rw [p2_add, p2_add, hfr, show p2 2 = 4 from rfl]; rw [Int.mul_comm (p2 fr) 4, ← Int.mul_assoc, ← Int.mul_assoc]; rfl
      have d : p2 (fr + 2 + (est F L s - L).toNat) ≤ p2 (1024 + (1 - L).toNat) := p2_mono (by omega)
      rw [p2_add 1024] at d
      unfold gG
      omega
    have b : p2 1024 ≤ 10 ^ 309 := by rw [p2_is, ten_is]; exact_mod_cast n
    have c : p2 1024 * gG L ≤ 10 ^ 309 * gG L := Int.mul_le_mul_of_nonneg_right b (Int.le_of_lt (gG_pos L))
    have d : vV F L s ≤ 10 ^ 309 * gG L * E5 := Int.mul_le_mul_of_nonneg_right (by omega) (Int.le_of_lt E5_pos)
    have e : 10 ^ 309 * gG L * E5 = TT (gG L) 309 := by
      have h := TT_add (G := gG L) (q := 0) (by omega) 309
      have h2 : TT (gG L) 0 = E5 * gG L := rfl
      rw [h2] at h
      have h3 : (0 : Int) + (309 : Nat) = 309 := rfl
      rw [h3] at h
      rw [h]
      generalize (10 : Int) ^ 309 = x
      generalize E5 = y
      rw [Int.mul_assoc, Int.mul_comm (gG L)]
    have f : TT (gG L) (309 + 1) = 10 * TT (gG L) 309 := TT_succ (by omega)
    have f2 : (309 : Int) + 1 = 310 := rfl
    rw [f2] at f
    have := TT_pos (gG_pos L) 309
    omega
  have := TT_lt (gG_pos L) (Int.lt_of_le_of_lt hlo k)
  omega

end Go.Proofs.YtinfkoiifemjmaaGreatDoor

namespace Go.Proofs.YtinfkoiifemjmaaGreatDoor
set_option linter.unusedVariables false

/-- k digits of a number -/
def dl : Nat → Int → List Int
  | 0, _ => []
  | k + 1, c => dl k (c / 10) ++ [48 + c % 10]
theorem dl_len (k : Nat) : ∀ c, (dl k c).length = k := by
  induction k with
  | zero => intro c; rfl
  | succ k ih => intro c; rw [dl, List.length_append, ih]; rfl
theorem dl_snoc (k : Nat) (c d : Int) (h0 : 0 ≤ d) (h9 : d ≤ 9) : dl (k + 1) (10 * c + d) = dl k c ++ [48 + d] := by
  rw [dl, show (10 * c + d) / 10 = c by omega, show (10 * c + d) % 10 = d by omega]
theorem dl_byte (k : Nat) : ∀ c, ∀ x ∈ dl k c, 48 ≤ x ∧ x ≤ 57 := by
  induction k with
  | zero => intro c x h; simp [dl] at h
  | succ k ih =>
    intro c x h
    rw [dl, List.mem_append] at h
    rcases h with h | h
    · exact ih _ x h
    · simp at h; omega
/-- what is told -/
def txt (k : Nat) (c : Int) : List Int := if c = 10 ^ k then [49] else dl k c
def pt (k : Nat) (c p : Int) : Int := if c = 10 ^ k then p + 1 else p

theorem Sh.range {V Lo Hi G p c : Int} {ends : Prop} {k : Nat} (h : Sh V Lo Hi ends G p k c) (hG : 0 < G) (hp : -500 ≤ p - k) : 10 ^ (k - 1) ≤ V / TT G (p - k) ∧ V / TT G (p - k) < 10 ^ k := by
  have k1 := h.k1
  have t0 := TT_pos hG (p - k)
  have e1 : TT G (p - 1) = 10 ^ (k - 1) * TT G (p - k) := by rw [← TT_add hp]; congr 1; omega
  have e2 : TT G p = 10 ^ k * TT G (p - k) := by rw [← TT_add hp]; congr 1; omega
  have lo := h.lo
  have hi := h.hi
  rw [e1] at lo
  rw [e2] at hi
  exact ⟨(Int.le_ediv_iff_mul_le t0).2 lo, (Int.ediv_lt_iff_lt_mul t0).2 hi⟩
/-- a nine that is raised is the first digit -/
theorem Sh.nine {V Lo Hi G p c : Int} {ends : Prop} {k : Nat} (h : Sh V Lo Hi ends G p k c) (hG : 0 < G) (hp : -500 ≤ p - k) (hc : c = V / TT G (p - k) + 1) (h9 : V / TT G (p - k) % 10 = 9) (hin : Inn Lo Hi ends ((V / TT G (p - k) + 1) * TT G (p - k))) : k = 1 := by
  have k1 := h.k1
  rcases Nat.lt_or_ge 1 k with g | g
  · exfalso
    have o := (h.out (k - 1) (by omega) (by omega)).2
    have e : TT G (p - (k - 1 : Nat)) = 10 * TT G (p - k) := by rw [← TT_succ hp]; congr 1; omega
    have e2 : V / (10 * TT G (p - k)) = V / TT G (p - k) / 10 := by
      rw [Int.mul_comm, Int.ediv_ediv_of_nonneg (Int.le_of_lt (TT_pos hG _))]
    rw [e, e2] at o
    generalize V / TT G (p - k) = C at *
    apply o
    have f : (C / 10 + 1) * (10 * TT G (p - k)) = (C + 1) * TT G (p - k) := by
      rw [← Int.mul_assoc]; congr 1; omega
    rw [f]; exact hin
  · omega
theorem Sh.cases {V Lo Hi G p c : Int} {ends : Prop} {k : Nat} (h : Sh V Lo Hi ends G p k c) (hG : 0 < G) (hp : -500 ≤ p - k) :
    (c = 10 ^ k ∧ k = 1 ∧ V / TT G (p - k) = 9 ∧ c = 10) ∨ (c ≠ 10 ^ k ∧ 10 ^ (k - 1) ≤ c ∧ c < 10 ^ k ∧ c % 10 ≠ 0 ∧ c / 10 = V / TT G (p - k) / 10) := by
  obtain ⟨r0, r1⟩ := h.range hG hp
  have k1 := h.k1
  have pk := h.pick
  rcases pk with ⟨hc, hin, _⟩ | ⟨hc, hin, _⟩
  · right
    refine ⟨by omega, by omega, by omega, ?_, by omega⟩
    rw [hc]
    intro z
    rcases Nat.lt_or_ge 1 k with g | g
    · have o := (h.out (k - 1) (by omega) (by omega)).1
      have e : TT G (p - (k - 1 : Nat)) = 10 * TT G (p - k) := by rw [← TT_succ hp]; congr 1; omega
      have e2 : V / (10 * TT G (p - k)) = V / TT G (p - k) / 10 := by
        rw [Int.mul_comm, Int.ediv_ediv_of_nonneg (Int.le_of_lt (TT_pos hG _))]
      rw [e, e2] at o
      apply o
      have f : V / TT G (p - k) / 10 * (10 * TT G (p - k)) = V / TT G (p - k) * TT G (p - k) := by
        rw [← Int.mul_assoc]; congr 1; omega
      rw [f]; exact hin
    · obtain rfl : k = 1 := by omega
      have e0 : (10 : Int) ^ (1 - 1) = 1 := rfl
      have e1 : (10 : Int) ^ 1 = 10 := rfl
      omega
  · by_cases h9 : V / TT G (p - k) % 10 = 9
    · left
      obtain rfl := h.nine hG hp hc h9 hin
      have e1 : (10 : Int) ^ 1 = 10 := rfl
      have e0 : (10 : Int) ^ (1 - 1) = 1 := rfl
      refine ⟨by omega, rfl, by omega, by omega⟩
    · right
      have hpw : (10 : Int) ^ k = 10 * 10 ^ (k - 1) := by
        rw [show k = (k - 1) + 1 by omega, Int.pow_succ, Int.mul_comm]; rfl
      refine ⟨?_, by omega, ?_, by omega, by omega⟩
      · intro e
        omega
      · omega

end Go.Proofs.YtinfkoiifemjmaaGreatDoor

namespace Go.Proofs.YtinfkoiifemjmaaGreatDoor
set_option linter.unusedVariables false

/-- r is the nearest pattern to X, in units -/
def NX (F L I X r : Int) : Prop := 0 ≤ r ∧ r ≤ I ∧ (r < I → X ≤ vHi F L r ∧ (X = vHi F L r → r % 2 = 0)) ∧ (0 < r → vLo F L r ≤ X ∧ (X = vLo F L r → r % 2 = 0))
theorem nx_inn {F L I X s : Int} (hF : 0 < F) (h0 : 0 < s) (h1 : s < I) : NX F L I X s ↔ Inn (vLo F L s) (vHi F L s) (s % 2 = 0) X := by
  have a := vLo_lt (L := L) hF h0
  have b := vHi_gt (L := L) (s := s) hF (by omega)
  unfold NX Inn
  generalize vLo F L s = lo at *
  generalize vHi F L s = hi at *
  constructor
  · rintro ⟨_, _, g1, g2⟩
    obtain ⟨u1, u2⟩ := g1 h1
    obtain ⟨l1, l2⟩ := g2 h0
    by_cases e : X = hi
    · exact Or.inr ⟨u2 e, Or.inr e⟩
    · by_cases f : X = lo
      · exact Or.inr ⟨l2 f, Or.inl f⟩
      · exact Or.inl ⟨by omega, by omega⟩
  · rintro (⟨g1, g2⟩ | ⟨g1, g2⟩)
    · exact ⟨by omega, by omega, fun _ => ⟨by omega, fun _ => by omega⟩, fun _ => ⟨by omega, fun _ => by omega⟩⟩
    · exact ⟨by omega, by omega, fun _ => ⟨by omega, fun _ => g1⟩, fun _ => ⟨by omega, fun _ => g1⟩⟩
end Go.Proofs.YtinfkoiifemjmaaGreatDoor

namespace Go.Proofs.YtinfkoiifemjmaaGreatDoor
open Go.RowKit
set_option linter.unusedVariables false

/-- a reach: four lists and whether the ends belong to it -/
def Rch (w : World) (g : Nat) (v0 v1 v2 v3 : Value) (e : Bool) : Prop := w.heap[g]? = some (.cells #[v0, v1, v2, v3, .bool e] 85 (0, 0))
theorem Rch.lt {w : World} {g : Nat} {v0 v1 v2 v3 : Value} {e : Bool} (h : Rch w g v0 v1 v2 v3 e) : g < w.heap.size := (Array.getElem?_eq_some_iff.1 h).1
theorem Rch.c0 {w : World} {g : Nat} {v0 v1 v2 v3 : Value} {e : Bool} (h : Rch w g v0 v1 v2 v3 e) : w.cell? ⟨g, 0, none⟩ = some v0 := by rw [cell_of_row w g 0 _ _ _ h]; rfl
theorem Rch.c1 {w : World} {g : Nat} {v0 v1 v2 v3 : Value} {e : Bool} (h : Rch w g v0 v1 v2 v3 e) : w.cell? ⟨g, 1, none⟩ = some v1 := by rw [cell_of_row w g 1 _ _ _ h]; rfl
theorem Rch.c2 {w : World} {g : Nat} {v0 v1 v2 v3 : Value} {e : Bool} (h : Rch w g v0 v1 v2 v3 e) : w.cell? ⟨g, 2, none⟩ = some v2 := by rw [cell_of_row w g 2 _ _ _ h]; rfl
theorem Rch.c3 {w : World} {g : Nat} {v0 v1 v2 v3 : Value} {e : Bool} (h : Rch w g v0 v1 v2 v3 e) : w.cell? ⟨g, 3, none⟩ = some v3 := by rw [cell_of_row w g 3 _ _ _ h]; rfl
theorem Rch.c4 {w : World} {g : Nat} {v0 v1 v2 v3 : Value} {e : Bool} (h : Rch w g v0 v1 v2 v3 e) : w.cell? ⟨g, 4, none⟩ = some (.bool e) := by rw [cell_of_row w g 4 _ _ _ h]; rfl
theorem Rch.frozen {w : World} {g : Nat} {v0 v1 v2 v3 : Value} {e : Bool} (h : Rch w g v0 v1 v2 v3 e) (i : Nat) : w.frozen? ⟨g, i, none⟩ = false := frozen_of_row w g i _ _ h
theorem Rch.set0 {w : World} {g : Nat} {v0 v1 v2 v3 : Value} {e : Bool} (h : Rch w g v0 v1 v2 v3 e) (v : Value) : Rch (w.setCell ⟨g, 0, none⟩ v) g v v1 v2 v3 e := by
  unfold Rch; rw [heap_setCell_same w g 0 _ _ _ h]; rfl
theorem Rch.set1 {w : World} {g : Nat} {v0 v1 v2 v3 : Value} {e : Bool} (h : Rch w g v0 v1 v2 v3 e) (v : Value) : Rch (w.setCell ⟨g, 1, none⟩ v) g v0 v v2 v3 e := by
  unfold Rch; rw [heap_setCell_same w g 1 _ _ _ h]; rfl
theorem Rch.set2 {w : World} {g : Nat} {v0 v1 v2 v3 : Value} {e : Bool} (h : Rch w g v0 v1 v2 v3 e) (v : Value) : Rch (w.setCell ⟨g, 2, none⟩ v) g v0 v1 v v3 e := by
  unfold Rch; rw [heap_setCell_same w g 2 _ _ _ h]; rfl
theorem Rch.set3 {w : World} {g : Nat} {v0 v1 v2 v3 : Value} {e : Bool} (h : Rch w g v0 v1 v2 v3 e) (v : Value) : Rch (w.setCell ⟨g, 3, none⟩ v) g v0 v1 v2 v e := by
  unfold Rch; rw [heap_setCell_same w g 3 _ _ _ h]; rfl
theorem Rch.keeps {w w' : World} {g : Nat} {v0 v1 v2 v3 : Value} {e : Bool} (h : Rch w g v0 v1 v2 v3 e) (hb : Below w.heap.size w w') : Rch w' g v0 v1 v2 v3 e := by
  unfold Rch; rw [hb.block g h.lt]; exact h
theorem Rch.drew {w : World} {g : Nat} {v0 v1 v2 v3 : Value} {e : Bool} (h : Rch w g v0 v1 v2 v3 e) : Rch w.drew g v0 v1 v2 v3 e := h

/-- an argument that lies in another block -/
def ArgA (g : Nat) (w : World) (v : Value) (n : Int) (k : Nat) : Prop :=
  ∃ zs, (∃ ao cap, v = .slice ao zs.length cap ∧ zs.length ≤ cap ∧ cap ≤ maxLen ∧ Cells .u32 w ao zs ∧ (0 < zs.length → Away g ao)) ∧ Nt.Ok zs ∧ Nt.val zs = n ∧ zs.length ≤ k
theorem ArgA.arg {g : Nat} {w : World} {v : Value} {n : Int} {k : Nat} (h : ArgA g w v n k) : Arg w v n k := by
  obtain ⟨zs, ⟨ao, cap, h1, h2, h3, h4, _⟩, h5⟩ := h
  exact ⟨zs, ⟨ao, cap, h1, h2, h3, h4⟩, h5⟩
theorem ArgA.only {g : Nat} {w w' : World} {v : Value} {n : Int} {k : Nat} (h : ArgA g w v n k) (ho : Only g w w') : ArgA g w' v n k := by
  obtain ⟨zs, ⟨ao, cap, h1, h2, h3, h4, ha⟩, h5⟩ := h
  exact ⟨zs, ⟨ao, cap, h1, h2, h3, ho.cells h4 ha, ha⟩, h5⟩
theorem ArgA.below {g : Nat} {w w' : World} {v : Value} {n : Int} {k : Nat} (h : ArgA g w v n k) (hb : Below w.heap.size w w') : ArgA g w' v n k := by
  obtain ⟨zs, ⟨ao, cap, h1, h2, h3, h4, ha⟩, h5⟩ := h
  exact ⟨zs, ⟨ao, cap, h1, h2, h3, h4.below hb, ha⟩, h5⟩
theorem ArgA.nonneg {g : Nat} {w : World} {v : Value} {n : Int} {k : Nat} (h : ArgA g w v n k) : 0 ≤ n := h.arg.nonneg
theorem Num.away {B g : Nat} {w : World} {v : Value} {n : Int} {k : Nat} (h : Num B w v n k) (hg : g < B) : ArgA g w v n k := by
  obtain ⟨zs, hm, h2, h3, h4⟩ := h
  obtain ⟨ao, cap, g1, g2, g3, g4⟩ := hm.reads
  refine ⟨zs, ⟨ao, cap, g1, g2, g3, g4, fun hp b off e => ?_⟩, h2.1, h3, h4⟩
  obtain ⟨ao', e1, _, e3⟩ := hm
  obtain ⟨b', rest, e4, e5, _⟩ := e3 hp
  rw [g1] at e1
  injection e1 with e1
  rw [e1, e4] at e
  injection e with e
  injection e with e
  omega
theorem Num.slice {B : Nat} {w : World} {v : Value} {n : Int} {k : Nat} (h : Num B w v n k) : ∃ a l c, v = .slice a l c := by
  obtain ⟨zs, ⟨ao, h1, _⟩, _⟩ := h
  exact ⟨_, _, _, h1⟩
/-- a number that is less has no more limbs -/
theorem Num.fit {B : Nat} {w : World} {v : Value} {n : Int} {k : Nat} (h : Num B w v n k) {j : Nat} (hj : n < Nt.pw j) : Num B w v n j := by
  obtain ⟨zs, h1, h2, h3, h4⟩ := h
  refine ⟨zs, h1, h2, h3, ?_⟩
  by_cases e : zs = []
  · subst e; exact Nat.zero_le _
  · have a := Nt.canon_low h2 e
    rcases Nat.lt_or_ge j zs.length with g | g
    · exfalso
      have : Nt.pw j ≤ Nt.pw (zs.length - 1) := by rw [← p2_32, ← p2_32]; exact p2_mono (by omega)
      omega
    · exact g
theorem below_only {g : Nat} {w w' : World} (h : Below w.heap.size w w') : Only g w w' := ⟨h.os, h.tape, h.output, h.size, fun k hk _ => h.block k hk⟩

theorem Num.only {B g : Nat} {w w' : World} {v : Value} {n : Int} {k : Nat} (h : Num B w v n k) (ho : Only g w w') (hg : g < B) : Num B w' v n k := by
  obtain ⟨zs, ⟨ao, h1, h2, h3⟩, h4⟩ := h
  refine ⟨zs, ⟨ao, h1, h2, fun hp => ?_⟩, h4⟩
  obtain ⟨b, rest, e1, e2, e3⟩ := h3 hp
  exact ⟨b, rest, e1, e2, ho.row (by omega) e3⟩
theorem Num.since {B C : Nat} {w : World} {v : Value} {n : Int} {k : Nat} (h : Num B w v n k) (hC : C ≤ B) : Num C w v n k := by
  obtain ⟨zs, ⟨ao, h1, h2, h3⟩, h4⟩ := h
  refine ⟨zs, ⟨ao, h1, h2, fun hp => ?_⟩, h4⟩
  obtain ⟨b, rest, e1, e2, e3⟩ := h3 hp
  exact ⟨b, rest, e1, Nat.le_trans hC e2, e3⟩

/-- the reach tells these numbers -/
def Rc (w : World) (g : Nat) (v3 : Value) (N B A O : Int) (e : Bool) : Prop := ∃ v0 v1 v2, Rch w g v0 v1 v2 v3 e ∧ ArgA g w v0 N 100 ∧ ArgA g w v1 B 100 ∧ ArgA g w v2 A 100 ∧ ArgA g w v3 O 100
theorem Rc.keeps {w w' : World} {g : Nat} {v3 : Value} {N B A O : Int} {e : Bool} (h : Rc w g v3 N B A O e) (hb : Below w.heap.size w w') : Rc w' g v3 N B A O e := by
  obtain ⟨v0, v1, v2, h0, h1, h2, h3, h4⟩ := h
  exact ⟨v0, v1, v2, h0.keeps hb, h1.below hb, h2.below hb, h3.below hb, h4.below hb⟩
/-- the numbers are new: they lie in blocks from C on -/
def Rf (C : Nat) (w : World) (g : Nat) (v3 : Value) (N B A : Int) (e : Bool) : Prop := ∃ v0 v1 v2, Rch w g v0 v1 v2 v3 e ∧ Num C w v0 N 100 ∧ Num C w v1 B 100 ∧ Num C w v2 A 100
theorem Rf.rc {C : Nat} {w : World} {g : Nat} {v3 : Value} {N B A O : Int} {e : Bool} (h : Rf C w g v3 N B A e) (hg : g < C) (h3 : ArgA g w v3 O 100) : Rc w g v3 N B A O e := by
  obtain ⟨v0, v1, v2, h0, a0, a1, a2⟩ := h
  exact ⟨v0, v1, v2, h0, a0.away hg, a1.away hg, a2.away hg, h3⟩
theorem Rf.below {C : Nat} {w w' : World} {g : Nat} {v3 : Value} {N B A : Int} {e : Bool} (h : Rf C w g v3 N B A e) (hb : Below w.heap.size w w') : Rf C w' g v3 N B A e := by
  obtain ⟨v0, v1, v2, h0, a0, a1, a2⟩ := h
  exact ⟨v0, v1, v2, h0.keeps hb, a0.below hb, a1.below hb, a2.below hb⟩
theorem Rf.since {C D : Nat} {w : World} {g : Nat} {v3 : Value} {N B A : Int} {e : Bool} (h : Rf C w g v3 N B A e) (hD : D ≤ C) : Rf D w g v3 N B A e := by
  obtain ⟨v0, v1, v2, h0, a0, a1, a2⟩ := h
  exact ⟨v0, v1, v2, h0, a0.since hD, a1.since hD, a2.since hD⟩

end Go.Proofs.YtinfkoiifemjmaaGreatDoor

namespace Go.Proofs.YtinfkoiifemjmaaGreatDoor
set_option linter.unusedVariables false

theorem mst_parity {F s : Int} (h2 : F % 2 = 0) (hF : 0 < F) : mst F s % 2 = s % 2 := by
  unfold mst
  split
  · rfl
  · have := Int.mul_ediv_add_emod s F
    obtain ⟨f, rfl⟩ : ∃ f, F = 2 * f := ⟨F / 2, by omega⟩
    rw [Int.mul_assoc] at this
    omega
/-- an even one and the next: one step -/
theorem est_even {F L s : Int} (h2 : F % 2 = 0) (hF : 0 < F) (h0 : 0 ≤ s) (he : s % 2 = 0) : est F L (s + 1) = est F L s := by
  rcases est_pred (F := F) (L := L) (s := s + 1) hF (by omega) with g | ⟨_, g⟩
  · rw [show s + 1 - 1 = s by omega] at g; exact g.symm
  · exfalso
    have := mst_parity (s := s + 1) h2 hF
    omega
def or1 (x : Int) : Int := if x % 2 = 0 then x + 1 else x
theorem or1_cases (x : Int) : (x % 2 = 0 ∧ or1 x = x + 1) ∨ (x % 2 = 1 ∧ or1 x = x) := by unfold or1; split <;> omega
/-- the power of 2 that the last digit of an odd one counts -/
theorem part_step {F L I s m E : Int} {ng a ok : Bool} (h2 : F % 2 = 0) (hF : 0 < F) (h0 : 0 < s) (h1 : s < I) (ho : s % 2 = 1) (h : PartIs F L I s ng a m E ok) : E = est F L s := by
  obtain ⟨_, _, _, g⟩ := h.2 h1
  obtain ⟨_, k, _, g2, g3⟩ := g h0
  have := mst_parity (s := s) h2 hF
  cases k with
  | zero => rw [g3]; simp
  | succ k => rw [p2, Int.mul_left_comm] at g2; omega
theorem part_above {F L I s m E : Int} {ng a ok : Bool} (h2 : F % 2 = 0) (hI : I % 2 = 0) (hF : 0 < F) (h0 : 0 < s) (h1 : s < I) (h : PartIs F L I (or1 s) ng a m E ok) : E = est F L s := by
  rcases or1_cases s with ⟨g, e⟩ | ⟨g, e⟩
  · rw [e] at h
    rw [part_step h2 hF (by omega) (by omega) (by omega) h, est_even h2 hF (by omega) g]
  · rw [e] at h
    exact part_step h2 hF h0 h1 g h
theorem part_below {F L I s m E : Int} {ng a ok : Bool} (h2 : F % 2 = 0) (hF : 0 < F) (h0 : 0 < s) (h1 : s < I) (h : PartIs F L I (or1 (s - 1)) ng a m E ok) : E = est F L (s - 1) := by
  rcases or1_cases (s - 1) with ⟨g, e⟩ | ⟨g, e⟩
  · rw [e, show s - 1 + 1 = s by omega] at h
    rw [part_step h2 hF h0 h1 (by omega) h, ← est_even h2 hF (s := s - 1) (by omega) g, show s - 1 + 1 = s by omega]
  · rw [e] at h
    exact part_step h2 hF (by omega) (by omega) g h
/-- the number in halves of the step below -/
theorem part_number {F L I s m E sb : Int} {ng a ok : Bool} (hF : 0 < F) (h0 : 0 < s) (h1 : s < I) (h : PartIs F L I s ng a m E ok) (hsb : sb = est F L (s - 1)) :
    0 ≤ E - sb ∧ 0 < m ∧ m ≤ mst F s ∧ 0 ≤ est F L s - sb ∧ est F L s - sb ≤ 1 ∧ 2 * m * p2 (E - sb).toNat = 2 * mst F s * p2 (est F L s - sb).toNat ∧ E - sb ≤ 64 := by
  obtain ⟨_, _, _, g⟩ := h.2 h1
  obtain ⟨g1, k, k64, g2, g3⟩ := g h0
  have mp := mst_pos hF h0
  have d : sb = est F L s ∨ sb = est F L s - 1 := by rcases est_pred (L := L) hF h0 with g | ⟨g, _⟩ <;> omega
  have pk := p2_pos k
  have m0 : 0 < m := by
    rcases Int.lt_or_le 0 m with c | c
    · exact c
    · exfalso
      have : m * p2 k ≤ 0 * p2 k := Int.mul_le_mul_of_nonneg_right c (by omega)
      omega
  have m1 : m * 1 ≤ m * p2 k := Int.mul_le_mul_of_nonneg_left (by omega) (by omega)
  refine ⟨by omega, m0, by omega, by omega, by omega, ?_, by omega⟩
  rw [show (E - sb).toNat = k + (est F L s - sb).toNat by omega, p2_add, g2]
  ac_rfl

end Go.Proofs.YtinfkoiifemjmaaGreatDoor

namespace Go.Proofs.YtinfkoiifemjmaaGreatDoor
open Go.RowKit
set_option linter.unusedVariables false

/-- four arguments -/
structure Four (w : World) (v0 v1 v2 v3 : Value) (N B A O : Int) : Prop where
  a0 : Arg w v0 N 100
  a1 : Arg w v1 B 100
  a2 : Arg w v2 A 100
  a3 : Arg w v3 O 100
/-- they do not lie in that block -/
def AwayV (g : Nat) (v : Value) : Prop := ∀ a l c, v = .slice a l c → 0 < l → Away g a
structure Low (z : Nat) (v0 v1 v2 v3 : Value) : Prop where
  l0 : AwayV z v0
  l1 : AwayV z v1
  l2 : AwayV z v2
  l3 : AwayV z v3
theorem Num.awayV {C z : Nat} {w : World} {v : Value} {n : Int} {k : Nat} (h : Num C w v n k) (hz : z < C) : AwayV z v := by
  obtain ⟨zs, ⟨ao, rfl, _, h3⟩, _⟩ := h
  intro a l c e hl b off ea
  injection e with e1 e2 e3
  subst e1 e2
  obtain ⟨b', rest, e4, e5, _⟩ := h3 hl
  rw [e4] at ea
  injection ea with ea
  injection ea with ea
  omega
theorem ArgA.to {g z : Nat} {w : World} {v : Value} {n : Int} {k : Nat} (h : ArgA g w v n k) (hz : AwayV z v) : ArgA z w v n k := by
  obtain ⟨zs, ⟨ao, cap, h1, h2, h3, h4, _⟩, h5⟩ := h
  exact ⟨zs, ⟨ao, cap, h1, h2, h3, h4, fun hp => hz ao zs.length cap h1 hp⟩, h5⟩
theorem ArgA.slice {g : Nat} {w : World} {v : Value} {n : Int} {k : Nat} (h : ArgA g w v n k) : ∃ a l c, v = .slice a l c := by
  obtain ⟨zs, ⟨ao, cap, h1, _⟩, _⟩ := h
  exact ⟨_, _, _, h1⟩
theorem ArgA.mono {g : Nat} {w : World} {v : Value} {n : Int} {k k' : Nat} (h : ArgA g w v n k) (hk : k ≤ k') : ArgA g w v n k' := by
  obtain ⟨zs, h1, h2, h3, h4⟩ := h
  exact ⟨zs, h1, h2, h3, Nat.le_trans h4 hk⟩
theorem arg_old {A W : World} {v : Value} {n : Int} {k : Nat} (h : Arg A v n k) (hb : Below A.heap.size A W) : ArgA A.heap.size W v n k := by
  obtain ⟨zs, ⟨ao, cap, h1, h2, h3, h4⟩, h5⟩ := h
  exact ⟨zs, ⟨ao, cap, h1, h2, h3, h4.below hb, away_below h4 (Nat.le_refl _)⟩, h5⟩
theorem Rch.only {w w' : World} {g b : Nat} {v0 v1 v2 v3 : Value} {e : Bool} (h : Rch w g v0 v1 v2 v3 e) (ho : Only b w w') (hn : g ≠ b) : Rch w' g v0 v1 v2 v3 e := by
  unfold Rch; rw [ho.block g h.lt hn]; exact h
theorem Rch.set4 {w : World} {g : Nat} {v0 v1 v2 v3 : Value} {e : Bool} (h : Rch w g v0 v1 v2 v3 e) (f : Bool) : Rch (w.setCell ⟨g, 4, none⟩ (.bool f)) g v0 v1 v2 v3 f := by
  unfold Rch; rw [heap_setCell_same w g 4 _ _ _ h]; rfl
/-- five cells are written -/
def put5 (w : World) (b : Nat) (v0 v1 v2 v3 : Value) (e : Bool) : World := ((((w.setCell ⟨b, 0, none⟩ v0).setCell ⟨b, 1, none⟩ v1).setCell ⟨b, 2, none⟩ v2).setCell ⟨b, 3, none⟩ v3).setCell ⟨b, 4, none⟩ (.bool e)
theorem put5_only (w : World) (b : Nat) (v0 v1 v2 v3 : Value) (e : Bool) : Only b w (put5 w b v0 v1 v2 v3 e) := (((((Only.refl b w).set 0 v0).set 1 v1).set 2 v2).set 3 v3).set 4 _
theorem put5_rch {w : World} {b : Nat} {a0 a1 a2 a3 : Value} {f : Bool} (h : Rch w b a0 a1 a2 a3 f) (v0 v1 v2 v3 : Value) (e : Bool) : Rch (put5 w b v0 v1 v2 v3 e) b v0 v1 v2 v3 e := ((((h.set0 v0).set1 v1).set2 v2).set3 v3).set4 e
theorem put5_below {B : Nat} {w w' : World} {b : Nat} (h : Below B w w') (hb : B ≤ b) (v0 v1 v2 v3 : Value) (e : Bool) : Below B w (put5 w' b v0 v1 v2 v3 e) :=
  ((((h.setCell (p := ⟨b, 0, none⟩) hb _).setCell (p := ⟨b, 1, none⟩) hb _).setCell (p := ⟨b, 2, none⟩) hb _).setCell (p := ⟨b, 3, none⟩) hb _).setCell (p := ⟨b, 4, none⟩) hb _
theorem reach_end {w : World} {z : Nat} {v0 v1 v2 v3 : Value} {N B A O : Int} (x0 : ArgA z w v0 N 100) (x1 : ArgA z w v1 B 100) (x2 : ArgA z w v2 A 100) (x3 : ArgA z w v3 O 100) (e : Bool) : Four (put5 w z v0 v1 v2 v3 e) v0 v1 v2 v3 N B A O :=
  have o := put5_only w z v0 v1 v2 v3 e
  ⟨(x0.only o).arg, (x1.only o).arg, (x2.only o).arg, (x3.only o).arg⟩
theorem num_wrap {m x E sb : Int} {dl : Nat} (n1 : 0 ≤ E - sb) (n7 : E - sb ≤ 64) (hm : 0 < m) (hx : m ≤ x ∧ x < 9007199254740992 ∧ 0 < x) (hd : dl ≤ 1) (h : 2 * m * p2 (E - sb).toNat = 2 * x * p2 dl) :
    IntKind.u64.wrap (IntKind.u64.wrap (2 * m) * 2 ^ min (E - sb).toNat 64) = 2 * x * p2 dl := by
  have e1 : IntKind.u64.wrap (2 * m) = 2 * m := by rw [IntKind.wrap_u64]; omega
  have e2 : min (E - sb).toNat 64 = (E - sb).toNat := by omega
  have e3 : (2 : Int) ^ (E - sb).toNat = p2 (E - sb).toNat := by
    generalize (E - sb).toNat = k
    induction k with
    | zero => rfl
    | succ k ih => rw [p2, Int.pow_succ, ih, Int.mul_comm]
  rw [e1, e2, e3, h, IntKind.wrap_u64]
  have : p2 dl = 1 ∨ p2 dl = 2 := by
    rcases Nat.lt_or_ge dl 1 with c | c
    · left; rw [show dl = 0 by omega]; rfl
    · right; rw [show dl = 1 by omega]; rfl
  rcases this with c | c <;> rw [c] <;> omega

theorem abo_wrap {dl : Nat} (hd : dl ≤ 1) : IntKind.u64.wrap (2 ^ dl) = p2 dl := by
  rcases Nat.lt_or_ge dl 1 with c | c
  · rw [show dl = 0 by omega]; rfl
  · rw [show dl = 1 by omega]; rfl
theorem av_range {dl : Nat} {Av : Int} (hd : dl ≤ 1) (h : p2 dl = Av) : 1 ≤ Av ∧ Av ≤ 2 := by
  subst h
  rcases Nat.lt_or_ge dl 1 with c | c
  · rw [show dl = 0 by omega]; decide
  · rw [show dl = 1 by omega]; decide
theorem nv_range {F x Nv : Int} {dl : Nat} (m0 : 0 ≤ x) (m1 : x < 2 * F) (hF : F ≤ 4503599627370496) (hd : dl ≤ 1) (h : 2 * x * p2 dl = Nv) : 0 ≤ Nv ∧ Nv < 72057594037927936 := by
  subst h
  rcases Nat.lt_or_ge dl 1 with c | c
  · rw [show dl = 0 by omega, show p2 0 = 1 from rfl]; omega
  · rw [show dl = 1 by omega, show p2 1 = 2 from rfl]; omega

theorem rch_new {w w2 : World} (hb : Below (w.alloc (.cells #[.slice none 0 0, .slice none 0 0, .slice none 0 0, .slice none 0 0, .bool false] 85)).heap.size (w.alloc (.cells #[.slice none 0 0, .slice none 0 0, .slice none 0 0, .slice none 0 0, .bool false] 85)) w2) : Rch w2 w.heap.size (.slice none 0 0) (.slice none 0 0) (.slice none 0 0) (.slice none 0 0) false :=
  Rch.keeps (heap_alloc_new _ _) hb
theorem rch_new_d {w w2 : World} (hb : Below (w.alloc (.cells #[.slice none 0 0, .slice none 0 0, .slice none 0 0, .slice none 0 0, .bool false] 85)).drew.heap.size (w.alloc (.cells #[.slice none 0 0, .slice none 0 0, .slice none 0 0, .slice none 0 0, .bool false] 85)).drew w2) : Rch w2 w.heap.size (.slice none 0 0) (.slice none 0 0) (.slice none 0 0) (.slice none 0 0) false :=
  Rch.keeps (w := (w.alloc (.cells #[.slice none 0 0, .slice none 0 0, .slice none 0 0, .slice none 0 0, .bool false] 85)).drew) (heap_alloc_new w _) hb

end Go.Proofs.YtinfkoiifemjmaaGreatDoor

namespace Go.Proofs.YtinfkoiifemjmaaGreatDoor
open Go.RowKit
set_option linter.unusedVariables false

/-- behind the region: the reach lies in a block of its own -/
def AtR (w3 : World) (z : Nat) (e : Bool) (N A : Int) (s15 : Value) (wc : World) : Prop :=
  ∃ b v0 v1 v2 v3, s15 = .pointer (some ⟨b, 0, none⟩) ∧ w3.heap.size ≤ b ∧ Rch wc b v0 v1 v2 v3 e ∧ ArgA b wc v0 N 2 ∧ ArgA b wc v1 1 2 ∧ ArgA b wc v2 A 2 ∧ ArgA b wc v3 1 2 ∧ Low z v0 v1 v2 v3 ∧ Below w3.heap.size w3 wc

theorem reach_leaf0 {w3 w4 w5 w6 w7 : World} {z : Nat} {e : Bool} {N A : Int} {y1a y2a y3a y4a : Option Addr} {y1l y1c y2l y2c y3l y3c y4l y4c : Nat} (hz : z < w3.heap.size) (f1 : Below (w3.alloc (.cells #[.slice none 0 0, .slice none 0 0, .slice none 0 0, .slice none 0 0, .bool false] 85)).drew.heap.size (w3.alloc (.cells #[.slice none 0 0, .slice none 0 0, .slice none 0 0, .slice none 0 0, .bool false] 85)).drew w4) (f2 : Below w4.heap.size w4 w5) (f3 : Below w5.heap.size w5 w6) (f4 : Below w6.heap.size w6 w7) (g1 : Num (w3.alloc (.cells #[.slice none 0 0, .slice none 0 0, .slice none 0 0, .slice none 0 0, .bool false] 85)).drew.heap.size w4 (.slice y1a y1l y1c) N 2) (g2 : Num w4.heap.size w5 (.slice y2a y2l y2c) 1 2) (g3 : Num w5.heap.size w6 (.slice y3a y3l y3c) A 2) (g4 : Num w6.heap.size w7 (.slice y4a y4l y4c) 1 2) (rr : Rch w7 w3.heap.size (.slice none 0 0) (.slice none 0 0) (.slice none 0 0) (.slice none 0 0) false) :
    AtR w3 z e N A (.pointer (some ⟨w3.heap.size, 0, none⟩)) (put5 w7 w3.heap.size (.slice y1a y1l y1c) (.slice y2a y2l y2c) (.slice y3a y3l y3c) (.slice y4a y4l y4c) e) := by
  have DA := (below_trans (below_trans (below_trans (below_trans (bel_new w3 (.cells #[.slice none 0 0, .slice none 0 0, .slice none 0 0, .slice none 0 0, .bool false] 85)).drew f1) f2) f3) f4)
  have DB : Below w3.heap.size w3 w3 := Below.refl _ _
  have DW := below_trans DB DA
  have sA : (w3.alloc (.cells #[.slice none 0 0, .slice none 0 0, .slice none 0 0, .slice none 0 0, .bool false] 85)).drew.heap.size = w3.heap.size + 1 := by simp
  have s1 := f1.size
  have s2 := f2.size
  have s3 := f3.size
  have s4 := f4.size
  have sd : w3.drew.heap.size = w3.heap.size := rfl
  have x1 := (g1.away (g := w3.heap.size) (by omega)).below (below_trans (below_trans f2 f3) f4)
  have z1 := g1.awayV (z := z) (by omega)
  have x2 := (g2.away (g := w3.heap.size) (by omega)).below (below_trans f3 f4)
  have z2 := g2.awayV (z := z) (by omega)
  have x3 := (g3.away (g := w3.heap.size) (by omega)).below f4
  have z3 := g3.awayV (z := z) (by omega)
  have x4 := (g4.away (g := w3.heap.size) (by omega))
  have z4 := g4.awayV (z := z) (by omega)
  have o := put5_only w7 w3.heap.size (.slice y1a y1l y1c) (.slice y2a y2l y2c) (.slice y3a y3l y3c) (.slice y4a y4l y4c) e
  exact ⟨w3.heap.size, _, _, _, _, rfl, DB.size, put5_rch rr (.slice y1a y1l y1c) (.slice y2a y2l y2c) (.slice y3a y3l y3c) (.slice y4a y4l y4c) _, x1.only o, x2.only o, x3.only o, x4.only o, ⟨z1, z2, z3, z4⟩, put5_below DW DB.size (.slice y1a y1l y1c) (.slice y2a y2l y2c) (.slice y3a y3l y3c) (.slice y4a y4l y4c) _⟩

theorem reach_leaf1 {w3 w4 w5 w6 w7 : World} {z : Nat} {e : Bool} {N A : Int} {y1a y2a y3a y4a : Option Addr} {y1l y1c y2l y2c y3l y3c y4l y4c : Nat} (hz : z < w3.heap.size) (f1 : Below w3.drew.heap.size w3.drew w4) (f2 : Below (w4.alloc (.cells #[.slice none 0 0, .slice none 0 0, .slice none 0 0, .slice none 0 0, .bool false] 85)).heap.size (w4.alloc (.cells #[.slice none 0 0, .slice none 0 0, .slice none 0 0, .slice none 0 0, .bool false] 85)) w5) (f3 : Below w5.heap.size w5 w6) (f4 : Below w6.heap.size w6 w7) (g1 : Num w3.drew.heap.size w4 (.slice y1a y1l y1c) N 2) (g2 : Num (w4.alloc (.cells #[.slice none 0 0, .slice none 0 0, .slice none 0 0, .slice none 0 0, .bool false] 85)).heap.size w5 (.slice y2a y2l y2c) 1 2) (g3 : Num w5.heap.size w6 (.slice y3a y3l y3c) A 2) (g4 : Num w6.heap.size w7 (.slice y4a y4l y4c) 1 2) (rr : Rch w7 w4.heap.size (.slice none 0 0) (.slice none 0 0) (.slice none 0 0) (.slice none 0 0) false) :
    AtR w3 z e N A (.pointer (some ⟨w4.heap.size, 0, none⟩)) (put5 w7 w4.heap.size (.slice y1a y1l y1c) (.slice y2a y2l y2c) (.slice y3a y3l y3c) (.slice y4a y4l y4c) e) := by
  have DA := (below_trans (below_trans (below_trans (bel_new w4 (.cells #[.slice none 0 0, .slice none 0 0, .slice none 0 0, .slice none 0 0, .bool false] 85)) f2) f3) f4)
  have DB : Below w3.heap.size w3 w4 := (below_trans (Below.refl _ _).drew f1)
  have DW := below_trans DB DA
  have sA : (w4.alloc (.cells #[.slice none 0 0, .slice none 0 0, .slice none 0 0, .slice none 0 0, .bool false] 85)).heap.size = w4.heap.size + 1 := by simp
  have s1 := f1.size
  have s2 := f2.size
  have s3 := f3.size
  have s4 := f4.size
  have sd : w3.drew.heap.size = w3.heap.size := rfl
  have x1 := arg_old g1.arg DA
  have z1 := g1.awayV (z := z) (by omega)
  have x2 := (g2.away (g := w4.heap.size) (by omega)).below (below_trans f3 f4)
  have z2 := g2.awayV (z := z) (by omega)
  have x3 := (g3.away (g := w4.heap.size) (by omega)).below f4
  have z3 := g3.awayV (z := z) (by omega)
  have x4 := (g4.away (g := w4.heap.size) (by omega))
  have z4 := g4.awayV (z := z) (by omega)
  have o := put5_only w7 w4.heap.size (.slice y1a y1l y1c) (.slice y2a y2l y2c) (.slice y3a y3l y3c) (.slice y4a y4l y4c) e
  exact ⟨w4.heap.size, _, _, _, _, rfl, DB.size, put5_rch rr (.slice y1a y1l y1c) (.slice y2a y2l y2c) (.slice y3a y3l y3c) (.slice y4a y4l y4c) _, x1.only o, x2.only o, x3.only o, x4.only o, ⟨z1, z2, z3, z4⟩, put5_below DW DB.size (.slice y1a y1l y1c) (.slice y2a y2l y2c) (.slice y3a y3l y3c) (.slice y4a y4l y4c) _⟩

theorem reach_leaf2 {w3 w4 w5 w6 w7 : World} {z : Nat} {e : Bool} {N A : Int} {y1a y2a y3a y4a : Option Addr} {y1l y1c y2l y2c y3l y3c y4l y4c : Nat} (hz : z < w3.heap.size) (f1 : Below w3.drew.heap.size w3.drew w4) (f2 : Below w4.heap.size w4 w5) (f3 : Below (w5.alloc (.cells #[.slice none 0 0, .slice none 0 0, .slice none 0 0, .slice none 0 0, .bool false] 85)).heap.size (w5.alloc (.cells #[.slice none 0 0, .slice none 0 0, .slice none 0 0, .slice none 0 0, .bool false] 85)) w6) (f4 : Below w6.heap.size w6 w7) (g1 : Num w3.drew.heap.size w4 (.slice y1a y1l y1c) N 2) (g2 : Num w4.heap.size w5 (.slice y2a y2l y2c) 1 2) (g3 : Num (w5.alloc (.cells #[.slice none 0 0, .slice none 0 0, .slice none 0 0, .slice none 0 0, .bool false] 85)).heap.size w6 (.slice y3a y3l y3c) A 2) (g4 : Num w6.heap.size w7 (.slice y4a y4l y4c) 1 2) (rr : Rch w7 w5.heap.size (.slice none 0 0) (.slice none 0 0) (.slice none 0 0) (.slice none 0 0) false) :
    AtR w3 z e N A (.pointer (some ⟨w5.heap.size, 0, none⟩)) (put5 w7 w5.heap.size (.slice y1a y1l y1c) (.slice y2a y2l y2c) (.slice y3a y3l y3c) (.slice y4a y4l y4c) e) := by
  have DA := (below_trans (below_trans (bel_new w5 (.cells #[.slice none 0 0, .slice none 0 0, .slice none 0 0, .slice none 0 0, .bool false] 85)) f3) f4)
  have DB : Below w3.heap.size w3 w5 := (below_trans (below_trans (Below.refl _ _).drew f1) f2)
  have DW := below_trans DB DA
  have sA : (w5.alloc (.cells #[.slice none 0 0, .slice none 0 0, .slice none 0 0, .slice none 0 0, .bool false] 85)).heap.size = w5.heap.size + 1 := by simp
  have s1 := f1.size
  have s2 := f2.size
  have s3 := f3.size
  have s4 := f4.size
  have sd : w3.drew.heap.size = w3.heap.size := rfl
  have x1 := arg_old (g1.arg.below f2) DA
  have z1 := g1.awayV (z := z) (by omega)
  have x2 := arg_old g2.arg DA
  have z2 := g2.awayV (z := z) (by omega)
  have x3 := (g3.away (g := w5.heap.size) (by omega)).below f4
  have z3 := g3.awayV (z := z) (by omega)
  have x4 := (g4.away (g := w5.heap.size) (by omega))
  have z4 := g4.awayV (z := z) (by omega)
  have o := put5_only w7 w5.heap.size (.slice y1a y1l y1c) (.slice y2a y2l y2c) (.slice y3a y3l y3c) (.slice y4a y4l y4c) e
  exact ⟨w5.heap.size, _, _, _, _, rfl, DB.size, put5_rch rr (.slice y1a y1l y1c) (.slice y2a y2l y2c) (.slice y3a y3l y3c) (.slice y4a y4l y4c) _, x1.only o, x2.only o, x3.only o, x4.only o, ⟨z1, z2, z3, z4⟩, put5_below DW DB.size (.slice y1a y1l y1c) (.slice y2a y2l y2c) (.slice y3a y3l y3c) (.slice y4a y4l y4c) _⟩

theorem reach_leaf3 {w3 w4 w5 w6 w7 : World} {z : Nat} {e : Bool} {N A : Int} {y1a y2a y3a y4a : Option Addr} {y1l y1c y2l y2c y3l y3c y4l y4c : Nat} (hz : z < w3.heap.size) (f1 : Below w3.drew.heap.size w3.drew w4) (f2 : Below w4.heap.size w4 w5) (f3 : Below w5.heap.size w5 w6) (f4 : Below (w6.alloc (.cells #[.slice none 0 0, .slice none 0 0, .slice none 0 0, .slice none 0 0, .bool false] 85)).heap.size (w6.alloc (.cells #[.slice none 0 0, .slice none 0 0, .slice none 0 0, .slice none 0 0, .bool false] 85)) w7) (g1 : Num w3.drew.heap.size w4 (.slice y1a y1l y1c) N 2) (g2 : Num w4.heap.size w5 (.slice y2a y2l y2c) 1 2) (g3 : Num w5.heap.size w6 (.slice y3a y3l y3c) A 2) (g4 : Num (w6.alloc (.cells #[.slice none 0 0, .slice none 0 0, .slice none 0 0, .slice none 0 0, .bool false] 85)).heap.size w7 (.slice y4a y4l y4c) 1 2) (rr : Rch w7 w6.heap.size (.slice none 0 0) (.slice none 0 0) (.slice none 0 0) (.slice none 0 0) false) :
    AtR w3 z e N A (.pointer (some ⟨w6.heap.size, 0, none⟩)) (put5 w7 w6.heap.size (.slice y1a y1l y1c) (.slice y2a y2l y2c) (.slice y3a y3l y3c) (.slice y4a y4l y4c) e) := by
  have DA := (below_trans (bel_new w6 (.cells #[.slice none 0 0, .slice none 0 0, .slice none 0 0, .slice none 0 0, .bool false] 85)) f4)
  have DB : Below w3.heap.size w3 w6 := (below_trans (below_trans (below_trans (Below.refl _ _).drew f1) f2) f3)
  have DW := below_trans DB DA
  have sA : (w6.alloc (.cells #[.slice none 0 0, .slice none 0 0, .slice none 0 0, .slice none 0 0, .bool false] 85)).heap.size = w6.heap.size + 1 := by simp
  have s1 := f1.size
  have s2 := f2.size
  have s3 := f3.size
  have s4 := f4.size
  have sd : w3.drew.heap.size = w3.heap.size := rfl
  have x1 := arg_old (g1.arg.below (below_trans f2 f3)) DA
  have z1 := g1.awayV (z := z) (by omega)
  have x2 := arg_old (g2.arg.below f3) DA
  have z2 := g2.awayV (z := z) (by omega)
  have x3 := arg_old g3.arg DA
  have z3 := g3.awayV (z := z) (by omega)
  have x4 := (g4.away (g := w6.heap.size) (by omega))
  have z4 := g4.awayV (z := z) (by omega)
  have o := put5_only w7 w6.heap.size (.slice y1a y1l y1c) (.slice y2a y2l y2c) (.slice y3a y3l y3c) (.slice y4a y4l y4c) e
  exact ⟨w6.heap.size, _, _, _, _, rfl, DB.size, put5_rch rr (.slice y1a y1l y1c) (.slice y2a y2l y2c) (.slice y3a y3l y3c) (.slice y4a y4l y4c) _, x1.only o, x2.only o, x3.only o, x4.only o, ⟨z1, z2, z3, z4⟩, put5_below DW DB.size (.slice y1a y1l y1c) (.slice y2a y2l y2c) (.slice y3a y3l y3c) (.slice y4a y4l y4c) _⟩

theorem reach_leaf4 {w3 w4 w5 w6 w7 : World} {z : Nat} {e : Bool} {N A : Int} {y1a y2a y3a y4a : Option Addr} {y1l y1c y2l y2c y3l y3c y4l y4c : Nat} (hz : z < w3.heap.size) (f1 : Below w3.drew.heap.size w3.drew w4) (f2 : Below w4.heap.size w4 w5) (f3 : Below w5.heap.size w5 w6) (f4 : Below w6.heap.size w6 w7) (g1 : Num w3.drew.heap.size w4 (.slice y1a y1l y1c) N 2) (g2 : Num w4.heap.size w5 (.slice y2a y2l y2c) 1 2) (g3 : Num w5.heap.size w6 (.slice y3a y3l y3c) A 2) (g4 : Num w6.heap.size w7 (.slice y4a y4l y4c) 1 2) :
    AtR w3 z e N A (.pointer (some ⟨w7.heap.size, 0, none⟩)) (w7.alloc (.cells #[(.slice y1a y1l y1c), (.slice y2a y2l y2c), (.slice y3a y3l y3c), (.slice y4a y4l y4c), .bool e] 85)) := by
  have DA := (bel_new w7 (.cells #[(.slice y1a y1l y1c), (.slice y2a y2l y2c), (.slice y3a y3l y3c), (.slice y4a y4l y4c), .bool e] 85))
  have DB : Below w3.heap.size w3 w7 := (below_trans (below_trans (below_trans (below_trans (Below.refl _ _).drew f1) f2) f3) f4)
  have DW := below_trans DB DA
  have s1 := f1.size
  have s2 := f2.size
  have s3 := f3.size
  have s4 := f4.size
  have sd : w3.drew.heap.size = w3.heap.size := rfl
  have x1 := arg_old (g1.arg.below (below_trans (below_trans f2 f3) f4)) DA
  have z1 := g1.awayV (z := z) (by omega)
  have x2 := arg_old (g2.arg.below (below_trans f3 f4)) DA
  have z2 := g2.awayV (z := z) (by omega)
  have x3 := arg_old (g3.arg.below f4) DA
  have z3 := g3.awayV (z := z) (by omega)
  have x4 := arg_old g4.arg DA
  have z4 := g4.awayV (z := z) (by omega)
  exact ⟨w7.heap.size, _, _, _, _, rfl, DB.size, heap_alloc_new _ _, x1, x2, x3, x4, ⟨z1, z2, z3, z4⟩, DW⟩

/-- the reach, and the answer's place -/
structure Bn (w wx : World) (b : Nat) (v0 v1 v2 v3 : Value) (N B A O : Int) (e : Bool) (k0 k1 k2 k3 : Nat) : Prop where
  R : Rch wx b v0 v1 v2 v3 e
  R0 : Rch wx w.heap.size (.slice none 0 0) (.slice none 0 0) (.slice none 0 0) (.slice none 0 0) false
  x0 : ArgA b wx v0 N k0
  x1 : ArgA b wx v1 B k1
  x2 : ArgA b wx v2 A k2
  x3 : ArgA b wx v3 O k3
  lw : Low w.heap.size v0 v1 v2 v3
  ne : w.heap.size ≠ b
  ge : w.heap.size ≤ b
  K : Below w.heap.size w wx

theorem Bn.put0 {w wx wd : World} {b : Nat} {v0 v1 v2 v3 u : Value} {N B A O M : Int} {e : Bool} {k0 k1 k2 k3 : Nat} (h : Bn w wx b v0 v1 v2 v3 N B A O e k0 k1 k2 k3) (hb : Below wx.heap.size wx wd) (hv : Num wx.heap.size wd u M 100) :
    Bn w (wd.setCell ⟨b, 0, none⟩ u) b u v1 v2 v3 M B A O e 100 k1 k2 k3 := by
  have o : Only b wd (wd.setCell ⟨b, 0, none⟩ u) := (Only.refl b wd).set 0 u
  exact ⟨(h.R.keeps hb).set0 u, (h.R0.keeps hb).only o h.ne, (hv.away h.R.lt).only o, (h.x1.below hb).only o, (h.x2.below hb).only o, (h.x3.below hb).only o, ⟨hv.awayV h.R0.lt, h.lw.l1, h.lw.l2, h.lw.l3⟩, h.ne, h.ge, (h.K.trans (hb.mono (Nat.le_of_lt h.R0.lt))).setCell (p := ⟨b, 0, none⟩) h.ge _⟩

theorem Bn.put1 {w wx wd : World} {b : Nat} {v0 v1 v2 v3 u : Value} {N B A O M : Int} {e : Bool} {k0 k1 k2 k3 : Nat} (h : Bn w wx b v0 v1 v2 v3 N B A O e k0 k1 k2 k3) (hb : Below wx.heap.size wx wd) (hv : Num wx.heap.size wd u M 100) :
    Bn w (wd.setCell ⟨b, 1, none⟩ u) b v0 u v2 v3 N M A O e k0 100 k2 k3 := by
  have o : Only b wd (wd.setCell ⟨b, 1, none⟩ u) := (Only.refl b wd).set 1 u
  exact ⟨(h.R.keeps hb).set1 u, (h.R0.keeps hb).only o h.ne, (h.x0.below hb).only o, (hv.away h.R.lt).only o, (h.x2.below hb).only o, (h.x3.below hb).only o, ⟨h.lw.l0, hv.awayV h.R0.lt, h.lw.l2, h.lw.l3⟩, h.ne, h.ge, (h.K.trans (hb.mono (Nat.le_of_lt h.R0.lt))).setCell (p := ⟨b, 1, none⟩) h.ge _⟩

theorem Bn.put2 {w wx wd : World} {b : Nat} {v0 v1 v2 v3 u : Value} {N B A O M : Int} {e : Bool} {k0 k1 k2 k3 : Nat} (h : Bn w wx b v0 v1 v2 v3 N B A O e k0 k1 k2 k3) (hb : Below wx.heap.size wx wd) (hv : Num wx.heap.size wd u M 100) :
    Bn w (wd.setCell ⟨b, 2, none⟩ u) b v0 v1 u v3 N B M O e k0 k1 100 k3 := by
  have o : Only b wd (wd.setCell ⟨b, 2, none⟩ u) := (Only.refl b wd).set 2 u
  exact ⟨(h.R.keeps hb).set2 u, (h.R0.keeps hb).only o h.ne, (h.x0.below hb).only o, (h.x1.below hb).only o, (hv.away h.R.lt).only o, (h.x3.below hb).only o, ⟨h.lw.l0, h.lw.l1, hv.awayV h.R0.lt, h.lw.l3⟩, h.ne, h.ge, (h.K.trans (hb.mono (Nat.le_of_lt h.R0.lt))).setCell (p := ⟨b, 2, none⟩) h.ge _⟩

theorem Bn.put3 {w wx wd : World} {b : Nat} {v0 v1 v2 v3 u : Value} {N B A O M : Int} {e : Bool} {k0 k1 k2 k3 : Nat} (h : Bn w wx b v0 v1 v2 v3 N B A O e k0 k1 k2 k3) (hb : Below wx.heap.size wx wd) (hv : Num wx.heap.size wd u M 100) :
    Bn w (wd.setCell ⟨b, 3, none⟩ u) b v0 v1 v2 u N B A M e k0 k1 k2 100 := by
  have o : Only b wd (wd.setCell ⟨b, 3, none⟩ u) := (Only.refl b wd).set 3 u
  exact ⟨(h.R.keeps hb).set3 u, (h.R0.keeps hb).only o h.ne, (h.x0.below hb).only o, (h.x1.below hb).only o, (h.x2.below hb).only o, (hv.away h.R.lt).only o, ⟨h.lw.l0, h.lw.l1, h.lw.l2, hv.awayV h.R0.lt⟩, h.ne, h.ge, (h.K.trans (hb.mono (Nat.le_of_lt h.R0.lt))).setCell (p := ⟨b, 3, none⟩) h.ge _⟩

theorem Bn.fin {w wx : World} {b : Nat} {v0 v1 v2 v3 : Value} {N B A O : Int} {e : Bool} {k0 k1 k2 k3 : Nat} (h : Bn w wx b v0 v1 v2 v3 N B A O e k0 k1 k2 k3) (j0 : k0 ≤ 100) (j1 : k1 ≤ 100) (j2 : k2 ≤ 100) (j3 : k3 ≤ 100) :
    Four (put5 wx w.heap.size v0 v1 v2 v3 e) v0 v1 v2 v3 N B A O ∧ Rch (put5 wx w.heap.size v0 v1 v2 v3 e) w.heap.size v0 v1 v2 v3 e ∧ Below w.heap.size w (put5 wx w.heap.size v0 v1 v2 v3 e) :=
  ⟨reach_end ((h.x0.mono j0).to h.lw.l0) ((h.x1.mono j1).to h.lw.l1) ((h.x2.mono j2).to h.lw.l2) ((h.x3.mono j3).to h.lw.l3) e, put5_rch h.R0 v0 v1 v2 v3 e, put5_below h.K (Nat.le_refl _) v0 v1 v2 v3 e⟩

end Go.Proofs.YtinfkoiifemjmaaGreatDoor

namespace Go.Proofs.YtinfkoiifemjmaaGreatDoor
set_option linter.unusedVariables false

/-- what is at hand as the digits are made -/
structure Mk (V Lo Hi G p O : Int) (e : Bool) : Prop where
  hG : 0 < G
  hO : 0 < O
  h10 : 10 * O < Nt.pw 100
  lo : TT G (p - 1) ≤ V
  hi : V < TT G p
  hp : -500 ≤ p - 17
  most : ¬ Out V Lo Hi (e = true) (TT G (p - 17))
  hLo : Lo < V
  hHi : V < Hi
/-- i digits are made, and none of these numbers is within reach -/
structure Rd (V Lo Hi G p O : Int) (e : Bool) (i : Nat) (n b a : Int) : Prop where
  st : St V Lo Hi (TT G (p - i)) O n b a
  b1 : b ≤ O
  a1 : a ≤ O
  i16 : i ≤ 16
  out : ∀ j : Nat, 1 ≤ j → j ≤ i → Out V Lo Hi (e = true) (TT G (p - j))
theorem inn_down {V Lo Hi t O n b a : Int} {e : Bool} (h : St V Lo Hi t O n b a) (ht : 0 < t) (hO : 0 < O) (hHi : V < Hi) : (n < b ∨ (n = b ∧ e = true)) ↔ Inn Lo Hi (e = true) (V / t * t) := by
  have r0 := Int.emod_nonneg V (b := t) (by omega)
  have r2 := Int.mul_ediv_add_emod V t
  rw [Int.mul_comm] at r2
  obtain ⟨d1, d2⟩ := h.down ht hO
  rw [d1, d2]
  unfold Inn
  generalize V / t * t = x at *
  constructor
  · rintro (g | ⟨g, k⟩)
    · exact Or.inl ⟨g, by omega⟩
    · exact Or.inr ⟨k, Or.inl g⟩
  · rintro (⟨g, _⟩ | ⟨k, g | g⟩)
    · exact Or.inl g
    · exact Or.inr ⟨g, k⟩
    · exfalso; omega
theorem inn_up {V Lo Hi t O n b a : Int} {e : Bool} (h : St V Lo Hi t O n b a) (ht : 0 < t) (hO : 0 < O) (hLo : Lo < V) : (O < n + a ∨ (n + a = O ∧ e = true)) ↔ Inn Lo Hi (e = true) ((V / t + 1) * t) := by
  have r1 := Int.emod_lt_of_pos V ht
  have r2 := Int.mul_ediv_add_emod V t
  rw [Int.mul_comm] at r2
  have g : (V / t + 1) * t = V / t * t + t := by rw [Int.add_mul, Int.one_mul]
  obtain ⟨d1, d2⟩ := h.up ht hO
  rw [d1, d2]
  unfold Inn
  have gt : V < (V / t + 1) * t := by omega
  generalize (V / t + 1) * t = x at *
  constructor
  · rintro (g | ⟨g, k⟩)
    · exact Or.inl ⟨by omega, g⟩
    · exact Or.inr ⟨k, Or.inr g⟩
  · rintro (⟨_, g⟩ | ⟨k, g | g⟩)
    · exact Or.inl g
    · exfalso; omega
    · exact Or.inr ⟨g, k⟩
theorem cls_iff {V Lo Hi t O n b a d : Int} (h : St V Lo Hi t O n b a) (ht : 0 < t) (hO : 0 < O) (hd : V / t % 2 = d % 2) : (O < n + n ∨ (n + n = O ∧ d % 2 = 1)) ↔ Cls V t (V / t) := by
  obtain ⟨d1, d2⟩ := h.closer ht hO
  rw [d1, d2]
  unfold Cls
  rw [hd]

/-- the start -/
theorem Mk.start {V Lo Hi G p O N B A : Int} {e : Bool} (m : Mk V Lo Hi G p O e) (hr : Rel V Lo Hi G p N B A O) (h0 : 0 ≤ Lo) (h3 : Hi - V ≤ V) : Rd V Lo Hi G p O e 0 N B A ∧ 0 ≤ N ∧ N < O := by
  have lt := (hr.lt m.hG m.hO).2 m.hi
  obtain ⟨_, _, _, l1, l2⟩ := hr.le m.hG m.hO h0 m.hLo m.hHi h3
  have hst : St V Lo Hi (TT G (p - (0 : Nat))) O N B A := by
    rw [show p - ((0 : Nat) : Int) = p by omega]
    exact hr.st (by have := m.hLo; omega) m.hi
  exact ⟨⟨hst, by omega, by omega, by omega, fun j h1 h2 => by omega⟩, by omega, lt⟩
/-- one round: the digit, and what is left -/
structure Rn (V Lo Hi G p O : Int) (e : Bool) (i : Nat) (n b a d n' : Int) (down up closer : Bool) : Prop where
  d0 : 0 ≤ d
  d9 : d ≤ 9
  C : V / TT G (p - (i + 1 : Nat)) = 10 * (V / TT G (p - i)) + d
  dn : down = true ↔ Inn Lo Hi (e = true) (V / TT G (p - (i + 1 : Nat)) * TT G (p - (i + 1 : Nat)))
  upp : up = true ↔ Inn Lo Hi (e = true) ((V / TT G (p - (i + 1 : Nat)) + 1) * TT G (p - (i + 1 : Nat)))
  cl : closer = true ↔ Cls V (TT G (p - (i + 1 : Nat))) (V / TT G (p - (i + 1 : Nat)))
  next : down = false → up = false → Rd V Lo Hi G p O e (i + 1) n' (10 * b) (10 * a) ∧ i + 1 ≤ 16 ∧ 0 ≤ n' ∧ n' < O
theorem Rd.round {V Lo Hi G p O n b a : Int} {e : Bool} {i : Nat} (m : Mk V Lo Hi G p O e) (h : Rd V Lo Hi G p O e i n b a) :
    Rn V Lo Hi G p O e i n b a (10 * n / O) (10 * n % O) (decide (10 * n % O < 10 * b ∨ (10 * n % O = 10 * b ∧ e = true))) (decide (O < 10 * n % O + 10 * a ∨ (10 * n % O + 10 * a = O ∧ e = true))) (decide (O < 10 * n % O + 10 * n % O ∨ (10 * n % O + 10 * n % O = O ∧ 10 * n / O % 2 = 1))) := by
  have hp := m.hp
  have i16 := h.i16
  have u0 := TT_pos m.hG (p - (i + 1 : Nat))
  have e1 : TT G (p - i) = 10 * TT G (p - (i + 1 : Nat)) := by rw [← TT_succ (by omega)]; congr 1; omega
  obtain ⟨s1, s2, s3, s4⟩ := h.st.next u0 e1 m.hO
  obtain ⟨r0, r1⟩ := s1.rem u0 m.hO
  have dn := inn_down (e := e) s1 u0 m.hO m.hHi
  have up := inn_up (e := e) s1 u0 m.hO m.hLo
  refine ⟨s3, s4, s2, by rw [decide_eq_true_iff]; exact dn, by rw [decide_eq_true_iff]; exact up, ?_, ?_⟩
  · rw [decide_eq_true_iff]
    exact cls_iff s1 u0 m.hO (by omega)
  · intro g1 g2
    have g1 := of_decide_eq_false g1
    have g2 := of_decide_eq_false g2
    have o : Out V Lo Hi (e = true) (TT G (p - (i + 1 : Nat))) := ⟨fun k => g1 (dn.2 k), fun k => g2 (up.2 k)⟩
    have i15 : i + 1 ≤ 16 := by
      rcases Nat.lt_or_ge (i + 1) 17 with c | c
      · omega
      · exfalso
        have : i + 1 = 17 := by omega
        rw [this] at o
        exact m.most o
    refine ⟨⟨s1, by omega, by omega, i15, fun j h1 h2 => ?_⟩, i15, r0, r1⟩
    rcases Nat.lt_or_ge j (i + 1) with c | c
    · exact h.out j h1 (by omega)
    · rw [show j = i + 1 by omega]; exact o
/-- a round that ends it -/
theorem Rn.sh {V Lo Hi G p O n b a d n' : Int} {e down up closer : Bool} {i : Nat} (m : Mk V Lo Hi G p O e) (h : Rd V Lo Hi G p O e i n b a) (r : Rn V Lo Hi G p O e i n b a d n' down up closer) {c : Int}
    (hc : (c = V / TT G (p - (i + 1 : Nat)) + 1 ∧ up = true ∧ (down = false ∨ closer = true)) ∨ (c = V / TT G (p - (i + 1 : Nat)) ∧ down = true ∧ ¬ (up = true ∧ closer = true))) : Sh V Lo Hi (e = true) G p (i + 1) c := by
  refine ⟨m.lo, m.hi, by omega, fun j h1 h2 => h.out j h1 (by omega), ?_⟩
  rcases hc with ⟨h1, h2, h3⟩ | ⟨h1, h2, h3⟩
  · right
    refine ⟨h1, r.upp.1 h2, ?_⟩
    rcases h3 with h3 | h3
    · left
      intro k
      rw [r.dn.2 k] at h3
      cases h3
    · exact Or.inr (r.cl.1 h3)
  · left
    exact ⟨h1, r.dn.1 h2, fun ⟨k1, k2⟩ => h3 ⟨r.upp.2 k1, r.cl.2 k2⟩⟩
/-- the nine that is raised: told as 1 -/
theorem Rn.nine {V Lo Hi G p O n b a d n' : Int} {e down up closer : Bool} {i : Nat} (m : Mk V Lo Hi G p O e) (h : Rd V Lo Hi G p O e i n b a) (r : Rn V Lo Hi G p O e i n b a d n' down up closer) (h9 : d = 9) (hu : up = true) (hc : down = false ∨ closer = true) :
    Sh V Lo Hi (e = true) G p 1 10 ∧ i = 0 := by
  have s := r.sh m h (c := V / TT G (p - (i + 1 : Nat)) + 1) (Or.inl ⟨rfl, hu, hc⟩)
  have hp := m.hp
  have i16 := h.i16
  have C := r.C
  have k1 := s.nine m.hG (by omega) rfl (by omega) (r.upp.1 hu)
  have i0 : i = 0 := by omega
  subst i0
  obtain ⟨_, r1⟩ := s.range m.hG (by omega)
  have e1 : (10 : Int) ^ 1 = 10 := rfl
  have : V / TT G (p - (0 + 1 : Nat)) + 1 = 10 := by
    have h0 : 0 ≤ V / TT G (p - (0 : Nat)) := Int.ediv_nonneg (by have := m.lo; have := TT_pos m.hG (p - 1); omega) (Int.le_of_lt (TT_pos m.hG _))
    rw [k1, e1] at r1
    rw [show (0 + 1 : Nat) = 1 from rfl] at *
    omega
  rw [this] at s
  exact ⟨s, rfl⟩

end Go.Proofs.YtinfkoiifemjmaaGreatDoor

namespace Go.Proofs.YtinfkoiifemjmaaGreatDoor
set_option linter.unusedVariables false

/-- a pattern's numbers, in units -/
structure Vs (V Lo Hi G : Int) : Prop where
  hG : 0 < G
  l0 : 0 ≤ Lo
  l1 : Lo < V
  h1 : V < Hi
  h2 : Hi - V ≤ V
  top : V < TT G 400
structure Sc (V Lo Hi G p N B A O : Int) : Prop where
  rel : Rel V Lo Hi G p N B A O
  hO : 0 < O
  lo : TT G (p - 1) ≤ V
  p0 : -400 ≤ p
  p1 : p ≤ 400
  n : N < p2 2540
theorem pw_100 : Nt.pw 100 = p2 3200 := (p2_32 100).symm
theorem Sc.small {V Lo Hi G p N B A O : Int} (v : Vs V Lo Hi G) (h : Sc V Lo Hi G p N B A O) : 10 * O < Nt.pw 100 ∧ N < Nt.pw 100 ∧ B ≤ N ∧ A ≤ N ∧ 0 < N ∧ 0 < B ∧ 0 < A := by
  have p0 := h.p0
  have a := h.rel.one_le v.hG h.hO (by omega) h.lo
  obtain ⟨b1, b2, b3, b4, b5⟩ := h.rel.le v.hG h.hO v.l0 v.l1 v.h1 v.h2
  have n := h.n
  have e : p2 3200 = p2 2540 * p2 660 := by rw [← p2_add]
  have q : 128 ≤ p2 660 := by have : p2 7 ≤ p2 660 := p2_mono (by omega); exact this
  have f : p2 2540 * 128 ≤ p2 2540 * p2 660 := Int.mul_le_mul_of_nonneg_left q (Int.le_of_lt (p2_pos _))
  have g := p2_pos 2540
  rw [pw_100, e]
  refine ⟨by omega, by omega, b4, b5, b1, b2, b3⟩
theorem Sc.step {V Lo Hi G p N B A O : Int} (v : Vs V Lo Hi G) (h : Sc V Lo Hi G p N B A O) (hge : O ≤ N) : Sc V Lo Hi G (p + 1) N B A (O * 10) ∧ p < 400 := by
  have hV : TT G p ≤ V := by
    rcases Int.lt_or_le V (TT G p) with c | c
    · have := (h.rel.lt v.hG h.hO).2 c; omega
    · exact c
  have p0 := h.p0
  have lt : p < 400 := TT_lt v.hG (Int.lt_of_le_of_lt hV v.top)
  have r := h.rel.one (by omega) 1
  rw [show p + ((1 : Nat) : Int) = p + 1 from rfl, show (10 : Int) ^ 1 = 10 from rfl] at r
  exact ⟨⟨r, by have := h.hO; omega, by rw [show p + 1 - 1 = p by omega]; exact hV, by omega, by omega, h.n⟩, lt⟩
theorem len_le {A : Int} {k m : Nat} (h : IsLen A k) (hA : A < p2 m) : k ≤ m := by
  rcases Nat.lt_or_ge m k with c | c
  · exfalso
    have a := h.2 (by omega)
    have b := p2_mono (m := m) (n := k - 1) (by omega)
    omega
  · exact c
/-- the guess -/
theorem Sc.first {V Lo Hi G N B A O t q : Int} {k l : Nat} (v : Vs V Lo Hi G) (hr : Rel V Lo Hi G 0 N B A O) (hO : 0 < O) (n : N < p2 1200) (o : O < p2 1150) (hk : IsLen N k) (hl : IsLen O l) (ht : t = k - l - 1) (hq : q = (t * 30103).tdiv 100000 - 1) :
    -400 ≤ q ∧ q ≤ 400 ∧ (q < 0 → Sc V Lo Hi G q (N * 10 ^ (-q).toNat) (B * 10 ^ (-q).toNat) (A * 10 ^ (-q).toNat) O) ∧ (0 ≤ q → Sc V Lo Hi G q N B A (O * 10 ^ q.toNat)) := by
  obtain ⟨b1, b2, b3, b4, b5⟩ := hr.le v.hG hO v.l0 v.l1 v.h1 v.h2
  have k1 : 1 ≤ k := by
    rcases Nat.lt_or_ge 0 k with c | c
    · omega
    · exfalso
      have e := hk.1
      rw [show k = 0 by omega] at e
      have : p2 0 = 1 := rfl
      omega
  have l1 : 1 ≤ l := by
    rcases Nat.lt_or_ge 0 l with c | c
    · omega
    · exfalso
      have e := hl.1
      rw [show l = 0 by omega] at e
      have : p2 0 = 1 := rfl
      omega
  have kk := len_le hk n
  have ll := len_le hl o
  obtain ⟨g1, g2, g3, g4⟩ := guess (N := N) (O := O) (t := t) (p0 := q) (a := k) (b := l) (hk.2 (by omega)) k1 hl.1 hO ht (by omega) (by omega) hq
  have key : ∀ {N' B' A' O' : Int}, Rel V Lo Hi G q N' B' A' O' → 0 < O' → O' ≤ N' → TT G (q - 1) ≤ V := by
    intro N' B' A' O' r o0 ge
    have : TT G q ≤ V := by
      rcases Int.lt_or_le V (TT G q) with c | c
      · have := (r.lt v.hG o0).2 c; omega
      · exact c
    have := TT_mono v.hG (a := q - 1) (b := q) (by omega)
    omega
  refine ⟨g1, g2, fun c => ?_, fun c => ?_⟩
  · have r := hr.times (n := (-q).toNat) (by omega)
    rw [show (0 : Int) - (-q).toNat = q by omega] at r
    refine ⟨r, hO, key r hO (g4 c), by omega, by omega, ?_⟩
    have t400 : (10 : Int) ^ (-q).toNat ≤ p2 1340 := by
      have a : (10 : Int) ^ (-q).toNat ≤ 10 ^ 400 := by
        obtain ⟨d, hd⟩ : ∃ d, 400 = (-q).toNat + d := ⟨400 - (-q).toNat, by omega⟩
        rw [hd, Int.pow_add]
        have := ten_pos d
        have : (10 : Int) ^ (-q).toNat * 1 ≤ 10 ^ (-q).toNat * 10 ^ d := Int.mul_le_mul_of_nonneg_left (by omega) (Int.le_of_lt (ten_pos _))
        omega
      have b : (10 ^ 400 : Nat) ≤ 2 ^ 1340 := by decide +kernel
      have c : (10 : Int) ^ 400 ≤ p2 1340 := by
        rw [p2_is, ten_is]
        generalize (10 ^ 400 : Nat) = x at *
        generalize (2 ^ 1340 : Nat) = y at *
        exact_mod_cast b
      omega
    have e : p2 2540 = p2 1200 * p2 1340 := by rw [← p2_add]
    rw [e]
    have a : N * 10 ^ (-q).toNat ≤ N * p2 1340 := Int.mul_le_mul_of_nonneg_left t400 (by omega)
    have b : N * p2 1340 < p2 1200 * p2 1340 := Int.mul_lt_mul_of_pos_right n (p2_pos _)
    omega
  · have r := hr.one (by omega) q.toNat
    rw [show (0 : Int) + q.toNat = q by omega] at r
    have o1 : 0 < O * 10 ^ q.toNat := Int.mul_pos hO (ten_pos _)
    refine ⟨r, o1, key r o1 (g3 c), by omega, by omega, ?_⟩
    have : p2 1200 ≤ p2 2540 := p2_mono (by omega)
    omega
theorem ten_small {j : Nat} (h : j ≤ 400) : (10 : Int) ^ j < p2 3200 := by
  have a : (10 : Int) ^ j ≤ 10 ^ 400 := by
    obtain ⟨d, hd⟩ : ∃ d, 400 = j + d := ⟨400 - j, by omega⟩
    rw [hd, Int.pow_add]
    have := ten_pos d
    have : (10 : Int) ^ j * 1 ≤ 10 ^ j * 10 ^ d := Int.mul_le_mul_of_nonneg_left (by omega) (Int.le_of_lt (ten_pos _))
    omega
  have b : (10 ^ 400 : Nat) < 2 ^ 3200 := by decide +kernel
  have c : (10 : Int) ^ 400 < p2 3200 := by
    rw [p2_is, ten_is]
    generalize (10 ^ 400 : Nat) = x at *
    generalize (2 ^ 3200 : Nat) = y at *
    exact_mod_cast b
  omega
theorem Sc.done {V Lo Hi G p N B A O : Int} (v : Vs V Lo Hi G) (h : Sc V Lo Hi G p N B A O) (hlt : N < O) : V < TT G p := (h.rel.lt v.hG h.hO).1 hlt

end Go.Proofs.YtinfkoiifemjmaaGreatDoor

namespace Go.Proofs.YtinfkoiifemjmaaGreatDoor
set_option linter.unusedVariables false

/-- the digits of a size above 0 -/
def ShP (F L s : Int) (p : Int) (k : Nat) (c : Int) : Prop := Sh (vV F L s) (vLo F L s) (vHi F L s) (s % 2 = 0) (gG L) p k c
/-- what is told of a pattern's size: its sign, digits and point, and whether -/
def Dg (F L I s : Int) (ng : Bool) (v : Value) (ok : Bool) : Prop :=
  (I ≤ s → v = .agg #[.bool false, .string (strOfNums []), .int .i64 0] ∧ ok = false) ∧
  (s = 0 → v = .agg #[.bool ng, .string (strOfNums []), .int .i64 0] ∧ ok = true) ∧
  (0 < s → s < I → ok = true ∧ ∃ p k c, ShP F L s p k c ∧ k ≤ 17 ∧ v = .agg #[.bool ng, .string (strOfNums (txt k c)), .int .i64 (pt k c p)])
theorem v_top {F L s : Int} {fr : Nat} (hfr : F = p2 fr) (h0 : 0 ≤ s) (hL : L ≤ 0) (he : est F L s ≤ 1023 - fr) : vV F L s < TT (gG L) 400 := by
  rcases Int.lt_or_le (vV F L s) (TT (gG L) 400) with c | c
  · exact c
  · exfalso
    have := point_high (p := 401) hfr h0 hL he (by rw [show (401 : Int) - 1 = 400 from rfl]; exact c)
    omega
theorem vs_of {F L s : Int} {fr : Nat} (hfr : F = p2 fr) (h0 : 0 < s) (hL : L ≤ 0) (he : est F L s ≤ 1023 - fr) : Vs (vV F L s) (vLo F L s) (vHi F L s) (gG L) := by
  have hF : 0 < F := by rw [hfr]; exact p2_pos fr
  obtain ⟨a, b⟩ := v_half (L := L) hF h0
  exact ⟨gG_pos L, a, vLo_lt hF h0, vHi_gt hF (by omega), b, v_top hfr (by omega) hL he⟩
/-- behind the scaling: the digits may be made -/
theorem mk_of {F L s p N B A O : Int} {fr : Nat} {e : Bool} (hfr : F = p2 fr) (h0 : 0 < s) (hL : L ≤ 0) (hL2 : -1074 ≤ L) (he : est F L s ≤ 1023 - fr) (h17 : 2 * F ≤ 10 ^ 16) (sc : Sc (vV F L s) (vLo F L s) (vHi F L s) (gG L) p N B A O) (hi : vV F L s < TT (gG L) p) :
    Mk (vV F L s) (vLo F L s) (vHi F L s) (gG L) p O e ∧ Rd (vV F L s) (vLo F L s) (vHi F L s) (gG L) p O e 0 N B A ∧ 0 ≤ N ∧ N < O := by
  have hF : 0 < F := by rw [hfr]; exact p2_pos fr
  have v := vs_of hfr h0 hL he
  have pl := point_low hF h0 hL2 hi
  have m : Mk (vV F L s) (vLo F L s) (vHi F L s) (gG L) p O e :=
    ⟨gG_pos L, sc.hO, (sc.small v).1, sc.lo, hi, by omega, by
      have := v_most (M := 16) (ends := (e = true)) hF h0 h17 (by omega) sc.lo
      exact this, v.l1, v.h1⟩
  exact ⟨m, m.start sc.rel v.l0 v.h2⟩

end Go.Proofs.YtinfkoiifemjmaaGreatDoor

namespace Go.Proofs.YtinfkoiifemjmaaGreatDoor
open Go.RowKit
set_option linter.unusedVariables false

def Dc (w : World) (z : Nat) (a b c : Value) : Prop := w.heap[z]? = some (.cells #[a, b, c] 23 (0, 0))
theorem Dc.lt {w : World} {z : Nat} {a b c : Value} (h : Dc w z a b c) : z < w.heap.size := (Array.getElem?_eq_some_iff.1 h).1
theorem Dc.c0 {w : World} {z : Nat} {a b c : Value} (h : Dc w z a b c) : w.cell? ⟨z, 0, none⟩ = some a := by rw [cell_of_row w z 0 _ _ _ h]; rfl
theorem Dc.c1 {w : World} {z : Nat} {a b c : Value} (h : Dc w z a b c) : w.cell? ⟨z, 1, none⟩ = some b := by rw [cell_of_row w z 1 _ _ _ h]; rfl
theorem Dc.c2 {w : World} {z : Nat} {a b c : Value} (h : Dc w z a b c) : w.cell? ⟨z, 2, none⟩ = some c := by rw [cell_of_row w z 2 _ _ _ h]; rfl
theorem Dc.frozen {w : World} {z : Nat} {a b c : Value} (h : Dc w z a b c) (i : Nat) : w.frozen? ⟨z, i, none⟩ = false := frozen_of_row w z i _ _ h
theorem Dc.keeps {w w' : World} {z : Nat} {a b c : Value} (h : Dc w z a b c) (hb : Below w.heap.size w w') : Dc w' z a b c := by
  unfold Dc; rw [hb.block z h.lt]; exact h
theorem Dc.only {w w' : World} {z g : Nat} {a b c : Value} (h : Dc w z a b c) (ho : Only g w w') (hn : z ≠ g) : Dc w' z a b c := by
  unfold Dc; rw [ho.block z h.lt hn]; exact h
def put3 (w : World) (z : Nat) (a b c : Value) : World := ((w.setCell ⟨z, 0, none⟩ a).setCell ⟨z, 1, none⟩ b).setCell ⟨z, 2, none⟩ c
theorem Dc.put {w : World} {z : Nat} {a b c : Value} (h : Dc w z a b c) (a' b' c' : Value) : Dc (put3 w z a' b' c') z a' b' c' := by
  have h1 : Dc (w.setCell ⟨z, 0, none⟩ a') z a' b c := by unfold Dc; rw [heap_setCell_same w z 0 _ _ _ h]; rfl
  have h2 : Dc ((w.setCell ⟨z, 0, none⟩ a').setCell ⟨z, 1, none⟩ b') z a' b' c := by unfold Dc; rw [heap_setCell_same _ z 1 _ _ _ h1]; rfl
  unfold put3 Dc; rw [heap_setCell_same _ z 2 _ _ _ h2]; rfl
theorem put3_below {B : Nat} {w w' : World} {z : Nat} (h : Below B w w') (hz : B ≤ z) (a b c : Value) : Below B w (put3 w' z a b c) :=
  ((h.setCell (p := ⟨z, 0, none⟩) hz _).setCell (p := ⟨z, 1, none⟩) hz _).setCell (p := ⟨z, 2, none⟩) hz _
/-- the reach, laid into a new block -/
theorem rc_new {wx : World} {v0 v1 v2 v3 : Value} {N B A O : Int} (h : Four wx v0 v1 v2 v3 N B A O) (e : Bool) : Rc (wx.alloc (.cells #[v0, v1, v2, v3, .bool e] 85)) wx.heap.size v3 N B A O e :=
  have b := (Below.refl wx.heap.size wx).alloc (Nat.le_refl _) (.cells #[v0, v1, v2, v3, .bool e] 85)
  ⟨v0, v1, v2, heap_alloc_new _ _, arg_old h.a0 b, arg_old h.a1 b, arg_old h.a2 b, arg_old h.a3 b⟩

theorem arg_slc {w : World} {v : Value} {n : Int} {k : Nat} (h : Arg w v n k) : ∃ a l c, v = .slice a l c := by
  obtain ⟨zs, ⟨ao, cap, h1, _⟩, _⟩ := h
  exact ⟨_, _, _, h1⟩
theorem only_below {w w1 w2 : World} {g : Nat} (h : Below w.heap.size w w1) (ho : Only g w1 w2) (hg : w.heap.size ≤ g) : Below w.heap.size w w2 := h.trans (ho.below hg h.size)
theorem est_top {F L s : Int} {n : Nat} (hF : 0 < F) (hn : 2 ≤ n) (h0 : 0 ≤ s) (h1 : s < n * F) : est F L s ≤ L - 2 + n := by
  unfold est
  split
  · omega
  · have : s / F < n := (Int.ediv_lt_iff_lt_mul hF).2 h1
    omega
theorem o_bound {dn : Nat} (h : dn ≤ 1100) : p2 dn < p2 1150 := by
  have a : p2 dn ≤ p2 1149 := p2_mono (by omega)
  have b : p2 1150 = 2 * p2 1149 := rfl
  have := p2_pos 1149
  omega
theorem n_bound {F s dl : Int} {up : Nat} (hF : F ≤ 4503599627370496 ∧ 0 < F) (h0 : 0 < s) (hd : dl ≤ 1) (_ : True) (hu : up ≤ 1100) : 2 * mst F s * p2 dl.toNat * p2 up < p2 1200 := by
  obtain ⟨m0, m1⟩ := mst_lt (F := F) (s := s) hF.2 (by omega)
  have d : p2 dl.toNat ≤ 2 := by
    have : p2 dl.toNat ≤ p2 1 := p2_mono (by omega)
    exact this
  have d1 := p2_pos dl.toNat
  have a : 2 * mst F s * p2 dl.toNat ≤ 2 * mst F s * 2 := Int.mul_le_mul_of_nonneg_left d (by omega)
  have b : 2 * mst F s * p2 dl.toNat < p2 60 := by
    have : p2 60 = 1152921504606846976 := by decide
    omega
  have c : p2 up ≤ p2 1100 := p2_mono hu
  have e : p2 1200 = p2 60 * p2 1140 := by rw [← p2_add]
  have f : p2 1100 ≤ p2 1140 := p2_mono (by omega)
  have g : 2 * mst F s * p2 dl.toNat * p2 up < p2 60 * p2 up := Int.mul_lt_mul_of_pos_right b (p2_pos up)
  have k : p2 60 * p2 up ≤ p2 60 * p2 1140 := Int.mul_le_mul_of_nonneg_left (by omega) (Int.le_of_lt (p2_pos _))
  omega

end Go.Proofs.YtinfkoiifemjmaaGreatDoor

namespace Go.Proofs.YtinfkoiifemjmaaGreatDoor
set_option linter.unusedVariables false

/-- the number that digits tell -/
def bv : List Int → Int
  | [] => 0
  | a :: x => (a - 48) * 10 ^ x.length + bv x
theorem bv_snoc (xs : List Int) (b : Int) : bv (xs ++ [b]) = 10 * bv xs + (b - 48) := by
  induction xs with
  | nil => simp [bv]
  | cons a x ih =>
    rw [List.cons_append, bv, ih, bv, List.length_append, List.length_singleton, Int.pow_succ]
    rw [Int.mul_add, ← Int.mul_assoc, Int.mul_comm ((a - 48) * 10 ^ x.length) 10]
    omega
theorem bv_dl (k : Nat) : ∀ d, 0 ≤ d → d < 10 ^ k → bv (dl k d) = d := by
  induction k with
  | zero => intro d h0 h1; simp at h1; simp [dl, bv]; omega
  | succ k ih =>
    intro d h0 h1
    rw [Int.pow_succ] at h1
    rw [dl, bv_snoc, ih (d / 10) (by omega) (by omega)]
    omega
theorem bv_range {xs : List Int} (h : ∀ x ∈ xs, 48 ≤ x ∧ x ≤ 57) : 0 ≤ bv xs ∧ bv xs < 10 ^ xs.length := by
  induction xs with
  | nil => simp [bv]
  | cons a x ih =>
    obtain ⟨i0, i1⟩ := ih (fun y hy => h y (List.mem_cons_of_mem _ hy))
    obtain ⟨a0, a1⟩ := h a List.mem_cons_self
    rw [bv, List.length_cons, Int.pow_succ]
    have p := ten_pos x.length
    have q0 : 0 ≤ (a - 48) * 10 ^ x.length := Int.mul_nonneg (by omega) (by omega)
    have q1 : (a - 48) * 10 ^ x.length ≤ 9 * 10 ^ x.length := Int.mul_le_mul_of_nonneg_right (by omega) (by omega)
    omega
def by8 (xs : List Int) : List UInt8 := xs.map fun n => UInt8.ofNat n.toNat
/-- what is told of a size above 0: digits and point of a number within reach -/
def Tl (F L s : Int) (t : ByteArray) (P : Int) : Prop :=
  ∃ (k : Nat) (d : Int), t = strOfNums (dl k d) ∧ 1 ≤ k ∧ k ≤ 17 ∧ 10 ^ (k - 1) ≤ d ∧ d < 10 ^ k ∧ -450 ≤ P - k ∧ d % 10 ≠ 0 ∧ Inn (vLo F L s) (vHi F L s) (s % 2 = 0) (d * TT (gG L) (P - k))
theorem str_list (xs : List Int) : (strOfNums xs).toList = by8 xs := by rw [ByteArray.toList_eq, strOfNums_data]; rfl
end Go.Proofs.YtinfkoiifemjmaaGreatDoor
