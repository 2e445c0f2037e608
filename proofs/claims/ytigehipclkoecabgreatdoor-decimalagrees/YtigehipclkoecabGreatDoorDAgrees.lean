/- DecimalAgrees: the walk -/
import Derived.Test.YtigehipclkoecabGreatDoorDLawE
import Derived.Test.YtigehipclkoecabGreatDoorDLives
namespace Go.Proofs.YtigehipclkoecabGreatDoor
open Go.RowKit
set_option linter.unusedVariables false

theorem tri_range (x y : Int) : -1 ≤ tri x y ∧ tri x y ≤ 1 := by unfold tri; split; omega; split <;> omega
theorem tri_le {x y : Int} (h : x ≤ y) : tri x y ≤ 0 := by unfold tri; split; omega; split <;> omega
theorem tri_ge {x y : Int} (h : y ≤ x) : 0 ≤ tri x y := by unfold tri; split; omega; split <;> omega
theorem cmpC_range (S F x y : Int) : -1 ≤ cmpC S F x y ∧ cmpC S F x y ≤ 1 := by
  unfold cmpC
  have := tri_range (rk S x) (rk S y)
  split
  · split <;> omega
  · omega
theorem rk_of {S r : Int} {ng : Bool} (h0 : 0 ≤ r) (h1 : r < S) : rk S (r + b2i ng * S) = (if ng then S - 1 - r else r + S) ∧ (r + b2i ng * S) % S = r := by
  cases ng
  · rw [show b2i false = 0 from rfl, Int.zero_mul, Int.add_zero]
    exact ⟨by unfold rk; rw [if_pos h1]; rfl, Int.emod_eq_of_lt h0 h1⟩
  · rw [show b2i true = 1 from rfl, Int.one_mul]
    refine ⟨by unfold rk; rw [if_neg (by omega)]; show _ = S - 1 - r; omega, ?_⟩
    rw [Int.add_emod_right, Int.emod_eq_of_lt h0 h1]


set_option maxHeartbeats 2000000 in
theorem lagainst_16 {w : World} (T : Lays w) {v x y : Int} (v0 : 0 ≤ v) (v1 : v < 256) (hv : v % 4 = 0) (x0 : 0 ≤ x) (x1 : x < 65536) (y0 : 0 ≤ y) (y1 : y < 65536) :
    Calls Tryz.prog 11 #[.int .u8 v, .int .u64 x, .int .u64 y] w fun e w' => e = .returned (.tuple #[.int .i64 (cmpC 32768 1024 x y), .bool (cmpOk 32768 1024 x y)]) ∧ Below w.heap.size w w' := by
  go_enter Tryz.func11, Tryz.ntmps11
  go_wp2_with fail
  with_reducible refine (cmp_16 T x y x0 x1 y0 y1).mono ?_
  rintro e w1 ⟨rfl, b1⟩
  go_wp2
  go_ret2
  exact ⟨rfl, b1⟩

set_option maxHeartbeats 2000000 in
theorem lagainst_32 {w : World} (T : Lays w) {v x y : Int} (v0 : 0 ≤ v) (v1 : v < 256) (hv : v % 4 = 1) (x0 : 0 ≤ x) (x1 : x < 4294967296) (y0 : 0 ≤ y) (y1 : y < 4294967296) :
    Calls Tryz.prog 11 #[.int .u8 v, .int .u64 x, .int .u64 y] w fun e w' => e = .returned (.tuple #[.int .i64 (cmpC 2147483648 8388608 x y), .bool (cmpOk 2147483648 8388608 x y)]) ∧ Below w.heap.size w w' := by
  go_enter Tryz.func11, Tryz.ntmps11
  go_wp2_with fail
  with_reducible refine (cmp_32 T x y x0 x1 y0 y1).mono ?_
  rintro e w1 ⟨rfl, b1⟩
  go_wp2
  go_ret2
  exact ⟨rfl, b1⟩

set_option maxHeartbeats 2000000 in
theorem lagainst_64 {w : World} (T : Lays w) {v x y : Int} (v0 : 0 ≤ v) (v1 : v < 256) (hv : v % 4 = 2) (x0 : 0 ≤ x) (x1 : x < 18446744073709551616) (y0 : 0 ≤ y) (y1 : y < 18446744073709551616) :
    Calls Tryz.prog 11 #[.int .u8 v, .int .u64 x, .int .u64 y] w fun e w' => e = .returned (.tuple #[.int .i64 (cmpC 9223372036854775808 4503599627370496 x y), .bool (cmpOk 9223372036854775808 4503599627370496 x y)]) ∧ Below w.heap.size w w' := by
  go_enter Tryz.func11, Tryz.ntmps11
  go_wp2_with fail
  with_reducible refine (cmp_64 T x y x0 x1 y0 y1).mono ?_
  rintro e w1 ⟨rfl, b1⟩
  go_wp2
  go_ret2
  exact ⟨rfl, b1⟩

set_option maxHeartbeats 2000000 in
theorem lagainst_16o {w : World} (T : Lays w) {v x y : Int} (v0 : 0 ≤ v) (v1 : v < 256) (hv : v % 4 = 3) (x0 : 0 ≤ x) (x1 : x < 65536) (y0 : 0 ≤ y) (y1 : y < 65536) :
    Calls Tryz.prog 11 #[.int .u8 v, .int .u64 x, .int .u64 y] w fun e w' => e = .returned (.tuple #[.int .i64 (cmpC 32768 1024 x y), .bool (cmpOk 32768 1024 x y)]) ∧ Below w.heap.size w w' := by
  go_enter Tryz.func11, Tryz.ntmps11
  go_wp2_with fail
  with_reducible refine (cmp_16 T x y x0 x1 y0 y1).mono ?_
  rintro e w1 ⟨rfl, b1⟩
  go_wp2
  go_ret2
  exact ⟨rfl, b1⟩

theorem lagainst_any {w : World} (T : Lays w) {v F L I S n x y : Int} (h : Wd v F L I S n) (x0 : 0 ≤ x) (x1 : x < 2 * S) (y0 : 0 ≤ y) (y1 : y < 2 * S) :
    Calls Tryz.prog 11 #[.int .u8 v, .int .u64 x, .int .u64 y] w fun e w' => e = .returned (.tuple #[.int .i64 (cmpC S F x y), .bool (cmpOk S F x y)]) ∧ Below w.heap.size w w' := by
  obtain ⟨v0, v1, h⟩ := h
  rcases h with ⟨h, rfl, rfl, rfl, rfl, rfl⟩ | ⟨h, rfl, rfl, rfl, rfl, rfl⟩ | ⟨h, rfl, rfl, rfl, rfl, rfl⟩ | ⟨h, rfl, rfl, rfl, rfl, rfl⟩
  · exact lagainst_16 T v0 v1 h x0 (by omega) y0 (by omega)
  · exact lagainst_32 T v0 v1 h x0 (by omega) y0 (by omega)
  · exact lagainst_64 T v0 v1 h x0 (by omega) y0 (by omega)
  · exact lagainst_16o T v0 v1 h x0 (by omega) y0 (by omega)
theorem Wd.gap {v F L I S n : Int} (h : Wd v F L I S n) : S - F = I := by
  rcases h.2.2 with ⟨_, rfl, rfl, rfl, rfl, rfl⟩ | ⟨_, rfl, rfl, rfl, rfl, rfl⟩ | ⟨_, rfl, rfl, rfl, rfl, rfl⟩ | ⟨_, rfl, rfl, rfl, rfl, rfl⟩ <;> decide

theorem um_iff {F L s t : Int} (hF : 0 < F) (h0 : 0 ≤ s) (h1 : 0 ≤ t) : um F L L s ≤ um F L L t ↔ s ≤ t := by
  constructor
  · intro h
    rcases Int.lt_or_le t s with c | c
    · have := um_lt' (L := L) (B := L) (s := t) (t := s) hF h1 (by omega) c
      omega
    · exact c
  · intro h; exact um_le hF h0 (by omega) h
theorem agrees_math {F L I S s1 s2 pt pt' : Int} {ng ng' : Bool} {ds ds' : List Int} (W : Wide F L I) (hS : S - F = I) (h1 : ExV F L s1 ds pt) (h2 : ExV F L s2 ds' pt') (a0 : 0 ≤ s1) (a1 : s1 < I) (b0 : 0 ≤ s2) (b1 : s2 < I) :
    dcmp (sgv ng (dg ds)) (pt - ds.length) (sgv ng' (dg ds')) (pt' - ds'.length) = cmpC S F (s1 + b2i ng * S) (s2 + b2i ng' * S) := by
  have f0 := W.f0
  have e1 := h1.2.2.2.2.2.2
  have e2 := h2.2.2.2.2.2.2
  have d1 := (dg_range h1.1.1).1
  have d2 := (dg_range h2.1.1).1
  generalize hq : pt - (ds.length : Int) = q at *
  generalize hq' : pt' - (ds'.length : Int) = q' at *
  have P := p2_pos (-L).toNat
  have T1 := tn_pos (-q).toNat
  have T2 := tn_pos (-q').toNat
  have TT := Int.mul_pos T1 T2
  have ea : dg ds * tn (q.toNat + (-q').toNat) * p2 (-L).toNat = um F L L s1 * (tn (-q).toNat * tn (-q').toNat) := by
    rw [tn_add, ← Int.mul_assoc, ← Int.mul_assoc, ← e1]; ac_rfl
  have eb : dg ds' * tn (q'.toNat + (-q).toNat) * p2 (-L).toNat = um F L L s2 * (tn (-q).toNat * tn (-q').toNat) := by
    rw [tn_add, Int.mul_comm (tn (-q).toNat), ← Int.mul_assoc, ← Int.mul_assoc, ← e2]; ac_rfl
  unfold dcmp
  rw [sgv_mul, sgv_mul]
  have x0 : 0 ≤ dg ds * tn (q.toNat + (-q').toNat) := Int.mul_nonneg d1 (Int.le_of_lt (tn_pos _))
  have y0 : 0 ≤ dg ds' * tn (q'.toNat + (-q).toNat) := Int.mul_nonneg d2 (Int.le_of_lt (tn_pos _))
  generalize dg ds * tn (q.toNat + (-q').toNat) = x at *
  generalize dg ds' * tn (q'.toNat + (-q).toNat) = y at *
  have le1 : x ≤ y ↔ s1 ≤ s2 := by rw [← mle P, ea, eb, mle TT, um_iff (by omega) a0 b0]
  have le2 : y ≤ x ↔ s2 ≤ s1 := by rw [← mle P, eb, ea, mle TT, um_iff (by omega) b0 a0]
  have z1 : x ≤ 0 ↔ s1 ≤ 0 := by
    have k := um_iff (F := F) (L := L) (s := s1) (t := 0) (by omega) a0 (by omega)
    rw [um_zero (by omega)] at k
    rw [← k, ← mle P, ea, Int.zero_mul]
    constructor
    · intro h; exact Int.le_of_mul_le_mul_right (by rw [Int.zero_mul]; exact h) TT
    · intro h; exact Int.mul_nonpos_of_nonpos_of_nonneg h (by omega)
  have z2 : y ≤ 0 ↔ s2 ≤ 0 := by
    have k := um_iff (F := F) (L := L) (s := s2) (t := 0) (by omega) b0 (by omega)
    rw [um_zero (by omega)] at k
    rw [← k, ← mle P, eb, Int.zero_mul]
    constructor
    · intro h; exact Int.le_of_mul_le_mul_right (by rw [Int.zero_mul]; exact h) TT
    · intro h; exact Int.mul_nonpos_of_nonpos_of_nonneg h (by omega)
  obtain ⟨k1, m1⟩ := rk_of (S := S) (ng := ng) a0 (by omega)
  obtain ⟨k2, m2⟩ := rk_of (S := S) (ng := ng') b0 (by omega)
  unfold cmpC
  rw [m1, m2, if_pos (by omega), k1, k2]
  clear e1 e2 ea eb k1 k2 m1 m2 h1 h2
  unfold sgn tri sgv
  cases ng <;> cases ng' <;> simp <;> (repeat' split) <;> omega

set_option maxRecDepth 100000 in
set_option maxHeartbeats 8000000 in
theorem agrees_walk7 {w : World} (TT : Lays w ∧ Brn w) {v x y : Int} (v0 : 0 ≤ v) (v1 : v < 256) (x0 : 0 ≤ x) (x1 : x < 18446744073709551616) (y0 : 0 ≤ y) (y1 : y < 18446744073709551616) :
    Calls Tryz.prog 4 #[.int .u8 v, .int .u64 x, .int .u64 y] w fun e w' => e = .returned (.bool true) ∧ Below w.heap.size w w' := by
  obtain ⟨T, U⟩ := TT
  obtain ⟨F, L, I, S, n, hW⟩ := wd_of v v0 v1
  obtain ⟨i0, i1, i2, -⟩ := hW.ends
  have gap := hW.gap
  have HW := hide hW
  clear hW
  have S0 : 0 < 2 * S := by omega
  go_enter Tryz.func4, Tryz.ntmps4
  go_wp2_with fail
  refine (lives7 T U).mono ?_
  rintro z w1 ⟨rfl, K⟩
  go_wp2_with fail
  refine (lfit_any HW.out x0 x1).mono ?_
  rintro z w2 ⟨rfl, rfl⟩
  obtain ⟨p, hp⟩ : ∃ p, x % (2 * S) = p := ⟨_, rfl⟩
  rw [hp]
  have Hp := hide hp
  clear hp
  go_wp2_with fail
  refine (lfit_any HW.out y0 y1).mono ?_
  rintro z w3 ⟨rfl, rfl⟩
  have hp := Hp.out
  obtain ⟨r, hr⟩ : ∃ r, y % (2 * S) = r := ⟨_, rfl⟩
  have p0 : 0 ≤ p := by rw [← hp]; exact Int.emod_nonneg _ (by omega)
  have p1 : p < 2 * S := by rw [← hp]; exact Int.emod_lt_of_pos _ S0
  have r0 : 0 ≤ r := by rw [← hr]; exact Int.emod_nonneg _ (by omega)
  have r1 : r < 2 * S := by rw [← hr]; exact Int.emod_lt_of_pos _ S0
  rw [hr]
  clear hp hr Hp
  go_wp2_with fail
  refine (lexact_any (T.below K) (U.below K) HW.out p0 p1).mono ?_
  rintro z w4 ⟨b4, d, ok, rfl, X1⟩
  replace K := below_trans K b4
  have HX1 := hide X1
  clear b4 X1
  have K5 := fun o => below_trans K (al_one w4 o)
  have E2 := hide (show ∀ o, _ from fun o => lexact_any (w := w4.alloc o) (T.below (K5 o)) (U.below (K5 o)) HW.out r0 r1)
  rcases HX1.out with ⟨h1, rfl, rfl⟩ | ⟨h1, rfl, ds, pt, rfl, e1⟩
  · go_wp2_with fail
    refine (E2.out _).mono ?_
    rintro z w5 ⟨b5, d2, ok2, rfl, X2⟩
    have K6 := below_trans (K5 _) b5
    rcases X2 with ⟨h2, rfl, rfl⟩ | ⟨h2, rfl, ds2, pt2, rfl, e2⟩
    · go_wp2
      go_ret
      exact ⟨rfl, below_trans K6 (al_one _ _)⟩
    · clear e2
      go_wp2
      go_ret
      exact ⟨rfl, below_trans K6 (al_one _ _)⟩
  · obtain ⟨ng, hng⟩ : ∃ b, decide (S ≤ p) = b := ⟨_, rfl⟩
    rw [hng]
    have HE1 := hide e1
    have C1 := cell3_new w4 (.bool ng) (.string (strOfNums ds)) (.int .i64 pt) 23
    clear e1 HX1
    go_wp2_with fail
    refine (E2.out _).mono ?_
    rintro z w5 ⟨b5, d2, ok2, rfl, X2⟩
    have K6 := below_trans (K5 _) b5
    replace C1 := C1.below b5
    rcases X2 with ⟨h2, rfl, rfl⟩ | ⟨h2, rfl, ds2, pt2, rfl, e2⟩
    · go_wp2
      go_ret
      exact ⟨rfl, below_trans K6 (al_one _ _)⟩
    · obtain ⟨ng2, hng2⟩ : ∃ b, decide (S ≤ r) = b := ⟨_, rfl⟩
      rw [hng2]
      have HE2 := hide e2
      have C2 := C1.below (al_one w5 (.cells #[.bool ng2, .string (strOfNums ds2), .int .i64 pt2] 23))
      have K7 := below_trans K6 (al_one w5 (.cells #[.bool ng2, .string (strOfNums ds2), .int .i64 pt2] 23))
      have c0 := C2.c0; have c1 := C2.c1; have c2 := C2.c2
      clear e2 b5 K6 C1 E2
      go_wp2_with fail
      refine (dcmp_any (N := ds.length) (N' := ds2.length) HE1.out.1.1.byt rfl rfl (by have := HE1.out.2.1; omega) (by have := HE1.out.2.2.1; omega) (by have := HE1.out.2.2.2.1; omega) HE2.out.1.1.byt rfl rfl (by have := HE2.out.2.1; omega) (by have := HE2.out.2.2.1; omega) (by have := HE2.out.2.2.2.1; omega)).mono ?_
      rintro z w6 ⟨b6, hcase⟩
      rcases hcase with ⟨hno, _⟩ | ⟨_, _, rfl⟩
      · exact absurd ⟨HE1.out.1.1, HE2.out.1.1⟩ hno
      have ep : p % S + b2i ng * S = p := by
        rw [← hng]
        rcases Int.lt_or_le p S with c | c
        · rw [Int.emod_eq_of_lt p0 c, show decide (S ≤ p) = false by simp; omega]; show p + 0 * S = p; omega
        · rw [show decide (S ≤ p) = true by simp; exact c]
          have k : p % S = p - S := by rw [show p = (p - S) + S by omega, Int.add_emod_right, Int.emod_eq_of_lt (by omega) (by omega)]; omega
          rw [k]; show p - S + 1 * S = p; omega
      have er : r % S + b2i ng2 * S = r := by
        rw [← hng2]
        rcases Int.lt_or_le r S with c | c
        · rw [Int.emod_eq_of_lt r0 c, show decide (S ≤ r) = false by simp; omega]; show r + 0 * S = r; omega
        · rw [show decide (S ≤ r) = true by simp; exact c]
          have k : r % S = r - S := by rw [show r = (r - S) + S by omega, Int.add_emod_right, Int.emod_eq_of_lt (by omega) (by omega)]; omega
          rw [k]; show r - S + 1 * S = r; omega
      have hm := agrees_math (ng := ng) (ng' := ng2) HW.out.wide gap HE1.out HE2.out (Int.emod_nonneg _ (by omega)) h1 (Int.emod_nonneg _ (by omega)) h2
      rw [ep, er] at hm
      rw [hm]
      have hok : cmpOk S F p r = true := by
        unfold cmpOk
        simp
        omega
      replace K7 := below_trans K7 b6
      have HA := hide (lagainst_any (w := w6) (T.below K7) HW.out p0 p1 r0 r1)
      obtain ⟨cc, hcc⟩ : ∃ cc, cmpC S F p r = cc := ⟨_, rfl⟩
      rw [hcc, hok] at HA
      rw [hcc]
      clear c0 c1 c2 b6 hm hcc hok ep er C2 hng hng2
      go_wp2_with fail
      refine HA.out.mono ?_
      rintro z w7 ⟨rfl, b7⟩
      replace K7 := below_trans K7 b7
      clear b7 HA
      go_wp2
      go_ret
      exact ⟨rfl, K7⟩

end Go.Proofs.YtigehipclkoecabGreatDoor
