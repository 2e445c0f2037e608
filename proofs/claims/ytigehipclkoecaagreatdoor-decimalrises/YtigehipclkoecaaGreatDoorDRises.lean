/- DecimalRises: the walk -/
import Derived.Test.YtigehipclkoecaaGreatDoorDLaw
import Derived.Test.YtigehipclkoecaaGreatDoorDLives
namespace Go.Proofs.YtigehipclkoecaaGreatDoor
open Go.RowKit
set_option linter.unusedVariables false

theorem tri_range (x y : Int) : -1 ≤ tri x y ∧ tri x y ≤ 1 := by unfold tri; split; omega; split <;> omega
theorem tri_le {x y : Int} (h : x ≤ y) : tri x y ≤ 0 := by unfold tri; split; omega; split <;> omega
theorem tri_ge {x y : Int} (h : y ≤ x) : 0 ≤ tri x y := by unfold tri; split; omega; split <;> omega
theorem cmpC_range (S F x y : Int) : -1 ≤ cmpC S F x y ∧ cmpC S F x y ≤ 1 := by
  unfold cmpC
  have := tri_range (rk S x) (rk S y)
  split
  · split <;> omega
  · omega
theorem rk_of {S r : Int} {ng : Bool} (h0 : 0 ≤ r) (h1 : r < S) : rk S (r + b2i ng * S) = (if ng then S - 1 - r else r + S) ∧ (r + b2i ng * S) % S = r := by
  cases ng
  · rw [show b2i false = 0 from rfl, Int.zero_mul, Int.add_zero]
    exact ⟨by unfold rk; rw [if_pos h1]; rfl, Int.emod_eq_of_lt h0 h1⟩
  · rw [show b2i true = 1 from rfl, Int.one_mul]
    refine ⟨by unfold rk; rw [if_neg (by omega)]; show _ = S - 1 - r; omega, ?_⟩
    rw [Int.add_emod_right, Int.emod_eq_of_lt h0 h1]
/-- reading keeps the order -/
theorem rises_math {F L I S D1 q r1 D2 q' r2 : Int} {ng ng' : Bool} (W : Wide F L I) (hS : S - F = I) (d1 : 0 ≤ D1) (d2 : 0 ≤ D2) (v1 : DV F L I D1 q r1) (v2 : DV F L I D2 q' r2) :
    (dcmp (sgv ng D1) q (sgv ng' D2) q' < 0 → cmpC S F (r1 + b2i ng * S) (r2 + b2i ng' * S) ≤ 0) ∧ (0 < dcmp (sgv ng D1) q (sgv ng' D2) q' → 0 ≤ cmpC S F (r1 + b2i ng * S) (r2 + b2i ng' * S)) ∧
    (dcmp (sgv ng D1) q (sgv ng' D2) q' = 0 → cmpC S F (r1 + b2i ng * S) (r2 + b2i ng' * S) = 0) := by
  have f0 := W.f0
  have i0 := W.i0
  have a0 := v1.1
  have a1 := v1.2.1
  have b0 := v2.1
  have b1 := v2.2.1
  obtain ⟨k1, m1⟩ := rk_of (S := S) (ng := ng) a0 (by omega)
  obtain ⟨k2, m2⟩ := rk_of (S := S) (ng := ng') b0 (by omega)
  have le1 : D1 * tn (q.toNat + (-q').toNat) ≤ D2 * tn (q'.toNat + (-q).toNat) → r1 ≤ r2 := fun h => dv_cross (by omega) v1 v2 h
  have le2 : D2 * tn (q'.toNat + (-q).toNat) ≤ D1 * tn (q.toNat + (-q').toNat) → r2 ≤ r1 := fun h => dv_cross (by omega) v2 v1 h
  have z1 : D1 = 0 → r1 = 0 := fun h => by subst h; exact dv_first W v1 (dv_zero W)
  have z2 : D2 = 0 → r2 = 0 := fun h => by subst h; exact dv_first W v2 (dv_zero W)
  have T := tn_pos (q.toNat + (-q').toNat)
  have U := tn_pos (q'.toNat + (-q).toNat)
  unfold dcmp
  rw [sgv_mul, sgv_mul]
  have x0 : 0 ≤ D1 * tn (q.toNat + (-q').toNat) := Int.mul_nonneg d1 (by omega)
  have y0 : 0 ≤ D2 * tn (q'.toNat + (-q).toNat) := Int.mul_nonneg d2 (by omega)
  have xz : D1 * tn (q.toNat + (-q').toNat) = 0 → D1 = 0 := fun h => by rcases Int.mul_eq_zero.1 h with h | h; exact h; omega
  have yz : D2 * tn (q'.toNat + (-q).toNat) = 0 → D2 = 0 := fun h => by rcases Int.mul_eq_zero.1 h with h | h; exact h; omega
  generalize D1 * tn (q.toNat + (-q').toNat) = x at *
  generalize D2 * tn (q'.toNat + (-q).toNat) = y at *
  have sl : ∀ {a b : Int}, sgn a b < 0 → a < b := fun {a b} h => by unfold sgn at h; by_cases c : a < b; exact c; rw [if_neg c] at h; split at h <;> omega
  have sg : ∀ {a b : Int}, 0 < sgn a b → b < a := fun {a b} h => by unfold sgn at h; by_cases c : a < b; (rw [if_pos c] at h; omega); rw [if_neg c] at h; split at h <;> omega
  have se : ∀ {a b : Int}, sgn a b = 0 → a = b := fun {a b} h => by unfold sgn at h; by_cases c : a < b; (rw [if_pos c] at h; omega); rw [if_neg c] at h; split at h <;> omega
  unfold cmpC
  rw [m1, m2, if_pos (by omega), k1, k2]
  have fin : ∀ {c a b : Int}, (c < 0 → a ≤ b ∨ (r1 = 0 ∧ r2 = 0)) → (0 < c → b ≤ a ∨ (r1 = 0 ∧ r2 = 0)) → (c = 0 → a = b ∨ (r1 = 0 ∧ r2 = 0)) →
      (c < 0 → (if r1 = 0 ∧ r2 = 0 then 0 else tri a b) ≤ 0) ∧ (0 < c → 0 ≤ (if r1 = 0 ∧ r2 = 0 then 0 else tri a b)) ∧ (c = 0 → (if r1 = 0 ∧ r2 = 0 then 0 else tri a b) = 0) := by
    intro c a b h1 h2 h3
    by_cases z : r1 = 0 ∧ r2 = 0
    · rw [if_pos z]; exact ⟨fun _ => by omega, fun _ => by omega, fun _ => rfl⟩
    · rw [if_neg z]
      refine ⟨fun h => ?_, fun h => ?_, fun h => ?_⟩
      · exact tri_le ((h1 h).resolve_right z)
      · exact tri_ge ((h2 h).resolve_right z)
      · rw [(h3 h).resolve_right z]; exact tri_self b
  cases ng <;> cases ng'
  · refine fin (fun h => ?_) (fun h => ?_) (fun h => ?_)
    · have := sl h; simp [sgv] at this; have := le1 (by omega); left; simp; omega
    · have := sg h; simp [sgv] at this; have := le2 (by omega); left; simp; omega
    · have := se h; simp [sgv] at this; have := le1 (by omega); have := le2 (by omega); left; simp; omega
  · refine fin (fun h => ?_) (fun h => ?_) (fun h => ?_)
    · have := sl h; simp [sgv] at this; omega
    · left; simp; omega
    · have := se h
      simp [sgv] at this
      right
      exact ⟨z1 (xz (by omega)), z2 (yz (by omega))⟩
  · refine fin (fun h => ?_) (fun h => ?_) (fun h => ?_)
    · left; simp; omega
    · have := sg h; simp [sgv] at this; omega
    · have := se h
      simp [sgv] at this
      right
      exact ⟨z1 (xz (by omega)), z2 (yz (by omega))⟩
  · refine fin (fun h => ?_) (fun h => ?_) (fun h => ?_)
    · have := sl h; simp [sgv] at this; have := le2 (by omega); left; simp; omega
    · have := sg h; simp [sgv] at this; have := le1 (by omega); left; simp; omega
    · have := se h; simp [sgv] at this; have := le1 (by omega); have := le2 (by omega); left; simp; omega

set_option maxHeartbeats 2000000 in
theorem lagainst_16 {w : World} (T : Lays w) {v x y : Int} (v0 : 0 ≤ v) (v1 : v < 256) (hv : v % 4 = 0) (x0 : 0 ≤ x) (x1 : x < 65536) (y0 : 0 ≤ y) (y1 : y < 65536) :
    Calls Tryz.prog 17 #[.int .u8 v, .int .u64 x, .int .u64 y] w fun e w' => e = .returned (.tuple #[.int .i64 (cmpC 32768 1024 x y), .bool (cmpOk 32768 1024 x y)]) ∧ Below w.heap.size w w' := by
  go_enter Tryz.func17, Tryz.ntmps17
  go_wp2_with fail
  with_reducible refine (cmp_16 T x y x0 x1 y0 y1).mono ?_
  rintro e w1 ⟨rfl, b1⟩
  go_wp2
  go_ret2
  exact ⟨rfl, b1⟩

set_option maxHeartbeats 2000000 in
theorem lagainst_32 {w : World} (T : Lays w) {v x y : Int} (v0 : 0 ≤ v) (v1 : v < 256) (hv : v % 4 = 1) (x0 : 0 ≤ x) (x1 : x < 4294967296) (y0 : 0 ≤ y) (y1 : y < 4294967296) :
    Calls Tryz.prog 17 #[.int .u8 v, .int .u64 x, .int .u64 y] w fun e w' => e = .returned (.tuple #[.int .i64 (cmpC 2147483648 8388608 x y), .bool (cmpOk 2147483648 8388608 x y)]) ∧ Below w.heap.size w w' := by
  go_enter Tryz.func17, Tryz.ntmps17
  go_wp2_with fail
  with_reducible refine (cmp_32 T x y x0 x1 y0 y1).mono ?_
  rintro e w1 ⟨rfl, b1⟩
  go_wp2
  go_ret2
  exact ⟨rfl, b1⟩

set_option maxHeartbeats 2000000 in
theorem lagainst_64 {w : World} (T : Lays w) {v x y : Int} (v0 : 0 ≤ v) (v1 : v < 256) (hv : v % 4 = 2) (x0 : 0 ≤ x) (x1 : x < 18446744073709551616) (y0 : 0 ≤ y) (y1 : y < 18446744073709551616) :
    Calls Tryz.prog 17 #[.int .u8 v, .int .u64 x, .int .u64 y] w fun e w' => e = .returned (.tuple #[.int .i64 (cmpC 9223372036854775808 4503599627370496 x y), .bool (cmpOk 9223372036854775808 4503599627370496 x y)]) ∧ Below w.heap.size w w' := by
  go_enter Tryz.func17, Tryz.ntmps17
  go_wp2_with fail
  with_reducible refine (cmp_64 T x y x0 x1 y0 y1).mono ?_
  rintro e w1 ⟨rfl, b1⟩
  go_wp2
  go_ret2
  exact ⟨rfl, b1⟩

set_option maxHeartbeats 2000000 in
theorem lagainst_16o {w : World} (T : Lays w) {v x y : Int} (v0 : 0 ≤ v) (v1 : v < 256) (hv : v % 4 = 3) (x0 : 0 ≤ x) (x1 : x < 65536) (y0 : 0 ≤ y) (y1 : y < 65536) :
    Calls Tryz.prog 17 #[.int .u8 v, .int .u64 x, .int .u64 y] w fun e w' => e = .returned (.tuple #[.int .i64 (cmpC 32768 1024 x y), .bool (cmpOk 32768 1024 x y)]) ∧ Below w.heap.size w w' := by
  go_enter Tryz.func17, Tryz.ntmps17
  go_wp2_with fail
  with_reducible refine (cmp_16 T x y x0 x1 y0 y1).mono ?_
  rintro e w1 ⟨rfl, b1⟩
  go_wp2
  go_ret2
  exact ⟨rfl, b1⟩

theorem lagainst_any {w : World} (T : Lays w) {v F L I S n x y : Int} (h : Wd v F L I S n) (x0 : 0 ≤ x) (x1 : x < 2 * S) (y0 : 0 ≤ y) (y1 : y < 2 * S) :
    Calls Tryz.prog 17 #[.int .u8 v, .int .u64 x, .int .u64 y] w fun e w' => e = .returned (.tuple #[.int .i64 (cmpC S F x y), .bool (cmpOk S F x y)]) ∧ Below w.heap.size w w' := by
  obtain ⟨v0, v1, h⟩ := h
  rcases h with ⟨h, rfl, rfl, rfl, rfl, rfl⟩ | ⟨h, rfl, rfl, rfl, rfl, rfl⟩ | ⟨h, rfl, rfl, rfl, rfl, rfl⟩ | ⟨h, rfl, rfl, rfl, rfl, rfl⟩
  · exact lagainst_16 T v0 v1 h x0 (by omega) y0 (by omega)
  · exact lagainst_32 T v0 v1 h x0 (by omega) y0 (by omega)
  · exact lagainst_64 T v0 v1 h x0 (by omega) y0 (by omega)
  · exact lagainst_16o T v0 v1 h x0 (by omega) y0 (by omega)
theorem Wd.gap {v F L I S n : Int} (h : Wd v F L I S n) : S - F = I := by
  rcases h.2.2 with ⟨_, rfl, rfl, rfl, rfl, rfl⟩ | ⟨_, rfl, rfl, rfl, rfl, rfl⟩ | ⟨_, rfl, rfl, rfl, rfl, rfl⟩ | ⟨_, rfl, rfl, rfl, rfl, rfl⟩ <;> decide

set_option maxRecDepth 100000 in
set_option maxHeartbeats 8000000 in
theorem rises_walk7 {w : World} (TT : Lays w ∧ Brn w) {v : Int} (v0 : 0 ≤ v) (v1 : v < 256) {es : List Int} {s : ByteArray} {N : Nat} {ng : Bool} {P : Int} (hd : Byt es) (hs : s = strOfNums es) (hN : es.length = N) (hl : N ≤ 2305843009213693952) (hP : -9223372036854775808 ≤ P) (hP2 : P ≤ 9223372036854775807)
    {es' : List Int} {s' : ByteArray} {N' : Nat} {ng' : Bool} {P' : Int} (hd' : Byt es') (hs' : s' = strOfNums es') (hN' : es'.length = N') (hl' : N' ≤ 2305843009213693952) (hP' : -9223372036854775808 ≤ P') (hP2' : P' ≤ 9223372036854775807) :
    Calls Tryz.prog 5 #[.int .u8 v, .agg #[.bool ng, .string s, .int .i64 P], .agg #[.bool ng', .string s', .int .i64 P']] w fun e w' => e = .returned (.bool true) ∧ Below w.heap.size w w' := by
  obtain ⟨T, U⟩ := TT
  obtain ⟨F, L, I, S, n, hW⟩ := wd_of v v0 v1
  have HW := hide hW
  have HD := hide (And.intro hd (And.intro hs hN))
  have HD' := hide (And.intro hd' (And.intro hs' hN'))
  clear hW hd hs hN hd' hs' hN'
  have K0 : Below w.heap.size w ((w.alloc (.cells #[.bool ng, .string s, .int .i64 P] 23)).alloc (.cells #[.bool ng', .string s', .int .i64 P'] 23)) := below_trans (al_one _ _) (al_one _ _)
  have C1 := (cell3_new w (.bool ng) (.string s) (.int .i64 P) 23).below (al_one _ (.cells #[.bool ng', .string s', .int .i64 P'] 23))
  have C2 := cell3_new (w.alloc (.cells #[.bool ng, .string s, .int .i64 P] 23)) (.bool ng') (.string s') (.int .i64 P') 23
  rw [show (w.alloc (.cells #[.bool ng, .string s, .int .i64 P] 23)).heap.size = w.heap.size + 1 by simp] at C2
  go_enter Tryz.func5, Tryz.ntmps5
  go_wp2_with fail
  refine (lives7 (T.below K0) (U.below K0)).mono ?_
  rintro x w1 ⟨rfl, b1⟩
  replace K0 := below_trans K0 b1; replace C1 := C1.below b1; replace C2 := C2.below b1
  clear b1
  have c0 := C1.c0; have c1 := C1.c1; have c2 := C1.c2
  have d0 := C2.c0; have d1 := C2.c1; have d2 := C2.c2
  go_wp2_with fail
  refine (dcmp_any HD.out.1 HD.out.2.1 HD.out.2.2 (by omega) hP hP2 HD'.out.1 HD'.out.2.1 HD'.out.2.2 (by omega) hP' hP2').mono ?_
  rintro x w2 ⟨b2, hcase⟩
  have HC := hide hcase
  clear c0 c1 c2 d0 d1 d2
  replace K0 := below_trans K0 b2; replace C1 := C1.below b2; replace C2 := C2.below b2
  clear b2
  have rest : ∀ {c : Int} {ok : Bool}, x = .returned (.tuple #[.int .i64 c, .bool ok]) → True := fun _ => trivial
  obtain ⟨c, ok, hx⟩ : ∃ c ok, x = .returned (.tuple #[.int .i64 c, .bool ok]) := by
    rcases hcase with ⟨_, rfl⟩ | ⟨_, _, rfl⟩
    · exact ⟨_, _, rfl⟩
    · exact ⟨_, _, rfl⟩
  clear rest hcase
  have HX := hide hx
  rw [hx]
  clear hx
  have c0 := C1.c0; have c1 := C1.c1; have c2 := C1.c2
  go_wp2_with fail
  refine (lread_any (T.below K0) HW.out HD.out.1 HD.out.2.1 HD.out.2.2 (by omega) hP hP2).mono ?_
  rintro x3 w3 ⟨b3, y1, ok1, rfl, R1⟩
  clear c0 c1 c2
  replace K0 := below_trans K0 b3; replace C2 := C2.below b3
  have HR1 := hide R1
  clear b3 R1 C1
  have d0 := C2.c0; have d1 := C2.c1; have d2 := C2.c2
  go_wp2_with fail
  refine (lread_any (T.below K0) HW.out HD'.out.1 HD'.out.2.1 HD'.out.2.2 (by omega) hP' hP2').mono ?_
  rintro x4 w4 ⟨b4, y2, ok2, rfl, R2⟩
  clear d0 d1 d2
  replace K0 := below_trans K0 b4
  have HR2 := hide R2
  clear b4 R2 C2
  rcases HR1.out with ⟨n1, rfl, rfl⟩ | ⟨n1, rfl, r1, rfl, r10, r11, dv1⟩
  · rcases HC.out with ⟨_, h⟩ | ⟨h, _⟩
    · rw [HX.out] at h
      injection h with h
      injection h with h
      simp at h
      obtain ⟨rfl, rfl⟩ := h
      rcases HR2.out with ⟨n2, rfl, rfl⟩ | ⟨n2, rfl, r2, rfl, r20, r21, dv2⟩
      · clear HR1 HR2 HC HX
        go_wp2
        go_ret
        exact ⟨rfl, K0⟩
      · clear HR1 HR2 HC HX dv2
        go_wp2
        go_ret
        exact ⟨rfl, K0⟩
    · exact absurd h n1
  · rcases HR2.out with ⟨n2, rfl, rfl⟩ | ⟨n2, rfl, r2, rfl, r20, r21, dv2⟩
    · rcases HC.out with ⟨_, h⟩ | ⟨_, h, _⟩
      · rw [HX.out] at h
        injection h with h
        injection h with h
        simp at h
        obtain ⟨rfl, rfl⟩ := h
        clear HR1 HR2 HC HX dv1
        go_wp2
        go_ret
        exact ⟨rfl, K0⟩
      · exact absurd h n2
    · rcases HC.out with ⟨h, _⟩ | ⟨_, _, h⟩
      · exact absurd ⟨n1, n2⟩ h
      · rw [HX.out] at h
        injection h with h
        injection h with h
        simp at h
        obtain ⟨hc, rfl⟩ := h
        obtain ⟨m1, m2, m3⟩ := rises_math (ng := ng) (ng' := ng') HW.out.wide HW.out.gap (dg_range n1).1 (dg_range n2).1 dv1 dv2
        rw [← hc] at m1 m2 m3
        have ends := HW.out.ends
        have bc := b2i_cases ng
        have bc' := b2i_cases ng'
        have hI := HW.out.gap
        have q1 : 0 ≤ r1 + b2i ng * S ∧ r1 + b2i ng * S < 2 * S := by rcases bc with h | h <;> rw [h] <;> omega
        have q2 : 0 ≤ r2 + b2i ng' * S ∧ r2 + b2i ng' * S < 2 * S := by rcases bc' with h | h <;> rw [h] <;> omega
        have hok : cmpOk S F (r1 + b2i ng * S) (r2 + b2i ng' * S) = true := by
          unfold cmpOk
          rw [(rk_of (ng := ng) r10 (by omega)).2, (rk_of (ng := ng') r20 (by omega)).2]
          simp
          omega
        have HA := hide (lagainst_any (w := w4) (T.below K0) HW.out q1.1 q1.2 q2.1 q2.2)
        clear HR1 HR2 HC HX dv1 dv2 hc ends bc bc' hI q1 q2 n1 n2
        obtain ⟨cc, hcc⟩ : ∃ cc, cmpC S F (r1 + b2i ng * S) (r2 + b2i ng' * S) = cc := ⟨_, rfl⟩
        rw [hcc, hok] at HA
        rw [hcc] at m1 m2 m3
        clear hcc hok
        go_wp2_with fail
        refine HA.out.mono ?_
        rintro x5 w5 ⟨rfl, b5⟩
        replace K0 := below_trans K0 b5
        clear b5 HA
        rcases Int.lt_trichotomy c 0 with h | h | h
        · have g1 := m1 h
          clear m1 m2 m3
          go_wp2
          go_ret
          exact ⟨rfl, K0⟩
        · have g1 := m3 h
          have g2 : ¬ c < 0 := by omega
          have g3 : ¬ 0 < c := by omega
          have g4 : (c == 0) = true := by simp [h]
          have g5 : (cc == 0) = true := by simp [g1]
          clear m1 m2 m3
          go_wp2
          go_ret
          exact ⟨rfl, K0⟩
        · have g1 := m2 h
          have g2 : ¬ c < 0 := by omega
          clear m1 m2 m3
          go_wp2
          go_ret
          exact ⟨rfl, K0⟩

end Go.Proofs.YtigehipclkoecaaGreatDoor
