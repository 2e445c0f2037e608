/- crucibleref05: parts, Nearest of 64 bits (mk_rnearb.py) -/
import Derived.Test.YtkaakhmncmpliaaRNearest
namespace Go.Proofs.Ytkaakhmncmpliaa
open Go.RowKit
set_option linter.unusedVariables false

theorem p2_52 : (4503599627370496 : Int) = p2 52 := by decide
theorem near_cast {F L I N E r r' : Int} (h : r = r') (g : Near F L I N E r) : Near F L I N E r' := h ▸ g
set_option maxRecDepth 100000 in
set_option maxHeartbeats 8000000 in
theorem nearest_64 {w : World} {va : Value} {A e : Int} {ka M : Nat} (ha : Arg w va A ka) (hka : ka ≤ 1000000) (hA : A < p2 M) (hM : M ≤ 4000) (e0 : -4000 ≤ e) (e1 : e ≤ 4000) :
    Calls Try.prog 48 #[.int .i64 64, va, .int .i64 e] w fun x w' => ∃ r, x = .returned (.int .u64 r) ∧ Near 4503599627370496 (-1074) 9218868437227405312 A e r ∧ Below w.heap.size w w' := by
  have A0 := ha.nonneg
  obtain ⟨k, hlen, hk⟩ := len_ex M A A0 hA
  have HA := hide hA
  have HL := hide hlen
  clear hA hlen
  go_enter Try.func48, Try.ntmps48
  go_wp2_with fail
  with_reducible refine (shape_64 _).mono ?_
  rintro x w1 ⟨rfl, K⟩
  go_upto_region 2 with fail
  have C := tri3_new w1 (.int .i64 52) (.int .i64 (-1074)) (.int .i64 2047) 76
  replace K := below_trans K (bel_alloc w1 (.cells #[.int .i64 52, .int .i64 (-1074), .int .i64 2047] 76))
  generalize w1.heap.size = bb at *
  generalize w1.alloc (.cells #[.int .i64 52, .int .i64 (-1074), .int .i64 2047] 76) = w2 at *
  replace ha := ha.below K
  have c0 := C.c0; have c1 := C.c1; have c2 := C.c2
  go_wp2_with fail
  with_reducible refine (rlen_any ha (by omega) HL.out).mono ?_
  rintro x w3 ⟨rfl, b3⟩
  clear c0 c1 c2
  replace C := C.below b3
  replace ha := ha.below b3
  replace K := below_trans K b3
  clear b3
  by_cases hk0 : k = 0
  · subst hk0
    have hz : A = 0 := by have := HL.out.1; simp only [p2] at this; omega
    have c0 := C.c0; have c1 := C.c1; have c2 := C.c2
    go_wp2
    go_ret
    refine ⟨0, rfl, ?_, K⟩
    rw [hz]
    refine ⟨by omega, by omega, fun B hB hBL => ⟨fun _ => ?_, fun h => by omega⟩⟩
    have u1 := um_lt (F := 4503599627370496) (L := -1074) (B := B) (s := 0) (by decide) (by omega) hBL
    have u0 := um_zero (F := 4503599627370496) (L := -1074) (B := B) (by decide)
    unfold sc
    rw [u0, Int.zero_mul]
    rw [u0] at u1
    exact ⟨by omega, fun e => by omega⟩
  have Apos : 0 < A := by
    have h1 := HL.out.2 (by omega)
    have h2 := p2_pos (k - 1)
    omega
  obtain ⟨t, ht⟩ : ∃ t : Int, max (e + k - 1 - 52) (-1074) = t := ⟨_, rfl⟩
  have t0 : -1074 ≤ t := by omega
  have t1 : t ≤ 8000 := by omega
  go_upto_region 5 with fail
  go_cut [9] from 15 (fun s wx => s = .int .i64 t ∧ w3 = wx)
  case first =>
    have c0 := C.c0; have c1 := C.c1; have c2 := C.c2
    have T1 : (k : Int) + e - 52 - 1 ≤ -1074 → t = -1074 := fun _ => by omega
    have T2 : -1074 ≤ (k : Int) + e - 52 - 1 → t = (k : Int) + e - 52 - 1 := fun _ => by omega
    have H1 := hide T1
    have H2 := hide T2
    clear T1 T2 ht
    rcases Int.lt_trichotomy ((k : Int) + e - 52 - 1) (-1074) with d | d | d
    · obtain rfl := H1.out (by omega)
      go_wp2
      go_meet
      case rel => exact ⟨rfl, rfl⟩
    · obtain rfl := H1.out (by omega)
      go_wp2
      all_goals go_meet
      all_goals exact ⟨by first | rfl | (rw [d]), rfl⟩
    · obtain rfl := H2.out (by omega)
      go_wp2
      go_meet
      case rel => exact ⟨rfl, rfl⟩
  case rest =>
    obtain ⟨rfl, rfl⟩ := hcut
    go_upto_if 33 with fail
    go_cut [10, 11, 12] from 15 (fun s s1 s2 wx => ∃ q : Int, s = .int .u64 q ∧ 0 ≤ q ∧ q ≤ 9007199254740992 ∧ (t = -1074 ∨ 4503599627370496 ≤ q) ∧ Hid ((q + (t - -1074) * 4503599627370496 ≤ 9218868437227405312 → Near 4503599627370496 (-1074) 9218868437227405312 A e (q + (t - -1074) * 4503599627370496)) ∧ (9218868437227405312 ≤ q + (t - -1074) * 4503599627370496 → Near 4503599627370496 (-1074) 9218868437227405312 A e 9218868437227405312)) ∧ Tri3 wx bb (.int .i64 52) (.int .i64 (-1074)) (.int .i64 2047) ∧ Below w.heap.size w wx)
    case first =>
      by_cases c : t ≤ e
      · obtain ⟨q, hq⟩ : ∃ q, A * p2 (e - t).toNat = q := ⟨_, rfl⟩
        have q0 : 0 ≤ q := by rw [← hq]; exact Int.mul_nonneg A0 (Int.le_of_lt (p2_pos _))
        obtain ⟨q1, q2, hN⟩ := near_round (F := 4503599627370496) (L := -1074) (I := 9218868437227405312) (N := A) (E := e) (q := q) (t := t) (K := 2047) (fr := 52) (len := k) p2_52 (by decide) (by decide) (by decide) Apos HL.out ht.symm (fun _ => hq.symm) (fun h => by omega) q0
        have HN := hide hN
        have Hq := hide hq
        have d0 : 0 ≤ e - t := by omega
        clear hq hN ht
        have c0 := C.c0; have c1 := C.c1; have c2 := C.c2
        go_wp2_with fail
        with_reducible refine (shl_told ha (by omega) HA.out (by omega) d0 (by omega)).mono ?_
        rintro x w4 ⟨v4, rfl, g4, b4⟩
        rw [Hq.out] at g4
        clear c0 c1 c2
        replace C := C.below b4
        replace K := below_trans K b4
        have c0 := C.c0; have c1 := C.c1; have c2 := C.c2
        go_wp2_with fail
        with_reducible refine (ruint_yes g4.arg (by omega) (by omega)).mono ?_
        rintro x w5 ⟨rfl, b5⟩
        clear c0 c1 c2
        replace C := C.below b5
        replace K := below_trans K b5
        go_wp2
        go_meet
        case rel => exact ⟨q, rfl, q0, by omega, q2, HN, C, K⟩
      · have n1 : 1 ≤ t - e := by omega
        have n2 : t - e ≤ 9000 := by omega
        have hb : A / p2 (t - e).toNat < 18446744073709551615 := by
          rw [Int.ediv_lt_iff_lt_mul (p2_pos _)]
          have h1 := HL.out.1
          have h2 := p2_mono (m := k) (n := 53 + (t - e).toNat) (by omega)
          rw [p2_add, show p2 53 = 9007199254740992 by decide] at h2
          have h3 := p2_pos (t - e).toNat
          omega
        have Hb := hide hb
        have Ht := hide ht
        clear hb ht
        have c0 := C.c0; have c1 := C.c1; have c2 := C.c2
        go_wp2_with fail
        with_reducible refine (halved_any ha hka HA.out (by omega) n1 n2 Hb.out).mono ?_
        rintro x w4 ⟨q, rfl, q0, hq, b4⟩
        obtain ⟨q1, q2, hN⟩ := near_round (F := 4503599627370496) (L := -1074) (I := 9218868437227405312) (N := A) (E := e) (q := q) (t := t) (K := 2047) (fr := 52) (len := k) p2_52 (by decide) (by decide) (by decide) Apos HL.out Ht.out.symm (fun h => by omega) (fun _ => hq) q0
        have HN := hide hN
        clear hq hN c0 c1 c2
        replace C := C.below b4
        replace K := below_trans K b4
        go_wp2
        go_meet
        case rel => exact ⟨q, rfl, q0, by omega, q2, HN, C, K⟩
    case rest =>
      obtain ⟨q, rfl, q0, q1, q2, hNN, C, K⟩ := hcut
      have hN := hNN.out
      clear hNN ht HL HA
      have c0 := C.c0; have c1 := C.c1; have c2 := C.c2
      rcases Int.lt_or_le q 4503599627370496 with cq | cq
      · have tl : t = -1074 := by omega
        have HN := hide (hN.1 (by omega))
        clear hN
        go_wp2
        go_ret
        exact ⟨_, rfl, near_cast (by omega) HN.out, K⟩
      · rcases Int.lt_or_le q 9007199254740992 with cq2 | cq2
        · rcases Int.lt_or_le t 972 with ct | ct
          · have HN := hide (hN.1 (by omega))
            clear hN
            go_wp2
            go_ret
            exact ⟨_, rfl, near_cast (by omega) HN.out, K⟩
          · have HN := hide (hN.2 (by omega))
            clear hN
            go_wp2
            go_ret
            exact ⟨_, rfl, HN.out, K⟩
        · obtain rfl : q = 9007199254740992 := by omega
          rcases Int.lt_or_le t 971 with ct | ct
          · have HN := hide (hN.1 (by omega))
            clear hN
            go_wp2
            go_ret
            exact ⟨_, rfl, near_cast (by omega) HN.out, K⟩
          · have HN := hide (hN.2 (by omega))
            clear hN
            go_wp2
            go_ret
            exact ⟨_, rfl, HN.out, K⟩
end Go.Proofs.Ytkaakhmncmpliaa
