/- crucibleref04: Round, another width (mk_iround.py) -/
import Derived.Test.YtmmkdihhcmcjjaaDoorIRefR
namespace Go.Proofs.YtmmkdihhcmcjjaaDoor
open Go.RowKit
set_option linter.unusedVariables false

set_option maxRecDepth 20000 in
set_option maxHeartbeats 8000000 in
theorem rRound_d {w : World} {va : Value} {A e : Int} {ka : Nat} {neg more : Bool} (ha : Arg w va A ka) (hka : ka ≤ 1048576) (e0 : -9223372036854775808 ≤ e) (e1 : e < 9223372036854775808) :
    Calls Tryd.prog 12 #[.int .i64 64, .bool neg, va, .int .i64 e, .bool more] w fun x w' => RoundIs 9223372036854775808 4503599627370496 (-1074) 9218868437227405312 neg A more e x ∧ Below w.heap.size w w' := by
  have A0 := ha.nonneg
  obtain ⟨size, hlen, hsz⟩ := len_of ha
  obtain ⟨q, hq⟩ : ∃ q, b2i neg * 9223372036854775808 = q := ⟨_, rfl⟩
  have q01 : 0 ≤ q ∧ q ≤ 9223372036854775808 := by subst hq; cases neg <;> simp [b2i]
  obtain ⟨q0, q1⟩ := q01
  have HQ := hide hq
  have Hlen := hide hlen
  have sz1 : (size : Int) ≤ 33554432 := by omega
  clear hq hlen
  go_enter Tryd.func12, Tryd.ntmps12
  go_upto_if 27 with fail
  go_cut [11] from 27 (fun s wx => s = .int .u64 q ∧ w = wx)
  case first =>
    cases neg
    · go_wp2
      go_meet
      case rel => exact ⟨by rw [← HQ.out]; rfl, rfl⟩
    · go_wp2_with fail
      with_reducible refine (rSign_d _).mono ?_
      rintro x' w1 ⟨rfl, rfl⟩
      go_wp2
      go_meet
      case rel => exact ⟨by rw [← HQ.out]; rfl, rfl⟩
  case rest =>
    obtain ⟨rfl, rfl⟩ := hcut
    go_wp2_with fail
    with_reducible refine (rlen_any ha (by omega) Hlen.out).mono ?_
    rintro x' w1 ⟨rfl, K⟩
    replace ha := ha.below K
    have NEAR0 : ∀ (z : size = 0) (m : more = false), Hid (Near 4503599627370496 (-1074) 9218868437227405312 (2 * A + b2i' more) (e - 1) 0) := fun z m => hide (near_low (F := 4503599627370496) (L := (-1074)) (I := 9218868437227405312) (by decide) (by decide) A0 Hlen.out (b2i_or more) (Or.inl ⟨z, by rw [m]; rfl⟩))
    have NEARI : ∀ (z : ¬ (size = 0 ∧ more = false)) (h : 1200 < e), Hid (Near 4503599627370496 (-1074) 9218868437227405312 (2 * A + b2i' more) (e - 1) 9218868437227405312) := fun z h => hide (near_high (F := 4503599627370496) (L := (-1074)) (I := 9218868437227405312) (lim := 1024) (fr := 52) (by decide) (by decide) (by decide) A0 Hlen.out (b2i_or more) (zmore z) (by omega))
    have Hz : Hid (¬ (size = 0 ∧ more = false)) ∨ (size = 0 ∧ more = false) := by
      by_cases h : size = 0 ∧ more = false
      · exact Or.inr h
      · exact Or.inl (hide h)
    rcases Hz with Hz | ⟨z, mf⟩
    · go_upto_region 5 with fail
      go_cut [37] from 27 (fun s wx => s = .bool false ∧ w1 = wx)
      case first =>
        by_cases z : size = 0
        · have z' : ((size : Int) == 0) = true := by simp [z]
          have mt : more = true := by cases more; exact (Hz.out ⟨z, rfl⟩).elim; rfl
          subst mt
          clear z
          go_wp2
          go_meet
          case rel => exact ⟨rfl, rfl⟩
        · have z' : ((size : Int) == 0) = false := by simp [z]
          clear z
          go_wp2
          go_meet
          case rel => exact ⟨rfl, rfl⟩
      case rest =>
        obtain ⟨rfl, rfl⟩ := hcut
        by_cases hi : 1200 < e
        · have HN := NEARI Hz.out hi
          clear NEARI NEAR0
          go_wp2_with fail
          with_reducible refine (rInf_d _).mono ?_
          rintro x' w2 ⟨rfl, kb⟩
          go_wp2
          go_ret
          exact ⟨⟨9218868437227405312, A, e, more, ret_int (by rw [HQ.out]; omega), HN.out, Or.inl ⟨rfl, rfl, rfl⟩⟩, below_trans K kb⟩
        clear NEARI NEAR0
        go_upto_if 46 with fail
        go_cut [2, 3, 4] from 27 (fun s2 s3 s4 w2 => ∃ vb A1 E1 m1 z1, vb = s2 ∧ s3 = .int .i64 E1 ∧ s4 = .bool m1 ∧ Arg w2 vb A1 1048577 ∧ IsLen A1 z1 ∧ z1 ≤ 200 ∧ ¬ (z1 = 0 ∧ m1 = false) ∧ -9223372036854775808 ≤ E1 ∧ E1 ≤ 33556000 ∧ Stick A more e A1 m1 E1 ∧ Below w.heap.size w w2)
        case first =>
          by_cases big : 200 < (size : Int)
          · obtain ⟨d, hd⟩ : ∃ d, d = size - 200 := ⟨_, rfl⟩
            have Hd := hide hd
            have hn : (size : Int) - 200 = (d : Int) := by omega
            have he : e + (size : Int) - 200 = e + (d : Int) := by omega
            clear hd
            go_wp2_with fail
            with_reducible refine (rshr_cut (n := (d : Int)) ha (by omega) Hlen.out (by omega) Hd.out rfl).mono ?_
            rintro x' w2 ⟨vq, rfl, hV, kb⟩
            have Hlen2 := hide (show IsLen (A / p2 d) 200 from len_cut Hlen.out (by omega) Hd.out A0)
            have H100 := hide (show p2 100 ≤ A / p2 d by have h1 := Hlen2.out.2 (by decide); have h2 := p2_mono (m := 100) (n := 200 - 1) (by decide); omega)
            have HV := hide (hV.mono (k' := 1048577) (by omega))
            clear hV
            generalize hT : A / p2 d = top at *
            generalize hR : A % p2 d = rest at *
            have HT := hide hT
            have HR := hide hR
            clear hT hR
            cases more
            · cases hb : decide (0 < rest)
              · go_wp2
                go_meet
                case rel => exact ⟨_, top, e + d, false, 200, rfl, by first | rfl | (rw [← he]), rfl, HV.out.arg, Hlen2.out, by omega, by omega, by omega, by omega, Or.inr ⟨d, HT.out.symm, rfl, H100.out, by rw [HR.out, hb]; rfl⟩, below_trans K kb⟩
              · go_wp2
                go_meet
                case rel => exact ⟨_, top, e + d, true, 200, rfl, by first | rfl | (rw [← he]), rfl, HV.out.arg, Hlen2.out, by omega, by omega, by omega, by omega, Or.inr ⟨d, HT.out.symm, rfl, H100.out, by rw [HR.out, hb]; rfl⟩, below_trans K kb⟩
            · go_wp2
              go_meet
              case rel => exact ⟨_, top, e + d, true, 200, rfl, by first | rfl | (rw [← he]), rfl, HV.out.arg, Hlen2.out, by omega, by omega, by omega, by omega, Or.inr ⟨d, HT.out.symm, rfl, H100.out, by rfl⟩, below_trans K kb⟩
          · go_wp2
            go_meet
            case rel =>
              obtain ⟨zs, p1, p2', p3, p4⟩ := ha
              exact ⟨_, A, e, more, size, rfl, rfl, rfl, ⟨zs, p1, p2', p3, by omega⟩, Hlen.out, by omega, Hz.out, by omega, by omega, Or.inl ⟨rfl, rfl, rfl⟩, K⟩
        case rest =>
          clear ha K
          obtain ⟨vb, A1, E1, m1, z1, rfl, rfl, rfl, hb, hlen1, hz1, hzm, b0, b1, hst, K⟩ := hcut
          have A10 := hb.nonneg
          have HST := hide hst
          have Hl1 := hide hlen1
          have Hzm := hide hzm
          have hA1 : A1 < p2 200 := by have h1 := hlen1.1; have h2 := p2_mono (m := z1) (n := 200) hz1; omega
          have HA1 := hide hA1
          clear hst hlen1 hzm hA1
          by_cases lo : E1 < -2000
          · have HN := hide (show Near 4503599627370496 (-1074) 9218868437227405312 (2 * A1 + b2i' m1) (E1 - 1) 0 from near_low (F := 4503599627370496) (L := (-1074)) (I := 9218868437227405312) (by decide) (by decide) A10 Hl1.out (b2i_or m1) (Or.inr (by omega)))
            go_wp2
            go_ret
            exact ⟨⟨0, A1, E1, m1, ret_int (by rw [HQ.out]; omega), HN.out, HST.out⟩, K⟩
          by_cases hi2 : 1200 < E1
          · have HN := hide (show Near 4503599627370496 (-1074) 9218868437227405312 (2 * A1 + b2i' m1) (E1 - 1) 9218868437227405312 from near_high (F := 4503599627370496) (L := (-1074)) (I := 9218868437227405312) (lim := 1024) (fr := 52) (by decide) (by decide) (by decide) A10 Hl1.out (b2i_or m1) (zmore Hzm.out) (by omega))
            go_wp2_with fail
            with_reducible refine (rInf_d _).mono ?_
            rintro x' w2 ⟨rfl, kb⟩
            go_wp2
            go_ret
            exact ⟨⟨9218868437227405312, A1, E1, m1, ret_int (by rw [HQ.out]; omega), HN.out, HST.out⟩, below_trans K kb⟩
          go_upto_if 73 with fail
          go_cut [2, 3] from 27 (fun s2 s3 w2 => ∃ vc N E, vc = s2 ∧ s3 = .int .i64 E ∧ Arg w2 vc N 2100000 ∧ N < p2 300 ∧ -2001 ≤ E ∧ E ≤ 1200 ∧ E1 - 1 ≤ E ∧ (∀ B, B ≤ E1 - 1 → sc N E B = sc (2 * A1 + b2i' m1) (E1 - 1) B) ∧ Below w.heap.size w w2)
          case first =>
            cases m1
            · go_wp2
              go_meet
              case rel =>
                obtain ⟨zs, p1, p2', p3, p4⟩ := hb
                exact ⟨_, A1, E1, rfl, rfl, ⟨zs, p1, p2', p3, by omega⟩, by have h1 := HA1.out; have h2 := p2_mono (m := 200) (n := 300) (by decide); omega, by omega, by omega, by omega, fun B hB => by rw [sc_twice hB]; congr 1; simp only [b2i']; simp, K⟩
            · go_wp2_with fail
              with_reducible refine (radd_any hb hb (by omega) (by omega)).mono ?_
              rintro x' w2 ⟨y1, rfl, h1, kb⟩
              replace K := below_trans K kb
              clear kb
              go_wp2_with fail
              with_reducible refine (rfrom_any 1 (by decide) (by decide)).mono ?_
              rintro x' w3 ⟨y2, rfl, h2, kb⟩
              replace h1 := h1.below kb
              replace K := below_trans K kb
              clear kb
              go_wp2_with fail
              with_reducible refine (radd_any h1.arg h2.arg (by omega) (by omega)).mono ?_
              rintro x' w4 ⟨y3, rfl, h3, kb⟩
              replace K := below_trans K kb
              have H3 := hide (h3.mono (k' := 2100000) (by omega))
              clear kb h1 h2 h3
              go_wp2
              go_meet
              case rel => exact ⟨_, A1 + A1 + 1, E1 - 1, rfl, rfl, H3.out.arg, by have h1 := HA1.out; have h2 := p2_mono (m := 202) (n := 300) (by decide); rw [show p2 202 = 4 * p2 200 from by decide] at h2; omega, by omega, by omega, by omega, fun B hB => by congr 1; rw [show b2i' true = 1 from rfl]; omega, K⟩
          case rest =>
            clear hb K
            obtain ⟨vc, N, E, rfl, rfl, hc, hN, c0, c1, hE1, hsc, K⟩ := hcut
            have FINAL : ∀ r, Near 4503599627370496 (-1074) 9218868437227405312 N E r → Hid (Near 4503599627370496 (-1074) 9218868437227405312 (2 * A1 + b2i' m1) (E1 - 1) r) := fun r h => hide (near_scaled hE1 hsc h)
            have HN := hide hN
            clear hsc hN
            go_wp2_with fail
            with_reducible refine (rInf_d _).mono ?_
            rintro x' w2 ⟨rfl, kb⟩
            replace hc := hc.below kb
            replace K := below_trans K kb
            clear kb
            go_wp2
            go_loopw [16, 17] (fun s16 s17 wr => ∃ lo hi : Int, s16 = .int .u64 lo ∧ s17 = .int .u64 hi ∧ 0 ≤ lo ∧ lo < hi ∧ hi ≤ 9218868437227405312 + 1 ∧ (∀ B, B ≤ E → B ≤ (-1074) → um 4503599627370496 (-1074) B lo ≤ sc N E B) ∧ (hi ≤ 9218868437227405312 → ∀ B, B ≤ E → B ≤ (-1074) → sc N E B < um 4503599627370496 (-1074) B hi) ∧ Arg wr vc N 2100000 ∧ Below w.heap.size w wr) (fun s16 s17 _ => (intOf s17 - intOf s16).toNat)
            case atStart =>
              refine ⟨0, 9218868437227405312 + 1, rfl, rfl, by decide, by decide, by decide, fun B h1 h2 => ?_, fun h => by omega, hc, K⟩
              unfold um sc mst
              rw [if_pos (by decide), Int.zero_mul]
              exact Int.mul_nonneg hc.nonneg (Int.le_of_lt (p2_pos _))
            case round =>
              clear hc K
              obtain ⟨lo, hi, rfl, rfl, l0, lh, h1, hlo, hhi, hc, K⟩ := hrel
              have HLO := hide hlo
              have HHI := hide hhi
              clear hlo hhi
              by_cases more2 : 1 < hi - lo
              · obtain ⟨mid, hmid⟩ : ∃ m, lo + (hi - lo) / 2 = m := ⟨_, rfl⟩
                have g0 : lo < mid := by omega
                have g1 : mid < hi := by omega
                obtain ⟨mm0, mm1⟩ : 0 < mst 4503599627370496 mid ∧ mst 4503599627370496 mid < 9223372036854775808 := mst_range (F := 4503599627370496) (s := mid) (S := 9223372036854775808) (by decide) (by omega) (by decide) (by omega)
                obtain ⟨ee0, ee1⟩ : (-1074) ≤ est 4503599627370496 (-1074) mid ∧ est 4503599627370496 (-1074) mid ≤ 2100 := ⟨est_ge (by decide), by unfold est; split <;> omega⟩
                go_wp2_with fail
                with_reducible refine (rNumber_d _ mid (by omega) (by omega)).mono ?_
                rintro x' w3 ⟨rfl, kb⟩
                replace hc := hc.below kb
                replace K := below_trans K kb
                clear kb
                have HCM := hide (fun B (h1 : B ≤ E) (h2 : B ≤ (-1074)) => sgn_at (N := N) (E := E) (n := mst 4503599627370496 mid) (f := est 4503599627370496 (-1074) mid) (B := B) h1 (by omega))
                have HUM := hide (show ∀ B, um 4503599627370496 (-1074) B mid = sc (mst 4503599627370496 mid) (est 4503599627370496 (-1074) mid) B from fun _ => rfl)
                generalize mst 4503599627370496 mid = mm at *
                generalize est 4503599627370496 (-1074) mid = ee at *
                go_wp2_with fail
                with_reducible refine (rfrom_any mm (by omega) (by omega)).mono ?_
                rintro x' w4 ⟨y1, rfl, hy, kb⟩
                replace hc := hc.below kb
                replace K := below_trans K kb
                clear kb
                go_wp2_with fail
                with_reducible refine (rcmp2_any (e := ee) (f := E) hy.arg hc (by omega) (by omega) (by have := p2_mono (m := 64) (n := 300) (by decide); rw [show p2 64 = 18446744073709551616 from by decide] at this; omega) HN.out (by omega) (by omega) (by omega) (by omega)).mono ?_
                rintro x' w5 ⟨rfl, kb⟩
                replace hc := hc.below kb
                replace K := below_trans K kb
                clear kb hy
                generalize sgn (sc mm ee (min ee E)) (sc N E (min ee E)) = c at *
                by_cases cc : c ≤ 0
                · have HNEW := hide (show ∀ B, B ≤ E → B ≤ (-1074) → um 4503599627370496 (-1074) B mid ≤ sc N E B from fun B h1 h2 => by rw [HUM.out]; exact sgn_le.1 (by rw [← HCM.out B h1 h2]; exact cc))
                  clear HCM HUM HLO
                  go_wp2
                  go_roundw
                  case rel => exact ⟨mid, hi, rfl, rfl, by omega, g1, h1, HNEW.out, HHI.out, hc, K⟩
                  case measure => simp [intOf]; omega
                · have HNEW := hide (show mid ≤ 9218868437227405312 → ∀ B, B ≤ E → B ≤ (-1074) → sc N E B < um 4503599627370496 (-1074) B mid from fun _ B h1 h2 => by
                    rw [HUM.out]
                    rcases Int.lt_or_le (sc N E B) (sc mm ee B) with g | g
                    · exact g
                    · have := sgn_le.2 g
                      rw [← HCM.out B h1 h2] at this
                      omega)
                  clear HCM HUM HHI
                  go_wp2
                  go_roundw
                  case rel => exact ⟨lo, mid, rfl, rfl, by omega, g0, by omega, HLO.out, HNEW.out, hc, K⟩
                  case measure => simp [intOf]; omega
              · obtain rfl : hi = lo + 1 := by omega
                go_wp2_with fail
                with_reducible refine (rInf_d _).mono ?_
                rintro x' w3 ⟨rfl, kb⟩
                replace hc := hc.below kb
                replace K := below_trans K kb
                clear kb
                by_cases top : lo = 9218868437227405312
                · have HF := FINAL 9218868437227405312 (near_end (by decide) (by decide) (by rw [← top]; exact HLO.out))
                  have top' : (lo == 9218868437227405312) = true := by simp [top]
                  have Htop := hide top
                  clear top
                  go_wp2
                  go_ret
                  exact ⟨⟨9218868437227405312, A1, E1, m1, ret_int (by rw [HQ.out, ← Htop.out]; omega), HF.out, HST.out⟩, K⟩
                have top' : (lo == 9218868437227405312) = false := by simp [top]
                go_wp2_with fail
                with_reducible refine (rNumber_d _ lo l0 (by omega)).mono ?_
                rintro x' w4 ⟨rfl, kb⟩
                replace hc := hc.below kb
                replace K := below_trans K kb
                clear kb
                go_wp2_with fail
                with_reducible refine (rNumber_d _ (lo + 1) (by omega) (by omega)).mono ?_
                rintro x' w5 ⟨rfl, kb⟩
                replace hc := hc.below kb
                replace K := below_trans K kb
                clear kb
                have HFOUND := hide (fun c r => near_found (F := 4503599627370496) (L := (-1074)) (I := 9218868437227405312) (N := N) (E := E) (lo := lo) (r := r) (c := c) (by decide) l0 (by omega) HLO.out (HHI.out (by omega)))
                have HMID := hide (fun m B => sgn_mid (F := 4503599627370496) (L := (-1074)) (N := N) (E := E) (s := lo) (m := m) (B := B) (by decide) l0)
                have HSUC := est_succ (F := 4503599627370496) (L := (-1074)) (s := lo) (by decide) l0
                obtain ⟨ee0, ee1⟩ : (-1074) ≤ est 4503599627370496 (-1074) lo ∧ est 4503599627370496 (-1074) lo ≤ 2100 := ⟨est_ge (by decide), by unfold est; split <;> omega⟩
                have nn0 : 0 ≤ mst 4503599627370496 lo ∧ mst 4503599627370496 lo < 9223372036854775808 := by
                  rcases Int.lt_or_eq_of_le l0 with g | g
                  · have := mst_range (F := 4503599627370496) (s := lo) (S := 9223372036854775808) (by decide) g (by decide) (by omega); omega
                  · rw [← g]; decide
                obtain ⟨nn0, nn1⟩ := nn0
                obtain ⟨kk0, kk1⟩ := mst_range (F := 4503599627370496) (s := lo + 1) (S := 9223372036854775808) (by decide) (by omega) (by decide) (by omega)
                have nn2 := mst_top (F := 4503599627370496) (s := lo) (by decide) l0
                have kk2 := mst_top (F := 4503599627370496) (s := lo + 1) (by decide) (by omega)
                clear HLO HHI top
                generalize mst 4503599627370496 lo = n at *
                generalize mst 4503599627370496 (lo + 1) = kq at *
                generalize est 4503599627370496 (-1074) lo = f at *
                generalize est 4503599627370496 (-1074) (lo + 1) = g at *
                go_upto_if 134 with fail
                go_cut [25] from 27 (fun s25 w6 => ∃ m, s25 = .int .u64 m ∧ 0 ≤ m ∧ m < 18446744073709551616 ∧ ((g = f ∧ m = n + kq) ∨ (g = f + 1 ∧ m = n + 2 * kq)) ∧ w5 = w6)
                case first =>
                  rcases HSUC with e9 | e9
                  · have ng : ¬ f < g := by omega
                    have H9 := hide e9
                    clear e9
                    go_wp2
                    go_meet
                    case rel => exact ⟨n + kq, rfl, by omega, by omega, Or.inl ⟨H9.out, rfl⟩, rfl⟩
                  · have ng : f < g := by omega
                    have H9 := hide e9
                    clear e9
                    go_wp2
                    go_meet
                    case rel => exact ⟨n + 2 * kq, rfl, by omega, by omega, Or.inr ⟨H9.out, rfl⟩, rfl⟩
                case rest =>
                  obtain ⟨m, rfl, mq0, mq1, hm, rfl⟩ := hcut
                  have HMM := hide hm
                  clear hm HSUC
                  go_wp2_with fail
                  with_reducible refine (rfrom_any m mq0 mq1).mono ?_
                  rintro x' w7 ⟨y1, rfl, hy, kb⟩
                  replace hc := hc.below kb
                  replace K := below_trans K kb
                  clear kb
                  go_wp2_with fail
                  with_reducible refine (rcmp2_any (e := E) (f := f - 1) hc hy.arg (by omega) (by omega) HN.out (by have := p2_mono (m := 64) (n := 300) (by decide); rw [show p2 64 = 18446744073709551616 from by decide] at this; omega) (by omega) (by omega) (by omega) (by omega)).mono ?_
                  rintro x' w8 ⟨rfl, kb⟩
                  replace K := below_trans K kb
                  clear kb hy hc
                  have HC := hide (fun B h1 h2 => HMID.out m B h1 h2 HMM.out)
                  generalize sgn (sc N E (min E (f - 1))) (sc m (f - 1) (min E (f - 1))) = c at *
                  have HF := fun r hr => FINAL r (HFOUND.out c r HC.out hr)
                  clear HC HMID HFOUND HMM FINAL
                  by_cases up : 0 < c
                  · have H1 := HF (lo + 1) (Or.inl ⟨Or.inl up, rfl⟩)
                    clear HF
                    go_wp2
                    go_ret
                    exact ⟨⟨lo + 1, A1, E1, m1, ret_int (by rw [HQ.out]; omega), H1.out, HST.out⟩, K⟩
                  by_cases z : c = 0
                  · have z' : (c == 0) = true := by simp [z]
                    by_cases od : lo % 2 = 1
                    · have od' : (lo % 2 == 1) = true := by simp [od]
                      have H1 := HF (lo + 1) (Or.inl ⟨Or.inr ⟨z, od⟩, rfl⟩)
                      clear HF z od
                      go_wp2
                      go_ret
                      exact ⟨⟨lo + 1, A1, E1, m1, ret_int (by rw [HQ.out]; omega), H1.out, HST.out⟩, K⟩
                    · have od' : (lo % 2 == 1) = false := by simp [od]
                      have H1 := HF lo (Or.inr ⟨by omega, rfl⟩)
                      clear HF z od
                      go_wp2
                      go_ret
                      exact ⟨⟨lo, A1, E1, m1, ret_int (by rw [HQ.out]; omega), H1.out, HST.out⟩, K⟩
                  · have z' : (c == 0) = false := by simp [z]
                    have H1 := HF lo (Or.inr ⟨by omega, rfl⟩)
                    clear HF z
                    go_wp2
                    go_ret
                    exact ⟨⟨lo, A1, E1, m1, ret_int (by rw [HQ.out]; omega), H1.out, HST.out⟩, K⟩
    · have HN := NEAR0 z mf
      have z' : ((size : Int) == 0) = true := by simp [z]
      subst mf
      clear NEAR0 NEARI z
      go_wp2
      go_ret
      exact ⟨⟨0, A, e, false, ret_int (by rw [HQ.out]; omega), HN.out, Or.inl ⟨rfl, rfl, rfl⟩⟩, K⟩

end Go.Proofs.YtmmkdihhcmcjjaaDoor
