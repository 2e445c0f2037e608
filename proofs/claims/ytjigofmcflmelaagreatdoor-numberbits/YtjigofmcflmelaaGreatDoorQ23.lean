/- IRefR, IRefRS, IRefRD, IRefT, IRefF -/
import Derived.Test.YtjigofmcflmelaaGreatDoorQ03
import Derived.Test.YtjigofmcflmelaaGreatDoorQ21
import Derived.Test.YtjigofmcflmelaaGreatDoorQ22
import Derived.Test.YtjigofmcflmelaaGreatDoorQ09
namespace Go.Proofs.YtjigofmcflmelaaGreatDoor
open Go.RowKit
set_option linter.unusedVariables false

def RoundIs (S F L I : Int) (neg : Bool) (A : Int) (more : Bool) (e : Int) (x : Ending) : Prop :=
  ∃ r A' e' mb', x = .returned (.int .u64 (r + b2i neg * S)) ∧ Near F L I (2 * A' + b2i' mb') (e' - 1) r ∧ Stick A more e A' mb' e'
theorem len_small {A : Int} {k m : Nat} (h : IsLen A k) (hA : A < p2 m) : k ≤ m := by
  rcases Nat.lt_or_ge m k with c | c
  · have h1 := h.2 (by omega)
    have h2 := p2_mono (m := m) (n := k - 1) (by omega)
    omega
  · exact c
theorem rshl_val {w : World} {va : Value} {A n : Int} {ka : Nat} (ha : Arg w va A ka) (hka : ka ≤ 3000000) (hA : A < p2 300) (h0 : 0 ≤ n) (hN : n ≤ 10000) :
    Calls Tryz.prog 136 #[va, .int .i64 n] w fun e w' => ∃ v, e = .returned (.tuple #[v, .bool true]) ∧ Num w.heap.size w' v (A * p2 n.toNat) (ka + 2000) ∧ Below w.heap.size w w' := by
  obtain ⟨N, rfl⟩ := Int.eq_ofNat_of_zero_le h0
  rw [Int.toNat_natCast]
  rcases Int.lt_or_eq_of_le ha.nonneg with c | c
  · obtain ⟨k, hk, hk2⟩ := len_of ha
    have hk3 := len_small hk hA
    refine (rshl_ok (W := N / 8) (s := N % 8) ha (by omega) c hk hk2 (by omega) (by omega) (by omega)).mono ?_
    rintro x w1 ⟨vs, rfl, hv, K⟩
    exact ⟨vs, rfl, hv.mono (by omega), K⟩
  · subst c
    refine (rshl_zero ha (by omega) (n := (N : Int)) (by omega)).mono ?_
    rintro e w' ⟨rfl, K⟩
    refine ⟨.slice none 0 0, rfl, ?_, K⟩
    rw [Int.zero_mul]
    exact ⟨[], ⟨none, rfl, by simp [maxLen], fun h => by simp at h⟩, Nt.canon_nil, by simp [Nt.val, Nt.vt], by simp⟩
set_option maxRecDepth 20000 in
set_option maxHeartbeats 2000000 in
theorem rcmp2_any {w : World} {va vb : Value} {A C e f : Int} {ka kb : Nat} (ha : Arg w va A ka) (hb : Arg w vb C kb) (hka : ka ≤ 3000000) (hkb : kb ≤ 3000000) (hA : A < p2 300) (hC : C < p2 300) (e0 : -4000 ≤ e) (e1 : e ≤ 4000) (f0 : -4000 ≤ f) (f1 : f ≤ 4000) :
    Calls Tryz.prog 184 #[va, .int .i64 e, vb, .int .i64 f] w fun x w' => x = .returned (.int .i64 (sgn (sc A e (min e f)) (sc C f (min e f)))) ∧ Below w.heap.size w w' := by
  have HA := hide hA
  have HC := hide hC
  clear hA hC
  rcases Int.lt_trichotomy e f with c | c | c
  · have c1 : ¬ f < e := by omega
    have d0 : 0 ≤ f - e := by omega
    have hs : sgn (sc A e (min e f)) (sc C f (min e f)) = sgn A (C * p2 (f - e).toNat) := by
      unfold sc
      rw [show min e f = e by omega, Int.sub_self, show p2 (0 : Int).toNat = 1 from rfl, Int.mul_one]
    have HS := hide hs
    clear hs
    go_enter Tryz.func184, Tryz.ntmps184
    go_wp2_with fail
    with_reducible refine (rshl_val hb hkb HC.out d0 (by omega)).mono ?_
    rintro x w1 ⟨v1, rfl, h1, K⟩
    replace ha := ha.below K
    go_wp2_with fail
    with_reducible refine (rcmp_any ha h1.arg (by omega) (by omega)).mono ?_
    rintro x w2 ⟨rfl, kb⟩
    generalize hs : sgn A (C * p2 (f - e).toNat) = s at *
    clear hs
    go_wp2
    go_ret
    exact ⟨by rw [HS.out]; rfl, below_trans K kb⟩
  · subst c
    have c1 : ¬ e < e := by omega
    have hs : sgn (sc A e (min e e)) (sc C e (min e e)) = sgn A C := by
      unfold sc
      rw [show min e e = e by omega, Int.sub_self, show p2 (0 : Int).toNat = 1 from rfl, Int.mul_one, Int.mul_one]
    have HS := hide hs
    clear hs
    go_enter Tryz.func184, Tryz.ntmps184
    go_wp2_with fail
    with_reducible refine (rcmp_any ha hb (by omega) (by omega)).mono ?_
    rintro x w2 ⟨rfl, kb⟩
    generalize hs : sgn A C = s at *
    clear hs
    go_wp2
    go_ret
    exact ⟨by rw [HS.out]; rfl, kb⟩
  · have c1 : ¬ e < f := by omega
    have d0 : 0 ≤ e - f := by omega
    have hs : sgn (sc A e (min e f)) (sc C f (min e f)) = sgn (A * p2 (e - f).toNat) C := by
      unfold sc
      rw [show min e f = f by omega, Int.sub_self, show p2 (0 : Int).toNat = 1 from rfl, Int.mul_one]
    have HS := hide hs
    clear hs
    go_enter Tryz.func184, Tryz.ntmps184
    go_wp2_with fail
    with_reducible refine (rshl_val ha hka HA.out d0 (by omega)).mono ?_
    rintro x w1 ⟨v1, rfl, h1, K⟩
    replace hb := hb.below K
    go_wp2_with fail
    with_reducible refine (rcmp_any h1.arg hb (by omega) (by omega)).mono ?_
    rintro x w2 ⟨rfl, kb⟩
    generalize hs : sgn (A * p2 (e - f).toNat) C = s at *
    clear hs
    go_wp2
    go_ret
    exact ⟨by rw [HS.out]; rfl, below_trans K kb⟩
theorem len_cut {A : Int} {size d : Nat} (h : IsLen A size) (hs : 200 < size) (hd : d = size - 200) (A0 : 0 ≤ A) : IsLen (A / p2 d) 200 := by
  have hp := p2_pos d
  refine ⟨?_, fun _ => ?_⟩
  · rw [Int.ediv_lt_iff_lt_mul hp, ← p2_add, show 200 + d = size by omega]; exact h.1
  · rw [Int.le_ediv_iff_mul_le hp, ← p2_add, show 200 - 1 + d = size - 1 by omega]; exact h.2 (by omega)
theorem zmore {s : Nat} {m : Bool} (h : ¬ (s = 0 ∧ m = false)) : ¬ (s = 0 ∧ b2i m = 0) := by
  rintro ⟨a, b⟩
  cases m
  · exact h ⟨a, rfl⟩
  · exact absurd b (by decide)
theorem pw8 (n : Nat) : Nb.pw n = p2 (8 * n) := by
  induction n with
  | zero => rfl
  | succ n ih => rw [Nat.mul_succ, p2_add, ← ih, Nb.pw_succ, show p2 8 = 256 from by decide, Int.mul_comm]
theorem rshr_cut {w : World} {va : Value} {A n : Int} {ka size d : Nat} (ha : Arg w va A ka) (hka : ka ≤ 1099511627776) (h : IsLen A size) (hsz : 200 < size) (hd : d = size - 200) (hn : n = d) :
    Calls Tryz.prog 181 #[va, .int .i64 n] w fun e w' => ∃ v, e = .returned (.tuple #[v, .bool (decide (0 < A % p2 d)), .bool true]) ∧ Num w.heap.size w' v (A / p2 d) (ka + 1) ∧ Below w.heap.size w w' := by
  subst hn
  refine rshr_near (W := d / 8) (s := d % 8) ha hka (by omega) (by omega) ?_
  have h1 := h.2 (by omega)
  have h2 := p2_mono (m := 8 * (d / 8)) (n := size - 1) (by omega)
  rw [pw8]
  omega

set_option maxRecDepth 20000 in
set_option maxHeartbeats 8000000 in
theorem rRound_h {w : World} {va : Value} {A e : Int} {ka : Nat} {neg more : Bool} (ha : Arg w va A ka) (hka : ka ≤ 1048576) (e0 : -9223372036854775808 ≤ e) (e1 : e < 9223372036854775808) :
    Calls Tryz.prog 103 #[.int .i64 16, .bool neg, va, .int .i64 e, .bool more] w fun x w' => RoundIs 32768 1024 (-24) 31744 neg A more e x ∧ Below w.heap.size w w' := by
  have A0 := ha.nonneg
  obtain ⟨size, hlen, hsz⟩ := len_of ha
  obtain ⟨q, hq⟩ : ∃ q, b2i neg * 32768 = q := ⟨_, rfl⟩
  have q01 : 0 ≤ q ∧ q ≤ 32768 := by subst hq; cases neg <;> simp [b2i]
  obtain ⟨q0, q1⟩ := q01
  have HQ := hide hq
  have Hlen := hide hlen
  have sz1 : (size : Int) ≤ 33554432 := by omega
  clear hq hlen
  go_enter Tryz.func103, Tryz.ntmps103
  go_upto_if 27 with fail
  go_cut [11] from 27 (fun s wx => s = .int .u64 q ∧ w = wx)
  case first =>
    cases neg
    · go_wp2
      go_meet
      case rel => exact ⟨by rw [← HQ.out]; rfl, rfl⟩
    · go_wp2_with fail
      with_reducible refine (rSign_h _).mono ?_
      rintro x' w1 ⟨rfl, rfl⟩
      go_wp2
      go_meet
      case rel => exact ⟨by rw [← HQ.out]; rfl, rfl⟩
  case rest =>
    obtain ⟨rfl, rfl⟩ := hcut
    go_wp2_with fail
    with_reducible refine (rlen_any ha (by omega) Hlen.out).mono ?_
    rintro x' w1 ⟨rfl, K⟩
    replace ha := ha.below K
    have NEAR0 : ∀ (z : size = 0) (m : more = false), Hid (Near 1024 (-24) 31744 (2 * A + b2i' more) (e - 1) 0) := fun z m => hide (near_low (F := 1024) (L := (-24)) (I := 31744) (by decide) (by decide) A0 Hlen.out (b2i_or more) (Or.inl ⟨z, by rw [m]; rfl⟩))
    have NEARI : ∀ (z : ¬ (size = 0 ∧ more = false)) (h : 1200 < e), Hid (Near 1024 (-24) 31744 (2 * A + b2i' more) (e - 1) 31744) := fun z h => hide (near_high (F := 1024) (L := (-24)) (I := 31744) (lim := 16) (fr := 10) (by decide) (by decide) (by decide) A0 Hlen.out (b2i_or more) (zmore z) (by omega))
    have Hz : Hid (¬ (size = 0 ∧ more = false)) ∨ (size = 0 ∧ more = false) := by
      by_cases h : size = 0 ∧ more = false
      · exact Or.inr h
      · exact Or.inl (hide h)
    rcases Hz with Hz | ⟨z, mf⟩
    · go_upto_region 5 with fail
      go_cut [37] from 27 (fun s wx => s = .bool false ∧ w1 = wx)
      case first =>
        by_cases z : size = 0
        · have z' : ((size : Int) == 0) = true := by simp [z]
          have mt : more = true := by cases more; exact (Hz.out ⟨z, rfl⟩).elim; rfl
          subst mt
          clear z
          go_wp2
          go_meet
          case rel => exact ⟨rfl, rfl⟩
        · have z' : ((size : Int) == 0) = false := by simp [z]
          clear z
          go_wp2
          go_meet
          case rel => exact ⟨rfl, rfl⟩
      case rest =>
        obtain ⟨rfl, rfl⟩ := hcut
        by_cases hi : 1200 < e
        · have HN := NEARI Hz.out hi
          clear NEARI NEAR0
          go_wp2_with fail
          with_reducible refine (rInf_h _).mono ?_
          rintro x' w2 ⟨rfl, kb⟩
          go_wp2
          go_ret
          exact ⟨⟨31744, A, e, more, ret_int (by rw [HQ.out]; omega), HN.out, Or.inl ⟨rfl, rfl, rfl⟩⟩, below_trans K kb⟩
        clear NEARI NEAR0
        go_upto_if 46 with fail
        go_cut [2, 3, 4] from 27 (fun s2 s3 s4 w2 => ∃ vb A1 E1 m1 z1, vb = s2 ∧ s3 = .int .i64 E1 ∧ s4 = .bool m1 ∧ Arg w2 vb A1 1048577 ∧ IsLen A1 z1 ∧ z1 ≤ 200 ∧ ¬ (z1 = 0 ∧ m1 = false) ∧ -9223372036854775808 ≤ E1 ∧ E1 ≤ 33556000 ∧ Stick A more e A1 m1 E1 ∧ Below w.heap.size w w2)
        case first =>
          by_cases big : 200 < (size : Int)
          · obtain ⟨d, hd⟩ : ∃ d, d = size - 200 := ⟨_, rfl⟩
            have Hd := hide hd
            have hn : (size : Int) - 200 = (d : Int) := by omega
            have he : e + (size : Int) - 200 = e + (d : Int) := by omega
            clear hd
            go_wp2_with fail
            with_reducible refine (rshr_cut (n := (d : Int)) ha (by omega) Hlen.out (by omega) Hd.out rfl).mono ?_
            rintro x' w2 ⟨vq, rfl, hV, kb⟩
            have Hlen2 := hide (show IsLen (A / p2 d) 200 from len_cut Hlen.out (by omega) Hd.out A0)
            have H100 := hide (show p2 100 ≤ A / p2 d by have h1 := Hlen2.out.2 (by decide); have h2 := p2_mono (m := 100) (n := 200 - 1) (by decide); omega)
            have HV := hide (hV.mono (k' := 1048577) (by omega))
            clear hV
            generalize hT : A / p2 d = top at *
            generalize hR : A % p2 d = rest at *
            have HT := hide hT
            have HR := hide hR
            clear hT hR
            cases more
            · cases hb : decide (0 < rest)
              · go_wp2
                go_meet
                case rel => exact ⟨_, top, e + d, false, 200, rfl, by first | rfl | (rw [← he]), rfl, HV.out.arg, Hlen2.out, by omega, by omega, by omega, by omega, Or.inr ⟨d, HT.out.symm, rfl, H100.out, by rw [HR.out, hb]; rfl⟩, below_trans K kb⟩
              · go_wp2
                go_meet
                case rel => exact ⟨_, top, e + d, true, 200, rfl, by first | rfl | (rw [← he]), rfl, HV.out.arg, Hlen2.out, by omega, by omega, by omega, by omega, Or.inr ⟨d, HT.out.symm, rfl, H100.out, by rw [HR.out, hb]; rfl⟩, below_trans K kb⟩
            · go_wp2
              go_meet
              case rel => exact ⟨_, top, e + d, true, 200, rfl, by first | rfl | (rw [← he]), rfl, HV.out.arg, Hlen2.out, by omega, by omega, by omega, by omega, Or.inr ⟨d, HT.out.symm, rfl, H100.out, by rfl⟩, below_trans K kb⟩
          · go_wp2
            go_meet
            case rel =>
              obtain ⟨zs, p1, p2', p3, p4⟩ := ha
              exact ⟨_, A, e, more, size, rfl, rfl, rfl, ⟨zs, p1, p2', p3, by omega⟩, Hlen.out, by omega, Hz.out, by omega, by omega, Or.inl ⟨rfl, rfl, rfl⟩, K⟩
        case rest =>
          clear ha K
          obtain ⟨vb, A1, E1, m1, z1, rfl, rfl, rfl, hb, hlen1, hz1, hzm, b0, b1, hst, K⟩ := hcut
          have A10 := hb.nonneg
          have HST := hide hst
          have Hl1 := hide hlen1
          have Hzm := hide hzm
          have hA1 : A1 < p2 200 := by have h1 := hlen1.1; have h2 := p2_mono (m := z1) (n := 200) hz1; omega
          have HA1 := hide hA1
          clear hst hlen1 hzm hA1
          by_cases lo : E1 < -2000
          · have HN := hide (show Near 1024 (-24) 31744 (2 * A1 + b2i' m1) (E1 - 1) 0 from near_low (F := 1024) (L := (-24)) (I := 31744) (by decide) (by decide) A10 Hl1.out (b2i_or m1) (Or.inr (by omega)))
            go_wp2
            go_ret
            exact ⟨⟨0, A1, E1, m1, ret_int (by rw [HQ.out]; omega), HN.out, HST.out⟩, K⟩
          by_cases hi2 : 1200 < E1
          · have HN := hide (show Near 1024 (-24) 31744 (2 * A1 + b2i' m1) (E1 - 1) 31744 from near_high (F := 1024) (L := (-24)) (I := 31744) (lim := 16) (fr := 10) (by decide) (by decide) (by decide) A10 Hl1.out (b2i_or m1) (zmore Hzm.out) (by omega))
            go_wp2_with fail
            with_reducible refine (rInf_h _).mono ?_
            rintro x' w2 ⟨rfl, kb⟩
            go_wp2
            go_ret
            exact ⟨⟨31744, A1, E1, m1, ret_int (by rw [HQ.out]; omega), HN.out, HST.out⟩, below_trans K kb⟩
          go_upto_if 73 with fail
          go_cut [2, 3] from 27 (fun s2 s3 w2 => ∃ vc N E, vc = s2 ∧ s3 = .int .i64 E ∧ Arg w2 vc N 2100000 ∧ N < p2 300 ∧ -2001 ≤ E ∧ E ≤ 1200 ∧ E1 - 1 ≤ E ∧ (∀ B, B ≤ E1 - 1 → sc N E B = sc (2 * A1 + b2i' m1) (E1 - 1) B) ∧ Below w.heap.size w w2)
          case first =>
            cases m1
            · go_wp2
              go_meet
              case rel =>
                obtain ⟨zs, p1, p2', p3, p4⟩ := hb
                exact ⟨_, A1, E1, rfl, rfl, ⟨zs, p1, p2', p3, by omega⟩, by have h1 := HA1.out; have h2 := p2_mono (m := 200) (n := 300) (by decide); omega, by omega, by omega, by omega, fun B hB => by rw [sc_twice hB]; congr 1; simp only [b2i']; simp, K⟩
            · go_wp2_with fail
              with_reducible refine (radd_any hb hb (by omega) (by omega)).mono ?_
              rintro x' w2 ⟨y1, rfl, h1, kb⟩
              replace K := below_trans K kb
              clear kb
              go_wp2_with fail
              with_reducible refine (rfrom_any 1 (by decide) (by decide)).mono ?_
              rintro x' w3 ⟨y2, rfl, h2, kb⟩
              replace h1 := h1.below kb
              replace K := below_trans K kb
              clear kb
              go_wp2_with fail
              with_reducible refine (radd_any h1.arg h2.arg (by omega) (by omega)).mono ?_
              rintro x' w4 ⟨y3, rfl, h3, kb⟩
              replace K := below_trans K kb
              have H3 := hide (h3.mono (k' := 2100000) (by omega))
              clear kb h1 h2 h3
              go_wp2
              go_meet
              case rel => exact ⟨_, A1 + A1 + 1, E1 - 1, rfl, rfl, H3.out.arg, by have h1 := HA1.out; have h2 := p2_mono (m := 202) (n := 300) (by decide); rw [show p2 202 = 4 * p2 200 from by decide] at h2; omega, by omega, by omega, by omega, fun B hB => by congr 1; rw [show b2i' true = 1 from rfl]; omega, K⟩
          case rest =>
            clear hb K
            obtain ⟨vc, N, E, rfl, rfl, hc, hN, c0, c1, hE1, hsc, K⟩ := hcut
            have FINAL : ∀ r, Near 1024 (-24) 31744 N E r → Hid (Near 1024 (-24) 31744 (2 * A1 + b2i' m1) (E1 - 1) r) := fun r h => hide (near_scaled hE1 hsc h)
            have HN := hide hN
            clear hsc hN
            go_wp2_with fail
            with_reducible refine (rInf_h _).mono ?_
            rintro x' w2 ⟨rfl, kb⟩
            replace hc := hc.below kb
            replace K := below_trans K kb
            clear kb
            go_wp2
            go_loopw [16, 17] (fun s16 s17 wr => ∃ lo hi : Int, s16 = .int .u64 lo ∧ s17 = .int .u64 hi ∧ 0 ≤ lo ∧ lo < hi ∧ hi ≤ 31744 + 1 ∧ (∀ B, B ≤ E → B ≤ (-24) → um 1024 (-24) B lo ≤ sc N E B) ∧ (hi ≤ 31744 → ∀ B, B ≤ E → B ≤ (-24) → sc N E B < um 1024 (-24) B hi) ∧ Arg wr vc N 2100000 ∧ Below w.heap.size w wr) (fun s16 s17 _ => (intOf s17 - intOf s16).toNat)
            case atStart =>
              refine ⟨0, 31744 + 1, rfl, rfl, by decide, by decide, by decide, fun B h1 h2 => ?_, fun h => by omega, hc, K⟩
              unfold um sc mst
              rw [if_pos (by decide), Int.zero_mul]
              exact Int.mul_nonneg hc.nonneg (Int.le_of_lt (p2_pos _))
            case round =>
              clear hc K
              obtain ⟨lo, hi, rfl, rfl, l0, lh, h1, hlo, hhi, hc, K⟩ := hrel
              have HLO := hide hlo
              have HHI := hide hhi
              clear hlo hhi
              by_cases more2 : 1 < hi - lo
              · obtain ⟨mid, hmid⟩ : ∃ m, lo + (hi - lo) / 2 = m := ⟨_, rfl⟩
                have g0 : lo < mid := by omega
                have g1 : mid < hi := by omega
                obtain ⟨mm0, mm1⟩ : 0 < mst 1024 mid ∧ mst 1024 mid < 32768 := mst_range (F := 1024) (s := mid) (S := 32768) (by decide) (by omega) (by decide) (by omega)
                obtain ⟨ee0, ee1⟩ : (-24) ≤ est 1024 (-24) mid ∧ est 1024 (-24) mid ≤ 2100 := ⟨est_ge (by decide), by unfold est; split <;> omega⟩
                go_wp2_with fail
                with_reducible refine (rNumber_h _ mid (by omega) (by omega)).mono ?_
                rintro x' w3 ⟨rfl, kb⟩
                replace hc := hc.below kb
                replace K := below_trans K kb
                clear kb
                have HCM := hide (fun B (h1 : B ≤ E) (h2 : B ≤ (-24)) => sgn_at (N := N) (E := E) (n := mst 1024 mid) (f := est 1024 (-24) mid) (B := B) h1 (by omega))
                have HUM := hide (show ∀ B, um 1024 (-24) B mid = sc (mst 1024 mid) (est 1024 (-24) mid) B from fun _ => rfl)
                generalize mst 1024 mid = mm at *
                generalize est 1024 (-24) mid = ee at *
                go_wp2_with fail
                with_reducible refine (rfrom_any mm (by omega) (by omega)).mono ?_
                rintro x' w4 ⟨y1, rfl, hy, kb⟩
                replace hc := hc.below kb
                replace K := below_trans K kb
                clear kb
                go_wp2_with fail
                with_reducible refine (rcmp2_any (e := ee) (f := E) hy.arg hc (by omega) (by omega) (by have := p2_mono (m := 64) (n := 300) (by decide); rw [show p2 64 = 18446744073709551616 from by decide] at this; omega) HN.out (by omega) (by omega) (by omega) (by omega)).mono ?_
                rintro x' w5 ⟨rfl, kb⟩
                replace hc := hc.below kb
                replace K := below_trans K kb
                clear kb hy
                generalize sgn (sc mm ee (min ee E)) (sc N E (min ee E)) = c at *
                by_cases cc : c ≤ 0
                · have HNEW := hide (show ∀ B, B ≤ E → B ≤ (-24) → um 1024 (-24) B mid ≤ sc N E B from fun B h1 h2 => by rw [HUM.out]; exact sgn_le.1 (by rw [← HCM.out B h1 h2]; exact cc))
                  clear HCM HUM HLO
                  go_wp2
                  go_roundw
                  case rel => exact ⟨mid, hi, rfl, rfl, by omega, g1, h1, HNEW.out, HHI.out, hc, K⟩
                  case measure => simp [intOf]; omega
                · have HNEW := hide (show mid ≤ 31744 → ∀ B, B ≤ E → B ≤ (-24) → sc N E B < um 1024 (-24) B mid from fun _ B h1 h2 => by
                    rw [HUM.out]
                    rcases Int.lt_or_le (sc N E B) (sc mm ee B) with g | g
                    · exact g
                    · have := sgn_le.2 g
                      rw [← HCM.out B h1 h2] at this
                      omega)
                  clear HCM HUM HHI
                  go_wp2
                  go_roundw
                  case rel => exact ⟨lo, mid, rfl, rfl, by omega, g0, by omega, HLO.out, HNEW.out, hc, K⟩
                  case measure => simp [intOf]; omega
              · obtain rfl : hi = lo + 1 := by omega
                go_wp2_with fail
                with_reducible refine (rInf_h _).mono ?_
                rintro x' w3 ⟨rfl, kb⟩
                replace hc := hc.below kb
                replace K := below_trans K kb
                clear kb
                by_cases top : lo = 31744
                · have HF := FINAL 31744 (near_end (by decide) (by decide) (by rw [← top]; exact HLO.out))
                  have top' : (lo == 31744) = true := by simp [top]
                  have Htop := hide top
                  clear top
                  go_wp2
                  go_ret
                  exact ⟨⟨31744, A1, E1, m1, ret_int (by rw [HQ.out, ← Htop.out]; omega), HF.out, HST.out⟩, K⟩
                have top' : (lo == 31744) = false := by simp [top]
                go_wp2_with fail
                with_reducible refine (rNumber_h _ lo l0 (by omega)).mono ?_
                rintro x' w4 ⟨rfl, kb⟩
                replace hc := hc.below kb
                replace K := below_trans K kb
                clear kb
                go_wp2_with fail
                with_reducible refine (rNumber_h _ (lo + 1) (by omega) (by omega)).mono ?_
                rintro x' w5 ⟨rfl, kb⟩
                replace hc := hc.below kb
                replace K := below_trans K kb
                clear kb
                have HFOUND := hide (fun c r => near_found (F := 1024) (L := (-24)) (I := 31744) (N := N) (E := E) (lo := lo) (r := r) (c := c) (by decide) l0 (by omega) HLO.out (HHI.out (by omega)))
                have HMID := hide (fun m B => sgn_mid (F := 1024) (L := (-24)) (N := N) (E := E) (s := lo) (m := m) (B := B) (by decide) l0)
                have HSUC := est_succ (F := 1024) (L := (-24)) (s := lo) (by decide) l0
                obtain ⟨ee0, ee1⟩ : (-24) ≤ est 1024 (-24) lo ∧ est 1024 (-24) lo ≤ 2100 := ⟨est_ge (by decide), by unfold est; split <;> omega⟩
                have nn0 : 0 ≤ mst 1024 lo ∧ mst 1024 lo < 32768 := by
                  rcases Int.lt_or_eq_of_le l0 with g | g
                  · have := mst_range (F := 1024) (s := lo) (S := 32768) (by decide) g (by decide) (by omega); omega
                  · rw [← g]; decide
                obtain ⟨nn0, nn1⟩ := nn0
                obtain ⟨kk0, kk1⟩ := mst_range (F := 1024) (s := lo + 1) (S := 32768) (by decide) (by omega) (by decide) (by omega)
                have nn2 := mst_top (F := 1024) (s := lo) (by decide) l0
                have kk2 := mst_top (F := 1024) (s := lo + 1) (by decide) (by omega)
                clear HLO HHI top
                generalize mst 1024 lo = n at *
                generalize mst 1024 (lo + 1) = kq at *
                generalize est 1024 (-24) lo = f at *
                generalize est 1024 (-24) (lo + 1) = g at *
                go_upto_if 134 with fail
                go_cut [25] from 27 (fun s25 w6 => ∃ m, s25 = .int .u64 m ∧ 0 ≤ m ∧ m < 18446744073709551616 ∧ ((g = f ∧ m = n + kq) ∨ (g = f + 1 ∧ m = n + 2 * kq)) ∧ w5 = w6)
                case first =>
                  rcases HSUC with e9 | e9
                  · have ng : ¬ f < g := by omega
                    have H9 := hide e9
                    clear e9
                    go_wp2
                    go_meet
                    case rel => exact ⟨n + kq, rfl, by omega, by omega, Or.inl ⟨H9.out, rfl⟩, rfl⟩
                  · have ng : f < g := by omega
                    have H9 := hide e9
                    clear e9
                    go_wp2
                    go_meet
                    case rel => exact ⟨n + 2 * kq, rfl, by omega, by omega, Or.inr ⟨H9.out, rfl⟩, rfl⟩
                case rest =>
                  obtain ⟨m, rfl, mq0, mq1, hm, rfl⟩ := hcut
                  have HMM := hide hm
                  clear hm HSUC
                  go_wp2_with fail
                  with_reducible refine (rfrom_any m mq0 mq1).mono ?_
                  rintro x' w7 ⟨y1, rfl, hy, kb⟩
                  replace hc := hc.below kb
                  replace K := below_trans K kb
                  clear kb
                  go_wp2_with fail
                  with_reducible refine (rcmp2_any (e := E) (f := f - 1) hc hy.arg (by omega) (by omega) HN.out (by have := p2_mono (m := 64) (n := 300) (by decide); rw [show p2 64 = 18446744073709551616 from by decide] at this; omega) (by omega) (by omega) (by omega) (by omega)).mono ?_
                  rintro x' w8 ⟨rfl, kb⟩
                  replace K := below_trans K kb
                  clear kb hy hc
                  have HC := hide (fun B h1 h2 => HMID.out m B h1 h2 HMM.out)
                  generalize sgn (sc N E (min E (f - 1))) (sc m (f - 1) (min E (f - 1))) = c at *
                  have HF := fun r hr => FINAL r (HFOUND.out c r HC.out hr)
                  clear HC HMID HFOUND HMM FINAL
                  by_cases up : 0 < c
                  · have H1 := HF (lo + 1) (Or.inl ⟨Or.inl up, rfl⟩)
                    clear HF
                    go_wp2
                    go_ret
                    exact ⟨⟨lo + 1, A1, E1, m1, ret_int (by rw [HQ.out]; omega), H1.out, HST.out⟩, K⟩
                  by_cases z : c = 0
                  · have z' : (c == 0) = true := by simp [z]
                    by_cases od : lo % 2 = 1
                    · have od' : (lo % 2 == 1) = true := by simp [od]
                      have H1 := HF (lo + 1) (Or.inl ⟨Or.inr ⟨z, od⟩, rfl⟩)
                      clear HF z od
                      go_wp2
                      go_ret
                      exact ⟨⟨lo + 1, A1, E1, m1, ret_int (by rw [HQ.out]; omega), H1.out, HST.out⟩, K⟩
                    · have od' : (lo % 2 == 1) = false := by simp [od]
                      have H1 := HF lo (Or.inr ⟨by omega, rfl⟩)
                      clear HF z od
                      go_wp2
                      go_ret
                      exact ⟨⟨lo, A1, E1, m1, ret_int (by rw [HQ.out]; omega), H1.out, HST.out⟩, K⟩
                  · have z' : (c == 0) = false := by simp [z]
                    have H1 := HF lo (Or.inr ⟨by omega, rfl⟩)
                    clear HF z
                    go_wp2
                    go_ret
                    exact ⟨⟨lo, A1, E1, m1, ret_int (by rw [HQ.out]; omega), H1.out, HST.out⟩, K⟩
    · have HN := NEAR0 z mf
      have z' : ((size : Int) == 0) = true := by simp [z]
      subst mf
      clear NEAR0 NEARI z
      go_wp2
      go_ret
      exact ⟨⟨0, A, e, false, ret_int (by rw [HQ.out]; omega), HN.out, Or.inl ⟨rfl, rfl, rfl⟩⟩, K⟩

end Go.Proofs.YtjigofmcflmelaaGreatDoor

namespace Go.Proofs.YtjigofmcflmelaaGreatDoor
open Go.RowKit
set_option linter.unusedVariables false

set_option maxRecDepth 20000 in
set_option maxHeartbeats 8000000 in
theorem rRound_s {w : World} {va : Value} {A e : Int} {ka : Nat} {neg more : Bool} (ha : Arg w va A ka) (hka : ka ≤ 1048576) (e0 : -9223372036854775808 ≤ e) (e1 : e < 9223372036854775808) :
    Calls Tryz.prog 103 #[.int .i64 32, .bool neg, va, .int .i64 e, .bool more] w fun x w' => RoundIs 2147483648 8388608 (-149) 2139095040 neg A more e x ∧ Below w.heap.size w w' := by
  have A0 := ha.nonneg
  obtain ⟨size, hlen, hsz⟩ := len_of ha
  obtain ⟨q, hq⟩ : ∃ q, b2i neg * 2147483648 = q := ⟨_, rfl⟩
  have q01 : 0 ≤ q ∧ q ≤ 2147483648 := by subst hq; cases neg <;> simp [b2i]
  obtain ⟨q0, q1⟩ := q01
  have HQ := hide hq
  have Hlen := hide hlen
  have sz1 : (size : Int) ≤ 33554432 := by omega
  clear hq hlen
  go_enter Tryz.func103, Tryz.ntmps103
  go_upto_if 27 with fail
  go_cut [11] from 27 (fun s wx => s = .int .u64 q ∧ w = wx)
  case first =>
    cases neg
    · go_wp2
      go_meet
      case rel => exact ⟨by rw [← HQ.out]; rfl, rfl⟩
    · go_wp2_with fail
      with_reducible refine (rSign_s _).mono ?_
      rintro x' w1 ⟨rfl, rfl⟩
      go_wp2
      go_meet
      case rel => exact ⟨by rw [← HQ.out]; rfl, rfl⟩
  case rest =>
    obtain ⟨rfl, rfl⟩ := hcut
    go_wp2_with fail
    with_reducible refine (rlen_any ha (by omega) Hlen.out).mono ?_
    rintro x' w1 ⟨rfl, K⟩
    replace ha := ha.below K
    have NEAR0 : ∀ (z : size = 0) (m : more = false), Hid (Near 8388608 (-149) 2139095040 (2 * A + b2i' more) (e - 1) 0) := fun z m => hide (near_low (F := 8388608) (L := (-149)) (I := 2139095040) (by decide) (by decide) A0 Hlen.out (b2i_or more) (Or.inl ⟨z, by rw [m]; rfl⟩))
    have NEARI : ∀ (z : ¬ (size = 0 ∧ more = false)) (h : 1200 < e), Hid (Near 8388608 (-149) 2139095040 (2 * A + b2i' more) (e - 1) 2139095040) := fun z h => hide (near_high (F := 8388608) (L := (-149)) (I := 2139095040) (lim := 128) (fr := 23) (by decide) (by decide) (by decide) A0 Hlen.out (b2i_or more) (zmore z) (by omega))
    have Hz : Hid (¬ (size = 0 ∧ more = false)) ∨ (size = 0 ∧ more = false) := by
      by_cases h : size = 0 ∧ more = false
      · exact Or.inr h
      · exact Or.inl (hide h)
    rcases Hz with Hz | ⟨z, mf⟩
    · go_upto_region 5 with fail
      go_cut [37] from 27 (fun s wx => s = .bool false ∧ w1 = wx)
      case first =>
        by_cases z : size = 0
        · have z' : ((size : Int) == 0) = true := by simp [z]
          have mt : more = true := by cases more; exact (Hz.out ⟨z, rfl⟩).elim; rfl
          subst mt
          clear z
          go_wp2
          go_meet
          case rel => exact ⟨rfl, rfl⟩
        · have z' : ((size : Int) == 0) = false := by simp [z]
          clear z
          go_wp2
          go_meet
          case rel => exact ⟨rfl, rfl⟩
      case rest =>
        obtain ⟨rfl, rfl⟩ := hcut
        by_cases hi : 1200 < e
        · have HN := NEARI Hz.out hi
          clear NEARI NEAR0
          go_wp2_with fail
          with_reducible refine (rInf_s _).mono ?_
          rintro x' w2 ⟨rfl, kb⟩
          go_wp2
          go_ret
          exact ⟨⟨2139095040, A, e, more, ret_int (by rw [HQ.out]; omega), HN.out, Or.inl ⟨rfl, rfl, rfl⟩⟩, below_trans K kb⟩
        clear NEARI NEAR0
        go_upto_if 46 with fail
        go_cut [2, 3, 4] from 27 (fun s2 s3 s4 w2 => ∃ vb A1 E1 m1 z1, vb = s2 ∧ s3 = .int .i64 E1 ∧ s4 = .bool m1 ∧ Arg w2 vb A1 1048577 ∧ IsLen A1 z1 ∧ z1 ≤ 200 ∧ ¬ (z1 = 0 ∧ m1 = false) ∧ -9223372036854775808 ≤ E1 ∧ E1 ≤ 33556000 ∧ Stick A more e A1 m1 E1 ∧ Below w.heap.size w w2)
        case first =>
          by_cases big : 200 < (size : Int)
          · obtain ⟨d, hd⟩ : ∃ d, d = size - 200 := ⟨_, rfl⟩
            have Hd := hide hd
            have hn : (size : Int) - 200 = (d : Int) := by omega
            have he : e + (size : Int) - 200 = e + (d : Int) := by omega
            clear hd
            go_wp2_with fail
            with_reducible refine (rshr_cut (n := (d : Int)) ha (by omega) Hlen.out (by omega) Hd.out rfl).mono ?_
            rintro x' w2 ⟨vq, rfl, hV, kb⟩
            have Hlen2 := hide (show IsLen (A / p2 d) 200 from len_cut Hlen.out (by omega) Hd.out A0)
            have H100 := hide (show p2 100 ≤ A / p2 d by have h1 := Hlen2.out.2 (by decide); have h2 := p2_mono (m := 100) (n := 200 - 1) (by decide); omega)
            have HV := hide (hV.mono (k' := 1048577) (by omega))
            clear hV
            generalize hT : A / p2 d = top at *
            generalize hR : A % p2 d = rest at *
            have HT := hide hT
            have HR := hide hR
            clear hT hR
            cases more
            · cases hb : decide (0 < rest)
              · go_wp2
                go_meet
                case rel => exact ⟨_, top, e + d, false, 200, rfl, by first | rfl | (rw [← he]), rfl, HV.out.arg, Hlen2.out, by omega, by omega, by omega, by omega, Or.inr ⟨d, HT.out.symm, rfl, H100.out, by rw [HR.out, hb]; rfl⟩, below_trans K kb⟩
              · go_wp2
                go_meet
                case rel => exact ⟨_, top, e + d, true, 200, rfl, by first | rfl | (rw [← he]), rfl, HV.out.arg, Hlen2.out, by omega, by omega, by omega, by omega, Or.inr ⟨d, HT.out.symm, rfl, H100.out, by rw [HR.out, hb]; rfl⟩, below_trans K kb⟩
            · go_wp2
              go_meet
              case rel => exact ⟨_, top, e + d, true, 200, rfl, by first | rfl | (rw [← he]), rfl, HV.out.arg, Hlen2.out, by omega, by omega, by omega, by omega, Or.inr ⟨d, HT.out.symm, rfl, H100.out, by rfl⟩, below_trans K kb⟩
          · go_wp2
            go_meet
            case rel =>
              obtain ⟨zs, p1, p2', p3, p4⟩ := ha
              exact ⟨_, A, e, more, size, rfl, rfl, rfl, ⟨zs, p1, p2', p3, by omega⟩, Hlen.out, by omega, Hz.out, by omega, by omega, Or.inl ⟨rfl, rfl, rfl⟩, K⟩
        case rest =>
          clear ha K
          obtain ⟨vb, A1, E1, m1, z1, rfl, rfl, rfl, hb, hlen1, hz1, hzm, b0, b1, hst, K⟩ := hcut
          have A10 := hb.nonneg
          have HST := hide hst
          have Hl1 := hide hlen1
          have Hzm := hide hzm
          have hA1 : A1 < p2 200 := by have h1 := hlen1.1; have h2 := p2_mono (m := z1) (n := 200) hz1; omega
          have HA1 := hide hA1
          clear hst hlen1 hzm hA1
          by_cases lo : E1 < -2000
          · have HN := hide (show Near 8388608 (-149) 2139095040 (2 * A1 + b2i' m1) (E1 - 1) 0 from near_low (F := 8388608) (L := (-149)) (I := 2139095040) (by decide) (by decide) A10 Hl1.out (b2i_or m1) (Or.inr (by omega)))
            go_wp2
            go_ret
            exact ⟨⟨0, A1, E1, m1, ret_int (by rw [HQ.out]; omega), HN.out, HST.out⟩, K⟩
          by_cases hi2 : 1200 < E1
          · have HN := hide (show Near 8388608 (-149) 2139095040 (2 * A1 + b2i' m1) (E1 - 1) 2139095040 from near_high (F := 8388608) (L := (-149)) (I := 2139095040) (lim := 128) (fr := 23) (by decide) (by decide) (by decide) A10 Hl1.out (b2i_or m1) (zmore Hzm.out) (by omega))
            go_wp2_with fail
            with_reducible refine (rInf_s _).mono ?_
            rintro x' w2 ⟨rfl, kb⟩
            go_wp2
            go_ret
            exact ⟨⟨2139095040, A1, E1, m1, ret_int (by rw [HQ.out]; omega), HN.out, HST.out⟩, below_trans K kb⟩
          go_upto_if 73 with fail
          go_cut [2, 3] from 27 (fun s2 s3 w2 => ∃ vc N E, vc = s2 ∧ s3 = .int .i64 E ∧ Arg w2 vc N 2100000 ∧ N < p2 300 ∧ -2001 ≤ E ∧ E ≤ 1200 ∧ E1 - 1 ≤ E ∧ (∀ B, B ≤ E1 - 1 → sc N E B = sc (2 * A1 + b2i' m1) (E1 - 1) B) ∧ Below w.heap.size w w2)
          case first =>
            cases m1
            · go_wp2
              go_meet
              case rel =>
                obtain ⟨zs, p1, p2', p3, p4⟩ := hb
                exact ⟨_, A1, E1, rfl, rfl, ⟨zs, p1, p2', p3, by omega⟩, by have h1 := HA1.out; have h2 := p2_mono (m := 200) (n := 300) (by decide); omega, by omega, by omega, by omega, fun B hB => by rw [sc_twice hB]; congr 1; simp only [b2i']; simp, K⟩
            · go_wp2_with fail
              with_reducible refine (radd_any hb hb (by omega) (by omega)).mono ?_
              rintro x' w2 ⟨y1, rfl, h1, kb⟩
              replace K := below_trans K kb
              clear kb
              go_wp2_with fail
              with_reducible refine (rfrom_any 1 (by decide) (by decide)).mono ?_
              rintro x' w3 ⟨y2, rfl, h2, kb⟩
              replace h1 := h1.below kb
              replace K := below_trans K kb
              clear kb
              go_wp2_with fail
              with_reducible refine (radd_any h1.arg h2.arg (by omega) (by omega)).mono ?_
              rintro x' w4 ⟨y3, rfl, h3, kb⟩
              replace K := below_trans K kb
              have H3 := hide (h3.mono (k' := 2100000) (by omega))
              clear kb h1 h2 h3
              go_wp2
              go_meet
              case rel => exact ⟨_, A1 + A1 + 1, E1 - 1, rfl, rfl, H3.out.arg, by have h1 := HA1.out; have h2 := p2_mono (m := 202) (n := 300) (by decide); rw [show p2 202 = 4 * p2 200 from by decide] at h2; omega, by omega, by omega, by omega, fun B hB => by congr 1; rw [show b2i' true = 1 from rfl]; omega, K⟩
          case rest =>
            clear hb K
            obtain ⟨vc, N, E, rfl, rfl, hc, hN, c0, c1, hE1, hsc, K⟩ := hcut
            have FINAL : ∀ r, Near 8388608 (-149) 2139095040 N E r → Hid (Near 8388608 (-149) 2139095040 (2 * A1 + b2i' m1) (E1 - 1) r) := fun r h => hide (near_scaled hE1 hsc h)
            have HN := hide hN
            clear hsc hN
            go_wp2_with fail
            with_reducible refine (rInf_s _).mono ?_
            rintro x' w2 ⟨rfl, kb⟩
            replace hc := hc.below kb
            replace K := below_trans K kb
            clear kb
            go_wp2
            go_loopw [16, 17] (fun s16 s17 wr => ∃ lo hi : Int, s16 = .int .u64 lo ∧ s17 = .int .u64 hi ∧ 0 ≤ lo ∧ lo < hi ∧ hi ≤ 2139095040 + 1 ∧ (∀ B, B ≤ E → B ≤ (-149) → um 8388608 (-149) B lo ≤ sc N E B) ∧ (hi ≤ 2139095040 → ∀ B, B ≤ E → B ≤ (-149) → sc N E B < um 8388608 (-149) B hi) ∧ Arg wr vc N 2100000 ∧ Below w.heap.size w wr) (fun s16 s17 _ => (intOf s17 - intOf s16).toNat)
            case atStart =>
              refine ⟨0, 2139095040 + 1, rfl, rfl, by decide, by decide, by decide, fun B h1 h2 => ?_, fun h => by omega, hc, K⟩
              unfold um sc mst
              rw [if_pos (by decide), Int.zero_mul]
              exact Int.mul_nonneg hc.nonneg (Int.le_of_lt (p2_pos _))
            case round =>
              clear hc K
              obtain ⟨lo, hi, rfl, rfl, l0, lh, h1, hlo, hhi, hc, K⟩ := hrel
              have HLO := hide hlo
              have HHI := hide hhi
              clear hlo hhi
              by_cases more2 : 1 < hi - lo
              · obtain ⟨mid, hmid⟩ : ∃ m, lo + (hi - lo) / 2 = m := ⟨_, rfl⟩
                have g0 : lo < mid := by omega
                have g1 : mid < hi := by omega
                obtain ⟨mm0, mm1⟩ : 0 < mst 8388608 mid ∧ mst 8388608 mid < 2147483648 := mst_range (F := 8388608) (s := mid) (S := 2147483648) (by decide) (by omega) (by decide) (by omega)
                obtain ⟨ee0, ee1⟩ : (-149) ≤ est 8388608 (-149) mid ∧ est 8388608 (-149) mid ≤ 2100 := ⟨est_ge (by decide), by unfold est; split <;> omega⟩
                go_wp2_with fail
                with_reducible refine (rNumber_s _ mid (by omega) (by omega)).mono ?_
                rintro x' w3 ⟨rfl, kb⟩
                replace hc := hc.below kb
                replace K := below_trans K kb
                clear kb
                have HCM := hide (fun B (h1 : B ≤ E) (h2 : B ≤ (-149)) => sgn_at (N := N) (E := E) (n := mst 8388608 mid) (f := est 8388608 (-149) mid) (B := B) h1 (by omega))
                have HUM := hide (show ∀ B, um 8388608 (-149) B mid = sc (mst 8388608 mid) (est 8388608 (-149) mid) B from fun _ => rfl)
                generalize mst 8388608 mid = mm at *
                generalize est 8388608 (-149) mid = ee at *
                go_wp2_with fail
                with_reducible refine (rfrom_any mm (by omega) (by omega)).mono ?_
                rintro x' w4 ⟨y1, rfl, hy, kb⟩
                replace hc := hc.below kb
                replace K := below_trans K kb
                clear kb
                go_wp2_with fail
                with_reducible refine (rcmp2_any (e := ee) (f := E) hy.arg hc (by omega) (by omega) (by have := p2_mono (m := 64) (n := 300) (by decide); rw [show p2 64 = 18446744073709551616 from by decide] at this; omega) HN.out (by omega) (by omega) (by omega) (by omega)).mono ?_
                rintro x' w5 ⟨rfl, kb⟩
                replace hc := hc.below kb
                replace K := below_trans K kb
                clear kb hy
                generalize sgn (sc mm ee (min ee E)) (sc N E (min ee E)) = c at *
                by_cases cc : c ≤ 0
                · have HNEW := hide (show ∀ B, B ≤ E → B ≤ (-149) → um 8388608 (-149) B mid ≤ sc N E B from fun B h1 h2 => by rw [HUM.out]; exact sgn_le.1 (by rw [← HCM.out B h1 h2]; exact cc))
                  clear HCM HUM HLO
                  go_wp2
                  go_roundw
                  case rel => exact ⟨mid, hi, rfl, rfl, by omega, g1, h1, HNEW.out, HHI.out, hc, K⟩
                  case measure => simp [intOf]; omega
                · have HNEW := hide (show mid ≤ 2139095040 → ∀ B, B ≤ E → B ≤ (-149) → sc N E B < um 8388608 (-149) B mid from fun _ B h1 h2 => by
                    rw [HUM.out]
                    rcases Int.lt_or_le (sc N E B) (sc mm ee B) with g | g
                    · exact g
                    · have := sgn_le.2 g
                      rw [← HCM.out B h1 h2] at this
                      omega)
                  clear HCM HUM HHI
                  go_wp2
                  go_roundw
                  case rel => exact ⟨lo, mid, rfl, rfl, by omega, g0, by omega, HLO.out, HNEW.out, hc, K⟩
                  case measure => simp [intOf]; omega
              · obtain rfl : hi = lo + 1 := by omega
                go_wp2_with fail
                with_reducible refine (rInf_s _).mono ?_
                rintro x' w3 ⟨rfl, kb⟩
                replace hc := hc.below kb
                replace K := below_trans K kb
                clear kb
                by_cases top : lo = 2139095040
                · have HF := FINAL 2139095040 (near_end (by decide) (by decide) (by rw [← top]; exact HLO.out))
                  have top' : (lo == 2139095040) = true := by simp [top]
                  have Htop := hide top
                  clear top
                  go_wp2
                  go_ret
                  exact ⟨⟨2139095040, A1, E1, m1, ret_int (by rw [HQ.out, ← Htop.out]; omega), HF.out, HST.out⟩, K⟩
                have top' : (lo == 2139095040) = false := by simp [top]
                go_wp2_with fail
                with_reducible refine (rNumber_s _ lo l0 (by omega)).mono ?_
                rintro x' w4 ⟨rfl, kb⟩
                replace hc := hc.below kb
                replace K := below_trans K kb
                clear kb
                go_wp2_with fail
                with_reducible refine (rNumber_s _ (lo + 1) (by omega) (by omega)).mono ?_
                rintro x' w5 ⟨rfl, kb⟩
                replace hc := hc.below kb
                replace K := below_trans K kb
                clear kb
                have HFOUND := hide (fun c r => near_found (F := 8388608) (L := (-149)) (I := 2139095040) (N := N) (E := E) (lo := lo) (r := r) (c := c) (by decide) l0 (by omega) HLO.out (HHI.out (by omega)))
                have HMID := hide (fun m B => sgn_mid (F := 8388608) (L := (-149)) (N := N) (E := E) (s := lo) (m := m) (B := B) (by decide) l0)
                have HSUC := est_succ (F := 8388608) (L := (-149)) (s := lo) (by decide) l0
                obtain ⟨ee0, ee1⟩ : (-149) ≤ est 8388608 (-149) lo ∧ est 8388608 (-149) lo ≤ 2100 := ⟨est_ge (by decide), by unfold est; split <;> omega⟩
                have nn0 : 0 ≤ mst 8388608 lo ∧ mst 8388608 lo < 2147483648 := by
                  rcases Int.lt_or_eq_of_le l0 with g | g
                  · have := mst_range (F := 8388608) (s := lo) (S := 2147483648) (by decide) g (by decide) (by omega); omega
                  · rw [← g]; decide
                obtain ⟨nn0, nn1⟩ := nn0
                obtain ⟨kk0, kk1⟩ := mst_range (F := 8388608) (s := lo + 1) (S := 2147483648) (by decide) (by omega) (by decide) (by omega)
                have nn2 := mst_top (F := 8388608) (s := lo) (by decide) l0
                have kk2 := mst_top (F := 8388608) (s := lo + 1) (by decide) (by omega)
                clear HLO HHI top
                generalize mst 8388608 lo = n at *
                generalize mst 8388608 (lo + 1) = kq at *
                generalize est 8388608 (-149) lo = f at *
                generalize est 8388608 (-149) (lo + 1) = g at *
                go_upto_if 134 with fail
                go_cut [25] from 27 (fun s25 w6 => ∃ m, s25 = .int .u64 m ∧ 0 ≤ m ∧ m < 18446744073709551616 ∧ ((g = f ∧ m = n + kq) ∨ (g = f + 1 ∧ m = n + 2 * kq)) ∧ w5 = w6)
                case first =>
                  rcases HSUC with e9 | e9
                  · have ng : ¬ f < g := by omega
                    have H9 := hide e9
                    clear e9
                    go_wp2
                    go_meet
                    case rel => exact ⟨n + kq, rfl, by omega, by omega, Or.inl ⟨H9.out, rfl⟩, rfl⟩
                  · have ng : f < g := by omega
                    have H9 := hide e9
                    clear e9
                    go_wp2
                    go_meet
                    case rel => exact ⟨n + 2 * kq, rfl, by omega, by omega, Or.inr ⟨H9.out, rfl⟩, rfl⟩
                case rest =>
                  obtain ⟨m, rfl, mq0, mq1, hm, rfl⟩ := hcut
                  have HMM := hide hm
                  clear hm HSUC
                  go_wp2_with fail
                  with_reducible refine (rfrom_any m mq0 mq1).mono ?_
                  rintro x' w7 ⟨y1, rfl, hy, kb⟩
                  replace hc := hc.below kb
                  replace K := below_trans K kb
                  clear kb
                  go_wp2_with fail
                  with_reducible refine (rcmp2_any (e := E) (f := f - 1) hc hy.arg (by omega) (by omega) HN.out (by have := p2_mono (m := 64) (n := 300) (by decide); rw [show p2 64 = 18446744073709551616 from by decide] at this; omega) (by omega) (by omega) (by omega) (by omega)).mono ?_
                  rintro x' w8 ⟨rfl, kb⟩
                  replace K := below_trans K kb
                  clear kb hy hc
                  have HC := hide (fun B h1 h2 => HMID.out m B h1 h2 HMM.out)
                  generalize sgn (sc N E (min E (f - 1))) (sc m (f - 1) (min E (f - 1))) = c at *
                  have HF := fun r hr => FINAL r (HFOUND.out c r HC.out hr)
                  clear HC HMID HFOUND HMM FINAL
                  by_cases up : 0 < c
                  · have H1 := HF (lo + 1) (Or.inl ⟨Or.inl up, rfl⟩)
                    clear HF
                    go_wp2
                    go_ret
                    exact ⟨⟨lo + 1, A1, E1, m1, ret_int (by rw [HQ.out]; omega), H1.out, HST.out⟩, K⟩
                  by_cases z : c = 0
                  · have z' : (c == 0) = true := by simp [z]
                    by_cases od : lo % 2 = 1
                    · have od' : (lo % 2 == 1) = true := by simp [od]
                      have H1 := HF (lo + 1) (Or.inl ⟨Or.inr ⟨z, od⟩, rfl⟩)
                      clear HF z od
                      go_wp2
                      go_ret
                      exact ⟨⟨lo + 1, A1, E1, m1, ret_int (by rw [HQ.out]; omega), H1.out, HST.out⟩, K⟩
                    · have od' : (lo % 2 == 1) = false := by simp [od]
                      have H1 := HF lo (Or.inr ⟨by omega, rfl⟩)
                      clear HF z od
                      go_wp2
                      go_ret
                      exact ⟨⟨lo, A1, E1, m1, ret_int (by rw [HQ.out]; omega), H1.out, HST.out⟩, K⟩
                  · have z' : (c == 0) = false := by simp [z]
                    have H1 := HF lo (Or.inr ⟨by omega, rfl⟩)
                    clear HF z
                    go_wp2
                    go_ret
                    exact ⟨⟨lo, A1, E1, m1, ret_int (by rw [HQ.out]; omega), H1.out, HST.out⟩, K⟩
    · have HN := NEAR0 z mf
      have z' : ((size : Int) == 0) = true := by simp [z]
      subst mf
      clear NEAR0 NEARI z
      go_wp2
      go_ret
      exact ⟨⟨0, A, e, false, ret_int (by rw [HQ.out]; omega), HN.out, Or.inl ⟨rfl, rfl, rfl⟩⟩, K⟩

end Go.Proofs.YtjigofmcflmelaaGreatDoor

namespace Go.Proofs.YtjigofmcflmelaaGreatDoor
open Go.RowKit
set_option linter.unusedVariables false

set_option maxRecDepth 20000 in
set_option maxHeartbeats 8000000 in
theorem rRound_d {w : World} {va : Value} {A e : Int} {ka : Nat} {neg more : Bool} (ha : Arg w va A ka) (hka : ka ≤ 1048576) (e0 : -9223372036854775808 ≤ e) (e1 : e < 9223372036854775808) :
    Calls Tryz.prog 103 #[.int .i64 64, .bool neg, va, .int .i64 e, .bool more] w fun x w' => RoundIs 9223372036854775808 4503599627370496 (-1074) 9218868437227405312 neg A more e x ∧ Below w.heap.size w w' := by
  have A0 := ha.nonneg
  obtain ⟨size, hlen, hsz⟩ := len_of ha
  obtain ⟨q, hq⟩ : ∃ q, b2i neg * 9223372036854775808 = q := ⟨_, rfl⟩
  have q01 : 0 ≤ q ∧ q ≤ 9223372036854775808 := by subst hq; cases neg <;> simp [b2i]
  obtain ⟨q0, q1⟩ := q01
  have HQ := hide hq
  have Hlen := hide hlen
  have sz1 : (size : Int) ≤ 33554432 := by omega
  clear hq hlen
  go_enter Tryz.func103, Tryz.ntmps103
  go_upto_if 27 with fail
  go_cut [11] from 27 (fun s wx => s = .int .u64 q ∧ w = wx)
  case first =>
    cases neg
    · go_wp2
      go_meet
      case rel => exact ⟨by rw [← HQ.out]; rfl, rfl⟩
    · go_wp2_with fail
      with_reducible refine (rSign_d _).mono ?_
      rintro x' w1 ⟨rfl, rfl⟩
      go_wp2
      go_meet
      case rel => exact ⟨by rw [← HQ.out]; rfl, rfl⟩
  case rest =>
    obtain ⟨rfl, rfl⟩ := hcut
    go_wp2_with fail
    with_reducible refine (rlen_any ha (by omega) Hlen.out).mono ?_
    rintro x' w1 ⟨rfl, K⟩
    replace ha := ha.below K
    have NEAR0 : ∀ (z : size = 0) (m : more = false), Hid (Near 4503599627370496 (-1074) 9218868437227405312 (2 * A + b2i' more) (e - 1) 0) := fun z m => hide (near_low (F := 4503599627370496) (L := (-1074)) (I := 9218868437227405312) (by decide) (by decide) A0 Hlen.out (b2i_or more) (Or.inl ⟨z, by rw [m]; rfl⟩))
    have NEARI : ∀ (z : ¬ (size = 0 ∧ more = false)) (h : 1200 < e), Hid (Near 4503599627370496 (-1074) 9218868437227405312 (2 * A + b2i' more) (e - 1) 9218868437227405312) := fun z h => hide (near_high (F := 4503599627370496) (L := (-1074)) (I := 9218868437227405312) (lim := 1024) (fr := 52) (by decide) (by decide) (by decide) A0 Hlen.out (b2i_or more) (zmore z) (by omega))
    have Hz : Hid (¬ (size = 0 ∧ more = false)) ∨ (size = 0 ∧ more = false) := by
      by_cases h : size = 0 ∧ more = false
      · exact Or.inr h
      · exact Or.inl (hide h)
    rcases Hz with Hz | ⟨z, mf⟩
    · go_upto_region 5 with fail
      go_cut [37] from 27 (fun s wx => s = .bool false ∧ w1 = wx)
      case first =>
        by_cases z : size = 0
        · have z' : ((size : Int) == 0) = true := by simp [z]
          have mt : more = true := by cases more; exact (Hz.out ⟨z, rfl⟩).elim; rfl
          subst mt
          clear z
          go_wp2
          go_meet
          case rel => exact ⟨rfl, rfl⟩
        · have z' : ((size : Int) == 0) = false := by simp [z]
          clear z
          go_wp2
          go_meet
          case rel => exact ⟨rfl, rfl⟩
      case rest =>
        obtain ⟨rfl, rfl⟩ := hcut
        by_cases hi : 1200 < e
        · have HN := NEARI Hz.out hi
          clear NEARI NEAR0
          go_wp2_with fail
          with_reducible refine (rInf_d _).mono ?_
          rintro x' w2 ⟨rfl, kb⟩
          go_wp2
          go_ret
          exact ⟨⟨9218868437227405312, A, e, more, ret_int (by rw [HQ.out]; omega), HN.out, Or.inl ⟨rfl, rfl, rfl⟩⟩, below_trans K kb⟩
        clear NEARI NEAR0
        go_upto_if 46 with fail
        go_cut [2, 3, 4] from 27 (fun s2 s3 s4 w2 => ∃ vb A1 E1 m1 z1, vb = s2 ∧ s3 = .int .i64 E1 ∧ s4 = .bool m1 ∧ Arg w2 vb A1 1048577 ∧ IsLen A1 z1 ∧ z1 ≤ 200 ∧ ¬ (z1 = 0 ∧ m1 = false) ∧ -9223372036854775808 ≤ E1 ∧ E1 ≤ 33556000 ∧ Stick A more e A1 m1 E1 ∧ Below w.heap.size w w2)
        case first =>
          by_cases big : 200 < (size : Int)
          · obtain ⟨d, hd⟩ : ∃ d, d = size - 200 := ⟨_, rfl⟩
            have Hd := hide hd
            have hn : (size : Int) - 200 = (d : Int) := by omega
            have he : e + (size : Int) - 200 = e + (d : Int) := by omega
            clear hd
            go_wp2_with fail
            with_reducible refine (rshr_cut (n := (d : Int)) ha (by omega) Hlen.out (by omega) Hd.out rfl).mono ?_
            rintro x' w2 ⟨vq, rfl, hV, kb⟩
            have Hlen2 := hide (show IsLen (A / p2 d) 200 from len_cut Hlen.out (by omega) Hd.out A0)
            have H100 := hide (show p2 100 ≤ A / p2 d by have h1 := Hlen2.out.2 (by decide); have h2 := p2_mono (m := 100) (n := 200 - 1) (by decide); omega)
            have HV := hide (hV.mono (k' := 1048577) (by omega))
            clear hV
            generalize hT : A / p2 d = top at *
            generalize hR : A % p2 d = rest at *
            have HT := hide hT
            have HR := hide hR
            clear hT hR
            cases more
            · cases hb : decide (0 < rest)
              · go_wp2
                go_meet
                case rel => exact ⟨_, top, e + d, false, 200, rfl, by first | rfl | (rw [← he]), rfl, HV.out.arg, Hlen2.out, by omega, by omega, by omega, by omega, Or.inr ⟨d, HT.out.symm, rfl, H100.out, by rw [HR.out, hb]; rfl⟩, below_trans K kb⟩
              · go_wp2
                go_meet
                case rel => exact ⟨_, top, e + d, true, 200, rfl, by first | rfl | (rw [← he]), rfl, HV.out.arg, Hlen2.out, by omega, by omega, by omega, by omega, Or.inr ⟨d, HT.out.symm, rfl, H100.out, by rw [HR.out, hb]; rfl⟩, below_trans K kb⟩
            · go_wp2
              go_meet
              case rel => exact ⟨_, top, e + d, true, 200, rfl, by first | rfl | (rw [← he]), rfl, HV.out.arg, Hlen2.out, by omega, by omega, by omega, by omega, Or.inr ⟨d, HT.out.symm, rfl, H100.out, by rfl⟩, below_trans K kb⟩
          · go_wp2
            go_meet
            case rel =>
              obtain ⟨zs, p1, p2', p3, p4⟩ := ha
              exact ⟨_, A, e, more, size, rfl, rfl, rfl, ⟨zs, p1, p2', p3, by omega⟩, Hlen.out, by omega, Hz.out, by omega, by omega, Or.inl ⟨rfl, rfl, rfl⟩, K⟩
        case rest =>
          clear ha K
          obtain ⟨vb, A1, E1, m1, z1, rfl, rfl, rfl, hb, hlen1, hz1, hzm, b0, b1, hst, K⟩ := hcut
          have A10 := hb.nonneg
          have HST := hide hst
          have Hl1 := hide hlen1
          have Hzm := hide hzm
          have hA1 : A1 < p2 200 := by have h1 := hlen1.1; have h2 := p2_mono (m := z1) (n := 200) hz1; omega
          have HA1 := hide hA1
          clear hst hlen1 hzm hA1
          by_cases lo : E1 < -2000
          · have HN := hide (show Near 4503599627370496 (-1074) 9218868437227405312 (2 * A1 + b2i' m1) (E1 - 1) 0 from near_low (F := 4503599627370496) (L := (-1074)) (I := 9218868437227405312) (by decide) (by decide) A10 Hl1.out (b2i_or m1) (Or.inr (by omega)))
            go_wp2
            go_ret
            exact ⟨⟨0, A1, E1, m1, ret_int (by rw [HQ.out]; omega), HN.out, HST.out⟩, K⟩
          by_cases hi2 : 1200 < E1
          · have HN := hide (show Near 4503599627370496 (-1074) 9218868437227405312 (2 * A1 + b2i' m1) (E1 - 1) 9218868437227405312 from near_high (F := 4503599627370496) (L := (-1074)) (I := 9218868437227405312) (lim := 1024) (fr := 52) (by decide) (by decide) (by decide) A10 Hl1.out (b2i_or m1) (zmore Hzm.out) (by omega))
            go_wp2_with fail
            with_reducible refine (rInf_d _).mono ?_
            rintro x' w2 ⟨rfl, kb⟩
            go_wp2
            go_ret
            exact ⟨⟨9218868437227405312, A1, E1, m1, ret_int (by rw [HQ.out]; omega), HN.out, HST.out⟩, below_trans K kb⟩
          go_upto_if 73 with fail
          go_cut [2, 3] from 27 (fun s2 s3 w2 => ∃ vc N E, vc = s2 ∧ s3 = .int .i64 E ∧ Arg w2 vc N 2100000 ∧ N < p2 300 ∧ -2001 ≤ E ∧ E ≤ 1200 ∧ E1 - 1 ≤ E ∧ (∀ B, B ≤ E1 - 1 → sc N E B = sc (2 * A1 + b2i' m1) (E1 - 1) B) ∧ Below w.heap.size w w2)
          case first =>
            cases m1
            · go_wp2
              go_meet
              case rel =>
                obtain ⟨zs, p1, p2', p3, p4⟩ := hb
                exact ⟨_, A1, E1, rfl, rfl, ⟨zs, p1, p2', p3, by omega⟩, by have h1 := HA1.out; have h2 := p2_mono (m := 200) (n := 300) (by decide); omega, by omega, by omega, by omega, fun B hB => by rw [sc_twice hB]; congr 1; simp only [b2i']; simp, K⟩
            · go_wp2_with fail
              with_reducible refine (radd_any hb hb (by omega) (by omega)).mono ?_
              rintro x' w2 ⟨y1, rfl, h1, kb⟩
              replace K := below_trans K kb
              clear kb
              go_wp2_with fail
              with_reducible refine (rfrom_any 1 (by decide) (by decide)).mono ?_
              rintro x' w3 ⟨y2, rfl, h2, kb⟩
              replace h1 := h1.below kb
              replace K := below_trans K kb
              clear kb
              go_wp2_with fail
              with_reducible refine (radd_any h1.arg h2.arg (by omega) (by omega)).mono ?_
              rintro x' w4 ⟨y3, rfl, h3, kb⟩
              replace K := below_trans K kb
              have H3 := hide (h3.mono (k' := 2100000) (by omega))
              clear kb h1 h2 h3
              go_wp2
              go_meet
              case rel => exact ⟨_, A1 + A1 + 1, E1 - 1, rfl, rfl, H3.out.arg, by have h1 := HA1.out; have h2 := p2_mono (m := 202) (n := 300) (by decide); rw [show p2 202 = 4 * p2 200 from by decide] at h2; omega, by omega, by omega, by omega, fun B hB => by congr 1; rw [show b2i' true = 1 from rfl]; omega, K⟩
          case rest =>
            clear hb K
            obtain ⟨vc, N, E, rfl, rfl, hc, hN, c0, c1, hE1, hsc, K⟩ := hcut
            have FINAL : ∀ r, Near 4503599627370496 (-1074) 9218868437227405312 N E r → Hid (Near 4503599627370496 (-1074) 9218868437227405312 (2 * A1 + b2i' m1) (E1 - 1) r) := fun r h => hide (near_scaled hE1 hsc h)
            have HN := hide hN
            clear hsc hN
            go_wp2_with fail
            with_reducible refine (rInf_d _).mono ?_
            rintro x' w2 ⟨rfl, kb⟩
            replace hc := hc.below kb
            replace K := below_trans K kb
            clear kb
            go_wp2
            go_loopw [16, 17] (fun s16 s17 wr => ∃ lo hi : Int, s16 = .int .u64 lo ∧ s17 = .int .u64 hi ∧ 0 ≤ lo ∧ lo < hi ∧ hi ≤ 9218868437227405312 + 1 ∧ (∀ B, B ≤ E → B ≤ (-1074) → um 4503599627370496 (-1074) B lo ≤ sc N E B) ∧ (hi ≤ 9218868437227405312 → ∀ B, B ≤ E → B ≤ (-1074) → sc N E B < um 4503599627370496 (-1074) B hi) ∧ Arg wr vc N 2100000 ∧ Below w.heap.size w wr) (fun s16 s17 _ => (intOf s17 - intOf s16).toNat)
            case atStart =>
              refine ⟨0, 9218868437227405312 + 1, rfl, rfl, by decide, by decide, by decide, fun B h1 h2 => ?_, fun h => by omega, hc, K⟩
              unfold um sc mst
              rw [if_pos (by decide), Int.zero_mul]
              exact Int.mul_nonneg hc.nonneg (Int.le_of_lt (p2_pos _))
            case round =>
              clear hc K
              obtain ⟨lo, hi, rfl, rfl, l0, lh, h1, hlo, hhi, hc, K⟩ := hrel
              have HLO := hide hlo
              have HHI := hide hhi
              clear hlo hhi
              by_cases more2 : 1 < hi - lo
              · obtain ⟨mid, hmid⟩ : ∃ m, lo + (hi - lo) / 2 = m := ⟨_, rfl⟩
                have g0 : lo < mid := by omega
                have g1 : mid < hi := by omega
                obtain ⟨mm0, mm1⟩ : 0 < mst 4503599627370496 mid ∧ mst 4503599627370496 mid < 9223372036854775808 := mst_range (F := 4503599627370496) (s := mid) (S := 9223372036854775808) (by decide) (by omega) (by decide) (by omega)
                obtain ⟨ee0, ee1⟩ : (-1074) ≤ est 4503599627370496 (-1074) mid ∧ est 4503599627370496 (-1074) mid ≤ 2100 := ⟨est_ge (by decide), by unfold est; split <;> omega⟩
                go_wp2_with fail
                with_reducible refine (rNumber_d _ mid (by omega) (by omega)).mono ?_
                rintro x' w3 ⟨rfl, kb⟩
                replace hc := hc.below kb
                replace K := below_trans K kb
                clear kb
                have HCM := hide (fun B (h1 : B ≤ E) (h2 : B ≤ (-1074)) => sgn_at (N := N) (E := E) (n := mst 4503599627370496 mid) (f := est 4503599627370496 (-1074) mid) (B := B) h1 (by omega))
                have HUM := hide (show ∀ B, um 4503599627370496 (-1074) B mid = sc (mst 4503599627370496 mid) (est 4503599627370496 (-1074) mid) B from fun _ => rfl)
                generalize mst 4503599627370496 mid = mm at *
                generalize est 4503599627370496 (-1074) mid = ee at *
                go_wp2_with fail
                with_reducible refine (rfrom_any mm (by omega) (by omega)).mono ?_
                rintro x' w4 ⟨y1, rfl, hy, kb⟩
                replace hc := hc.below kb
                replace K := below_trans K kb
                clear kb
                go_wp2_with fail
                with_reducible refine (rcmp2_any (e := ee) (f := E) hy.arg hc (by omega) (by omega) (by have := p2_mono (m := 64) (n := 300) (by decide); rw [show p2 64 = 18446744073709551616 from by decide] at this; omega) HN.out (by omega) (by omega) (by omega) (by omega)).mono ?_
                rintro x' w5 ⟨rfl, kb⟩
                replace hc := hc.below kb
                replace K := below_trans K kb
                clear kb hy
                generalize sgn (sc mm ee (min ee E)) (sc N E (min ee E)) = c at *
                by_cases cc : c ≤ 0
                · have HNEW := hide (show ∀ B, B ≤ E → B ≤ (-1074) → um 4503599627370496 (-1074) B mid ≤ sc N E B from fun B h1 h2 => by rw [HUM.out]; exact sgn_le.1 (by rw [← HCM.out B h1 h2]; exact cc))
                  clear HCM HUM HLO
                  go_wp2
                  go_roundw
                  case rel => exact ⟨mid, hi, rfl, rfl, by omega, g1, h1, HNEW.out, HHI.out, hc, K⟩
                  case measure => simp [intOf]; omega
                · have HNEW := hide (show mid ≤ 9218868437227405312 → ∀ B, B ≤ E → B ≤ (-1074) → sc N E B < um 4503599627370496 (-1074) B mid from fun _ B h1 h2 => by
                    rw [HUM.out]
                    rcases Int.lt_or_le (sc N E B) (sc mm ee B) with g | g
                    · exact g
                    · have := sgn_le.2 g
                      rw [← HCM.out B h1 h2] at this
                      omega)
                  clear HCM HUM HHI
                  go_wp2
                  go_roundw
                  case rel => exact ⟨lo, mid, rfl, rfl, by omega, g0, by omega, HLO.out, HNEW.out, hc, K⟩
                  case measure => simp [intOf]; omega
              · obtain rfl : hi = lo + 1 := by omega
                go_wp2_with fail
                with_reducible refine (rInf_d _).mono ?_
                rintro x' w3 ⟨rfl, kb⟩
                replace hc := hc.below kb
                replace K := below_trans K kb
                clear kb
                by_cases top : lo = 9218868437227405312
                · have HF := FINAL 9218868437227405312 (near_end (by decide) (by decide) (by rw [← top]; exact HLO.out))
                  have top' : (lo == 9218868437227405312) = true := by simp [top]
                  have Htop := hide top
                  clear top
                  go_wp2
                  go_ret
                  exact ⟨⟨9218868437227405312, A1, E1, m1, ret_int (by rw [HQ.out, ← Htop.out]; omega), HF.out, HST.out⟩, K⟩
                have top' : (lo == 9218868437227405312) = false := by simp [top]
                go_wp2_with fail
                with_reducible refine (rNumber_d _ lo l0 (by omega)).mono ?_
                rintro x' w4 ⟨rfl, kb⟩
                replace hc := hc.below kb
                replace K := below_trans K kb
                clear kb
                go_wp2_with fail
                with_reducible refine (rNumber_d _ (lo + 1) (by omega) (by omega)).mono ?_
                rintro x' w5 ⟨rfl, kb⟩
                replace hc := hc.below kb
                replace K := below_trans K kb
                clear kb
                have HFOUND := hide (fun c r => near_found (F := 4503599627370496) (L := (-1074)) (I := 9218868437227405312) (N := N) (E := E) (lo := lo) (r := r) (c := c) (by decide) l0 (by omega) HLO.out (HHI.out (by omega)))
                have HMID := hide (fun m B => sgn_mid (F := 4503599627370496) (L := (-1074)) (N := N) (E := E) (s := lo) (m := m) (B := B) (by decide) l0)
                have HSUC := est_succ (F := 4503599627370496) (L := (-1074)) (s := lo) (by decide) l0
                obtain ⟨ee0, ee1⟩ : (-1074) ≤ est 4503599627370496 (-1074) lo ∧ est 4503599627370496 (-1074) lo ≤ 2100 := ⟨est_ge (by decide), by unfold est; split <;> omega⟩
                have nn0 : 0 ≤ mst 4503599627370496 lo ∧ mst 4503599627370496 lo < 9223372036854775808 := by
                  rcases Int.lt_or_eq_of_le l0 with g | g
                  · have := mst_range (F := 4503599627370496) (s := lo) (S := 9223372036854775808) (by decide) g (by decide) (by omega); omega
                  · rw [← g]; decide
                obtain ⟨nn0, nn1⟩ := nn0
                obtain ⟨kk0, kk1⟩ := mst_range (F := 4503599627370496) (s := lo + 1) (S := 9223372036854775808) (by decide) (by omega) (by decide) (by omega)
                have nn2 := mst_top (F := 4503599627370496) (s := lo) (by decide) l0
                have kk2 := mst_top (F := 4503599627370496) (s := lo + 1) (by decide) (by omega)
                clear HLO HHI top
                generalize mst 4503599627370496 lo = n at *
                generalize mst 4503599627370496 (lo + 1) = kq at *
                generalize est 4503599627370496 (-1074) lo = f at *
                generalize est 4503599627370496 (-1074) (lo + 1) = g at *
                go_upto_if 134 with fail
                go_cut [25] from 27 (fun s25 w6 => ∃ m, s25 = .int .u64 m ∧ 0 ≤ m ∧ m < 18446744073709551616 ∧ ((g = f ∧ m = n + kq) ∨ (g = f + 1 ∧ m = n + 2 * kq)) ∧ w5 = w6)
                case first =>
                  rcases HSUC with e9 | e9
                  · have ng : ¬ f < g := by omega
                    have H9 := hide e9
                    clear e9
                    go_wp2
                    go_meet
                    case rel => exact ⟨n + kq, rfl, by omega, by omega, Or.inl ⟨H9.out, rfl⟩, rfl⟩
                  · have ng : f < g := by omega
                    have H9 := hide e9
                    clear e9
                    go_wp2
                    go_meet
                    case rel => exact ⟨n + 2 * kq, rfl, by omega, by omega, Or.inr ⟨H9.out, rfl⟩, rfl⟩
                case rest =>
                  obtain ⟨m, rfl, mq0, mq1, hm, rfl⟩ := hcut
                  have HMM := hide hm
                  clear hm HSUC
                  go_wp2_with fail
                  with_reducible refine (rfrom_any m mq0 mq1).mono ?_
                  rintro x' w7 ⟨y1, rfl, hy, kb⟩
                  replace hc := hc.below kb
                  replace K := below_trans K kb
                  clear kb
                  go_wp2_with fail
                  with_reducible refine (rcmp2_any (e := E) (f := f - 1) hc hy.arg (by omega) (by omega) HN.out (by have := p2_mono (m := 64) (n := 300) (by decide); rw [show p2 64 = 18446744073709551616 from by decide] at this; omega) (by omega) (by omega) (by omega) (by omega)).mono ?_
                  rintro x' w8 ⟨rfl, kb⟩
                  replace K := below_trans K kb
                  clear kb hy hc
                  have HC := hide (fun B h1 h2 => HMID.out m B h1 h2 HMM.out)
                  generalize sgn (sc N E (min E (f - 1))) (sc m (f - 1) (min E (f - 1))) = c at *
                  have HF := fun r hr => FINAL r (HFOUND.out c r HC.out hr)
                  clear HC HMID HFOUND HMM FINAL
                  by_cases up : 0 < c
                  · have H1 := HF (lo + 1) (Or.inl ⟨Or.inl up, rfl⟩)
                    clear HF
                    go_wp2
                    go_ret
                    exact ⟨⟨lo + 1, A1, E1, m1, ret_int (by rw [HQ.out]; omega), H1.out, HST.out⟩, K⟩
                  by_cases z : c = 0
                  · have z' : (c == 0) = true := by simp [z]
                    by_cases od : lo % 2 = 1
                    · have od' : (lo % 2 == 1) = true := by simp [od]
                      have H1 := HF (lo + 1) (Or.inl ⟨Or.inr ⟨z, od⟩, rfl⟩)
                      clear HF z od
                      go_wp2
                      go_ret
                      exact ⟨⟨lo + 1, A1, E1, m1, ret_int (by rw [HQ.out]; omega), H1.out, HST.out⟩, K⟩
                    · have od' : (lo % 2 == 1) = false := by simp [od]
                      have H1 := HF lo (Or.inr ⟨by omega, rfl⟩)
                      clear HF z od
                      go_wp2
                      go_ret
                      exact ⟨⟨lo, A1, E1, m1, ret_int (by rw [HQ.out]; omega), H1.out, HST.out⟩, K⟩
                  · have z' : (c == 0) = false := by simp [z]
                    have H1 := HF lo (Or.inr ⟨by omega, rfl⟩)
                    clear HF z
                    go_wp2
                    go_ret
                    exact ⟨⟨lo, A1, E1, m1, ret_int (by rw [HQ.out]; omega), H1.out, HST.out⟩, K⟩
    · have HN := NEAR0 z mf
      have z' : ((size : Int) == 0) = true := by simp [z]
      subst mf
      clear NEAR0 NEARI z
      go_wp2
      go_ret
      exact ⟨⟨0, A, e, false, ret_int (by rw [HQ.out]; omega), HN.out, Or.inl ⟨rfl, rfl, rfl⟩⟩, K⟩

end Go.Proofs.YtjigofmcflmelaaGreatDoor

namespace Go.Proofs.YtjigofmcflmelaaGreatDoor
open Go.RowKit
set_option linter.unusedVariables false

theorem rtwo1_h (w : World) : Calls Tryz.prog 130 #[.int .i64 9] w fun e w' => e = .returned (.int .u64 512) ∧ w' = w := by
  have := rtwo_any w 9 (by decide)
  rwa [show p2 9 = 512 from by decide] at this
theorem rNaN_h (w : World) : Calls Tryz.prog 39 #[.int .i64 16] w fun e w' => e = .returned (.int .u64 32256) ∧ Below w.heap.size w w' := by
  have hf := shape_field0_h
  go_enter Tryz.func39, Tryz.ntmps39
  go_wp2_with fail
  with_reducible refine (rInf_h _).mono ?_
  rintro x w1 ⟨rfl, K⟩
  go_wp2_with fail
  with_reducible refine (rOf_h _).mono ?_
  rintro x w2 ⟨rfl, kb⟩
  go_wp2_with fail
  with_reducible refine (rtwo1_h _).mono ?_
  rintro x w3 ⟨rfl, rfl⟩
  go_wp2
  go_ret
  exact ⟨rfl, below_trans K kb⟩

theorem rtwo1_s (w : World) : Calls Tryz.prog 130 #[.int .i64 22] w fun e w' => e = .returned (.int .u64 4194304) ∧ w' = w := by
  have := rtwo_any w 22 (by decide)
  rwa [show p2 22 = 4194304 from by decide] at this
theorem rNaN_s (w : World) : Calls Tryz.prog 39 #[.int .i64 32] w fun e w' => e = .returned (.int .u64 2143289344) ∧ Below w.heap.size w w' := by
  have hf := shape_field0_s
  go_enter Tryz.func39, Tryz.ntmps39
  go_wp2_with fail
  with_reducible refine (rInf_s _).mono ?_
  rintro x w1 ⟨rfl, K⟩
  go_wp2_with fail
  with_reducible refine (rOf_s _).mono ?_
  rintro x w2 ⟨rfl, kb⟩
  go_wp2_with fail
  with_reducible refine (rtwo1_s _).mono ?_
  rintro x w3 ⟨rfl, rfl⟩
  go_wp2
  go_ret
  exact ⟨rfl, below_trans K kb⟩

theorem rtwo1_d (w : World) : Calls Tryz.prog 130 #[.int .i64 51] w fun e w' => e = .returned (.int .u64 2251799813685248) ∧ w' = w := by
  have := rtwo_any w 51 (by decide)
  rwa [show p2 51 = 2251799813685248 from by decide] at this
theorem rNaN_d (w : World) : Calls Tryz.prog 39 #[.int .i64 64] w fun e w' => e = .returned (.int .u64 9221120237041090560) ∧ Below w.heap.size w w' := by
  have hf := shape_field0_d
  go_enter Tryz.func39, Tryz.ntmps39
  go_wp2_with fail
  with_reducible refine (rInf_d _).mono ?_
  rintro x w1 ⟨rfl, K⟩
  go_wp2_with fail
  with_reducible refine (rOf_d _).mono ?_
  rintro x w2 ⟨rfl, kb⟩
  go_wp2_with fail
  with_reducible refine (rtwo1_d _).mono ?_
  rintro x w3 ⟨rfl, rfl⟩
  go_wp2
  go_ret
  exact ⟨rfl, below_trans K kb⟩

set_option maxRecDepth 20000 in
set_option maxHeartbeats 8000000 in
theorem rTo_h_d (w : World) (x s : Int) (ng : Bool) (h0 : 0 ≤ x) (h1 : x < 18446744073709551616) (hs : x % 9223372036854775808 = s) (hng : ng = decide (9223372036854775808 ≤ x)) : Calls Tryz.prog 35 #[.int .i64 16, .int .i64 64, .int .u64 x] w fun e w' => ∃ y ok, e = .returned (.tuple #[.int .u64 y, .bool ok]) ∧ ToR 32768 1024 (-24) 31744 4503599627370496 (-1074) 9218868437227405312 s ng y ok ∧ Below w.heap.size w w' := by
  have s0 : 0 ≤ s := by omega
  have s1 : s < 9223372036854775808 := by omega
  have Hs := hide hs
  have Hng := hide hng
  clear hs hng
  go_enter Tryz.func35, Tryz.ntmps35
  go_wp2_with fail
  with_reducible refine (rClass_d _ x s h0 h1 Hs.out).mono ?_
  rintro x' w1 ⟨rfl, K⟩
  have HCN := hide (cls_nan 9223372036854775808 4503599627370496 s)
  have HCI := hide (show cls 9223372036854775808 4503599627370496 s = 4 ↔ s = 9218868437227405312 from by
    unfold cls
    constructor
    · intro h
      by_cases a : s = 9218868437227405312
      · exact a
      · repeat' split at h
        all_goals omega
    · intro h; rw [if_neg (by omega), if_pos (by omega)])
  generalize cls 9223372036854775808 4503599627370496 s = cl at *
  by_cases nan : 9218868437227405312 < s
  · have ec : cl = 5 := HCN.out.2 (by omega)
    have ec' : (cl == 5) = true := by simp [ec]
    have HT := hide (show ToR 32768 1024 (-24) 31744 4503599627370496 (-1074) 9218868437227405312 s ng 32256 true from Or.inl ⟨nan, by decide, rfl⟩)
    clear ec HCN HCI
    go_wp2_with fail
    with_reducible refine (rNaN_h _).mono ?_
    rintro x' w2 ⟨rfl, kb⟩
    go_wp2
    go_ret2
    exact ⟨_, _, rfl, HT.out, below_trans K kb⟩
  have ec : ¬ cl = 5 := fun h => nan (by have := HCN.out.1 h; omega)
  have ec' : (cl == 5) = false := by simp [ec]
  clear ec HCN
  by_cases es : s = 9218868437227405312
  · have ei : cl = 4 := HCI.out.2 es
    have ei' : (cl == 4) = true := by simp [ei]
    clear ei HCI
    go_wp2_with fail
    with_reducible refine (rNeg_d _ x).mono ?_
    rintro x' w2 ⟨rfl, rfl⟩
    rw [← Hng.out]
    cases ng
    · have HT := hide (show ToR 32768 1024 (-24) 31744 4503599627370496 (-1074) 9218868437227405312 s false 31744 true from Or.inr (Or.inl ⟨es, by decide, rfl⟩))
      clear es
      go_wp2_with fail
      with_reducible refine (rInf_h _).mono ?_
      rintro x' w3 ⟨rfl, kb⟩
      go_wp2
      go_ret2
      exact ⟨_, _, rfl, HT.out, below_trans K kb⟩
    · have HT := hide (show ToR 32768 1024 (-24) 31744 4503599627370496 (-1074) 9218868437227405312 s true 64512 true from Or.inr (Or.inl ⟨es, by decide, rfl⟩))
      clear es
      go_wp2_with fail
      with_reducible refine (rSign_h _).mono ?_
      rintro x' w3 ⟨rfl, rfl⟩
      go_wp2_with fail
      with_reducible refine (rInf_h _).mono ?_
      rintro x' w4 ⟨rfl, kb⟩
      go_wp2
      go_ret2
      exact ⟨_, _, rfl, HT.out, below_trans K kb⟩
  have ei : ¬ cl = 4 := fun h => es (HCI.out.1 h)
  have ei' : (cl == 4) = false := by simp [ei]
  have fin : s < 9218868437227405312 := by omega
  clear ei HCI
  go_wp2_with fail
  with_reducible refine (rParts_d _ x s ng h0 h1 Hs.out Hng.out).mono ?_
  rintro x' w2 ⟨a, m, E, ok, rfl, hP, kb⟩
  replace K := below_trans K kb
  clear kb
  obtain ⟨m0, m1, E0, E1⟩ := part_bounds (F := 4503599627370496) (L := (-1074)) (S := 9223372036854775808) (by decide) (by decide) (by decide) s0 s1 (by unfold est; split <;> omega) (by decide) hP
  obtain ⟨rfl, rfl, -, -⟩ := hP.2 fin
  have HP := hide hP
  clear hP es
  go_wp2_with fail
  with_reducible refine (rfrom_any m m0 (by omega)).mono ?_
  rintro x' w3 ⟨vm, rfl, hM, kb⟩
  replace K := below_trans K kb
  clear kb
  go_wp2_with fail
  with_reducible refine (rRound_h (neg := a) (more := false) hM.arg (by decide) (by omega) (by omega)).mono ?_
  rintro x' w4 ⟨⟨r, A', e', mb', rfl, hN, hS⟩, kb⟩
  replace K := below_trans K kb
  clear kb hM
  have r0 := hN.1
  have r1 := hN.2.1
  have HN := hide (show ∀ r', Near 1024 (-24) 31744 (2 * m + b2i false) (E - 1) r' → r' = r from fun r' h => stick_same (fr := 10) (by decide) (by decide) m0 h hN hS)
  obtain ⟨y1, y2, y3, y4⟩ := sgn_part (S := 32768) a r0 (by omega)
  clear hN hS
  generalize hy : r + b2i a * 32768 = y at *
  have HY := hide hy
  clear hy
  go_wp2_with fail
  with_reducible refine (rParts_h _ y r a y3 (by omega) y1 y2).mono ?_
  rintro x' w5 ⟨p, n, g, k, rfl, hP2, kb⟩
  replace K := below_trans K kb
  clear kb
  have HT := hide (show ToR 32768 1024 (-24) 31744 4503599627370496 (-1074) 9218868437227405312 s a y (k && (n == m) && (g == E)) from Or.inr (Or.inr ⟨fin, m, E, r, p, n, g, k, HP.out, HN.out, HY.out.symm, hP2, rfl⟩))
  clear hP2 y1 y2 HN HY HP
  cases k
  · go_wp2
    go_ret2
    exact ⟨y, _, rfl, HT.out, K⟩
  by_cases en : n = m
  · have en' : (n == m) = true := by simp [en]
    by_cases ef : g = E
    · have ef' : (g == E) = true := by simp [ef]
      have HT2 := hide (show ToR 32768 1024 (-24) 31744 4503599627370496 (-1074) 9218868437227405312 s a y true by have h := HT.out; rw [en', ef'] at h; exact h)
      clear en ef HT
      go_wp2
      go_ret2
      exact ⟨y, _, rfl, HT2.out, K⟩
    · have ef' : (g == E) = false := by simp [ef]
      have HT2 := hide (show ToR 32768 1024 (-24) 31744 4503599627370496 (-1074) 9218868437227405312 s a y false by have h := HT.out; rw [en', ef'] at h; exact h)
      clear en ef HT
      go_wp2
      go_ret2
      exact ⟨y, _, rfl, HT2.out, K⟩
  · have en' : (n == m) = false := by simp [en]
    have HT2 := hide (show ToR 32768 1024 (-24) 31744 4503599627370496 (-1074) 9218868437227405312 s a y false by have h := HT.out; rw [en'] at h; simpa using h)
    clear en HT
    go_wp2
    go_ret2
    exact ⟨y, _, rfl, HT2.out, K⟩

set_option maxRecDepth 20000 in
set_option maxHeartbeats 8000000 in
theorem rTo_s_d (w : World) (x s : Int) (ng : Bool) (h0 : 0 ≤ x) (h1 : x < 18446744073709551616) (hs : x % 9223372036854775808 = s) (hng : ng = decide (9223372036854775808 ≤ x)) : Calls Tryz.prog 35 #[.int .i64 32, .int .i64 64, .int .u64 x] w fun e w' => ∃ y ok, e = .returned (.tuple #[.int .u64 y, .bool ok]) ∧ ToR 2147483648 8388608 (-149) 2139095040 4503599627370496 (-1074) 9218868437227405312 s ng y ok ∧ Below w.heap.size w w' := by
  have s0 : 0 ≤ s := by omega
  have s1 : s < 9223372036854775808 := by omega
  have Hs := hide hs
  have Hng := hide hng
  clear hs hng
  go_enter Tryz.func35, Tryz.ntmps35
  go_wp2_with fail
  with_reducible refine (rClass_d _ x s h0 h1 Hs.out).mono ?_
  rintro x' w1 ⟨rfl, K⟩
  have HCN := hide (cls_nan 9223372036854775808 4503599627370496 s)
  have HCI := hide (show cls 9223372036854775808 4503599627370496 s = 4 ↔ s = 9218868437227405312 from by
    unfold cls
    constructor
    · intro h
      by_cases a : s = 9218868437227405312
      · exact a
      · repeat' split at h
        all_goals omega
    · intro h; rw [if_neg (by omega), if_pos (by omega)])
  generalize cls 9223372036854775808 4503599627370496 s = cl at *
  by_cases nan : 9218868437227405312 < s
  · have ec : cl = 5 := HCN.out.2 (by omega)
    have ec' : (cl == 5) = true := by simp [ec]
    have HT := hide (show ToR 2147483648 8388608 (-149) 2139095040 4503599627370496 (-1074) 9218868437227405312 s ng 2143289344 true from Or.inl ⟨nan, by decide, rfl⟩)
    clear ec HCN HCI
    go_wp2_with fail
    with_reducible refine (rNaN_s _).mono ?_
    rintro x' w2 ⟨rfl, kb⟩
    go_wp2
    go_ret2
    exact ⟨_, _, rfl, HT.out, below_trans K kb⟩
  have ec : ¬ cl = 5 := fun h => nan (by have := HCN.out.1 h; omega)
  have ec' : (cl == 5) = false := by simp [ec]
  clear ec HCN
  by_cases es : s = 9218868437227405312
  · have ei : cl = 4 := HCI.out.2 es
    have ei' : (cl == 4) = true := by simp [ei]
    clear ei HCI
    go_wp2_with fail
    with_reducible refine (rNeg_d _ x).mono ?_
    rintro x' w2 ⟨rfl, rfl⟩
    rw [← Hng.out]
    cases ng
    · have HT := hide (show ToR 2147483648 8388608 (-149) 2139095040 4503599627370496 (-1074) 9218868437227405312 s false 2139095040 true from Or.inr (Or.inl ⟨es, by decide, rfl⟩))
      clear es
      go_wp2_with fail
      with_reducible refine (rInf_s _).mono ?_
      rintro x' w3 ⟨rfl, kb⟩
      go_wp2
      go_ret2
      exact ⟨_, _, rfl, HT.out, below_trans K kb⟩
    · have HT := hide (show ToR 2147483648 8388608 (-149) 2139095040 4503599627370496 (-1074) 9218868437227405312 s true 4286578688 true from Or.inr (Or.inl ⟨es, by decide, rfl⟩))
      clear es
      go_wp2_with fail
      with_reducible refine (rSign_s _).mono ?_
      rintro x' w3 ⟨rfl, rfl⟩
      go_wp2_with fail
      with_reducible refine (rInf_s _).mono ?_
      rintro x' w4 ⟨rfl, kb⟩
      go_wp2
      go_ret2
      exact ⟨_, _, rfl, HT.out, below_trans K kb⟩
  have ei : ¬ cl = 4 := fun h => es (HCI.out.1 h)
  have ei' : (cl == 4) = false := by simp [ei]
  have fin : s < 9218868437227405312 := by omega
  clear ei HCI
  go_wp2_with fail
  with_reducible refine (rParts_d _ x s ng h0 h1 Hs.out Hng.out).mono ?_
  rintro x' w2 ⟨a, m, E, ok, rfl, hP, kb⟩
  replace K := below_trans K kb
  clear kb
  obtain ⟨m0, m1, E0, E1⟩ := part_bounds (F := 4503599627370496) (L := (-1074)) (S := 9223372036854775808) (by decide) (by decide) (by decide) s0 s1 (by unfold est; split <;> omega) (by decide) hP
  obtain ⟨rfl, rfl, -, -⟩ := hP.2 fin
  have HP := hide hP
  clear hP es
  go_wp2_with fail
  with_reducible refine (rfrom_any m m0 (by omega)).mono ?_
  rintro x' w3 ⟨vm, rfl, hM, kb⟩
  replace K := below_trans K kb
  clear kb
  go_wp2_with fail
  with_reducible refine (rRound_s (neg := a) (more := false) hM.arg (by decide) (by omega) (by omega)).mono ?_
  rintro x' w4 ⟨⟨r, A', e', mb', rfl, hN, hS⟩, kb⟩
  replace K := below_trans K kb
  clear kb hM
  have r0 := hN.1
  have r1 := hN.2.1
  have HN := hide (show ∀ r', Near 8388608 (-149) 2139095040 (2 * m + b2i false) (E - 1) r' → r' = r from fun r' h => stick_same (fr := 23) (by decide) (by decide) m0 h hN hS)
  obtain ⟨y1, y2, y3, y4⟩ := sgn_part (S := 2147483648) a r0 (by omega)
  clear hN hS
  generalize hy : r + b2i a * 2147483648 = y at *
  have HY := hide hy
  clear hy
  go_wp2_with fail
  with_reducible refine (rParts_s _ y r a y3 (by omega) y1 y2).mono ?_
  rintro x' w5 ⟨p, n, g, k, rfl, hP2, kb⟩
  replace K := below_trans K kb
  clear kb
  have HT := hide (show ToR 2147483648 8388608 (-149) 2139095040 4503599627370496 (-1074) 9218868437227405312 s a y (k && (n == m) && (g == E)) from Or.inr (Or.inr ⟨fin, m, E, r, p, n, g, k, HP.out, HN.out, HY.out.symm, hP2, rfl⟩))
  clear hP2 y1 y2 HN HY HP
  cases k
  · go_wp2
    go_ret2
    exact ⟨y, _, rfl, HT.out, K⟩
  by_cases en : n = m
  · have en' : (n == m) = true := by simp [en]
    by_cases ef : g = E
    · have ef' : (g == E) = true := by simp [ef]
      have HT2 := hide (show ToR 2147483648 8388608 (-149) 2139095040 4503599627370496 (-1074) 9218868437227405312 s a y true by have h := HT.out; rw [en', ef'] at h; exact h)
      clear en ef HT
      go_wp2
      go_ret2
      exact ⟨y, _, rfl, HT2.out, K⟩
    · have ef' : (g == E) = false := by simp [ef]
      have HT2 := hide (show ToR 2147483648 8388608 (-149) 2139095040 4503599627370496 (-1074) 9218868437227405312 s a y false by have h := HT.out; rw [en', ef'] at h; exact h)
      clear en ef HT
      go_wp2
      go_ret2
      exact ⟨y, _, rfl, HT2.out, K⟩
  · have en' : (n == m) = false := by simp [en]
    have HT2 := hide (show ToR 2147483648 8388608 (-149) 2139095040 4503599627370496 (-1074) 9218868437227405312 s a y false by have h := HT.out; rw [en'] at h; simpa using h)
    clear en HT
    go_wp2
    go_ret2
    exact ⟨y, _, rfl, HT2.out, K⟩

end Go.Proofs.YtjigofmcflmelaaGreatDoor

namespace Go.Proofs.YtjigofmcflmelaaGreatDoor
open Go.RowKit
set_option linter.unusedVariables false

theorem canon_len {zs : List Int} {a : Int} (hc : Nt.Canon zs) (hv : Nt.val zs = a) : 0 < zs.length ↔ 0 < a := by
  have h1 := Nt.val_nonneg hc.1
  constructor
  · intro h0
    rcases Int.lt_or_eq_of_le h1 with h2 | h2
    · omega
    · have h3 := Nt.canon_unique hc Nt.canon_nil (by rw [← h2]; rfl)
      rw [h3] at h0; simp at h0
  · intro h0
    rcases Nat.eq_zero_or_pos zs.length with h1 | h1
    · rw [List.eq_nil_of_length_eq_zero h1] at hv
      have : Nt.val [] = 0 := rfl
      omega
    · exact h1
theorem int_sign {F L I S s n : Int} {ng ok : Bool} (hF : 0 < F) (hS : 2 * F ≤ S) (hL : -1100 ≤ L) (s0 : 0 ≤ s) (s1 : s < S) (hq : est F L s ≤ 2100) (hS2 : S ≤ 9223372036854775808) (h : IntIs F L I s ng n ok) : (ng = true → n ≤ 0) ∧ (ng = false → 0 ≤ n) := by
  obtain ⟨a, m, E, k, hP, h1⟩ := h
  obtain ⟨m0, -⟩ := part_bounds hF hS hL s0 s1 hq hS2 hP
  rcases h1 with ⟨rfl, c2, rfl, rfl⟩ | ⟨c1, rfl, rfl⟩
  · have hv : 0 ≤ m * p2 E.toNat := Int.mul_nonneg m0 (Int.le_of_lt (p2_pos _))
    have ha : a = ng := by
      rcases Int.lt_or_le s I with c | c
      · exact (hP.2 c).2.1
      · have := (hP.1 c).2.2.2; cases this
    subst ha
    unfold wn
    cases a <;> simp <;> omega
  · exact ⟨fun _ => by omega, fun _ => by omega⟩
theorem mag_same {n n2 : Int} {ng : Bool} (hng : ng = decide (n < 0)) (h : (ng = true → n2 ≤ 0) ∧ (ng = false → 0 ≤ n2)) : decide (mag n2 = mag n) = decide (n2 = n) := by
  rw [hng] at h
  refine decide_eq_decide.2 ?_
  unfold mag
  by_cases c : n < 0
  · have := h.1 (decide_eq_true c)
    rw [if_pos c]
    split <;> omega
  · have := h.2 (decide_eq_false c)
    rw [if_neg c]
    split <;> omega

set_option maxRecDepth 20000 in
set_option maxHeartbeats 8000000 in
theorem rFrom_d {w : World} {vx : Value} {n : Int} {k : Nat} (hx : WArg w vx n k) (hk : k ≤ 1048576) : Calls Tryz.prog 32 #[.int .i64 64, vx] w fun e w' => ∃ y ok, e = .returned (.tuple #[.int .u64 y, .bool ok]) ∧ FromR 9223372036854775808 4503599627370496 (-1074) 9218868437227405312 n y ok ∧ Below w.heap.size w w' := by
  obtain ⟨xg, xm, xa, rfl, ha, hn⟩ := hx
  have A0 := ha.nonneg
  have hmn : mag n = xa := by unfold mag; rw [hn]; unfold wn; cases xg <;> simp <;> omega
  have Hmn := hide (show 0 ≤ mag n by omega)
  have ha' := ha
  obtain ⟨zs, ⟨xo, xc, rfl, -⟩, -⟩ := ha'
  go_enter Tryz.func32, Tryz.ntmps32
  go_upto_region 1 with fail
  have D := cell2_new w (.bool xg) (.slice xo zs.length xc) 28
  have K := bel_new w (.cells #[.bool xg, .slice xo zs.length xc] 28)
  replace ha := ha.below K
  generalize w.alloc (.cells #[.bool xg, .slice xo zs.length xc] 28) = w1 at *
  obtain ⟨c0, c1, -, -⟩ := D.told
  go_wp2_with fail
  with_reducible refine (rnorm_any ha (by omega)).mono ?_
  rintro x' w2 ⟨vm, rfl, hM, kb⟩
  clear c0 c1 ha
  obtain ⟨c0, c1, -, -⟩ := (D.below kb).told
  replace K := below_trans K kb
  clear kb D
  rw [← hmn] at hM
  have HM := hide hM
  obtain ⟨ys, ⟨yo, rfl, -, -⟩, hcan, hval, -⟩ := hM
  have hlen := canon_len hcan hval
  have Hn := hide hn
  have Hmx := hide hmn
  clear hcan hval hn hmn
  have Hlen := hide hlen
  clear hlen
  cases xg
  · skip
    have hng : false = decide (n < 0) := by have h := Hn.out; unfold wn at h; simp at h; rw [decide_eq_false]; omega
    have Hng := hide hng
    clear hng
    go_wp2_with fail
    with_reducible refine (rRound_d (neg := false) (more := false) (e := 0) HM.out.arg (by omega) (by decide) (by decide)).mono ?_
    rintro x' w4 ⟨⟨r, A', e', mb', rfl, hN, hS⟩, kb⟩
    replace K := below_trans K kb
    have HM2 := hide (HM.out.below kb)
    clear kb HM
    have r0 := hN.1
    have r1 := hN.2.1
    have HN := hide (show ∀ r', Near 4503599627370496 (-1074) 9218868437227405312 (2 * mag n + b2i false) (0 - 1) r' → r' = r from fun r' h => stick_same (fr := 52) (by decide) (by decide) Hmn.out h hN hS)
    clear hN hS
    obtain ⟨y1, y2, y3, y4⟩ := sgn_split (S := 9223372036854775808) false r0 (by omega)
    generalize hy : r + b2i false * 9223372036854775808 = y at *
    have HY := hide hy
    clear hy
    go_wp2_with fail
    with_reducible refine (rInt_d _ y r false y3 (by omega) y1 y2).mono ?_
    rintro x' w5 ⟨vb, n2, ok, rfl, hQ, hI, kb⟩
    replace K := below_trans K kb
    have HM3 := hide (HM2.out.below kb)
    clear kb HM2
    have hsn := int_sign (F := 4503599627370496) (L := (-1074)) (S := 9223372036854775808) (by decide) (by decide) (by decide) r0 (by omega) (by unfold est; split <;> omega) (by decide) hI
    have hms := mag_same Hng.out hsn
    have HF : ∀ b, b = (ok && decide (n2 = n)) → Hid (FromR 9223372036854775808 4503599627370496 (-1074) 9218868437227405312 n y b) := by
      intro b hb
      refine hide ⟨r, n2, ok, r0, HN.out, ?_, ?_, hb⟩
      · rw [← Hng.out]; exact HY.out.symm
      · rw [← Hng.out]; exact hI
    clear hI y1 y2 HN HY Hng hsn
    obtain ⟨qg, qo, ql, rfl⟩ := hQ.told
    go_upto_region 4 with fail
    have D2 := cell2_new w5 (.bool qg) (.slice qo ql ql) 28
    have k2 := bel_new w5 (.cells #[.bool qg, .slice qo ql ql] 28)
    replace K := below_trans K k2
    have HM4 := hide (HM3.out.below k2)
    replace hQ := hQ.below k2
    clear k2 HM3
    generalize w5.heap.size = b2 at *
    generalize w5.alloc (.cells #[.bool qg, .slice qo ql ql] 28) = w6 at *
    obtain ⟨d0, d1, -, -⟩ := D2.told
    cases ok
    · have H1 := HF false (by simp)
      clear HF
      go_wp2
      go_ret2
      exact ⟨y, _, rfl, H1.out, K⟩
    go_wp2_with fail
    with_reducible refine (rcmp_any (wnum_sign hQ).2.arg HM4.out.arg (by omega) (by omega)).mono ?_
    rintro x' w7 ⟨rfl, kb⟩
    replace K := below_trans K kb
    have hz := sgn_zero (x := mag n2) (y := mag n)
    rw [hms] at hz
    generalize sgn (mag n2) (mag n) = c at *
    clear d0 d1 kb hQ HM4 D2 hms
    by_cases en : n2 = n
    · have hc : (c == 0) = true := by rw [hz, decide_eq_true en]
      have H1 := HF true (by rw [decide_eq_true en]; rfl)
      clear HF hz en
      go_wp2
      go_ret2
      exact ⟨y, _, rfl, H1.out, K⟩
    · have hc : (c == 0) = false := by rw [hz, decide_eq_false en]
      have H1 := HF false (by rw [decide_eq_false en]; rfl)
      clear HF hz en
      go_wp2
      go_ret2
      exact ⟨y, _, rfl, H1.out, K⟩
  by_cases pos : 0 < ys.length
  · have hp := Hlen.out.1 pos
    have pos' : (0 : Int) < (ys.length : Int) := by omega
    have hng : true = decide (n < 0) := by have h := Hn.out; have h2 := Hmx.out; unfold wn at h; simp at h; rw [decide_eq_true]; omega
    have Hng := hide hng
    clear hng
    go_wp2_with fail
    with_reducible refine (rRound_d (neg := true) (more := false) (e := 0) HM.out.arg (by omega) (by decide) (by decide)).mono ?_
    rintro x' w4 ⟨⟨r, A', e', mb', rfl, hN, hS⟩, kb⟩
    replace K := below_trans K kb
    have HM2 := hide (HM.out.below kb)
    clear kb HM
    have r0 := hN.1
    have r1 := hN.2.1
    have HN := hide (show ∀ r', Near 4503599627370496 (-1074) 9218868437227405312 (2 * mag n + b2i false) (0 - 1) r' → r' = r from fun r' h => stick_same (fr := 52) (by decide) (by decide) Hmn.out h hN hS)
    clear hN hS
    obtain ⟨y1, y2, y3, y4⟩ := sgn_split (S := 9223372036854775808) true r0 (by omega)
    generalize hy : r + b2i true * 9223372036854775808 = y at *
    have HY := hide hy
    clear hy
    go_wp2_with fail
    with_reducible refine (rInt_d _ y r true y3 (by omega) y1 y2).mono ?_
    rintro x' w5 ⟨vb, n2, ok, rfl, hQ, hI, kb⟩
    replace K := below_trans K kb
    have HM3 := hide (HM2.out.below kb)
    clear kb HM2
    have hsn := int_sign (F := 4503599627370496) (L := (-1074)) (S := 9223372036854775808) (by decide) (by decide) (by decide) r0 (by omega) (by unfold est; split <;> omega) (by decide) hI
    have hms := mag_same Hng.out hsn
    have HF : ∀ b, b = (ok && decide (n2 = n)) → Hid (FromR 9223372036854775808 4503599627370496 (-1074) 9218868437227405312 n y b) := by
      intro b hb
      refine hide ⟨r, n2, ok, r0, HN.out, ?_, ?_, hb⟩
      · rw [← Hng.out]; exact HY.out.symm
      · rw [← Hng.out]; exact hI
    clear hI y1 y2 HN HY Hng hsn
    obtain ⟨qg, qo, ql, rfl⟩ := hQ.told
    go_upto_region 4 with fail
    have D2 := cell2_new w5 (.bool qg) (.slice qo ql ql) 28
    have k2 := bel_new w5 (.cells #[.bool qg, .slice qo ql ql] 28)
    replace K := below_trans K k2
    have HM4 := hide (HM3.out.below k2)
    replace hQ := hQ.below k2
    clear k2 HM3
    generalize w5.heap.size = b2 at *
    generalize w5.alloc (.cells #[.bool qg, .slice qo ql ql] 28) = w6 at *
    obtain ⟨d0, d1, -, -⟩ := D2.told
    cases ok
    · have H1 := HF false (by simp)
      clear HF
      go_wp2
      go_ret2
      exact ⟨y, _, rfl, H1.out, K⟩
    go_wp2_with fail
    with_reducible refine (rcmp_any (wnum_sign hQ).2.arg HM4.out.arg (by omega) (by omega)).mono ?_
    rintro x' w7 ⟨rfl, kb⟩
    replace K := below_trans K kb
    have hz := sgn_zero (x := mag n2) (y := mag n)
    rw [hms] at hz
    generalize sgn (mag n2) (mag n) = c at *
    clear d0 d1 kb hQ HM4 D2 hms
    by_cases en : n2 = n
    · have hc : (c == 0) = true := by rw [hz, decide_eq_true en]
      have H1 := HF true (by rw [decide_eq_true en]; rfl)
      clear HF hz en
      go_wp2
      go_ret2
      exact ⟨y, _, rfl, H1.out, K⟩
    · have hc : (c == 0) = false := by rw [hz, decide_eq_false en]
      have H1 := HF false (by rw [decide_eq_false en]; rfl)
      clear HF hz en
      go_wp2
      go_ret2
      exact ⟨y, _, rfl, H1.out, K⟩
  · have hp : ¬ 0 < mag n := fun h => pos (Hlen.out.2 h)
    have pos' : ¬ (0 : Int) < (ys.length : Int) := by omega
    have pos2 : decide ((0 : Int) < (ys.length : Int)) = false := decide_eq_false pos'
    have hng : false = decide (n < 0) := by have h := Hn.out; have h2 := Hmx.out; unfold wn at h; simp at h; rw [decide_eq_false]; omega
    have Hng := hide hng
    clear hng
    go_wp2_with fail
    with_reducible refine (rRound_d (neg := false) (more := false) (e := 0) HM.out.arg (by omega) (by decide) (by decide)).mono ?_
    rintro x' w4 ⟨⟨r, A', e', mb', rfl, hN, hS⟩, kb⟩
    replace K := below_trans K kb
    have HM2 := hide (HM.out.below kb)
    clear kb HM
    have r0 := hN.1
    have r1 := hN.2.1
    have HN := hide (show ∀ r', Near 4503599627370496 (-1074) 9218868437227405312 (2 * mag n + b2i false) (0 - 1) r' → r' = r from fun r' h => stick_same (fr := 52) (by decide) (by decide) Hmn.out h hN hS)
    clear hN hS
    obtain ⟨y1, y2, y3, y4⟩ := sgn_split (S := 9223372036854775808) false r0 (by omega)
    generalize hy : r + b2i false * 9223372036854775808 = y at *
    have HY := hide hy
    clear hy
    go_wp2_with fail
    with_reducible refine (rInt_d _ y r false y3 (by omega) y1 y2).mono ?_
    rintro x' w5 ⟨vb, n2, ok, rfl, hQ, hI, kb⟩
    replace K := below_trans K kb
    have HM3 := hide (HM2.out.below kb)
    clear kb HM2
    have hsn := int_sign (F := 4503599627370496) (L := (-1074)) (S := 9223372036854775808) (by decide) (by decide) (by decide) r0 (by omega) (by unfold est; split <;> omega) (by decide) hI
    have hms := mag_same Hng.out hsn
    have HF : ∀ b, b = (ok && decide (n2 = n)) → Hid (FromR 9223372036854775808 4503599627370496 (-1074) 9218868437227405312 n y b) := by
      intro b hb
      refine hide ⟨r, n2, ok, r0, HN.out, ?_, ?_, hb⟩
      · rw [← Hng.out]; exact HY.out.symm
      · rw [← Hng.out]; exact hI
    clear hI y1 y2 HN HY Hng hsn
    obtain ⟨qg, qo, ql, rfl⟩ := hQ.told
    go_upto_region 4 with fail
    have D2 := cell2_new w5 (.bool qg) (.slice qo ql ql) 28
    have k2 := bel_new w5 (.cells #[.bool qg, .slice qo ql ql] 28)
    replace K := below_trans K k2
    have HM4 := hide (HM3.out.below k2)
    replace hQ := hQ.below k2
    clear k2 HM3
    generalize w5.heap.size = b2 at *
    generalize w5.alloc (.cells #[.bool qg, .slice qo ql ql] 28) = w6 at *
    obtain ⟨d0, d1, -, -⟩ := D2.told
    cases ok
    · have H1 := HF false (by simp)
      clear HF
      go_wp2
      go_ret2
      exact ⟨y, _, rfl, H1.out, K⟩
    go_wp2_with fail
    with_reducible refine (rcmp_any (wnum_sign hQ).2.arg HM4.out.arg (by omega) (by omega)).mono ?_
    rintro x' w7 ⟨rfl, kb⟩
    replace K := below_trans K kb
    have hz := sgn_zero (x := mag n2) (y := mag n)
    rw [hms] at hz
    generalize sgn (mag n2) (mag n) = c at *
    clear d0 d1 kb hQ HM4 D2 hms
    by_cases en : n2 = n
    · have hc : (c == 0) = true := by rw [hz, decide_eq_true en]
      have H1 := HF true (by rw [decide_eq_true en]; rfl)
      clear HF hz en
      go_wp2
      go_ret2
      exact ⟨y, _, rfl, H1.out, K⟩
    · have hc : (c == 0) = false := by rw [hz, decide_eq_false en]
      have H1 := HF false (by rw [decide_eq_false en]; rfl)
      clear HF hz en
      go_wp2
      go_ret2
      exact ⟨y, _, rfl, H1.out, K⟩

end Go.Proofs.YtjigofmcflmelaaGreatDoor
