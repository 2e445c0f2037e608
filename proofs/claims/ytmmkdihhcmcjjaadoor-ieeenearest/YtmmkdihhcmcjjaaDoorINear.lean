/- IeeeNearest's walk (mk_inear.py) -/
import Derived.Test.YtmmkdihhcmcjjaaDoorIeeeQ
import Derived.Test.YtmmkdihhcmcjjaaDoorIScaled
import Derived.Test.YtmmkdihhcmcjjaaDoorAdd
import Derived.Test.YtmmkdihhcmcjjaaDoorCmp
import Derived.Test.YtmmkdihhcmcjjaaDoorNorm
namespace Go.Proofs.YtmmkdihhcmcjjaaDoor
open Go.RowKit
set_option linter.unusedVariables false

set_option maxHeartbeats 2000000 in
theorem against_any {w : World} {va vb : Value} {A C e f : Int} {ka kb : Nat} (ha : Arg w va A ka) (hb : Arg w vb C kb) (hka : ka ≤ 20000) (hkb : kb ≤ 20000) (e0 : -10000 ≤ e) (e1 : e ≤ 10000) (f0 : -10000 ≤ f) (f1 : f ≤ 10000) :
    Calls Tryd.prog 75 #[va, .int .i64 e, vb, .int .i64 f] w fun x w' => x = .returned (.int .i64 (sgn (sc A e (min e f)) (sc C f (min e f)))) ∧ Below w.heap.size w w' := by
  obtain ⟨l, hl⟩ : ∃ l, min e f = l := ⟨_, rfl⟩
  have hmin : (if f < e then f else e) = l := by split <;> omega
  have d0 : 0 ≤ e - l := by omega
  have d1 : 0 ≤ f - l := by omega
  have l0 : -10000 ≤ l := by omega
  have l1 : l ≤ 10000 := by omega
  rw [hl]
  unfold sc
  clear hl
  go_enter Tryd.func75, Tryd.ntmps75
  go_wp2_with fail
  with_reducible refine (scaled_int ha (by omega) d0 (by omega)).mono ?_
  rintro x w1 ⟨v1, rfl, h1, K⟩
  replace hb := hb.below K
  go_wp2_with fail
  with_reducible refine (scaled_int hb (by omega) d1 (by omega)).mono ?_
  rintro x w2 ⟨v2, rfl, h2, kb⟩
  replace h1 := h1.below kb
  replace K := below_trans K kb
  clear kb
  go_wp2_with fail
  with_reducible refine (cmp_any h1.arg h2.arg (by omega) (by omega)).mono ?_
  rintro x w3 ⟨rfl, kb⟩
  replace K := below_trans K kb
  clear h1 h2 kb
  generalize hs : sgn (A * p2 (e - l).toNat) (C * p2 (f - l).toNat) = s
  have HS := hide hs
  clear hs
  go_wp2
  go_ret
  exact ⟨by rw [HS.out]; rfl, K⟩
theorem sgn_scale {x y c : Int} (hc : 0 < c) : sgn (x * c) (y * c) = sgn x y := by
  unfold sgn
  have h1 : x * c < y * c ↔ x < y := ⟨fun h => Int.lt_of_mul_lt_mul_right h (Int.le_of_lt hc), fun h => Int.mul_lt_mul_of_pos_right h hc⟩
  have h2 : y * c < x * c ↔ y < x := ⟨fun h => Int.lt_of_mul_lt_mul_right h (Int.le_of_lt hc), fun h => Int.mul_lt_mul_of_pos_right h hc⟩
  simp only [h1, h2]
/-- what number tells of a size -/
def IsNum (F L s m E : Int) : Prop := 0 ≤ m ∧ L ≤ E ∧ E ≤ 5000 ∧ ∀ B, B ≤ L → sc m E B = um F L B s
theorem mid_sgn {F L s a b f g A e : Int} (hL : -5000 ≤ L) (ha : IsNum F L s a f) (hb : IsNum F L (s + 1) b g) :
    ∀ B, B ≤ e → B ≤ L → sgn (sc A e (min e (min f g - 1))) (sc (a * p2 (f - min f g).toNat + b * p2 (g - min f g).toNat) (min f g - 1) (min e (min f g - 1))) = sgn (2 * sc A e B) (um F L B s + um F L B (s + 1)) := by
  intro B hBe hBL
  obtain ⟨a0, a1, a2, a3⟩ := ha
  obtain ⟨b0, b1, b2, b3⟩ := hb
  rw [← a3 B hBL, ← b3 B hBL]
  have hc := p2_pos (min e (min f g - 1) - (B - 1)).toNat
  rw [← sgn_scale hc, ← sc_shift (by omega) (by omega), ← sc_shift (by omega) (by omega)]
  congr 1
  · unfold sc
    rw [show e - (B - 1) = 1 + (e - B) by omega, p2_toNat_add (by omega) (by omega), show p2 (1 : Int).toNat = 2 from rfl, Int.mul_left_comm]
  · unfold sc
    rw [Int.add_mul, Int.mul_assoc, Int.mul_assoc, ← p2_toNat_add (by omega) (by omega), ← p2_toNat_add (by omega) (by omega), show f - min f g + (min f g - 1 - (B - 1)) = f - B by omega, show g - min f g + (min f g - 1 - (B - 1)) = g - B by omega]

theorem num_low' {B B' : Nat} {w : World} {v : Value} {n : Int} {k : Nat} (h : Num B w v n k) (hb : B' ≤ B) : Num B' w v n k := by
  obtain ⟨zs, ⟨ao, h1, h2, h3⟩, h4⟩ := h
  refine ⟨zs, ⟨ao, h1, h2, fun hp => ?_⟩, h4⟩
  obtain ⟨g, rest, h5, h6, h7⟩ := h3 hp
  exact ⟨g, rest, h5, by omega, h7⟩

set_option maxHeartbeats 2000000 in
theorem lparts_0 {w : World} (L : Lays w) (T : Brn w) (v : Int) (v0 : 0 ≤ v) (v1 : v < 256) (hv : v % 4 = 0) (x s : Int) (ng : Bool) (h0 : 0 ≤ x) (h1 : x < 65536) (hs : x % 32768 = s) (hng : ng = decide (32768 ≤ x)) : Calls Tryd.prog 24 #[.int .u8 v, .int .u64 x] w fun e w' => ∃ a m E ok, e = .returned (.tuple #[.bool a, .int .u64 m, .int .i64 E, .bool ok]) ∧ PartIs 1024 (-24) 31744 s ng a m E ok ∧ Below w.heap.size w w' := by
  go_enter Tryd.func24, Tryd.ntmps24
  go_wp2_with fail
  with_reducible refine (parts_16 L T x s ng h0 h1 hs hng).mono ?_
  rintro x' w1 ⟨a, m, E, ok, rfl, hP, K⟩
  have HP := hide hP
  clear hP
  go_wp2
  (try simp only [Exit.inBlock, Exit.then])
  exact bodyPost_ret (v := .tuple #[.bool a, .int .u64 m, .int .i64 E, .bool ok]) (by simp [results, Tryd.results24, go_sem]) rfl ⟨_, _, _, _, rfl, HP.out, K⟩
theorem part_num_0 {s m E : Int} {a ok : Bool} (s0 : 0 ≤ s) (s1 : s < 31744) (h : PartIs 1024 (-24) 31744 s false a m E ok) : IsNum 1024 (-24) s m E ∧ m < 32768 := by
  obtain ⟨_, h2⟩ := h
  obtain ⟨_, _, p, q⟩ := h2 s1
  rcases Int.lt_or_eq_of_le s0 with c | c
  · obtain ⟨o, n, n64, hm, hE⟩ := q c
    obtain ⟨m0, m1⟩ := mst_range (F := 1024) (s := s) (S := 32768) (by decide) c (by decide) (by omega)
    have hp := p2_pos n
    have e0 := est_ge (F := 1024) (L := (-24)) (s := s) (by decide)
    have e1 : est 1024 (-24) s ≤ 2047 := by unfold est; split <;> omega
    have mp : 0 < m := by
      rcases Int.lt_or_le 0 m with g | g
      · exact g
      · have : m * p2 n ≤ 0 := Int.mul_nonpos_of_nonpos_of_nonneg g (by omega)
        omega
    refine ⟨⟨by omega, by omega, by omega, fun B hB => ?_⟩, ?_⟩
    · unfold um
      rw [hE, sc_up (by omega), ← hm]
    · have : m * 1 ≤ m * p2 n := Int.mul_le_mul_of_nonneg_left (by omega) (by omega)
      omega
  · subst c
    obtain ⟨rfl, rfl⟩ := p rfl
    refine ⟨⟨by omega, by decide, by decide, fun B hB => ?_⟩, by decide⟩
    unfold um sc mst
    rw [if_pos (by decide), Int.zero_mul, Int.zero_mul]
theorem top_num_0 {m E : Int} {a ok : Bool} (h : PartIs 1024 (-24) 31744 31743 false a m E ok) : IsNum 1024 (-24) 31744 (m + 1) E ∧ m = 2047 := by
  obtain ⟨rfl, rfl, rfl, rfl⟩ := h.unique (by decide) ⟨fun h => by omega, fun _ => ⟨rfl, rfl, fun h => by omega, fun _ => ⟨(by decide : (2047 : Int) % 2 = 1), 0, by decide, by decide, rfl⟩⟩⟩
  refine ⟨⟨by decide, by decide, by decide, fun B hB => ?_⟩, rfl⟩
  have h1 := um_succ (F := 1024) (L := (-24)) (B := B) (s := 31743) (by decide) (by decide) hB
  rw [show (31743 + 1 : Int) = 31744 by decide] at h1
  rw [h1]
  unfold um sc
  rw [show mst 1024 31743 = 2047 by decide, show ((0 : Nat) : Int) = 0 from rfl, Int.add_zero, Int.add_mul, Int.one_mul]
set_option maxHeartbeats 4000000 in
theorem number_0 {w : World} (L : Lays w) (T : Brn w) (v : Int) (v0 : 0 ≤ v) (v1 : v < 256) (hv : v % 4 = 0) (s : Int) (s0 : 0 ≤ s) (s1 : s ≤ 31744) : Calls Tryd.prog 74 #[.int .u8 v, .int .u64 s] w fun x w' => ∃ va m E, x = .returned (.tuple #[va, .int .i64 E]) ∧ Num w.heap.size w' va m 2 ∧ IsNum 1024 (-24) s m E ∧ Below w.heap.size w w' := by
  go_enter Tryd.func74, Tryd.ntmps74
  go_wp2_with fail
  with_reducible refine (ltop_0 _ v v0 v1 hv).mono ?_
  rintro x' u49 ⟨rfl, rfl⟩
  by_cases c : s = 31744
  · have c' : (s == 31744) = true := by simp [c]
    subst c
    go_wp2_with fail
    with_reducible refine (lparts_0 L T v v0 v1 hv 31743 31743 false (by decide) (by decide) (by decide) (by decide)).mono ?_
    rintro x w1 ⟨a, m, E, ok, rfl, hP, K⟩
    obtain ⟨hN, hm⟩ := top_num_0 hP
    have HN := hide hN
    have HP := hide hP
    clear hP hN
    have m0 : 0 ≤ m := by omega
    have m1 : m < 9223372036854775808 := by omega
    clear hm
    go_wp2_with fail
    with_reducible refine (from_any (m + 1) (by omega) (by omega)).mono ?_
    rintro x w2 ⟨vn, rfl, h2, kb⟩
    have H2 := hide (num_low' h2 K.size)
    clear h2
    go_wp2
    go_ret2
    exact ⟨vn, _, _, rfl, H2.out, HN.out, below_trans K kb⟩
  · have c' : (s == 31744) = false := by simp [c]
    go_wp2_with fail
    with_reducible refine (lparts_0 L T v v0 v1 hv s s false s0 (by omega) (by omega) (by rw [decide_eq_false]; omega)).mono ?_
    rintro x w1 ⟨a, m, E, ok, rfl, hP, K⟩
    obtain ⟨hN, hm⟩ := part_num_0 s0 (by omega) hP
    have HN := hide hN
    have HP := hide hP
    have m0 := hN.1
    clear hP hN
    go_wp2_with fail
    with_reducible refine (from_any m m0 (by omega)).mono ?_
    rintro x w2 ⟨vn, rfl, h2, kb⟩
    have H2 := hide (num_low' h2 K.size)
    clear h2 hm
    go_wp2
    go_ret2
    exact ⟨vn, _, _, rfl, H2.out, HN.out, below_trans K kb⟩
set_option maxHeartbeats 4000000 in
theorem middle_0 {w : World} (L : Lays w) (T : Brn w) (v : Int) (v0 : 0 ≤ v) (v1 : v < 256) (hv : v % 4 = 0) (s : Int) (s0 : 0 ≤ s) (s1 : s < 31744) {va : Value} {A e : Int} {ka : Nat} (ha : Arg w va A ka) (hka : ka ≤ 1000) (e0 : -5000 ≤ e) (e1 : e ≤ 5000) :
    Calls Tryd.prog 30 #[.int .u8 v, .int .u64 s, va, .int .i64 e] w fun x w' => ∃ c, x = .returned (.int .i64 c) ∧ (∀ B, B ≤ e → B ≤ (-24) → c = sgn (2 * sc A e B) (um 1024 (-24) B s + um 1024 (-24) B (s + 1))) ∧ Below w.heap.size w w' := by
  go_enter Tryd.func30, Tryd.ntmps30
  go_wp2_with fail
  with_reducible refine (number_0 L T v v0 v1 hv s s0 (by omega)).mono ?_
  rintro x' u50 ⟨q1, a, f, rfl, h1, n1, K⟩
  have ha1 := ha.below K
  go_wp2_with fail
  with_reducible refine (number_0 (L.below K) (T.below K) v v0 v1 hv (s + 1) (by omega) (by omega)).mono ?_
  rintro x' u51 ⟨q2, b, g, rfl, h2, n2, kb⟩
  replace h1 := h1.below kb; replace ha1 := ha1.below kb; replace K := below_trans K kb; clear kb
  have HM := hide (mid_sgn (A := A) (e := e) (by decide) n1 n2)
  obtain ⟨-, f0, f1, -⟩ := n1
  obtain ⟨-, g0, g1, -⟩ := n2
  obtain ⟨l, hl⟩ : ∃ l, min f g = l := ⟨_, rfl⟩
  have hmin : (if g < f then g else f) = l := by split <;> omega
  rw [hl] at HM
  have d0 : 0 ≤ f - l := by omega
  have d1 : 0 ≤ g - l := by omega
  have l0 : (-24) ≤ l := by omega
  have l1 : l ≤ 5000 := by omega
  clear hl
  go_wp2_with fail
  with_reducible refine (scaled_int h1.arg (by omega) d0 (by omega)).mono ?_
  rintro x' u52 ⟨q3, rfl, h3, kb⟩
  replace h2 := h2.below kb; replace ha1 := ha1.below kb; replace K := below_trans K kb; clear kb
  go_wp2_with fail
  with_reducible refine (scaled_int h2.arg (by omega) d1 (by omega)).mono ?_
  rintro x' u53 ⟨q4, rfl, h4, kb⟩
  replace h3 := h3.below kb; replace ha1 := ha1.below kb; replace K := below_trans K kb; clear kb
  go_wp2_with fail
  with_reducible refine (add_any h3.arg h4.arg (by omega) (by omega)).mono ?_
  rintro x' u54 ⟨q5, rfl, h5, kb⟩
  replace ha1 := ha1.below kb; replace K := below_trans K kb; clear kb
  go_wp2_with fail
  with_reducible refine (against_any ha1 h5.arg (by omega) (by omega) (by omega) (by omega) (by omega) (by omega)).mono ?_
  rintro x' u55 ⟨rfl, kb⟩
  replace K := below_trans K kb; clear kb
  generalize hc : sgn _ _ = c at *
  have HC := hide hc
  clear hc
  go_wp2
  go_ret
  exact ⟨c, rfl, fun B h1 h2 => by first | exact HM.out B h1 h2 | exact HC.out.symm.trans (HM.out B h1 h2), K⟩

theorem nmath_0 {A e r mb : Int} (hN : Near 1024 (-24) 31744 (2 * A + mb) (e - 1) r) : 
    (∀ c, r < 31744 → (∀ B, B ≤ e - 1 → B ≤ (-24) → c = sgn (2 * sc (2 * A + mb) (e - 1) B) (um 1024 (-24) B r + um 1024 (-24) B (r + 1))) → c ≤ 0 ∧ (c = 0 → r % 2 = 0)) ∧
    (∀ c, 0 < r → (∀ B, B ≤ e - 1 → B ≤ (-24) → c = sgn (2 * sc (2 * A + mb) (e - 1) B) (um 1024 (-24) B (r - 1) + um 1024 (-24) B (r - 1 + 1))) → 0 ≤ c ∧ (c = 0 → r % 2 = 0)) := by
  obtain ⟨_, _, h⟩ := hN
  obtain ⟨h1, h2⟩ := h (min (e - 1) (-24)) (by omega) (by omega)
  refine ⟨fun c hr hc => ?_, fun c hr hc => ?_⟩
  · have e1 := hc (min (e - 1) (-24)) (by omega) (by omega)
    obtain ⟨g1, g2⟩ := h1 hr
    unfold sgn at e1
    split at e1
    · exact ⟨by omega, fun e => by omega⟩
    · split at e1
      · omega
      · exact ⟨by omega, fun _ => g2 (by omega)⟩
  · have e1 := hc (min (e - 1) (-24)) (by omega) (by omega)
    obtain ⟨g1, g2⟩ := h2 hr
    rw [Int.sub_add_cancel] at e1
    unfold sgn at e1
    split at e1
    · omega
    · split at e1
      · exact ⟨by omega, fun e => by omega⟩
      · exact ⟨by omega, fun _ => g2 (by omega)⟩
theorem ndouble_0 {A e s c : Int} (h : ∀ B, B ≤ e → B ≤ (-24) → c = sgn (2 * sc A e B) (um 1024 (-24) B s + um 1024 (-24) B (s + 1))) : ∀ B, B ≤ e - 1 → B ≤ (-24) → c = sgn (2 * sc (2 * A + 0) (e - 1) B) (um 1024 (-24) B s + um 1024 (-24) B (s + 1)) := by
  intro B h1 h2
  have e1 := sc_up (N := A) (E := e - 1) (B := B) (k := 1) h1
  rw [show e - 1 + ((1 : Nat) : Int) = e by omega, show A * p2 1 = 2 * A + 0 by rw [show p2 1 = 2 from rfl]; omega] at e1
  rw [← e1]
  exact h B (by omega) h2

set_option maxRecDepth 20000 in
set_option maxHeartbeats 8000000 in
theorem inear_0 {w : World} (L : Lays w) (T : Brn w) (v : Int) (v0 : 0 ≤ v) (v1 : v < 256) (hv : v % 4 = 0) {va : Value} {xs : List Int} (ha : Reads .u32 w va xs) (oa : Nt.Ok xs) (la : xs.length ≤ 70368744177664) (p : Int) (p0 : -32768 ≤ p) (p1 : p < 32768) (more : Bool) :
    Calls Tryd.prog 7 #[.int .u8 v, va, .int .i16 p, .bool more] w fun x w' => x = .returned (.bool true) ∧ Below w.heap.size w w' := by
  obtain ⟨ao, ca, rfl, ha1, ha2, ha3⟩ := ha
  have h_r : Reads .u32 w (.slice ao xs.length ca) xs := ⟨ao, ca, rfl, ha1, ha2, ha3⟩
  clear ha1 ha2 ha3
  have K := Below.refl w.heap.size w
  go_enter Tryd.func7, Tryd.ntmps7
  go_wp2_with fail
  with_reducible refine (lives_ok L T).mono ?_
  rintro x' u56 ⟨rfl, K⟩
  by_cases big : (60 : Int) < (xs.length : Int)
  · go_wp2
    go_ret
    exact ⟨rfl, K⟩
  have hlx : xs.length ≤ 60 := by omega
  have h_a : Arg _ (.slice ao xs.length ca) (Nt.val xs) 60 := ⟨xs, h_r.below K, oa, rfl, hlx⟩
  have A0 := h_a.nonneg
  clear h_r
  generalize Nt.val xs = A at *
  obtain ⟨e, he⟩ : ∃ e, p.tmod 2000 = e := ⟨_, rfl⟩
  have eb0 : -2000 ≤ e ∧ e ≤ 2000 := by
    subst he
    have h1 := Int.tmod_lt_of_pos p (b := 2000) (by decide)
    have h2 := Int.lt_tmod_of_pos p (b := 2000) (by decide)
    omega
  obtain ⟨eb1, eb2⟩ := eb0
  go_wp2_with fail
  with_reducible refine (lround_0 (L.below K) v v0 v1 hv (e := e) (more := more) h_a (by decide) (by omega) (by omega)).mono ?_
  rintro x' u57 ⟨r1, rfl, N1, kb⟩
  replace K := below_trans K kb; replace h_a := h_a.below kb; clear kb
  rw [show r1 + b2i false * 32768 = r1 by rw [show b2i false = 0 from rfl]; omega]
  have r10 := N1.1
  have r1I := N1.2.1
  have NM := hide (nmath_0 N1)
  clear N1
  cases more
  · skip
    go_wp2_with fail
    with_reducible refine (ltop_0 _ v v0 v1 hv).mono ?_
    rintro x' u58 ⟨rfl, rfl⟩
    go_wp2_with fail
    with_reducible refine (ltop_0 _ v v0 v1 hv).mono ?_
    rintro x' u59 ⟨rfl, rfl⟩
    by_cases rt : r1 < 31744
    · go_wp2_with fail
      with_reducible refine (middle_0 (L.below K) (T.below K) v v0 v1 hv r1 r10 rt h_a (by decide) (by omega) (by omega)).mono ?_
      rintro x' u60 ⟨c1, rfl, hc1, kb⟩
      replace h_a := h_a.below kb; replace K := below_trans K kb; clear kb
      obtain ⟨d0, d1⟩ := NM.out.1 c1 rt (ndouble_0 hc1)
      have Hd := hide d1
      clear hc1 d1
      by_cases y : c1 = 0
      · have ev := Hd.out y
        have y' : (c1 == 0) = true := by simp [y]
        have y2 : ¬ 0 < c1 := by omega
        have od : (r1 % 2 == 1) = false := by simp [ev]
        clear y
        by_cases rp : 0 < r1
        · go_wp2_with fail
          with_reducible refine (middle_0 (L.below K) (T.below K) v v0 v1 hv (r1 - 1) (by omega) (by omega) h_a (by decide) (by omega) (by omega)).mono ?_
          rintro x' u61 ⟨c2, rfl, hc2, kb⟩
          replace K := below_trans K kb; clear kb
          obtain ⟨d0, d1⟩ := NM.out.2 c2 rp (ndouble_0 hc2)
          have Hd := hide d1
          clear hc2 d1
          by_cases z : c2 = 0
          · have ev := Hd.out z
            have z' : (c2 == 0) = true := by simp [z]
            have z2 : ¬ 0 < c2 := by omega
            have ev' : (r1 % 2 == 0) = true := by simp [ev]
            clear z
            go_wp2
            go_ret
            exact ⟨rfl, K⟩
          · have z2 : 0 < c2 := by omega
            clear z
            go_wp2
            go_ret
            exact ⟨rfl, K⟩
        · first
            | (exfalso; omega)
            | (go_wp2; go_ret; exact ⟨rfl, K⟩)
      · have y' : (c1 == 0) = false := by simp [y]
        have y2 : ¬ 0 < c1 := by omega
        clear y
        by_cases rp : 0 < r1
        · go_wp2_with fail
          with_reducible refine (middle_0 (L.below K) (T.below K) v v0 v1 hv (r1 - 1) (by omega) (by omega) h_a (by decide) (by omega) (by omega)).mono ?_
          rintro x' u62 ⟨c2, rfl, hc2, kb⟩
          replace K := below_trans K kb; clear kb
          obtain ⟨d0, d1⟩ := NM.out.2 c2 rp (ndouble_0 hc2)
          have Hd := hide d1
          clear hc2 d1
          by_cases z : c2 = 0
          · have ev := Hd.out z
            have z' : (c2 == 0) = true := by simp [z]
            have z2 : ¬ 0 < c2 := by omega
            have ev' : (r1 % 2 == 0) = true := by simp [ev]
            clear z
            go_wp2
            go_ret
            exact ⟨rfl, K⟩
          · have z2 : 0 < c2 := by omega
            clear z
            go_wp2
            go_ret
            exact ⟨rfl, K⟩
        · first
            | (exfalso; omega)
            | (go_wp2; go_ret; exact ⟨rfl, K⟩)
    · skip
      by_cases rp : 0 < r1
      · go_wp2_with fail
        with_reducible refine (middle_0 (L.below K) (T.below K) v v0 v1 hv (r1 - 1) (by omega) (by omega) h_a (by decide) (by omega) (by omega)).mono ?_
        rintro x' u63 ⟨c2, rfl, hc2, kb⟩
        replace K := below_trans K kb; clear kb
        obtain ⟨d0, d1⟩ := NM.out.2 c2 rp (ndouble_0 hc2)
        have Hd := hide d1
        clear hc2 d1
        by_cases z : c2 = 0
        · have ev := Hd.out z
          have z' : (c2 == 0) = true := by simp [z]
          have z2 : ¬ 0 < c2 := by omega
          have ev' : (r1 % 2 == 0) = true := by simp [ev]
          clear z
          go_wp2
          go_ret
          exact ⟨rfl, K⟩
        · have z2 : 0 < c2 := by omega
          clear z
          go_wp2
          go_ret
          exact ⟨rfl, K⟩
      · first
          | (exfalso; omega)
          | (go_wp2; go_ret; exact ⟨rfl, K⟩)
  · skip
    go_wp2_with fail
    with_reducible refine (add_any h_a h_a (by decide) (by decide)).mono ?_
    rintro x' u64 ⟨q1, rfl, h_b, kb⟩
    replace K := below_trans K kb; replace h_a := h_a.below kb; clear kb
    go_wp2_with fail
    with_reducible refine (from_any 1 (by decide) (by decide)).mono ?_
    rintro x' u65 ⟨q2, rfl, h_c, kb⟩
    replace K := below_trans K kb; replace h_b := h_b.below kb; clear kb
    go_wp2_with fail
    with_reducible refine (add_any h_b.arg h_c.arg (by decide) (by decide)).mono ?_
    rintro x' u66 ⟨q3, rfl, h_d, kb⟩
    replace K := below_trans K kb; clear kb
    replace h_a := h_d.arg
    rw [show A + A + 1 = 2 * A + b2i true by rw [show b2i true = 1 from rfl]; omega] at h_a
    clear h_b h_c h_d
    go_wp2_with fail
    with_reducible refine (ltop_0 _ v v0 v1 hv).mono ?_
    rintro x' u67 ⟨rfl, rfl⟩
    go_wp2_with fail
    with_reducible refine (ltop_0 _ v v0 v1 hv).mono ?_
    rintro x' u68 ⟨rfl, rfl⟩
    by_cases rt : r1 < 31744
    · go_wp2_with fail
      with_reducible refine (middle_0 (L.below K) (T.below K) v v0 v1 hv r1 r10 rt h_a (by decide) (by omega) (by omega)).mono ?_
      rintro x' u69 ⟨c1, rfl, hc1, kb⟩
      replace h_a := h_a.below kb; replace K := below_trans K kb; clear kb
      obtain ⟨d0, d1⟩ := NM.out.1 c1 rt (hc1)
      have Hd := hide d1
      clear hc1 d1
      by_cases y : c1 = 0
      · have ev := Hd.out y
        have y' : (c1 == 0) = true := by simp [y]
        have y2 : ¬ 0 < c1 := by omega
        have od : (r1 % 2 == 1) = false := by simp [ev]
        clear y
        by_cases rp : 0 < r1
        · go_wp2_with fail
          with_reducible refine (middle_0 (L.below K) (T.below K) v v0 v1 hv (r1 - 1) (by omega) (by omega) h_a (by decide) (by omega) (by omega)).mono ?_
          rintro x' u70 ⟨c2, rfl, hc2, kb⟩
          replace K := below_trans K kb; clear kb
          obtain ⟨d0, d1⟩ := NM.out.2 c2 rp (hc2)
          have Hd := hide d1
          clear hc2 d1
          by_cases z : c2 = 0
          · have ev := Hd.out z
            have z' : (c2 == 0) = true := by simp [z]
            have z2 : ¬ 0 < c2 := by omega
            have ev' : (r1 % 2 == 0) = true := by simp [ev]
            clear z
            go_wp2
            go_ret
            exact ⟨rfl, K⟩
          · have z2 : 0 < c2 := by omega
            clear z
            go_wp2
            go_ret
            exact ⟨rfl, K⟩
        · first
            | (exfalso; omega)
            | (go_wp2; go_ret; exact ⟨rfl, K⟩)
      · have y' : (c1 == 0) = false := by simp [y]
        have y2 : ¬ 0 < c1 := by omega
        clear y
        by_cases rp : 0 < r1
        · go_wp2_with fail
          with_reducible refine (middle_0 (L.below K) (T.below K) v v0 v1 hv (r1 - 1) (by omega) (by omega) h_a (by decide) (by omega) (by omega)).mono ?_
          rintro x' u71 ⟨c2, rfl, hc2, kb⟩
          replace K := below_trans K kb; clear kb
          obtain ⟨d0, d1⟩ := NM.out.2 c2 rp (hc2)
          have Hd := hide d1
          clear hc2 d1
          by_cases z : c2 = 0
          · have ev := Hd.out z
            have z' : (c2 == 0) = true := by simp [z]
            have z2 : ¬ 0 < c2 := by omega
            have ev' : (r1 % 2 == 0) = true := by simp [ev]
            clear z
            go_wp2
            go_ret
            exact ⟨rfl, K⟩
          · have z2 : 0 < c2 := by omega
            clear z
            go_wp2
            go_ret
            exact ⟨rfl, K⟩
        · first
            | (exfalso; omega)
            | (go_wp2; go_ret; exact ⟨rfl, K⟩)
    · skip
      by_cases rp : 0 < r1
      · go_wp2_with fail
        with_reducible refine (middle_0 (L.below K) (T.below K) v v0 v1 hv (r1 - 1) (by omega) (by omega) h_a (by decide) (by omega) (by omega)).mono ?_
        rintro x' u72 ⟨c2, rfl, hc2, kb⟩
        replace K := below_trans K kb; clear kb
        obtain ⟨d0, d1⟩ := NM.out.2 c2 rp (hc2)
        have Hd := hide d1
        clear hc2 d1
        by_cases z : c2 = 0
        · have ev := Hd.out z
          have z' : (c2 == 0) = true := by simp [z]
          have z2 : ¬ 0 < c2 := by omega
          have ev' : (r1 % 2 == 0) = true := by simp [ev]
          clear z
          go_wp2
          go_ret
          exact ⟨rfl, K⟩
        · have z2 : 0 < c2 := by omega
          clear z
          go_wp2
          go_ret
          exact ⟨rfl, K⟩
      · first
          | (exfalso; omega)
          | (go_wp2; go_ret; exact ⟨rfl, K⟩)

set_option maxHeartbeats 2000000 in
theorem lparts_1 {w : World} (L : Lays w) (T : Brn w) (v : Int) (v0 : 0 ≤ v) (v1 : v < 256) (hv : v % 4 = 1) (x s : Int) (ng : Bool) (h0 : 0 ≤ x) (h1 : x < 4294967296) (hs : x % 2147483648 = s) (hng : ng = decide (2147483648 ≤ x)) : Calls Tryd.prog 24 #[.int .u8 v, .int .u64 x] w fun e w' => ∃ a m E ok, e = .returned (.tuple #[.bool a, .int .u64 m, .int .i64 E, .bool ok]) ∧ PartIs 8388608 (-149) 2139095040 s ng a m E ok ∧ Below w.heap.size w w' := by
  go_enter Tryd.func24, Tryd.ntmps24
  go_wp2_with fail
  with_reducible refine (parts_32 L T x s ng h0 h1 hs hng).mono ?_
  rintro x' w1 ⟨a, m, E, ok, rfl, hP, K⟩
  have HP := hide hP
  clear hP
  go_wp2
  (try simp only [Exit.inBlock, Exit.then])
  exact bodyPost_ret (v := .tuple #[.bool a, .int .u64 m, .int .i64 E, .bool ok]) (by simp [results, Tryd.results24, go_sem]) rfl ⟨_, _, _, _, rfl, HP.out, K⟩
theorem part_num_1 {s m E : Int} {a ok : Bool} (s0 : 0 ≤ s) (s1 : s < 2139095040) (h : PartIs 8388608 (-149) 2139095040 s false a m E ok) : IsNum 8388608 (-149) s m E ∧ m < 2147483648 := by
  obtain ⟨_, h2⟩ := h
  obtain ⟨_, _, p, q⟩ := h2 s1
  rcases Int.lt_or_eq_of_le s0 with c | c
  · obtain ⟨o, n, n64, hm, hE⟩ := q c
    obtain ⟨m0, m1⟩ := mst_range (F := 8388608) (s := s) (S := 2147483648) (by decide) c (by decide) (by omega)
    have hp := p2_pos n
    have e0 := est_ge (F := 8388608) (L := (-149)) (s := s) (by decide)
    have e1 : est 8388608 (-149) s ≤ 2047 := by unfold est; split <;> omega
    have mp : 0 < m := by
      rcases Int.lt_or_le 0 m with g | g
      · exact g
      · have : m * p2 n ≤ 0 := Int.mul_nonpos_of_nonpos_of_nonneg g (by omega)
        omega
    refine ⟨⟨by omega, by omega, by omega, fun B hB => ?_⟩, ?_⟩
    · unfold um
      rw [hE, sc_up (by omega), ← hm]
    · have : m * 1 ≤ m * p2 n := Int.mul_le_mul_of_nonneg_left (by omega) (by omega)
      omega
  · subst c
    obtain ⟨rfl, rfl⟩ := p rfl
    refine ⟨⟨by omega, by decide, by decide, fun B hB => ?_⟩, by decide⟩
    unfold um sc mst
    rw [if_pos (by decide), Int.zero_mul, Int.zero_mul]
theorem top_num_1 {m E : Int} {a ok : Bool} (h : PartIs 8388608 (-149) 2139095040 2139095039 false a m E ok) : IsNum 8388608 (-149) 2139095040 (m + 1) E ∧ m = 16777215 := by
  obtain ⟨rfl, rfl, rfl, rfl⟩ := h.unique (by decide) ⟨fun h => by omega, fun _ => ⟨rfl, rfl, fun h => by omega, fun _ => ⟨(by decide : (16777215 : Int) % 2 = 1), 0, by decide, by decide, rfl⟩⟩⟩
  refine ⟨⟨by decide, by decide, by decide, fun B hB => ?_⟩, rfl⟩
  have h1 := um_succ (F := 8388608) (L := (-149)) (B := B) (s := 2139095039) (by decide) (by decide) hB
  rw [show (2139095039 + 1 : Int) = 2139095040 by decide] at h1
  rw [h1]
  unfold um sc
  rw [show mst 8388608 2139095039 = 16777215 by decide, show ((0 : Nat) : Int) = 0 from rfl, Int.add_zero, Int.add_mul, Int.one_mul]
set_option maxHeartbeats 4000000 in
theorem number_1 {w : World} (L : Lays w) (T : Brn w) (v : Int) (v0 : 0 ≤ v) (v1 : v < 256) (hv : v % 4 = 1) (s : Int) (s0 : 0 ≤ s) (s1 : s ≤ 2139095040) : Calls Tryd.prog 74 #[.int .u8 v, .int .u64 s] w fun x w' => ∃ va m E, x = .returned (.tuple #[va, .int .i64 E]) ∧ Num w.heap.size w' va m 2 ∧ IsNum 8388608 (-149) s m E ∧ Below w.heap.size w w' := by
  go_enter Tryd.func74, Tryd.ntmps74
  go_wp2_with fail
  with_reducible refine (ltop_1 _ v v0 v1 hv).mono ?_
  rintro x' u73 ⟨rfl, rfl⟩
  by_cases c : s = 2139095040
  · have c' : (s == 2139095040) = true := by simp [c]
    subst c
    go_wp2_with fail
    with_reducible refine (lparts_1 L T v v0 v1 hv 2139095039 2139095039 false (by decide) (by decide) (by decide) (by decide)).mono ?_
    rintro x w1 ⟨a, m, E, ok, rfl, hP, K⟩
    obtain ⟨hN, hm⟩ := top_num_1 hP
    have HN := hide hN
    have HP := hide hP
    clear hP hN
    have m0 : 0 ≤ m := by omega
    have m1 : m < 9223372036854775808 := by omega
    clear hm
    go_wp2_with fail
    with_reducible refine (from_any (m + 1) (by omega) (by omega)).mono ?_
    rintro x w2 ⟨vn, rfl, h2, kb⟩
    have H2 := hide (num_low' h2 K.size)
    clear h2
    go_wp2
    go_ret2
    exact ⟨vn, _, _, rfl, H2.out, HN.out, below_trans K kb⟩
  · have c' : (s == 2139095040) = false := by simp [c]
    go_wp2_with fail
    with_reducible refine (lparts_1 L T v v0 v1 hv s s false s0 (by omega) (by omega) (by rw [decide_eq_false]; omega)).mono ?_
    rintro x w1 ⟨a, m, E, ok, rfl, hP, K⟩
    obtain ⟨hN, hm⟩ := part_num_1 s0 (by omega) hP
    have HN := hide hN
    have HP := hide hP
    have m0 := hN.1
    clear hP hN
    go_wp2_with fail
    with_reducible refine (from_any m m0 (by omega)).mono ?_
    rintro x w2 ⟨vn, rfl, h2, kb⟩
    have H2 := hide (num_low' h2 K.size)
    clear h2 hm
    go_wp2
    go_ret2
    exact ⟨vn, _, _, rfl, H2.out, HN.out, below_trans K kb⟩
set_option maxHeartbeats 4000000 in
theorem middle_1 {w : World} (L : Lays w) (T : Brn w) (v : Int) (v0 : 0 ≤ v) (v1 : v < 256) (hv : v % 4 = 1) (s : Int) (s0 : 0 ≤ s) (s1 : s < 2139095040) {va : Value} {A e : Int} {ka : Nat} (ha : Arg w va A ka) (hka : ka ≤ 1000) (e0 : -5000 ≤ e) (e1 : e ≤ 5000) :
    Calls Tryd.prog 30 #[.int .u8 v, .int .u64 s, va, .int .i64 e] w fun x w' => ∃ c, x = .returned (.int .i64 c) ∧ (∀ B, B ≤ e → B ≤ (-149) → c = sgn (2 * sc A e B) (um 8388608 (-149) B s + um 8388608 (-149) B (s + 1))) ∧ Below w.heap.size w w' := by
  go_enter Tryd.func30, Tryd.ntmps30
  go_wp2_with fail
  with_reducible refine (number_1 L T v v0 v1 hv s s0 (by omega)).mono ?_
  rintro x' u74 ⟨q1, a, f, rfl, h1, n1, K⟩
  have ha1 := ha.below K
  go_wp2_with fail
  with_reducible refine (number_1 (L.below K) (T.below K) v v0 v1 hv (s + 1) (by omega) (by omega)).mono ?_
  rintro x' u75 ⟨q2, b, g, rfl, h2, n2, kb⟩
  replace h1 := h1.below kb; replace ha1 := ha1.below kb; replace K := below_trans K kb; clear kb
  have HM := hide (mid_sgn (A := A) (e := e) (by decide) n1 n2)
  obtain ⟨-, f0, f1, -⟩ := n1
  obtain ⟨-, g0, g1, -⟩ := n2
  obtain ⟨l, hl⟩ : ∃ l, min f g = l := ⟨_, rfl⟩
  have hmin : (if g < f then g else f) = l := by split <;> omega
  rw [hl] at HM
  have d0 : 0 ≤ f - l := by omega
  have d1 : 0 ≤ g - l := by omega
  have l0 : (-149) ≤ l := by omega
  have l1 : l ≤ 5000 := by omega
  clear hl
  go_wp2_with fail
  with_reducible refine (scaled_int h1.arg (by omega) d0 (by omega)).mono ?_
  rintro x' u76 ⟨q3, rfl, h3, kb⟩
  replace h2 := h2.below kb; replace ha1 := ha1.below kb; replace K := below_trans K kb; clear kb
  go_wp2_with fail
  with_reducible refine (scaled_int h2.arg (by omega) d1 (by omega)).mono ?_
  rintro x' u77 ⟨q4, rfl, h4, kb⟩
  replace h3 := h3.below kb; replace ha1 := ha1.below kb; replace K := below_trans K kb; clear kb
  go_wp2_with fail
  with_reducible refine (add_any h3.arg h4.arg (by omega) (by omega)).mono ?_
  rintro x' u78 ⟨q5, rfl, h5, kb⟩
  replace ha1 := ha1.below kb; replace K := below_trans K kb; clear kb
  go_wp2_with fail
  with_reducible refine (against_any ha1 h5.arg (by omega) (by omega) (by omega) (by omega) (by omega) (by omega)).mono ?_
  rintro x' u79 ⟨rfl, kb⟩
  replace K := below_trans K kb; clear kb
  generalize hc : sgn _ _ = c at *
  have HC := hide hc
  clear hc
  go_wp2
  go_ret
  exact ⟨c, rfl, fun B h1 h2 => by first | exact HM.out B h1 h2 | exact HC.out.symm.trans (HM.out B h1 h2), K⟩

theorem nmath_1 {A e r mb : Int} (hN : Near 8388608 (-149) 2139095040 (2 * A + mb) (e - 1) r) : 
    (∀ c, r < 2139095040 → (∀ B, B ≤ e - 1 → B ≤ (-149) → c = sgn (2 * sc (2 * A + mb) (e - 1) B) (um 8388608 (-149) B r + um 8388608 (-149) B (r + 1))) → c ≤ 0 ∧ (c = 0 → r % 2 = 0)) ∧
    (∀ c, 0 < r → (∀ B, B ≤ e - 1 → B ≤ (-149) → c = sgn (2 * sc (2 * A + mb) (e - 1) B) (um 8388608 (-149) B (r - 1) + um 8388608 (-149) B (r - 1 + 1))) → 0 ≤ c ∧ (c = 0 → r % 2 = 0)) := by
  obtain ⟨_, _, h⟩ := hN
  obtain ⟨h1, h2⟩ := h (min (e - 1) (-149)) (by omega) (by omega)
  refine ⟨fun c hr hc => ?_, fun c hr hc => ?_⟩
  · have e1 := hc (min (e - 1) (-149)) (by omega) (by omega)
    obtain ⟨g1, g2⟩ := h1 hr
    unfold sgn at e1
    split at e1
    · exact ⟨by omega, fun e => by omega⟩
    · split at e1
      · omega
      · exact ⟨by omega, fun _ => g2 (by omega)⟩
  · have e1 := hc (min (e - 1) (-149)) (by omega) (by omega)
    obtain ⟨g1, g2⟩ := h2 hr
    rw [Int.sub_add_cancel] at e1
    unfold sgn at e1
    split at e1
    · omega
    · split at e1
      · exact ⟨by omega, fun e => by omega⟩
      · exact ⟨by omega, fun _ => g2 (by omega)⟩
theorem ndouble_1 {A e s c : Int} (h : ∀ B, B ≤ e → B ≤ (-149) → c = sgn (2 * sc A e B) (um 8388608 (-149) B s + um 8388608 (-149) B (s + 1))) : ∀ B, B ≤ e - 1 → B ≤ (-149) → c = sgn (2 * sc (2 * A + 0) (e - 1) B) (um 8388608 (-149) B s + um 8388608 (-149) B (s + 1)) := by
  intro B h1 h2
  have e1 := sc_up (N := A) (E := e - 1) (B := B) (k := 1) h1
  rw [show e - 1 + ((1 : Nat) : Int) = e by omega, show A * p2 1 = 2 * A + 0 by rw [show p2 1 = 2 from rfl]; omega] at e1
  rw [← e1]
  exact h B (by omega) h2

set_option maxRecDepth 20000 in
set_option maxHeartbeats 8000000 in
theorem inear_1 {w : World} (L : Lays w) (T : Brn w) (v : Int) (v0 : 0 ≤ v) (v1 : v < 256) (hv : v % 4 = 1) {va : Value} {xs : List Int} (ha : Reads .u32 w va xs) (oa : Nt.Ok xs) (la : xs.length ≤ 70368744177664) (p : Int) (p0 : -32768 ≤ p) (p1 : p < 32768) (more : Bool) :
    Calls Tryd.prog 7 #[.int .u8 v, va, .int .i16 p, .bool more] w fun x w' => x = .returned (.bool true) ∧ Below w.heap.size w w' := by
  obtain ⟨ao, ca, rfl, ha1, ha2, ha3⟩ := ha
  have h_r : Reads .u32 w (.slice ao xs.length ca) xs := ⟨ao, ca, rfl, ha1, ha2, ha3⟩
  clear ha1 ha2 ha3
  have K := Below.refl w.heap.size w
  go_enter Tryd.func7, Tryd.ntmps7
  go_wp2_with fail
  with_reducible refine (lives_ok L T).mono ?_
  rintro x' u80 ⟨rfl, K⟩
  by_cases big : (60 : Int) < (xs.length : Int)
  · go_wp2
    go_ret
    exact ⟨rfl, K⟩
  have hlx : xs.length ≤ 60 := by omega
  have h_a : Arg _ (.slice ao xs.length ca) (Nt.val xs) 60 := ⟨xs, h_r.below K, oa, rfl, hlx⟩
  have A0 := h_a.nonneg
  clear h_r
  generalize Nt.val xs = A at *
  obtain ⟨e, he⟩ : ∃ e, p.tmod 2000 = e := ⟨_, rfl⟩
  have eb0 : -2000 ≤ e ∧ e ≤ 2000 := by
    subst he
    have h1 := Int.tmod_lt_of_pos p (b := 2000) (by decide)
    have h2 := Int.lt_tmod_of_pos p (b := 2000) (by decide)
    omega
  obtain ⟨eb1, eb2⟩ := eb0
  go_wp2_with fail
  with_reducible refine (lround_1 (L.below K) v v0 v1 hv (e := e) (more := more) h_a (by decide) (by omega) (by omega)).mono ?_
  rintro x' u81 ⟨r1, rfl, N1, kb⟩
  replace K := below_trans K kb; replace h_a := h_a.below kb; clear kb
  rw [show r1 + b2i false * 2147483648 = r1 by rw [show b2i false = 0 from rfl]; omega]
  have r10 := N1.1
  have r1I := N1.2.1
  have NM := hide (nmath_1 N1)
  clear N1
  cases more
  · skip
    go_wp2_with fail
    with_reducible refine (ltop_1 _ v v0 v1 hv).mono ?_
    rintro x' u82 ⟨rfl, rfl⟩
    go_wp2_with fail
    with_reducible refine (ltop_1 _ v v0 v1 hv).mono ?_
    rintro x' u83 ⟨rfl, rfl⟩
    by_cases rt : r1 < 2139095040
    · go_wp2_with fail
      with_reducible refine (middle_1 (L.below K) (T.below K) v v0 v1 hv r1 r10 rt h_a (by decide) (by omega) (by omega)).mono ?_
      rintro x' u84 ⟨c1, rfl, hc1, kb⟩
      replace h_a := h_a.below kb; replace K := below_trans K kb; clear kb
      obtain ⟨d0, d1⟩ := NM.out.1 c1 rt (ndouble_1 hc1)
      have Hd := hide d1
      clear hc1 d1
      by_cases y : c1 = 0
      · have ev := Hd.out y
        have y' : (c1 == 0) = true := by simp [y]
        have y2 : ¬ 0 < c1 := by omega
        have od : (r1 % 2 == 1) = false := by simp [ev]
        clear y
        by_cases rp : 0 < r1
        · go_wp2_with fail
          with_reducible refine (middle_1 (L.below K) (T.below K) v v0 v1 hv (r1 - 1) (by omega) (by omega) h_a (by decide) (by omega) (by omega)).mono ?_
          rintro x' u85 ⟨c2, rfl, hc2, kb⟩
          replace K := below_trans K kb; clear kb
          obtain ⟨d0, d1⟩ := NM.out.2 c2 rp (ndouble_1 hc2)
          have Hd := hide d1
          clear hc2 d1
          by_cases z : c2 = 0
          · have ev := Hd.out z
            have z' : (c2 == 0) = true := by simp [z]
            have z2 : ¬ 0 < c2 := by omega
            have ev' : (r1 % 2 == 0) = true := by simp [ev]
            clear z
            go_wp2
            go_ret
            exact ⟨rfl, K⟩
          · have z2 : 0 < c2 := by omega
            clear z
            go_wp2
            go_ret
            exact ⟨rfl, K⟩
        · first
            | (exfalso; omega)
            | (go_wp2; go_ret; exact ⟨rfl, K⟩)
      · have y' : (c1 == 0) = false := by simp [y]
        have y2 : ¬ 0 < c1 := by omega
        clear y
        by_cases rp : 0 < r1
        · go_wp2_with fail
          with_reducible refine (middle_1 (L.below K) (T.below K) v v0 v1 hv (r1 - 1) (by omega) (by omega) h_a (by decide) (by omega) (by omega)).mono ?_
          rintro x' u86 ⟨c2, rfl, hc2, kb⟩
          replace K := below_trans K kb; clear kb
          obtain ⟨d0, d1⟩ := NM.out.2 c2 rp (ndouble_1 hc2)
          have Hd := hide d1
          clear hc2 d1
          by_cases z : c2 = 0
          · have ev := Hd.out z
            have z' : (c2 == 0) = true := by simp [z]
            have z2 : ¬ 0 < c2 := by omega
            have ev' : (r1 % 2 == 0) = true := by simp [ev]
            clear z
            go_wp2
            go_ret
            exact ⟨rfl, K⟩
          · have z2 : 0 < c2 := by omega
            clear z
            go_wp2
            go_ret
            exact ⟨rfl, K⟩
        · first
            | (exfalso; omega)
            | (go_wp2; go_ret; exact ⟨rfl, K⟩)
    · skip
      by_cases rp : 0 < r1
      · go_wp2_with fail
        with_reducible refine (middle_1 (L.below K) (T.below K) v v0 v1 hv (r1 - 1) (by omega) (by omega) h_a (by decide) (by omega) (by omega)).mono ?_
        rintro x' u87 ⟨c2, rfl, hc2, kb⟩
        replace K := below_trans K kb; clear kb
        obtain ⟨d0, d1⟩ := NM.out.2 c2 rp (ndouble_1 hc2)
        have Hd := hide d1
        clear hc2 d1
        by_cases z : c2 = 0
        · have ev := Hd.out z
          have z' : (c2 == 0) = true := by simp [z]
          have z2 : ¬ 0 < c2 := by omega
          have ev' : (r1 % 2 == 0) = true := by simp [ev]
          clear z
          go_wp2
          go_ret
          exact ⟨rfl, K⟩
        · have z2 : 0 < c2 := by omega
          clear z
          go_wp2
          go_ret
          exact ⟨rfl, K⟩
      · first
          | (exfalso; omega)
          | (go_wp2; go_ret; exact ⟨rfl, K⟩)
  · skip
    go_wp2_with fail
    with_reducible refine (add_any h_a h_a (by decide) (by decide)).mono ?_
    rintro x' u88 ⟨q1, rfl, h_b, kb⟩
    replace K := below_trans K kb; replace h_a := h_a.below kb; clear kb
    go_wp2_with fail
    with_reducible refine (from_any 1 (by decide) (by decide)).mono ?_
    rintro x' u89 ⟨q2, rfl, h_c, kb⟩
    replace K := below_trans K kb; replace h_b := h_b.below kb; clear kb
    go_wp2_with fail
    with_reducible refine (add_any h_b.arg h_c.arg (by decide) (by decide)).mono ?_
    rintro x' u90 ⟨q3, rfl, h_d, kb⟩
    replace K := below_trans K kb; clear kb
    replace h_a := h_d.arg
    rw [show A + A + 1 = 2 * A + b2i true by rw [show b2i true = 1 from rfl]; omega] at h_a
    clear h_b h_c h_d
    go_wp2_with fail
    with_reducible refine (ltop_1 _ v v0 v1 hv).mono ?_
    rintro x' u91 ⟨rfl, rfl⟩
    go_wp2_with fail
    with_reducible refine (ltop_1 _ v v0 v1 hv).mono ?_
    rintro x' u92 ⟨rfl, rfl⟩
    by_cases rt : r1 < 2139095040
    · go_wp2_with fail
      with_reducible refine (middle_1 (L.below K) (T.below K) v v0 v1 hv r1 r10 rt h_a (by decide) (by omega) (by omega)).mono ?_
      rintro x' u93 ⟨c1, rfl, hc1, kb⟩
      replace h_a := h_a.below kb; replace K := below_trans K kb; clear kb
      obtain ⟨d0, d1⟩ := NM.out.1 c1 rt (hc1)
      have Hd := hide d1
      clear hc1 d1
      by_cases y : c1 = 0
      · have ev := Hd.out y
        have y' : (c1 == 0) = true := by simp [y]
        have y2 : ¬ 0 < c1 := by omega
        have od : (r1 % 2 == 1) = false := by simp [ev]
        clear y
        by_cases rp : 0 < r1
        · go_wp2_with fail
          with_reducible refine (middle_1 (L.below K) (T.below K) v v0 v1 hv (r1 - 1) (by omega) (by omega) h_a (by decide) (by omega) (by omega)).mono ?_
          rintro x' u94 ⟨c2, rfl, hc2, kb⟩
          replace K := below_trans K kb; clear kb
          obtain ⟨d0, d1⟩ := NM.out.2 c2 rp (hc2)
          have Hd := hide d1
          clear hc2 d1
          by_cases z : c2 = 0
          · have ev := Hd.out z
            have z' : (c2 == 0) = true := by simp [z]
            have z2 : ¬ 0 < c2 := by omega
            have ev' : (r1 % 2 == 0) = true := by simp [ev]
            clear z
            go_wp2
            go_ret
            exact ⟨rfl, K⟩
          · have z2 : 0 < c2 := by omega
            clear z
            go_wp2
            go_ret
            exact ⟨rfl, K⟩
        · first
            | (exfalso; omega)
            | (go_wp2; go_ret; exact ⟨rfl, K⟩)
      · have y' : (c1 == 0) = false := by simp [y]
        have y2 : ¬ 0 < c1 := by omega
        clear y
        by_cases rp : 0 < r1
        · go_wp2_with fail
          with_reducible refine (middle_1 (L.below K) (T.below K) v v0 v1 hv (r1 - 1) (by omega) (by omega) h_a (by decide) (by omega) (by omega)).mono ?_
          rintro x' u95 ⟨c2, rfl, hc2, kb⟩
          replace K := below_trans K kb; clear kb
          obtain ⟨d0, d1⟩ := NM.out.2 c2 rp (hc2)
          have Hd := hide d1
          clear hc2 d1
          by_cases z : c2 = 0
          · have ev := Hd.out z
            have z' : (c2 == 0) = true := by simp [z]
            have z2 : ¬ 0 < c2 := by omega
            have ev' : (r1 % 2 == 0) = true := by simp [ev]
            clear z
            go_wp2
            go_ret
            exact ⟨rfl, K⟩
          · have z2 : 0 < c2 := by omega
            clear z
            go_wp2
            go_ret
            exact ⟨rfl, K⟩
        · first
            | (exfalso; omega)
            | (go_wp2; go_ret; exact ⟨rfl, K⟩)
    · skip
      by_cases rp : 0 < r1
      · go_wp2_with fail
        with_reducible refine (middle_1 (L.below K) (T.below K) v v0 v1 hv (r1 - 1) (by omega) (by omega) h_a (by decide) (by omega) (by omega)).mono ?_
        rintro x' u96 ⟨c2, rfl, hc2, kb⟩
        replace K := below_trans K kb; clear kb
        obtain ⟨d0, d1⟩ := NM.out.2 c2 rp (hc2)
        have Hd := hide d1
        clear hc2 d1
        by_cases z : c2 = 0
        · have ev := Hd.out z
          have z' : (c2 == 0) = true := by simp [z]
          have z2 : ¬ 0 < c2 := by omega
          have ev' : (r1 % 2 == 0) = true := by simp [ev]
          clear z
          go_wp2
          go_ret
          exact ⟨rfl, K⟩
        · have z2 : 0 < c2 := by omega
          clear z
          go_wp2
          go_ret
          exact ⟨rfl, K⟩
      · first
          | (exfalso; omega)
          | (go_wp2; go_ret; exact ⟨rfl, K⟩)

set_option maxHeartbeats 2000000 in
theorem lparts_2 {w : World} (L : Lays w) (T : Brn w) (v : Int) (v0 : 0 ≤ v) (v1 : v < 256) (hv : v % 4 = 2) (x s : Int) (ng : Bool) (h0 : 0 ≤ x) (h1 : x < 18446744073709551616) (hs : x % 9223372036854775808 = s) (hng : ng = decide (9223372036854775808 ≤ x)) : Calls Tryd.prog 24 #[.int .u8 v, .int .u64 x] w fun e w' => ∃ a m E ok, e = .returned (.tuple #[.bool a, .int .u64 m, .int .i64 E, .bool ok]) ∧ PartIs 4503599627370496 (-1074) 9218868437227405312 s ng a m E ok ∧ Below w.heap.size w w' := by
  go_enter Tryd.func24, Tryd.ntmps24
  go_wp2_with fail
  with_reducible refine (parts_64 L T x s ng h0 h1 hs hng).mono ?_
  rintro x' w1 ⟨a, m, E, ok, rfl, hP, K⟩
  have HP := hide hP
  clear hP
  go_wp2
  (try simp only [Exit.inBlock, Exit.then])
  exact bodyPost_ret (v := .tuple #[.bool a, .int .u64 m, .int .i64 E, .bool ok]) (by simp [results, Tryd.results24, go_sem]) rfl ⟨_, _, _, _, rfl, HP.out, K⟩
theorem part_num_2 {s m E : Int} {a ok : Bool} (s0 : 0 ≤ s) (s1 : s < 9218868437227405312) (h : PartIs 4503599627370496 (-1074) 9218868437227405312 s false a m E ok) : IsNum 4503599627370496 (-1074) s m E ∧ m < 9223372036854775808 := by
  obtain ⟨_, h2⟩ := h
  obtain ⟨_, _, p, q⟩ := h2 s1
  rcases Int.lt_or_eq_of_le s0 with c | c
  · obtain ⟨o, n, n64, hm, hE⟩ := q c
    obtain ⟨m0, m1⟩ := mst_range (F := 4503599627370496) (s := s) (S := 9223372036854775808) (by decide) c (by decide) (by omega)
    have hp := p2_pos n
    have e0 := est_ge (F := 4503599627370496) (L := (-1074)) (s := s) (by decide)
    have e1 : est 4503599627370496 (-1074) s ≤ 2047 := by unfold est; split <;> omega
    have mp : 0 < m := by
      rcases Int.lt_or_le 0 m with g | g
      · exact g
      · have : m * p2 n ≤ 0 := Int.mul_nonpos_of_nonpos_of_nonneg g (by omega)
        omega
    refine ⟨⟨by omega, by omega, by omega, fun B hB => ?_⟩, ?_⟩
    · unfold um
      rw [hE, sc_up (by omega), ← hm]
    · have : m * 1 ≤ m * p2 n := Int.mul_le_mul_of_nonneg_left (by omega) (by omega)
      omega
  · subst c
    obtain ⟨rfl, rfl⟩ := p rfl
    refine ⟨⟨by omega, by decide, by decide, fun B hB => ?_⟩, by decide⟩
    unfold um sc mst
    rw [if_pos (by decide), Int.zero_mul, Int.zero_mul]
theorem top_num_2 {m E : Int} {a ok : Bool} (h : PartIs 4503599627370496 (-1074) 9218868437227405312 9218868437227405311 false a m E ok) : IsNum 4503599627370496 (-1074) 9218868437227405312 (m + 1) E ∧ m = 9007199254740991 := by
  obtain ⟨rfl, rfl, rfl, rfl⟩ := h.unique (by decide) ⟨fun h => by omega, fun _ => ⟨rfl, rfl, fun h => by omega, fun _ => ⟨(by decide : (9007199254740991 : Int) % 2 = 1), 0, by decide, by decide, rfl⟩⟩⟩
  refine ⟨⟨by decide, by decide, by decide, fun B hB => ?_⟩, rfl⟩
  have h1 := um_succ (F := 4503599627370496) (L := (-1074)) (B := B) (s := 9218868437227405311) (by decide) (by decide) hB
  rw [show (9218868437227405311 + 1 : Int) = 9218868437227405312 by decide] at h1
  rw [h1]
  unfold um sc
  rw [show mst 4503599627370496 9218868437227405311 = 9007199254740991 by decide, show ((0 : Nat) : Int) = 0 from rfl, Int.add_zero, Int.add_mul, Int.one_mul]
set_option maxHeartbeats 4000000 in
theorem number_2 {w : World} (L : Lays w) (T : Brn w) (v : Int) (v0 : 0 ≤ v) (v1 : v < 256) (hv : v % 4 = 2) (s : Int) (s0 : 0 ≤ s) (s1 : s ≤ 9218868437227405312) : Calls Tryd.prog 74 #[.int .u8 v, .int .u64 s] w fun x w' => ∃ va m E, x = .returned (.tuple #[va, .int .i64 E]) ∧ Num w.heap.size w' va m 2 ∧ IsNum 4503599627370496 (-1074) s m E ∧ Below w.heap.size w w' := by
  go_enter Tryd.func74, Tryd.ntmps74
  go_wp2_with fail
  with_reducible refine (ltop_2 _ v v0 v1 hv).mono ?_
  rintro x' u97 ⟨rfl, rfl⟩
  by_cases c : s = 9218868437227405312
  · have c' : (s == 9218868437227405312) = true := by simp [c]
    subst c
    go_wp2_with fail
    with_reducible refine (lparts_2 L T v v0 v1 hv 9218868437227405311 9218868437227405311 false (by decide) (by decide) (by decide) (by decide)).mono ?_
    rintro x w1 ⟨a, m, E, ok, rfl, hP, K⟩
    obtain ⟨hN, hm⟩ := top_num_2 hP
    have HN := hide hN
    have HP := hide hP
    clear hP hN
    have m0 : 0 ≤ m := by omega
    have m1 : m < 9223372036854775808 := by omega
    clear hm
    go_wp2_with fail
    with_reducible refine (from_any (m + 1) (by omega) (by omega)).mono ?_
    rintro x w2 ⟨vn, rfl, h2, kb⟩
    have H2 := hide (num_low' h2 K.size)
    clear h2
    go_wp2
    go_ret2
    exact ⟨vn, _, _, rfl, H2.out, HN.out, below_trans K kb⟩
  · have c' : (s == 9218868437227405312) = false := by simp [c]
    go_wp2_with fail
    with_reducible refine (lparts_2 L T v v0 v1 hv s s false s0 (by omega) (by omega) (by rw [decide_eq_false]; omega)).mono ?_
    rintro x w1 ⟨a, m, E, ok, rfl, hP, K⟩
    obtain ⟨hN, hm⟩ := part_num_2 s0 (by omega) hP
    have HN := hide hN
    have HP := hide hP
    have m0 := hN.1
    clear hP hN
    go_wp2_with fail
    with_reducible refine (from_any m m0 (by omega)).mono ?_
    rintro x w2 ⟨vn, rfl, h2, kb⟩
    have H2 := hide (num_low' h2 K.size)
    clear h2 hm
    go_wp2
    go_ret2
    exact ⟨vn, _, _, rfl, H2.out, HN.out, below_trans K kb⟩
set_option maxHeartbeats 4000000 in
theorem middle_2 {w : World} (L : Lays w) (T : Brn w) (v : Int) (v0 : 0 ≤ v) (v1 : v < 256) (hv : v % 4 = 2) (s : Int) (s0 : 0 ≤ s) (s1 : s < 9218868437227405312) {va : Value} {A e : Int} {ka : Nat} (ha : Arg w va A ka) (hka : ka ≤ 1000) (e0 : -5000 ≤ e) (e1 : e ≤ 5000) :
    Calls Tryd.prog 30 #[.int .u8 v, .int .u64 s, va, .int .i64 e] w fun x w' => ∃ c, x = .returned (.int .i64 c) ∧ (∀ B, B ≤ e → B ≤ (-1074) → c = sgn (2 * sc A e B) (um 4503599627370496 (-1074) B s + um 4503599627370496 (-1074) B (s + 1))) ∧ Below w.heap.size w w' := by
  go_enter Tryd.func30, Tryd.ntmps30
  go_wp2_with fail
  with_reducible refine (number_2 L T v v0 v1 hv s s0 (by omega)).mono ?_
  rintro x' u98 ⟨q1, a, f, rfl, h1, n1, K⟩
  have ha1 := ha.below K
  go_wp2_with fail
  with_reducible refine (number_2 (L.below K) (T.below K) v v0 v1 hv (s + 1) (by omega) (by omega)).mono ?_
  rintro x' u99 ⟨q2, b, g, rfl, h2, n2, kb⟩
  replace h1 := h1.below kb; replace ha1 := ha1.below kb; replace K := below_trans K kb; clear kb
  have HM := hide (mid_sgn (A := A) (e := e) (by decide) n1 n2)
  obtain ⟨-, f0, f1, -⟩ := n1
  obtain ⟨-, g0, g1, -⟩ := n2
  obtain ⟨l, hl⟩ : ∃ l, min f g = l := ⟨_, rfl⟩
  have hmin : (if g < f then g else f) = l := by split <;> omega
  rw [hl] at HM
  have d0 : 0 ≤ f - l := by omega
  have d1 : 0 ≤ g - l := by omega
  have l0 : (-1074) ≤ l := by omega
  have l1 : l ≤ 5000 := by omega
  clear hl
  go_wp2_with fail
  with_reducible refine (scaled_int h1.arg (by omega) d0 (by omega)).mono ?_
  rintro x' u100 ⟨q3, rfl, h3, kb⟩
  replace h2 := h2.below kb; replace ha1 := ha1.below kb; replace K := below_trans K kb; clear kb
  go_wp2_with fail
  with_reducible refine (scaled_int h2.arg (by omega) d1 (by omega)).mono ?_
  rintro x' u101 ⟨q4, rfl, h4, kb⟩
  replace h3 := h3.below kb; replace ha1 := ha1.below kb; replace K := below_trans K kb; clear kb
  go_wp2_with fail
  with_reducible refine (add_any h3.arg h4.arg (by omega) (by omega)).mono ?_
  rintro x' u102 ⟨q5, rfl, h5, kb⟩
  replace ha1 := ha1.below kb; replace K := below_trans K kb; clear kb
  go_wp2_with fail
  with_reducible refine (against_any ha1 h5.arg (by omega) (by omega) (by omega) (by omega) (by omega) (by omega)).mono ?_
  rintro x' u103 ⟨rfl, kb⟩
  replace K := below_trans K kb; clear kb
  generalize hc : sgn _ _ = c at *
  have HC := hide hc
  clear hc
  go_wp2
  go_ret
  exact ⟨c, rfl, fun B h1 h2 => by first | exact HM.out B h1 h2 | exact HC.out.symm.trans (HM.out B h1 h2), K⟩

theorem nmath_2 {A e r mb : Int} (hN : Near 4503599627370496 (-1074) 9218868437227405312 (2 * A + mb) (e - 1) r) : 
    (∀ c, r < 9218868437227405312 → (∀ B, B ≤ e - 1 → B ≤ (-1074) → c = sgn (2 * sc (2 * A + mb) (e - 1) B) (um 4503599627370496 (-1074) B r + um 4503599627370496 (-1074) B (r + 1))) → c ≤ 0 ∧ (c = 0 → r % 2 = 0)) ∧
    (∀ c, 0 < r → (∀ B, B ≤ e - 1 → B ≤ (-1074) → c = sgn (2 * sc (2 * A + mb) (e - 1) B) (um 4503599627370496 (-1074) B (r - 1) + um 4503599627370496 (-1074) B (r - 1 + 1))) → 0 ≤ c ∧ (c = 0 → r % 2 = 0)) := by
  obtain ⟨_, _, h⟩ := hN
  obtain ⟨h1, h2⟩ := h (min (e - 1) (-1074)) (by omega) (by omega)
  refine ⟨fun c hr hc => ?_, fun c hr hc => ?_⟩
  · have e1 := hc (min (e - 1) (-1074)) (by omega) (by omega)
    obtain ⟨g1, g2⟩ := h1 hr
    unfold sgn at e1
    split at e1
    · exact ⟨by omega, fun e => by omega⟩
    · split at e1
      · omega
      · exact ⟨by omega, fun _ => g2 (by omega)⟩
  · have e1 := hc (min (e - 1) (-1074)) (by omega) (by omega)
    obtain ⟨g1, g2⟩ := h2 hr
    rw [Int.sub_add_cancel] at e1
    unfold sgn at e1
    split at e1
    · omega
    · split at e1
      · exact ⟨by omega, fun e => by omega⟩
      · exact ⟨by omega, fun _ => g2 (by omega)⟩
theorem ndouble_2 {A e s c : Int} (h : ∀ B, B ≤ e → B ≤ (-1074) → c = sgn (2 * sc A e B) (um 4503599627370496 (-1074) B s + um 4503599627370496 (-1074) B (s + 1))) : ∀ B, B ≤ e - 1 → B ≤ (-1074) → c = sgn (2 * sc (2 * A + 0) (e - 1) B) (um 4503599627370496 (-1074) B s + um 4503599627370496 (-1074) B (s + 1)) := by
  intro B h1 h2
  have e1 := sc_up (N := A) (E := e - 1) (B := B) (k := 1) h1
  rw [show e - 1 + ((1 : Nat) : Int) = e by omega, show A * p2 1 = 2 * A + 0 by rw [show p2 1 = 2 from rfl]; omega] at e1
  rw [← e1]
  exact h B (by omega) h2

set_option maxRecDepth 20000 in
set_option maxHeartbeats 8000000 in
theorem inear_2 {w : World} (L : Lays w) (T : Brn w) (v : Int) (v0 : 0 ≤ v) (v1 : v < 256) (hv : v % 4 = 2) {va : Value} {xs : List Int} (ha : Reads .u32 w va xs) (oa : Nt.Ok xs) (la : xs.length ≤ 70368744177664) (p : Int) (p0 : -32768 ≤ p) (p1 : p < 32768) (more : Bool) :
    Calls Tryd.prog 7 #[.int .u8 v, va, .int .i16 p, .bool more] w fun x w' => x = .returned (.bool true) ∧ Below w.heap.size w w' := by
  obtain ⟨ao, ca, rfl, ha1, ha2, ha3⟩ := ha
  have h_r : Reads .u32 w (.slice ao xs.length ca) xs := ⟨ao, ca, rfl, ha1, ha2, ha3⟩
  clear ha1 ha2 ha3
  have K := Below.refl w.heap.size w
  go_enter Tryd.func7, Tryd.ntmps7
  go_wp2_with fail
  with_reducible refine (lives_ok L T).mono ?_
  rintro x' u104 ⟨rfl, K⟩
  by_cases big : (60 : Int) < (xs.length : Int)
  · go_wp2
    go_ret
    exact ⟨rfl, K⟩
  have hlx : xs.length ≤ 60 := by omega
  have h_a : Arg _ (.slice ao xs.length ca) (Nt.val xs) 60 := ⟨xs, h_r.below K, oa, rfl, hlx⟩
  have A0 := h_a.nonneg
  clear h_r
  generalize Nt.val xs = A at *
  obtain ⟨e, he⟩ : ∃ e, p.tmod 2000 = e := ⟨_, rfl⟩
  have eb0 : -2000 ≤ e ∧ e ≤ 2000 := by
    subst he
    have h1 := Int.tmod_lt_of_pos p (b := 2000) (by decide)
    have h2 := Int.lt_tmod_of_pos p (b := 2000) (by decide)
    omega
  obtain ⟨eb1, eb2⟩ := eb0
  go_wp2_with fail
  with_reducible refine (lround_2 (L.below K) v v0 v1 hv (e := e) (more := more) h_a (by decide) (by omega) (by omega)).mono ?_
  rintro x' u105 ⟨r1, rfl, N1, kb⟩
  replace K := below_trans K kb; replace h_a := h_a.below kb; clear kb
  rw [show r1 + b2i false * 9223372036854775808 = r1 by rw [show b2i false = 0 from rfl]; omega]
  have r10 := N1.1
  have r1I := N1.2.1
  have NM := hide (nmath_2 N1)
  clear N1
  cases more
  · skip
    go_wp2_with fail
    with_reducible refine (ltop_2 _ v v0 v1 hv).mono ?_
    rintro x' u106 ⟨rfl, rfl⟩
    go_wp2_with fail
    with_reducible refine (ltop_2 _ v v0 v1 hv).mono ?_
    rintro x' u107 ⟨rfl, rfl⟩
    by_cases rt : r1 < 9218868437227405312
    · go_wp2_with fail
      with_reducible refine (middle_2 (L.below K) (T.below K) v v0 v1 hv r1 r10 rt h_a (by decide) (by omega) (by omega)).mono ?_
      rintro x' u108 ⟨c1, rfl, hc1, kb⟩
      replace h_a := h_a.below kb; replace K := below_trans K kb; clear kb
      obtain ⟨d0, d1⟩ := NM.out.1 c1 rt (ndouble_2 hc1)
      have Hd := hide d1
      clear hc1 d1
      by_cases y : c1 = 0
      · have ev := Hd.out y
        have y' : (c1 == 0) = true := by simp [y]
        have y2 : ¬ 0 < c1 := by omega
        have od : (r1 % 2 == 1) = false := by simp [ev]
        clear y
        by_cases rp : 0 < r1
        · go_wp2_with fail
          with_reducible refine (middle_2 (L.below K) (T.below K) v v0 v1 hv (r1 - 1) (by omega) (by omega) h_a (by decide) (by omega) (by omega)).mono ?_
          rintro x' u109 ⟨c2, rfl, hc2, kb⟩
          replace K := below_trans K kb; clear kb
          obtain ⟨d0, d1⟩ := NM.out.2 c2 rp (ndouble_2 hc2)
          have Hd := hide d1
          clear hc2 d1
          by_cases z : c2 = 0
          · have ev := Hd.out z
            have z' : (c2 == 0) = true := by simp [z]
            have z2 : ¬ 0 < c2 := by omega
            have ev' : (r1 % 2 == 0) = true := by simp [ev]
            clear z
            go_wp2
            go_ret
            exact ⟨rfl, K⟩
          · have z2 : 0 < c2 := by omega
            clear z
            go_wp2
            go_ret
            exact ⟨rfl, K⟩
        · first
            | (exfalso; omega)
            | (go_wp2; go_ret; exact ⟨rfl, K⟩)
      · have y' : (c1 == 0) = false := by simp [y]
        have y2 : ¬ 0 < c1 := by omega
        clear y
        by_cases rp : 0 < r1
        · go_wp2_with fail
          with_reducible refine (middle_2 (L.below K) (T.below K) v v0 v1 hv (r1 - 1) (by omega) (by omega) h_a (by decide) (by omega) (by omega)).mono ?_
          rintro x' u110 ⟨c2, rfl, hc2, kb⟩
          replace K := below_trans K kb; clear kb
          obtain ⟨d0, d1⟩ := NM.out.2 c2 rp (ndouble_2 hc2)
          have Hd := hide d1
          clear hc2 d1
          by_cases z : c2 = 0
          · have ev := Hd.out z
            have z' : (c2 == 0) = true := by simp [z]
            have z2 : ¬ 0 < c2 := by omega
            have ev' : (r1 % 2 == 0) = true := by simp [ev]
            clear z
            go_wp2
            go_ret
            exact ⟨rfl, K⟩
          · have z2 : 0 < c2 := by omega
            clear z
            go_wp2
            go_ret
            exact ⟨rfl, K⟩
        · first
            | (exfalso; omega)
            | (go_wp2; go_ret; exact ⟨rfl, K⟩)
    · skip
      by_cases rp : 0 < r1
      · go_wp2_with fail
        with_reducible refine (middle_2 (L.below K) (T.below K) v v0 v1 hv (r1 - 1) (by omega) (by omega) h_a (by decide) (by omega) (by omega)).mono ?_
        rintro x' u111 ⟨c2, rfl, hc2, kb⟩
        replace K := below_trans K kb; clear kb
        obtain ⟨d0, d1⟩ := NM.out.2 c2 rp (ndouble_2 hc2)
        have Hd := hide d1
        clear hc2 d1
        by_cases z : c2 = 0
        · have ev := Hd.out z
          have z' : (c2 == 0) = true := by simp [z]
          have z2 : ¬ 0 < c2 := by omega
          have ev' : (r1 % 2 == 0) = true := by simp [ev]
          clear z
          go_wp2
          go_ret
          exact ⟨rfl, K⟩
        · have z2 : 0 < c2 := by omega
          clear z
          go_wp2
          go_ret
          exact ⟨rfl, K⟩
      · first
          | (exfalso; omega)
          | (go_wp2; go_ret; exact ⟨rfl, K⟩)
  · skip
    go_wp2_with fail
    with_reducible refine (add_any h_a h_a (by decide) (by decide)).mono ?_
    rintro x' u112 ⟨q1, rfl, h_b, kb⟩
    replace K := below_trans K kb; replace h_a := h_a.below kb; clear kb
    go_wp2_with fail
    with_reducible refine (from_any 1 (by decide) (by decide)).mono ?_
    rintro x' u113 ⟨q2, rfl, h_c, kb⟩
    replace K := below_trans K kb; replace h_b := h_b.below kb; clear kb
    go_wp2_with fail
    with_reducible refine (add_any h_b.arg h_c.arg (by decide) (by decide)).mono ?_
    rintro x' u114 ⟨q3, rfl, h_d, kb⟩
    replace K := below_trans K kb; clear kb
    replace h_a := h_d.arg
    rw [show A + A + 1 = 2 * A + b2i true by rw [show b2i true = 1 from rfl]; omega] at h_a
    clear h_b h_c h_d
    go_wp2_with fail
    with_reducible refine (ltop_2 _ v v0 v1 hv).mono ?_
    rintro x' u115 ⟨rfl, rfl⟩
    go_wp2_with fail
    with_reducible refine (ltop_2 _ v v0 v1 hv).mono ?_
    rintro x' u116 ⟨rfl, rfl⟩
    by_cases rt : r1 < 9218868437227405312
    · go_wp2_with fail
      with_reducible refine (middle_2 (L.below K) (T.below K) v v0 v1 hv r1 r10 rt h_a (by decide) (by omega) (by omega)).mono ?_
      rintro x' u117 ⟨c1, rfl, hc1, kb⟩
      replace h_a := h_a.below kb; replace K := below_trans K kb; clear kb
      obtain ⟨d0, d1⟩ := NM.out.1 c1 rt (hc1)
      have Hd := hide d1
      clear hc1 d1
      by_cases y : c1 = 0
      · have ev := Hd.out y
        have y' : (c1 == 0) = true := by simp [y]
        have y2 : ¬ 0 < c1 := by omega
        have od : (r1 % 2 == 1) = false := by simp [ev]
        clear y
        by_cases rp : 0 < r1
        · go_wp2_with fail
          with_reducible refine (middle_2 (L.below K) (T.below K) v v0 v1 hv (r1 - 1) (by omega) (by omega) h_a (by decide) (by omega) (by omega)).mono ?_
          rintro x' u118 ⟨c2, rfl, hc2, kb⟩
          replace K := below_trans K kb; clear kb
          obtain ⟨d0, d1⟩ := NM.out.2 c2 rp (hc2)
          have Hd := hide d1
          clear hc2 d1
          by_cases z : c2 = 0
          · have ev := Hd.out z
            have z' : (c2 == 0) = true := by simp [z]
            have z2 : ¬ 0 < c2 := by omega
            have ev' : (r1 % 2 == 0) = true := by simp [ev]
            clear z
            go_wp2
            go_ret
            exact ⟨rfl, K⟩
          · have z2 : 0 < c2 := by omega
            clear z
            go_wp2
            go_ret
            exact ⟨rfl, K⟩
        · first
            | (exfalso; omega)
            | (go_wp2; go_ret; exact ⟨rfl, K⟩)
      · have y' : (c1 == 0) = false := by simp [y]
        have y2 : ¬ 0 < c1 := by omega
        clear y
        by_cases rp : 0 < r1
        · go_wp2_with fail
          with_reducible refine (middle_2 (L.below K) (T.below K) v v0 v1 hv (r1 - 1) (by omega) (by omega) h_a (by decide) (by omega) (by omega)).mono ?_
          rintro x' u119 ⟨c2, rfl, hc2, kb⟩
          replace K := below_trans K kb; clear kb
          obtain ⟨d0, d1⟩ := NM.out.2 c2 rp (hc2)
          have Hd := hide d1
          clear hc2 d1
          by_cases z : c2 = 0
          · have ev := Hd.out z
            have z' : (c2 == 0) = true := by simp [z]
            have z2 : ¬ 0 < c2 := by omega
            have ev' : (r1 % 2 == 0) = true := by simp [ev]
            clear z
            go_wp2
            go_ret
            exact ⟨rfl, K⟩
          · have z2 : 0 < c2 := by omega
            clear z
            go_wp2
            go_ret
            exact ⟨rfl, K⟩
        · first
            | (exfalso; omega)
            | (go_wp2; go_ret; exact ⟨rfl, K⟩)
    · skip
      by_cases rp : 0 < r1
      · go_wp2_with fail
        with_reducible refine (middle_2 (L.below K) (T.below K) v v0 v1 hv (r1 - 1) (by omega) (by omega) h_a (by decide) (by omega) (by omega)).mono ?_
        rintro x' u120 ⟨c2, rfl, hc2, kb⟩
        replace K := below_trans K kb; clear kb
        obtain ⟨d0, d1⟩ := NM.out.2 c2 rp (hc2)
        have Hd := hide d1
        clear hc2 d1
        by_cases z : c2 = 0
        · have ev := Hd.out z
          have z' : (c2 == 0) = true := by simp [z]
          have z2 : ¬ 0 < c2 := by omega
          have ev' : (r1 % 2 == 0) = true := by simp [ev]
          clear z
          go_wp2
          go_ret
          exact ⟨rfl, K⟩
        · have z2 : 0 < c2 := by omega
          clear z
          go_wp2
          go_ret
          exact ⟨rfl, K⟩
      · first
          | (exfalso; omega)
          | (go_wp2; go_ret; exact ⟨rfl, K⟩)

set_option maxHeartbeats 2000000 in
theorem lparts_3 {w : World} (L : Lays w) (T : Brn w) (v : Int) (v0 : 0 ≤ v) (v1 : v < 256) (hv : v % 4 = 3) (x s : Int) (ng : Bool) (h0 : 0 ≤ x) (h1 : x < 4294967296) (hs : x % 2147483648 = s) (hng : ng = decide (2147483648 ≤ x)) : Calls Tryd.prog 24 #[.int .u8 v, .int .u64 x] w fun e w' => ∃ a m E ok, e = .returned (.tuple #[.bool a, .int .u64 m, .int .i64 E, .bool ok]) ∧ PartIs 8388608 (-149) 2139095040 s ng a m E ok ∧ Below w.heap.size w w' := by
  go_enter Tryd.func24, Tryd.ntmps24
  go_wp2_with fail
  with_reducible refine (parts_m L T x s ng h0 h1 hs hng).mono ?_
  rintro x' w1 ⟨a, m, E, ok, rfl, hP, K⟩
  have HP := hide hP
  clear hP
  go_wp2
  (try simp only [Exit.inBlock, Exit.then])
  exact bodyPost_ret (v := .tuple #[.bool a, .int .u64 m, .int .i64 E, .bool ok]) (by simp [results, Tryd.results24, go_sem]) rfl ⟨_, _, _, _, rfl, HP.out, K⟩
theorem part_num_3 {s m E : Int} {a ok : Bool} (s0 : 0 ≤ s) (s1 : s < 2139095040) (h : PartIs 8388608 (-149) 2139095040 s false a m E ok) : IsNum 8388608 (-149) s m E ∧ m < 2147483648 := by
  obtain ⟨_, h2⟩ := h
  obtain ⟨_, _, p, q⟩ := h2 s1
  rcases Int.lt_or_eq_of_le s0 with c | c
  · obtain ⟨o, n, n64, hm, hE⟩ := q c
    obtain ⟨m0, m1⟩ := mst_range (F := 8388608) (s := s) (S := 2147483648) (by decide) c (by decide) (by omega)
    have hp := p2_pos n
    have e0 := est_ge (F := 8388608) (L := (-149)) (s := s) (by decide)
    have e1 : est 8388608 (-149) s ≤ 2047 := by unfold est; split <;> omega
    have mp : 0 < m := by
      rcases Int.lt_or_le 0 m with g | g
      · exact g
      · have : m * p2 n ≤ 0 := Int.mul_nonpos_of_nonpos_of_nonneg g (by omega)
        omega
    refine ⟨⟨by omega, by omega, by omega, fun B hB => ?_⟩, ?_⟩
    · unfold um
      rw [hE, sc_up (by omega), ← hm]
    · have : m * 1 ≤ m * p2 n := Int.mul_le_mul_of_nonneg_left (by omega) (by omega)
      omega
  · subst c
    obtain ⟨rfl, rfl⟩ := p rfl
    refine ⟨⟨by omega, by decide, by decide, fun B hB => ?_⟩, by decide⟩
    unfold um sc mst
    rw [if_pos (by decide), Int.zero_mul, Int.zero_mul]
theorem top_num_3 {m E : Int} {a ok : Bool} (h : PartIs 8388608 (-149) 2139095040 2139095039 false a m E ok) : IsNum 8388608 (-149) 2139095040 (m + 1) E ∧ m = 16777215 := by
  obtain ⟨rfl, rfl, rfl, rfl⟩ := h.unique (by decide) ⟨fun h => by omega, fun _ => ⟨rfl, rfl, fun h => by omega, fun _ => ⟨(by decide : (16777215 : Int) % 2 = 1), 0, by decide, by decide, rfl⟩⟩⟩
  refine ⟨⟨by decide, by decide, by decide, fun B hB => ?_⟩, rfl⟩
  have h1 := um_succ (F := 8388608) (L := (-149)) (B := B) (s := 2139095039) (by decide) (by decide) hB
  rw [show (2139095039 + 1 : Int) = 2139095040 by decide] at h1
  rw [h1]
  unfold um sc
  rw [show mst 8388608 2139095039 = 16777215 by decide, show ((0 : Nat) : Int) = 0 from rfl, Int.add_zero, Int.add_mul, Int.one_mul]
set_option maxHeartbeats 4000000 in
theorem number_3 {w : World} (L : Lays w) (T : Brn w) (v : Int) (v0 : 0 ≤ v) (v1 : v < 256) (hv : v % 4 = 3) (s : Int) (s0 : 0 ≤ s) (s1 : s ≤ 2139095040) : Calls Tryd.prog 74 #[.int .u8 v, .int .u64 s] w fun x w' => ∃ va m E, x = .returned (.tuple #[va, .int .i64 E]) ∧ Num w.heap.size w' va m 2 ∧ IsNum 8388608 (-149) s m E ∧ Below w.heap.size w w' := by
  go_enter Tryd.func74, Tryd.ntmps74
  go_wp2_with fail
  with_reducible refine (ltop_3 _ v v0 v1 hv).mono ?_
  rintro x' u121 ⟨rfl, rfl⟩
  by_cases c : s = 2139095040
  · have c' : (s == 2139095040) = true := by simp [c]
    subst c
    go_wp2_with fail
    with_reducible refine (lparts_3 L T v v0 v1 hv 2139095039 2139095039 false (by decide) (by decide) (by decide) (by decide)).mono ?_
    rintro x w1 ⟨a, m, E, ok, rfl, hP, K⟩
    obtain ⟨hN, hm⟩ := top_num_3 hP
    have HN := hide hN
    have HP := hide hP
    clear hP hN
    have m0 : 0 ≤ m := by omega
    have m1 : m < 9223372036854775808 := by omega
    clear hm
    go_wp2_with fail
    with_reducible refine (from_any (m + 1) (by omega) (by omega)).mono ?_
    rintro x w2 ⟨vn, rfl, h2, kb⟩
    have H2 := hide (num_low' h2 K.size)
    clear h2
    go_wp2
    go_ret2
    exact ⟨vn, _, _, rfl, H2.out, HN.out, below_trans K kb⟩
  · have c' : (s == 2139095040) = false := by simp [c]
    go_wp2_with fail
    with_reducible refine (lparts_3 L T v v0 v1 hv s s false s0 (by omega) (by omega) (by rw [decide_eq_false]; omega)).mono ?_
    rintro x w1 ⟨a, m, E, ok, rfl, hP, K⟩
    obtain ⟨hN, hm⟩ := part_num_3 s0 (by omega) hP
    have HN := hide hN
    have HP := hide hP
    have m0 := hN.1
    clear hP hN
    go_wp2_with fail
    with_reducible refine (from_any m m0 (by omega)).mono ?_
    rintro x w2 ⟨vn, rfl, h2, kb⟩
    have H2 := hide (num_low' h2 K.size)
    clear h2 hm
    go_wp2
    go_ret2
    exact ⟨vn, _, _, rfl, H2.out, HN.out, below_trans K kb⟩
set_option maxHeartbeats 4000000 in
theorem middle_3 {w : World} (L : Lays w) (T : Brn w) (v : Int) (v0 : 0 ≤ v) (v1 : v < 256) (hv : v % 4 = 3) (s : Int) (s0 : 0 ≤ s) (s1 : s < 2139095040) {va : Value} {A e : Int} {ka : Nat} (ha : Arg w va A ka) (hka : ka ≤ 1000) (e0 : -5000 ≤ e) (e1 : e ≤ 5000) :
    Calls Tryd.prog 30 #[.int .u8 v, .int .u64 s, va, .int .i64 e] w fun x w' => ∃ c, x = .returned (.int .i64 c) ∧ (∀ B, B ≤ e → B ≤ (-149) → c = sgn (2 * sc A e B) (um 8388608 (-149) B s + um 8388608 (-149) B (s + 1))) ∧ Below w.heap.size w w' := by
  go_enter Tryd.func30, Tryd.ntmps30
  go_wp2_with fail
  with_reducible refine (number_3 L T v v0 v1 hv s s0 (by omega)).mono ?_
  rintro x' u122 ⟨q1, a, f, rfl, h1, n1, K⟩
  have ha1 := ha.below K
  go_wp2_with fail
  with_reducible refine (number_3 (L.below K) (T.below K) v v0 v1 hv (s + 1) (by omega) (by omega)).mono ?_
  rintro x' u123 ⟨q2, b, g, rfl, h2, n2, kb⟩
  replace h1 := h1.below kb; replace ha1 := ha1.below kb; replace K := below_trans K kb; clear kb
  have HM := hide (mid_sgn (A := A) (e := e) (by decide) n1 n2)
  obtain ⟨-, f0, f1, -⟩ := n1
  obtain ⟨-, g0, g1, -⟩ := n2
  obtain ⟨l, hl⟩ : ∃ l, min f g = l := ⟨_, rfl⟩
  have hmin : (if g < f then g else f) = l := by split <;> omega
  rw [hl] at HM
  have d0 : 0 ≤ f - l := by omega
  have d1 : 0 ≤ g - l := by omega
  have l0 : (-149) ≤ l := by omega
  have l1 : l ≤ 5000 := by omega
  clear hl
  go_wp2_with fail
  with_reducible refine (scaled_int h1.arg (by omega) d0 (by omega)).mono ?_
  rintro x' u124 ⟨q3, rfl, h3, kb⟩
  replace h2 := h2.below kb; replace ha1 := ha1.below kb; replace K := below_trans K kb; clear kb
  go_wp2_with fail
  with_reducible refine (scaled_int h2.arg (by omega) d1 (by omega)).mono ?_
  rintro x' u125 ⟨q4, rfl, h4, kb⟩
  replace h3 := h3.below kb; replace ha1 := ha1.below kb; replace K := below_trans K kb; clear kb
  go_wp2_with fail
  with_reducible refine (add_any h3.arg h4.arg (by omega) (by omega)).mono ?_
  rintro x' u126 ⟨q5, rfl, h5, kb⟩
  replace ha1 := ha1.below kb; replace K := below_trans K kb; clear kb
  go_wp2_with fail
  with_reducible refine (against_any ha1 h5.arg (by omega) (by omega) (by omega) (by omega) (by omega) (by omega)).mono ?_
  rintro x' u127 ⟨rfl, kb⟩
  replace K := below_trans K kb; clear kb
  generalize hc : sgn _ _ = c at *
  have HC := hide hc
  clear hc
  go_wp2
  go_ret
  exact ⟨c, rfl, fun B h1 h2 => by first | exact HM.out B h1 h2 | exact HC.out.symm.trans (HM.out B h1 h2), K⟩

theorem nmath_3 {A e r mb : Int} (hN : Near 8388608 (-149) 2139095040 (2 * A + mb) (e - 1) r) : 
    (∀ c, r < 2139095040 → (∀ B, B ≤ e - 1 → B ≤ (-149) → c = sgn (2 * sc (2 * A + mb) (e - 1) B) (um 8388608 (-149) B r + um 8388608 (-149) B (r + 1))) → c ≤ 0 ∧ (c = 0 → r % 2 = 0)) ∧
    (∀ c, 0 < r → (∀ B, B ≤ e - 1 → B ≤ (-149) → c = sgn (2 * sc (2 * A + mb) (e - 1) B) (um 8388608 (-149) B (r - 1) + um 8388608 (-149) B (r - 1 + 1))) → 0 ≤ c ∧ (c = 0 → r % 2 = 0)) := by
  obtain ⟨_, _, h⟩ := hN
  obtain ⟨h1, h2⟩ := h (min (e - 1) (-149)) (by omega) (by omega)
  refine ⟨fun c hr hc => ?_, fun c hr hc => ?_⟩
  · have e1 := hc (min (e - 1) (-149)) (by omega) (by omega)
    obtain ⟨g1, g2⟩ := h1 hr
    unfold sgn at e1
    split at e1
    · exact ⟨by omega, fun e => by omega⟩
    · split at e1
      · omega
      · exact ⟨by omega, fun _ => g2 (by omega)⟩
  · have e1 := hc (min (e - 1) (-149)) (by omega) (by omega)
    obtain ⟨g1, g2⟩ := h2 hr
    rw [Int.sub_add_cancel] at e1
    unfold sgn at e1
    split at e1
    · omega
    · split at e1
      · exact ⟨by omega, fun e => by omega⟩
      · exact ⟨by omega, fun _ => g2 (by omega)⟩
theorem ndouble_3 {A e s c : Int} (h : ∀ B, B ≤ e → B ≤ (-149) → c = sgn (2 * sc A e B) (um 8388608 (-149) B s + um 8388608 (-149) B (s + 1))) : ∀ B, B ≤ e - 1 → B ≤ (-149) → c = sgn (2 * sc (2 * A + 0) (e - 1) B) (um 8388608 (-149) B s + um 8388608 (-149) B (s + 1)) := by
  intro B h1 h2
  have e1 := sc_up (N := A) (E := e - 1) (B := B) (k := 1) h1
  rw [show e - 1 + ((1 : Nat) : Int) = e by omega, show A * p2 1 = 2 * A + 0 by rw [show p2 1 = 2 from rfl]; omega] at e1
  rw [← e1]
  exact h B (by omega) h2

set_option maxRecDepth 20000 in
set_option maxHeartbeats 8000000 in
theorem inear_3 {w : World} (L : Lays w) (T : Brn w) (v : Int) (v0 : 0 ≤ v) (v1 : v < 256) (hv : v % 4 = 3) {va : Value} {xs : List Int} (ha : Reads .u32 w va xs) (oa : Nt.Ok xs) (la : xs.length ≤ 70368744177664) (p : Int) (p0 : -32768 ≤ p) (p1 : p < 32768) (more : Bool) :
    Calls Tryd.prog 7 #[.int .u8 v, va, .int .i16 p, .bool more] w fun x w' => x = .returned (.bool true) ∧ Below w.heap.size w w' := by
  obtain ⟨ao, ca, rfl, ha1, ha2, ha3⟩ := ha
  have h_r : Reads .u32 w (.slice ao xs.length ca) xs := ⟨ao, ca, rfl, ha1, ha2, ha3⟩
  clear ha1 ha2 ha3
  have K := Below.refl w.heap.size w
  go_enter Tryd.func7, Tryd.ntmps7
  go_wp2_with fail
  with_reducible refine (lives_ok L T).mono ?_
  rintro x' u128 ⟨rfl, K⟩
  by_cases big : (60 : Int) < (xs.length : Int)
  · go_wp2
    go_ret
    exact ⟨rfl, K⟩
  have hlx : xs.length ≤ 60 := by omega
  have h_a : Arg _ (.slice ao xs.length ca) (Nt.val xs) 60 := ⟨xs, h_r.below K, oa, rfl, hlx⟩
  have A0 := h_a.nonneg
  clear h_r
  generalize Nt.val xs = A at *
  obtain ⟨e, he⟩ : ∃ e, p.tmod 2000 = e := ⟨_, rfl⟩
  have eb0 : -2000 ≤ e ∧ e ≤ 2000 := by
    subst he
    have h1 := Int.tmod_lt_of_pos p (b := 2000) (by decide)
    have h2 := Int.lt_tmod_of_pos p (b := 2000) (by decide)
    omega
  obtain ⟨eb1, eb2⟩ := eb0
  go_wp2_with fail
  with_reducible refine (lround_3 (L.below K) v v0 v1 hv (e := e) (more := more) h_a (by decide) (by omega) (by omega)).mono ?_
  rintro x' u129 ⟨r1, rfl, N1, kb⟩
  replace K := below_trans K kb; replace h_a := h_a.below kb; clear kb
  rw [show r1 + b2i false * 2147483648 = r1 by rw [show b2i false = 0 from rfl]; omega]
  have r10 := N1.1
  have r1I := N1.2.1
  have NM := hide (nmath_3 N1)
  clear N1
  cases more
  · skip
    go_wp2_with fail
    with_reducible refine (ltop_3 _ v v0 v1 hv).mono ?_
    rintro x' u130 ⟨rfl, rfl⟩
    go_wp2_with fail
    with_reducible refine (ltop_3 _ v v0 v1 hv).mono ?_
    rintro x' u131 ⟨rfl, rfl⟩
    by_cases rt : r1 < 2139095040
    · go_wp2_with fail
      with_reducible refine (middle_3 (L.below K) (T.below K) v v0 v1 hv r1 r10 rt h_a (by decide) (by omega) (by omega)).mono ?_
      rintro x' u132 ⟨c1, rfl, hc1, kb⟩
      replace h_a := h_a.below kb; replace K := below_trans K kb; clear kb
      obtain ⟨d0, d1⟩ := NM.out.1 c1 rt (ndouble_3 hc1)
      have Hd := hide d1
      clear hc1 d1
      by_cases y : c1 = 0
      · have ev := Hd.out y
        have y' : (c1 == 0) = true := by simp [y]
        have y2 : ¬ 0 < c1 := by omega
        have od : (r1 % 2 == 1) = false := by simp [ev]
        clear y
        by_cases rp : 0 < r1
        · go_wp2_with fail
          with_reducible refine (middle_3 (L.below K) (T.below K) v v0 v1 hv (r1 - 1) (by omega) (by omega) h_a (by decide) (by omega) (by omega)).mono ?_
          rintro x' u133 ⟨c2, rfl, hc2, kb⟩
          replace K := below_trans K kb; clear kb
          obtain ⟨d0, d1⟩ := NM.out.2 c2 rp (ndouble_3 hc2)
          have Hd := hide d1
          clear hc2 d1
          by_cases z : c2 = 0
          · have ev := Hd.out z
            have z' : (c2 == 0) = true := by simp [z]
            have z2 : ¬ 0 < c2 := by omega
            have ev' : (r1 % 2 == 0) = true := by simp [ev]
            clear z
            go_wp2
            go_ret
            exact ⟨rfl, K⟩
          · have z2 : 0 < c2 := by omega
            clear z
            go_wp2
            go_ret
            exact ⟨rfl, K⟩
        · first
            | (exfalso; omega)
            | (go_wp2; go_ret; exact ⟨rfl, K⟩)
      · have y' : (c1 == 0) = false := by simp [y]
        have y2 : ¬ 0 < c1 := by omega
        clear y
        by_cases rp : 0 < r1
        · go_wp2_with fail
          with_reducible refine (middle_3 (L.below K) (T.below K) v v0 v1 hv (r1 - 1) (by omega) (by omega) h_a (by decide) (by omega) (by omega)).mono ?_
          rintro x' u134 ⟨c2, rfl, hc2, kb⟩
          replace K := below_trans K kb; clear kb
          obtain ⟨d0, d1⟩ := NM.out.2 c2 rp (ndouble_3 hc2)
          have Hd := hide d1
          clear hc2 d1
          by_cases z : c2 = 0
          · have ev := Hd.out z
            have z' : (c2 == 0) = true := by simp [z]
            have z2 : ¬ 0 < c2 := by omega
            have ev' : (r1 % 2 == 0) = true := by simp [ev]
            clear z
            go_wp2
            go_ret
            exact ⟨rfl, K⟩
          · have z2 : 0 < c2 := by omega
            clear z
            go_wp2
            go_ret
            exact ⟨rfl, K⟩
        · first
            | (exfalso; omega)
            | (go_wp2; go_ret; exact ⟨rfl, K⟩)
    · skip
      by_cases rp : 0 < r1
      · go_wp2_with fail
        with_reducible refine (middle_3 (L.below K) (T.below K) v v0 v1 hv (r1 - 1) (by omega) (by omega) h_a (by decide) (by omega) (by omega)).mono ?_
        rintro x' u135 ⟨c2, rfl, hc2, kb⟩
        replace K := below_trans K kb; clear kb
        obtain ⟨d0, d1⟩ := NM.out.2 c2 rp (ndouble_3 hc2)
        have Hd := hide d1
        clear hc2 d1
        by_cases z : c2 = 0
        · have ev := Hd.out z
          have z' : (c2 == 0) = true := by simp [z]
          have z2 : ¬ 0 < c2 := by omega
          have ev' : (r1 % 2 == 0) = true := by simp [ev]
          clear z
          go_wp2
          go_ret
          exact ⟨rfl, K⟩
        · have z2 : 0 < c2 := by omega
          clear z
          go_wp2
          go_ret
          exact ⟨rfl, K⟩
      · first
          | (exfalso; omega)
          | (go_wp2; go_ret; exact ⟨rfl, K⟩)
  · skip
    go_wp2_with fail
    with_reducible refine (add_any h_a h_a (by decide) (by decide)).mono ?_
    rintro x' u136 ⟨q1, rfl, h_b, kb⟩
    replace K := below_trans K kb; replace h_a := h_a.below kb; clear kb
    go_wp2_with fail
    with_reducible refine (from_any 1 (by decide) (by decide)).mono ?_
    rintro x' u137 ⟨q2, rfl, h_c, kb⟩
    replace K := below_trans K kb; replace h_b := h_b.below kb; clear kb
    go_wp2_with fail
    with_reducible refine (add_any h_b.arg h_c.arg (by decide) (by decide)).mono ?_
    rintro x' u138 ⟨q3, rfl, h_d, kb⟩
    replace K := below_trans K kb; clear kb
    replace h_a := h_d.arg
    rw [show A + A + 1 = 2 * A + b2i true by rw [show b2i true = 1 from rfl]; omega] at h_a
    clear h_b h_c h_d
    go_wp2_with fail
    with_reducible refine (ltop_3 _ v v0 v1 hv).mono ?_
    rintro x' u139 ⟨rfl, rfl⟩
    go_wp2_with fail
    with_reducible refine (ltop_3 _ v v0 v1 hv).mono ?_
    rintro x' u140 ⟨rfl, rfl⟩
    by_cases rt : r1 < 2139095040
    · go_wp2_with fail
      with_reducible refine (middle_3 (L.below K) (T.below K) v v0 v1 hv r1 r10 rt h_a (by decide) (by omega) (by omega)).mono ?_
      rintro x' u141 ⟨c1, rfl, hc1, kb⟩
      replace h_a := h_a.below kb; replace K := below_trans K kb; clear kb
      obtain ⟨d0, d1⟩ := NM.out.1 c1 rt (hc1)
      have Hd := hide d1
      clear hc1 d1
      by_cases y : c1 = 0
      · have ev := Hd.out y
        have y' : (c1 == 0) = true := by simp [y]
        have y2 : ¬ 0 < c1 := by omega
        have od : (r1 % 2 == 1) = false := by simp [ev]
        clear y
        by_cases rp : 0 < r1
        · go_wp2_with fail
          with_reducible refine (middle_3 (L.below K) (T.below K) v v0 v1 hv (r1 - 1) (by omega) (by omega) h_a (by decide) (by omega) (by omega)).mono ?_
          rintro x' u142 ⟨c2, rfl, hc2, kb⟩
          replace K := below_trans K kb; clear kb
          obtain ⟨d0, d1⟩ := NM.out.2 c2 rp (hc2)
          have Hd := hide d1
          clear hc2 d1
          by_cases z : c2 = 0
          · have ev := Hd.out z
            have z' : (c2 == 0) = true := by simp [z]
            have z2 : ¬ 0 < c2 := by omega
            have ev' : (r1 % 2 == 0) = true := by simp [ev]
            clear z
            go_wp2
            go_ret
            exact ⟨rfl, K⟩
          · have z2 : 0 < c2 := by omega
            clear z
            go_wp2
            go_ret
            exact ⟨rfl, K⟩
        · first
            | (exfalso; omega)
            | (go_wp2; go_ret; exact ⟨rfl, K⟩)
      · have y' : (c1 == 0) = false := by simp [y]
        have y2 : ¬ 0 < c1 := by omega
        clear y
        by_cases rp : 0 < r1
        · go_wp2_with fail
          with_reducible refine (middle_3 (L.below K) (T.below K) v v0 v1 hv (r1 - 1) (by omega) (by omega) h_a (by decide) (by omega) (by omega)).mono ?_
          rintro x' u143 ⟨c2, rfl, hc2, kb⟩
          replace K := below_trans K kb; clear kb
          obtain ⟨d0, d1⟩ := NM.out.2 c2 rp (hc2)
          have Hd := hide d1
          clear hc2 d1
          by_cases z : c2 = 0
          · have ev := Hd.out z
            have z' : (c2 == 0) = true := by simp [z]
            have z2 : ¬ 0 < c2 := by omega
            have ev' : (r1 % 2 == 0) = true := by simp [ev]
            clear z
            go_wp2
            go_ret
            exact ⟨rfl, K⟩
          · have z2 : 0 < c2 := by omega
            clear z
            go_wp2
            go_ret
            exact ⟨rfl, K⟩
        · first
            | (exfalso; omega)
            | (go_wp2; go_ret; exact ⟨rfl, K⟩)
    · skip
      by_cases rp : 0 < r1
      · go_wp2_with fail
        with_reducible refine (middle_3 (L.below K) (T.below K) v v0 v1 hv (r1 - 1) (by omega) (by omega) h_a (by decide) (by omega) (by omega)).mono ?_
        rintro x' u144 ⟨c2, rfl, hc2, kb⟩
        replace K := below_trans K kb; clear kb
        obtain ⟨d0, d1⟩ := NM.out.2 c2 rp (hc2)
        have Hd := hide d1
        clear hc2 d1
        by_cases z : c2 = 0
        · have ev := Hd.out z
          have z' : (c2 == 0) = true := by simp [z]
          have z2 : ¬ 0 < c2 := by omega
          have ev' : (r1 % 2 == 0) = true := by simp [ev]
          clear z
          go_wp2
          go_ret
          exact ⟨rfl, K⟩
        · have z2 : 0 < c2 := by omega
          clear z
          go_wp2
          go_ret
          exact ⟨rfl, K⟩
      · first
          | (exfalso; omega)
          | (go_wp2; go_ret; exact ⟨rfl, K⟩)

theorem inear_walk {w : World} (h : Lays w ∧ Brn w) (v : Int) (v0 : 0 ≤ v) (v1 : v < 256) {va : Value} {xs : List Int} (ha : Reads .u32 w va xs) (oa : Nt.Ok xs) (la : xs.length ≤ 70368744177664) (p : Int) (p0 : -32768 ≤ p) (p1 : p < 32768) (more : Bool) :
    Calls Tryd.prog 7 #[.int .u8 v, va, .int .i16 p, .bool more] w fun x w' => x = .returned (.bool true) ∧ Below w.heap.size w w' := by
  rcases (by omega : v % 4 = 0 ∨ v % 4 = 1 ∨ v % 4 = 2 ∨ v % 4 = 3) with k | k | k | k
  · exact inear_0 h.1 h.2 v v0 v1 k ha oa la p p0 p1 more
  · exact inear_1 h.1 h.2 v v0 v1 k ha oa la p p0 p1 more
  · exact inear_2 h.1 h.2 v v0 v1 k ha oa la p p0 p1 more
  · exact inear_3 h.1 h.2 v v0 v1 k ha oa la p p0 p1 more

end Go.Proofs.YtmmkdihhcmcjjaaDoor
